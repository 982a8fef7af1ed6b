/- handles: tables' calls leave all other blocks alone. -/
import Derived.Test.YtglhfofofacekaaHeB
set_option linter.unusedVariables false
set_option linter.unusedSimpArgs false
namespace Go.Proofs.Ytglhfofofacekaa
open Go.RowKit

/-- Tables that lie in blocks of F, in which each block is that is not yet there. -/
structure StF (F : Nat → Prop) (a : Nat) (w : World) (S : Tb) (N : Nat) : Prop where
  at' : TbAt F a w S
  ok : TbOk N S
  new : ∀ k, w.heap.size ≤ k → F k
  few : N ≤ 100000
theorem StF.of {F : Nat → Prop} {a N N' : Nat} {w w' : World} {S S' : Tb} (h : StF F a w S N) (ht : TbAt F a w' S') (hk : Kept F w w') (ho : TbOk N' S') (hN : N' ≤ 100000) : StF F a w' S' N' ∧ Kept F w w' :=
  ⟨⟨ht, ho, fun k h1 => h.new k (Nat.le_trans hk.size h1), hN⟩, hk⟩
theorem StF.below {F : Nat → Prop} {a N : Nat} {w w' : World} {S : Tb} (h : StF F a w S N) (hb : Below w.heap.size w w') : StF F a w' S N ∧ Kept F w w' := by
  obtain ⟨H, h1⟩ := h.at'
  exact ⟨⟨⟨H, h1.below hb⟩, h.ok, fun k h1 => h.new k (Nat.le_trans hb.size h1), h.few⟩, Kept.of_below hb⟩
theorem orNewF {F : Nat → Prop} {n k : Nat} (hn : ∀ k, n ≤ k → F k) (h : orNew F n k) : F k := h.elim id (hn k)
theorem StF.more {F : Nat → Prop} {a N M : Nat} {w : World} {S : Tb} (h : StF F a w S N) (hN : N ≤ M) (hM : M ≤ 100000) : StF F a w S M := ⟨h.at', h.ok.mono hN, h.new, hM⟩
theorem StF.make {F : Nat → Prop} {a N : Nat} {w : World} {S : Tb} (h : StF F a w S N) (i r rep : Int) : Calls Try.prog 21 #[.pointer (some ⟨a, 0, none⟩), .int .i64 i, .int .i64 r, .int .i64 rep] w fun e w' => e = .returned (.tuple #[.int .i64 (makeS S i r rep).1, .int .i64 (makeS S i r rep).2.1]) ∧ StF F a w' (makeS S i r rep).2.2 N ∧ Kept F w w' := by
  obtain ⟨H, h1⟩ := h.at'
  refine (h1.make h.ok i r rep).mono ?_
  rintro e w' ⟨rfl, h2, h3⟩
  exact ⟨rfl, h.of ⟨H, h2⟩ h3 (h.ok.make i r rep) h.few⟩
theorem StF.rep {F : Nat → Prop} {a N : Nat} {w : World} {S : Tb} (h : StF F a w S N) (i r hh : Int) (hw : wf64 hh) : Calls Try.prog 27 #[.pointer (some ⟨a, 0, none⟩), .int .i64 i, .int .i64 r, .int .i64 hh] w fun e w' => e = .returned (.tuple #[.int .i64 (repS S i r hh).1, .int .i64 (repS S i r hh).2]) ∧ StF F a w' S N ∧ Kept F w w' := by
  obtain ⟨H, h1⟩ := h.at'
  refine (h1.repr h.ok i r hh hw).mono ?_
  rintro e w' ⟨rfl, h2⟩
  exact ⟨rfl, h.below h2⟩
theorem StF.drop {F : Nat → Prop} {a N : Nat} {w : World} {S : Tb} (h : StF F a w S N) (i r hh : Int) (hw : wf64 hh) : Calls Try.prog 25 #[.pointer (some ⟨a, 0, none⟩), .int .i64 i, .int .i64 r, .int .i64 hh] w fun e w' => e = .returned (.tuple #[.int .i64 (dropS S i r hh).1, .bool (dropS S i r hh).2.1, .int .i64 (dropS S i r hh).2.2.1]) ∧ StF F a w' (dropS S i r hh).2.2.2 N ∧ Kept F w w' := by
  obtain ⟨H, h1⟩ := h.at'
  refine (h1.drop i r hh hw).mono ?_
  rintro e w' ⟨rfl, h2, h3⟩
  exact ⟨rfl, h.of ⟨H, h2⟩ h3 (h.ok.drop i r hh) h.few⟩
theorem StF.take {F : Nat → Prop} {a N : Nat} {w : World} {S : Tb} (h : StF F a w S N) (i r hh : Int) (hw : wf64 hh) : Calls Try.prog 28 #[.pointer (some ⟨a, 0, none⟩), .int .i64 i, .int .i64 r, .int .i64 hh] w fun e w' => e = .returned (.tuple #[.int .i64 (takeS S i r hh).1, .int .i64 (takeS S i r hh).2.1]) ∧ StF F a w' (takeS S i r hh).2.2 N ∧ Kept F w w' := by
  obtain ⟨H, h1⟩ := h.at'
  refine (h1.take i r hh hw).mono ?_
  rintro e w' ⟨rfl, h2, h3⟩
  exact ⟨rfl, h.of ⟨H, h2⟩ h3 (h.ok.take i r hh) h.few⟩
theorem StF.put {F : Nat → Prop} {a N : Nat} {w : World} {S : Tb} (h : StF F a w S N) (i r rep : Int) : Calls Try.prog 29 #[.pointer (some ⟨a, 0, none⟩), .int .i64 i, .int .i64 r, .int .i64 rep] w fun e w' => e = .returned (.tuple #[.int .i64 (putS S i r rep).1, .int .i64 (putS S i r rep).2.1]) ∧ StF F a w' (putS S i r rep).2.2 N ∧ Kept F w w' := by
  obtain ⟨H, h1⟩ := h.at'
  refine (h1.put h.ok i r rep).mono ?_
  rintro e w' ⟨rfl, h2, h3⟩
  exact ⟨rfl, h.of ⟨H, h2⟩ h3 (h.ok.put i r rep) h.few⟩
theorem StF.lend {F : Nat → Prop} {a N : Nat} {w : World} {S : Tb} (h : StF F a w S N) (hN : N < 100000) (i r hh : Int) (hw : wf64 hh) : Calls Try.prog 23 #[.pointer (some ⟨a, 0, none⟩), .int .i64 i, .int .i64 r, .int .i64 hh] w fun e w' => e = .returned (.tuple #[.int .i64 (lendS S i r hh).1, .int .i64 (lendS S i r hh).2.1]) ∧ StF F a w' (lendS S i r hh).2.2 (N + 1) ∧ Kept F w w' := by
  obtain ⟨H, h1⟩ := h.at'
  refine (h1.lend h.ok h.few i r hh hw).mono ?_
  rintro e w' ⟨rfl, h2, h3⟩
  exact ⟨rfl, h.of ⟨H, h2⟩ h3 (h.ok.lend i r hh) (by omega)⟩
theorem StF.borrow {F : Nat → Prop} {a N : Nat} {w : World} {S : Tb} (h : StF F a w S N) (i r rep : Int) : Calls Try.prog 24 #[.pointer (some ⟨a, 0, none⟩), .int .i64 i, .int .i64 r, .int .i64 rep] w fun e w' => e = .returned (.tuple #[.int .i64 (borrowS S i r rep).1, .int .i64 (borrowS S i r rep).2.1]) ∧ StF F a w' (borrowS S i r rep).2.2 N ∧ Kept F w w' := by
  obtain ⟨H, h1⟩ := h.at'
  refine (h1.borrow h.ok i r rep).mono ?_
  rintro e w' ⟨rfl, h2, h3⟩
  exact ⟨rfl, h.of ⟨H, h2⟩ h3 (h.ok.borrow i r rep) h.few⟩
theorem StF.enter {F : Nat → Prop} {a N : Nat} {w : World} {S : Tb} (h : StF F a w S N) (i : Int) : Calls Try.prog 22 #[.pointer (some ⟨a, 0, none⟩), .int .i64 i] w fun e w' => e = .returned (.int .i64 (enterS S i).1) ∧ StF F a w' (enterS S i).2 N ∧ Kept F w w' := by
  obtain ⟨H, h1⟩ := h.at'
  refine (h1.enter h.ok i).mono ?_
  rintro e w' ⟨rfl, h2, h3⟩
  exact ⟨rfl, h.of (h2.mono (fun b hb => orNewF h.new hb)) h3 (h.ok.enter i) h.few⟩
theorem StF.leave {F : Nat → Prop} {a N : Nat} {w : World} {S : Tb} (h : StF F a w S N) : Calls Try.prog 26 #[.pointer (some ⟨a, 0, none⟩)] w fun e w' => e = .returned (.int .i64 (leaveS S).1) ∧ StF F a w' (leaveS S).2 N ∧ Kept F w w' := by
  obtain ⟨H, h1⟩ := h.at'
  refine (h1.leave h.ok h.few).mono ?_
  rintro e w' ⟨rfl, h2, h3⟩
  exact ⟨rfl, h.of h2 h3 h.ok.leave h.few⟩
set_option maxRecDepth 100000 in
set_option maxHeartbeats 4000000 in
theorem does0F {F : Nat → Prop} {a N : Nat} {w : World} {S : Tb} (h : StF F a w S N) (i r hh : Int) (near : Bool) : Calls Try.prog 11 #[.pointer (some ⟨a, 0, none⟩), .agg #[.int .i64 0, .int .i64 i, .int .i64 r, .int .i64 hh, .bool near]] w fun e w' => e = .returned (.tuple #[.int .i64 (makeS S i r hh).1, .int .i64 (makeS S i r hh).2.1, .bool false]) ∧ StF F a w' (makeS S i r hh).2.2 N ∧ Kept F w w' := by
  have h1 := h.below ((Below.refl _ w).alloc (Nat.le_refl _) (.cells #[.int .i64 0, .int .i64 i, .int .i64 r, .int .i64 hh, .bool near] 34))
  have HC := h1.1.make i r hh
  have HB := Lib.hid h1.2
  generalize makeS S i r hh = m at HC ⊢
  clear h h1
  go_enter Try.func11, Try.ntmps11
  go_wp2_with (go_at_call 21; refine HC.mono ?_; rintro e w1 ⟨rfl, hs, hb⟩)
  go_ret3
  exact ⟨rfl, hs, HB.out.trans hb⟩
set_option maxRecDepth 100000 in
set_option maxHeartbeats 4000000 in
theorem does1F {F : Nat → Prop} {a N : Nat} {w : World} {S : Tb} (h : StF F a w S N) (i r hh : Int) (near : Bool) (hw : wf64 hh) : Calls Try.prog 11 #[.pointer (some ⟨a, 0, none⟩), .agg #[.int .i64 1, .int .i64 i, .int .i64 r, .int .i64 hh, .bool near]] w fun e w' => e = .returned (.tuple #[.int .i64 (repS S i r hh).1, .int .i64 (repS S i r hh).2, .bool false]) ∧ StF F a w' S N ∧ Kept F w w' := by
  have h1 := h.below ((Below.refl _ w).alloc (Nat.le_refl _) (.cells #[.int .i64 1, .int .i64 i, .int .i64 r, .int .i64 hh, .bool near] 34))
  have HC := h1.1.rep i r hh hw
  have HB := Lib.hid h1.2
  generalize repS S i r hh = m at HC ⊢
  clear h h1
  go_enter Try.func11, Try.ntmps11
  go_wp2_with (go_at_call 27; refine HC.mono ?_; rintro e w1 ⟨rfl, hs, hb⟩)
  go_ret3
  exact ⟨rfl, hs, HB.out.trans hb⟩
set_option maxRecDepth 100000 in
set_option maxHeartbeats 4000000 in
theorem does2F {F : Nat → Prop} {a N : Nat} {w : World} {S : Tb} (h : StF F a w S N) (i r hh : Int) (near : Bool) (hw : wf64 hh) : Calls Try.prog 11 #[.pointer (some ⟨a, 0, none⟩), .agg #[.int .i64 2, .int .i64 i, .int .i64 r, .int .i64 hh, .bool near]] w fun e w' => e = .returned (.tuple #[.int .i64 (dropS S i r hh).1, .int .i64 (dropS S i r hh).2.2.1, .bool (dropS S i r hh).2.1]) ∧ StF F a w' (dropS S i r hh).2.2.2 N ∧ Kept F w w' := by
  have h1 := h.below ((Below.refl _ w).alloc (Nat.le_refl _) (.cells #[.int .i64 2, .int .i64 i, .int .i64 r, .int .i64 hh, .bool near] 34))
  have HC := h1.1.drop i r hh hw
  have HB := Lib.hid h1.2
  generalize dropS S i r hh = m at HC ⊢
  clear h h1
  go_enter Try.func11, Try.ntmps11
  go_wp2_with (go_at_call 25; refine HC.mono ?_; rintro e w1 ⟨rfl, hs, hb⟩)
  go_ret3
  exact ⟨rfl, hs, HB.out.trans hb⟩
set_option maxRecDepth 100000 in
set_option maxHeartbeats 4000000 in
theorem does3F {F : Nat → Prop} {a N : Nat} {w : World} {S : Tb} (h : StF F a w S N) (i r hh : Int) (near : Bool) (hw : wf64 hh) : Calls Try.prog 11 #[.pointer (some ⟨a, 0, none⟩), .agg #[.int .i64 3, .int .i64 i, .int .i64 r, .int .i64 hh, .bool near]] w fun e w' => e = .returned (.tuple #[.int .i64 (dropS S i r hh).1, .int .i64 (dropS S i r hh).2.2.1, .bool (dropS S i r hh).2.1]) ∧ StF F a w' (dropS S i r hh).2.2.2 N ∧ Kept F w w' := by
  have h1 := h.below ((Below.refl _ w).alloc (Nat.le_refl _) (.cells #[.int .i64 3, .int .i64 i, .int .i64 r, .int .i64 hh, .bool near] 34))
  have HC := h1.1.drop i r hh hw
  have HB := Lib.hid h1.2
  generalize dropS S i r hh = m at HC ⊢
  clear h h1
  go_enter Try.func11, Try.ntmps11
  go_wp2_with (go_at_call 25; refine HC.mono ?_; rintro e w1 ⟨rfl, hs, hb⟩)
  go_ret3
  exact ⟨rfl, hs, HB.out.trans hb⟩
set_option maxRecDepth 100000 in
set_option maxHeartbeats 4000000 in
theorem does4F {F : Nat → Prop} {a N : Nat} {w : World} {S : Tb} (h : StF F a w S N) (i r hh : Int) (near : Bool) (hw : wf64 hh) : Calls Try.prog 11 #[.pointer (some ⟨a, 0, none⟩), .agg #[.int .i64 4, .int .i64 i, .int .i64 r, .int .i64 hh, .bool near]] w fun e w' => e = .returned (.tuple #[.int .i64 (takeS S i r hh).1, .int .i64 (takeS S i r hh).2.1, .bool false]) ∧ StF F a w' (takeS S i r hh).2.2 N ∧ Kept F w w' := by
  have h1 := h.below ((Below.refl _ w).alloc (Nat.le_refl _) (.cells #[.int .i64 4, .int .i64 i, .int .i64 r, .int .i64 hh, .bool near] 34))
  have HC := h1.1.take i r hh hw
  have HB := Lib.hid h1.2
  generalize takeS S i r hh = m at HC ⊢
  clear h h1
  go_enter Try.func11, Try.ntmps11
  go_wp2_with (go_at_call 28; refine HC.mono ?_; rintro e w1 ⟨rfl, hs, hb⟩)
  go_ret3
  exact ⟨rfl, hs, HB.out.trans hb⟩
set_option maxRecDepth 100000 in
set_option maxHeartbeats 4000000 in
theorem does5F {F : Nat → Prop} {a N : Nat} {w : World} {S : Tb} (h : StF F a w S N) (i r hh : Int) (near : Bool) : Calls Try.prog 11 #[.pointer (some ⟨a, 0, none⟩), .agg #[.int .i64 5, .int .i64 i, .int .i64 r, .int .i64 hh, .bool near]] w fun e w' => e = .returned (.tuple #[.int .i64 (putS S i r hh).1, .int .i64 (putS S i r hh).2.1, .bool false]) ∧ StF F a w' (putS S i r hh).2.2 N ∧ Kept F w w' := by
  have h1 := h.below ((Below.refl _ w).alloc (Nat.le_refl _) (.cells #[.int .i64 5, .int .i64 i, .int .i64 r, .int .i64 hh, .bool near] 34))
  have HC := h1.1.put i r hh
  have HB := Lib.hid h1.2
  generalize putS S i r hh = m at HC ⊢
  clear h h1
  go_enter Try.func11, Try.ntmps11
  go_wp2_with (go_at_call 29; refine HC.mono ?_; rintro e w1 ⟨rfl, hs, hb⟩)
  go_ret3
  exact ⟨rfl, hs, HB.out.trans hb⟩
set_option maxRecDepth 100000 in
set_option maxHeartbeats 4000000 in
theorem does6F {F : Nat → Prop} {a N : Nat} {w : World} {S : Tb} (h : StF F a w S N) (i r hh : Int) (near : Bool) (hN : N < 100000) (hw : wf64 hh) : Calls Try.prog 11 #[.pointer (some ⟨a, 0, none⟩), .agg #[.int .i64 6, .int .i64 i, .int .i64 r, .int .i64 hh, .bool near]] w fun e w' => e = .returned (.tuple #[.int .i64 (lendS S i r hh).1, .int .i64 (lendS S i r hh).2.1, .bool false]) ∧ StF F a w' (lendS S i r hh).2.2 (N + 1) ∧ Kept F w w' := by
  have h1 := h.below ((Below.refl _ w).alloc (Nat.le_refl _) (.cells #[.int .i64 6, .int .i64 i, .int .i64 r, .int .i64 hh, .bool near] 34))
  have HC := h1.1.lend hN i r hh hw
  have HB := Lib.hid h1.2
  generalize lendS S i r hh = m at HC ⊢
  clear h h1
  go_enter Try.func11, Try.ntmps11
  go_wp2_with (go_at_call 23; refine HC.mono ?_; rintro e w1 ⟨rfl, hs, hb⟩)
  go_ret3
  exact ⟨rfl, hs, HB.out.trans hb⟩
set_option maxRecDepth 100000 in
set_option maxHeartbeats 4000000 in
theorem does7F {F : Nat → Prop} {a N : Nat} {w : World} {S : Tb} (h : StF F a w S N) (i r hh : Int) (near : Bool) : Calls Try.prog 11 #[.pointer (some ⟨a, 0, none⟩), .agg #[.int .i64 7, .int .i64 i, .int .i64 r, .int .i64 hh, .bool near]] w fun e w' => e = .returned (.tuple #[.int .i64 (borrowS S i r hh).1, .int .i64 (borrowS S i r hh).2.1, .bool false]) ∧ StF F a w' (borrowS S i r hh).2.2 N ∧ Kept F w w' := by
  have h1 := h.below ((Below.refl _ w).alloc (Nat.le_refl _) (.cells #[.int .i64 7, .int .i64 i, .int .i64 r, .int .i64 hh, .bool near] 34))
  have HC := h1.1.borrow i r hh
  have HB := Lib.hid h1.2
  generalize borrowS S i r hh = m at HC ⊢
  clear h h1
  go_enter Try.func11, Try.ntmps11
  go_wp2_with (go_at_call 24; refine HC.mono ?_; rintro e w1 ⟨rfl, hs, hb⟩)
  go_ret3
  exact ⟨rfl, hs, HB.out.trans hb⟩
set_option maxRecDepth 100000 in
set_option maxHeartbeats 4000000 in
theorem does8F {F : Nat → Prop} {a N : Nat} {w : World} {S : Tb} (h : StF F a w S N) (i r hh : Int) (near : Bool) : Calls Try.prog 11 #[.pointer (some ⟨a, 0, none⟩), .agg #[.int .i64 8, .int .i64 i, .int .i64 r, .int .i64 hh, .bool near]] w fun e w' => e = .returned (.tuple #[.int .i64 0, .int .i64 (enterS S i).1, .bool false]) ∧ StF F a w' (enterS S i).2 N ∧ Kept F w w' := by
  have h1 := h.below ((Below.refl _ w).alloc (Nat.le_refl _) (.cells #[.int .i64 8, .int .i64 i, .int .i64 r, .int .i64 hh, .bool near] 34))
  have HC := h1.1.enter i
  have HB := Lib.hid h1.2
  generalize enterS S i = m at HC ⊢
  clear h h1
  go_enter Try.func11, Try.ntmps11
  go_wp2_with (go_at_call 22; refine HC.mono ?_; rintro e w1 ⟨rfl, hs, hb⟩)
  go_ret3
  exact ⟨rfl, hs, HB.out.trans hb⟩
set_option maxRecDepth 100000 in
set_option maxHeartbeats 4000000 in
theorem does9F {F : Nat → Prop} {a N : Nat} {w : World} {S : Tb} (h : StF F a w S N) (k : Int) (h0 : ¬ k = 0) (h1 : ¬ k = 1) (h2 : ¬ k = 2) (h3 : ¬ k = 3) (h4 : ¬ k = 4) (h5 : ¬ k = 5) (h6 : ¬ k = 6) (h7 : ¬ k = 7) (h8 : ¬ k = 8) (i r hh : Int) (near : Bool) : Calls Try.prog 11 #[.pointer (some ⟨a, 0, none⟩), .agg #[.int .i64 k, .int .i64 i, .int .i64 r, .int .i64 hh, .bool near]] w fun e w' => e = .returned (.tuple #[.int .i64 0, .int .i64 (leaveS S).1, .bool false]) ∧ StF F a w' (leaveS S).2 N ∧ Kept F w w' := by
  have hb1 := h.below ((Below.refl _ w).alloc (Nat.le_refl _) (.cells #[.int .i64 k, .int .i64 i, .int .i64 r, .int .i64 hh, .bool near] 34))
  have HC := hb1.1.leave
  have HB := Lib.hid hb1.2
  generalize leaveS S = m at HC ⊢
  have e0 : (k == 0) = false := by simp [h0]
  have e1 : (k == 1) = false := by simp [h1]
  have e2 : (k == 2) = false := by simp [h2]
  have e3 : (k == 3) = false := by simp [h3]
  have e4 : (k == 4) = false := by simp [h4]
  have e5 : (k == 5) = false := by simp [h5]
  have e6 : (k == 6) = false := by simp [h6]
  have e7 : (k == 7) = false := by simp [h7]
  have e8 : (k == 8) = false := by simp [h8]
  clear h0 h1 h2 h3 h4 h5 h6 h7 h8
  clear h hb1
  go_enter Try.func11, Try.ntmps11
  go_wp2_with (go_at_call 26; refine HC.mono ?_; rintro e w1 ⟨rfl, hs, hb⟩)
  go_ret3
  exact ⟨rfl, hs, HB.out.trans hb⟩

theorem doesF {F : Nat → Prop} {a N : Nat} {w : World} {S : Tb} (h : StF F a w S N) (hN : N < 100000) (d : Dh) (hw : wf64 d.h) : Calls Try.prog 11 #[.pointer (some ⟨a, 0, none⟩), d.v] w fun e w' => e = .returned (.tuple #[.int .i64 (doesS S d).1, .int .i64 (doesS S d).2.1, .bool (doesS S d).2.2.1]) ∧ StF F a w' (doesS S d).2.2.2 (N + 1) ∧ Kept F w w' := by
  obtain ⟨k, i, r, hh, near⟩ := d
  dsimp only at hw
  unfold doesS
  dsimp only
  by_cases h0 : k = 0
  · subst h0; rw [if_pos rfl]
    exact (does0F h i r hh near).mono fun e w' ⟨a, b, c⟩ => ⟨a, b.more (by omega) (by omega), c⟩
  rw [if_neg h0]
  by_cases h1 : k = 1
  · subst h1; rw [if_pos rfl]
    exact (does1F h i r hh near hw).mono fun e w' ⟨a, b, c⟩ => ⟨a, b.more (by omega) (by omega), c⟩
  rw [if_neg h1]
  by_cases h2 : k = 2
  · subst h2; rw [if_pos (.inl rfl)]
    exact (does2F h i r hh near hw).mono fun e w' ⟨a, b, c⟩ => ⟨a, b.more (by omega) (by omega), c⟩
  by_cases h3 : k = 3
  · subst h3; rw [if_pos (.inr rfl)]
    exact (does3F h i r hh near hw).mono fun e w' ⟨a, b, c⟩ => ⟨a, b.more (by omega) (by omega), c⟩
  rw [if_neg (fun e => e.elim h2 h3)]
  by_cases h4 : k = 4
  · subst h4; rw [if_pos rfl]
    exact (does4F h i r hh near hw).mono fun e w' ⟨a, b, c⟩ => ⟨a, b.more (by omega) (by omega), c⟩
  rw [if_neg h4]
  by_cases h5 : k = 5
  · subst h5; rw [if_pos rfl]
    exact (does5F h i r hh near).mono fun e w' ⟨a, b, c⟩ => ⟨a, b.more (by omega) (by omega), c⟩
  rw [if_neg h5]
  by_cases h6 : k = 6
  · subst h6; rw [if_pos rfl]
    exact does6F h i r hh near hN hw
  rw [if_neg h6]
  by_cases h7 : k = 7
  · subst h7; rw [if_pos rfl]
    exact (does7F h i r hh near).mono fun e w' ⟨a, b, c⟩ => ⟨a, b.more (by omega) (by omega), c⟩
  rw [if_neg h7]
  by_cases h8 : k = 8
  · subst h8; rw [if_pos rfl]
    exact (does8F h i r hh near).mono fun e w' ⟨a, b, c⟩ => ⟨a, b.more (by omega) (by omega), c⟩
  rw [if_neg h8]
  exact (does9F h k h0 h1 h2 h3 h4 h5 h6 h7 h8 i r hh near).mono fun e w' ⟨a, b, c⟩ => ⟨a, b.more (by omega) (by omega), c⟩
theorem StF.handles {F : Nat → Prop} {a N : Nat} {w : World} {S : Tb} (h : StF F a w S N) (i : Int) : Calls Try.prog 16 #[.pointer (some ⟨a, 0, none⟩), .int .i64 i] w fun e w' => ∃ v, e = .returned v ∧ Hds w.heap.size v (handlesS S i) w' ∧ Below w.heap.size w w' := by
  obtain ⟨H, h1⟩ := h.at'
  exact h1.handles h.ok i
end Go.Proofs.Ytglhfofofacekaa
