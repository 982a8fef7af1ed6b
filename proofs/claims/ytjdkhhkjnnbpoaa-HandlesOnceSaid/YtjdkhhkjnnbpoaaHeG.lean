/- handles: tables' calls leave a block beside them alone. -/
import Derived.Test.YtjdkhhkjnnbpoaaHeB
set_option linter.unusedVariables false
set_option linter.unusedSimpArgs false
namespace Go.Proofs.Ytjdkhhkjnnbpoaa
open Go.RowKit

/-- Blocks from B on, without one. -/
def FX (B bx : Nat) (k : Nat) : Prop := B ≤ k ∧ k ≠ bx
/-- Tables that a call made, from block B on, beside a block. -/
structure StX (B bx a : Nat) (w : World) (S : Tb) (N : Nat) : Prop where
  at' : TbAt (FX B bx) a w S
  ok : TbOk N S
  size : B ≤ w.heap.size
  lt : bx < w.heap.size
  few : N ≤ 100000
theorem StX.of {B bx a N N' : Nat} {w w' : World} {S S' : Tb} (h : StX B bx a w S N) (ht : TbAt (FX B bx) a w' S') (hk : Kept (FX B bx) w w') (ho : TbOk N' S') (hN : N' ≤ 100000) : StX B bx a w' S' N' ∧ Kept (FX B bx) w w' :=
  ⟨⟨ht, ho, Nat.le_trans h.size hk.size, Nat.lt_of_lt_of_le h.lt hk.size, hN⟩, hk⟩
theorem StX.below {B bx a N : Nat} {w w' : World} {S : Tb} (h : StX B bx a w S N) (hb : Below w.heap.size w w') : StX B bx a w' S N ∧ Kept (FX B bx) w w' := by
  obtain ⟨H, h1⟩ := h.at'
  exact ⟨⟨⟨H, h1.below hb⟩, h.ok, Nat.le_trans h.size hb.size, Nat.lt_of_lt_of_le h.lt hb.size, h.few⟩, Kept.of_below hb⟩
theorem orNewX {B bx n k : Nat} (hB : B ≤ n) (hx : bx < n) (h : orNew (FX B bx) n k) : FX B bx k := by
  rcases h with h | h
  · exact h
  · exact ⟨by omega, by omega⟩
theorem StX.more {B bx a N M : Nat} {w : World} {S : Tb} (h : StX B bx a w S N) (hN : N ≤ M) (hM : M ≤ 100000) : StX B bx a w S M := ⟨h.at', h.ok.mono hN, h.size, h.lt, hM⟩
theorem StX.st {B bx a N : Nat} {w : World} {S : Tb} (h : StX B bx a w S N) : St B a w S N := ⟨h.at'.mono (fun k hk => hk.1), h.ok, h.size, h.few⟩
theorem St.beside {B a N : Nat} {w w' : World} {S : Tb} (h : St B a w S N) (hb : Below w.heap.size w w') {bx : Nat} (h1 : w.heap.size ≤ bx) (h2 : bx < w'.heap.size) : StX B bx a w' S N := by
  obtain ⟨H, hH⟩ := h.at'
  exact ⟨⟨H, (hH.low.below hb).mono (fun k hk => ⟨hk.1, by have := hk.2; omega⟩)⟩, h.ok, Nat.le_trans h.size hb.size, h2, h.few⟩
theorem BlkAt.beside {B bx : Nat} {w w' : World} {cs : Array Value} {T : TypeId} (h : BlkAt w bx cs T) (hk : Kept (FX B bx) w w') : BlkAt w' bx cs T := h.kept hk (fun e => e.2 rfl)
theorem StX.make {B bx a N : Nat} {w : World} {S : Tb} (h : StX B bx a w S N) (i r rep : Int) : Calls Try.prog 26 #[.pointer (some ⟨a, 0, none⟩), .int .i64 i, .int .i64 r, .int .i64 rep] w fun e w' => e = .returned (.tuple #[.int .i64 (makeS S i r rep).1, .int .i64 (makeS S i r rep).2.1]) ∧ StX B bx a w' (makeS S i r rep).2.2 N ∧ Kept (FX B bx) w w' := by
  obtain ⟨H, h1⟩ := h.at'
  refine (h1.make h.ok i r rep).mono ?_
  rintro e w' ⟨rfl, h2, h3⟩
  exact ⟨rfl, h.of ⟨H, h2⟩ h3 (h.ok.make i r rep) h.few⟩
theorem StX.rep {B bx a N : Nat} {w : World} {S : Tb} (h : StX B bx a w S N) (i r hh : Int) (hw : wf64 hh) : Calls Try.prog 23 #[.pointer (some ⟨a, 0, none⟩), .int .i64 i, .int .i64 r, .int .i64 hh] w fun e w' => e = .returned (.tuple #[.int .i64 (repS S i r hh).1, .int .i64 (repS S i r hh).2]) ∧ StX B bx a w' S N ∧ Kept (FX B bx) w w' := by
  obtain ⟨H, h1⟩ := h.at'
  refine (h1.repr h.ok i r hh hw).mono ?_
  rintro e w' ⟨rfl, h2⟩
  exact ⟨rfl, h.below h2⟩
theorem StX.drop {B bx a N : Nat} {w : World} {S : Tb} (h : StX B bx a w S N) (i r hh : Int) (hw : wf64 hh) : Calls Try.prog 29 #[.pointer (some ⟨a, 0, none⟩), .int .i64 i, .int .i64 r, .int .i64 hh] w fun e w' => e = .returned (.tuple #[.int .i64 (dropS S i r hh).1, .bool (dropS S i r hh).2.1, .int .i64 (dropS S i r hh).2.2.1]) ∧ StX B bx a w' (dropS S i r hh).2.2.2 N ∧ Kept (FX B bx) w w' := by
  obtain ⟨H, h1⟩ := h.at'
  refine (h1.drop i r hh hw).mono ?_
  rintro e w' ⟨rfl, h2, h3⟩
  exact ⟨rfl, h.of ⟨H, h2⟩ h3 (h.ok.drop i r hh) h.few⟩
theorem StX.take {B bx a N : Nat} {w : World} {S : Tb} (h : StX B bx a w S N) (i r hh : Int) (hw : wf64 hh) : Calls Try.prog 30 #[.pointer (some ⟨a, 0, none⟩), .int .i64 i, .int .i64 r, .int .i64 hh] w fun e w' => e = .returned (.tuple #[.int .i64 (takeS S i r hh).1, .int .i64 (takeS S i r hh).2.1]) ∧ StX B bx a w' (takeS S i r hh).2.2 N ∧ Kept (FX B bx) w w' := by
  obtain ⟨H, h1⟩ := h.at'
  refine (h1.take i r hh hw).mono ?_
  rintro e w' ⟨rfl, h2, h3⟩
  exact ⟨rfl, h.of ⟨H, h2⟩ h3 (h.ok.take i r hh) h.few⟩
theorem StX.put {B bx a N : Nat} {w : World} {S : Tb} (h : StX B bx a w S N) (i r rep : Int) : Calls Try.prog 32 #[.pointer (some ⟨a, 0, none⟩), .int .i64 i, .int .i64 r, .int .i64 rep] w fun e w' => e = .returned (.tuple #[.int .i64 (putS S i r rep).1, .int .i64 (putS S i r rep).2.1]) ∧ StX B bx a w' (putS S i r rep).2.2 N ∧ Kept (FX B bx) w w' := by
  obtain ⟨H, h1⟩ := h.at'
  refine (h1.put h.ok i r rep).mono ?_
  rintro e w' ⟨rfl, h2, h3⟩
  exact ⟨rfl, h.of ⟨H, h2⟩ h3 (h.ok.put i r rep) h.few⟩
theorem StX.lend {B bx a N : Nat} {w : World} {S : Tb} (h : StX B bx a w S N) (hN : N < 100000) (i r hh : Int) (hw : wf64 hh) : Calls Try.prog 28 #[.pointer (some ⟨a, 0, none⟩), .int .i64 i, .int .i64 r, .int .i64 hh] w fun e w' => e = .returned (.tuple #[.int .i64 (lendS S i r hh).1, .int .i64 (lendS S i r hh).2.1]) ∧ StX B bx a w' (lendS S i r hh).2.2 (N + 1) ∧ Kept (FX B bx) w w' := by
  obtain ⟨H, h1⟩ := h.at'
  refine (h1.lend h.ok h.few i r hh hw).mono ?_
  rintro e w' ⟨rfl, h2, h3⟩
  exact ⟨rfl, h.of ⟨H, h2⟩ h3 (h.ok.lend i r hh) (by omega)⟩
theorem StX.borrow {B bx a N : Nat} {w : World} {S : Tb} (h : StX B bx a w S N) (i r rep : Int) : Calls Try.prog 31 #[.pointer (some ⟨a, 0, none⟩), .int .i64 i, .int .i64 r, .int .i64 rep] w fun e w' => e = .returned (.tuple #[.int .i64 (borrowS S i r rep).1, .int .i64 (borrowS S i r rep).2.1]) ∧ StX B bx a w' (borrowS S i r rep).2.2 N ∧ Kept (FX B bx) w w' := by
  obtain ⟨H, h1⟩ := h.at'
  refine (h1.borrow h.ok i r rep).mono ?_
  rintro e w' ⟨rfl, h2, h3⟩
  exact ⟨rfl, h.of ⟨H, h2⟩ h3 (h.ok.borrow i r rep) h.few⟩
theorem StX.enter {B bx a N : Nat} {w : World} {S : Tb} (h : StX B bx a w S N) (i : Int) : Calls Try.prog 27 #[.pointer (some ⟨a, 0, none⟩), .int .i64 i] w fun e w' => e = .returned (.int .i64 (enterS S i).1) ∧ StX B bx a w' (enterS S i).2 N ∧ Kept (FX B bx) w w' := by
  obtain ⟨H, h1⟩ := h.at'
  refine (h1.enter h.ok i).mono ?_
  rintro e w' ⟨rfl, h2, h3⟩
  exact ⟨rfl, h.of (h2.mono (fun b hb => orNewX h.size h.lt hb)) h3 (h.ok.enter i) h.few⟩
theorem StX.leave {B bx a N : Nat} {w : World} {S : Tb} (h : StX B bx a w S N) : Calls Try.prog 25 #[.pointer (some ⟨a, 0, none⟩)] w fun e w' => e = .returned (.int .i64 (leaveS S).1) ∧ StX B bx a w' (leaveS S).2 N ∧ Kept (FX B bx) w w' := by
  obtain ⟨H, h1⟩ := h.at'
  refine (h1.leave h.ok h.few).mono ?_
  rintro e w' ⟨rfl, h2, h3⟩
  exact ⟨rfl, h.of h2 h3 h.ok.leave h.few⟩
set_option maxRecDepth 100000 in
set_option maxHeartbeats 4000000 in
theorem does0X {B bx a N : Nat} {w : World} {S : Tb} (h : StX B bx a w S N) (i r hh : Int) (near : Bool) : Calls Try.prog 16 #[.pointer (some ⟨a, 0, none⟩), .agg #[.int .i64 0, .int .i64 i, .int .i64 r, .int .i64 hh, .bool near]] w fun e w' => e = .returned (.tuple #[.int .i64 (makeS S i r hh).1, .int .i64 (makeS S i r hh).2.1, .bool false]) ∧ StX B bx a w' (makeS S i r hh).2.2 N ∧ Kept (FX B bx) w w' := by
  have h1 := h.below ((Below.refl _ w).alloc (Nat.le_refl _) (.cells #[.int .i64 0, .int .i64 i, .int .i64 r, .int .i64 hh, .bool near] 34))
  have HC := h1.1.make i r hh
  have HB := Lib.hid h1.2
  generalize makeS S i r hh = m at HC ⊢
  clear h h1
  go_enter Try.func16, Try.ntmps16
  go_wp2_with (go_at_call 26; refine HC.mono ?_; rintro e w1 ⟨rfl, hs, hb⟩)
  go_ret3
  exact ⟨rfl, hs, HB.out.trans hb⟩
set_option maxRecDepth 100000 in
set_option maxHeartbeats 4000000 in
theorem does1X {B bx a N : Nat} {w : World} {S : Tb} (h : StX B bx a w S N) (i r hh : Int) (near : Bool) (hw : wf64 hh) : Calls Try.prog 16 #[.pointer (some ⟨a, 0, none⟩), .agg #[.int .i64 1, .int .i64 i, .int .i64 r, .int .i64 hh, .bool near]] w fun e w' => e = .returned (.tuple #[.int .i64 (repS S i r hh).1, .int .i64 (repS S i r hh).2, .bool false]) ∧ StX B bx a w' S N ∧ Kept (FX B bx) w w' := by
  have h1 := h.below ((Below.refl _ w).alloc (Nat.le_refl _) (.cells #[.int .i64 1, .int .i64 i, .int .i64 r, .int .i64 hh, .bool near] 34))
  have HC := h1.1.rep i r hh hw
  have HB := Lib.hid h1.2
  generalize repS S i r hh = m at HC ⊢
  clear h h1
  go_enter Try.func16, Try.ntmps16
  go_wp2_with (go_at_call 23; refine HC.mono ?_; rintro e w1 ⟨rfl, hs, hb⟩)
  go_ret3
  exact ⟨rfl, hs, HB.out.trans hb⟩
set_option maxRecDepth 100000 in
set_option maxHeartbeats 4000000 in
theorem does2X {B bx a N : Nat} {w : World} {S : Tb} (h : StX B bx a w S N) (i r hh : Int) (near : Bool) (hw : wf64 hh) : Calls Try.prog 16 #[.pointer (some ⟨a, 0, none⟩), .agg #[.int .i64 2, .int .i64 i, .int .i64 r, .int .i64 hh, .bool near]] w fun e w' => e = .returned (.tuple #[.int .i64 (dropS S i r hh).1, .int .i64 (dropS S i r hh).2.2.1, .bool (dropS S i r hh).2.1]) ∧ StX B bx a w' (dropS S i r hh).2.2.2 N ∧ Kept (FX B bx) w w' := by
  have h1 := h.below ((Below.refl _ w).alloc (Nat.le_refl _) (.cells #[.int .i64 2, .int .i64 i, .int .i64 r, .int .i64 hh, .bool near] 34))
  have HC := h1.1.drop i r hh hw
  have HB := Lib.hid h1.2
  generalize dropS S i r hh = m at HC ⊢
  clear h h1
  go_enter Try.func16, Try.ntmps16
  go_wp2_with (go_at_call 29; refine HC.mono ?_; rintro e w1 ⟨rfl, hs, hb⟩)
  go_ret3
  exact ⟨rfl, hs, HB.out.trans hb⟩
set_option maxRecDepth 100000 in
set_option maxHeartbeats 4000000 in
theorem does3X {B bx a N : Nat} {w : World} {S : Tb} (h : StX B bx a w S N) (i r hh : Int) (near : Bool) (hw : wf64 hh) : Calls Try.prog 16 #[.pointer (some ⟨a, 0, none⟩), .agg #[.int .i64 3, .int .i64 i, .int .i64 r, .int .i64 hh, .bool near]] w fun e w' => e = .returned (.tuple #[.int .i64 (dropS S i r hh).1, .int .i64 (dropS S i r hh).2.2.1, .bool (dropS S i r hh).2.1]) ∧ StX B bx a w' (dropS S i r hh).2.2.2 N ∧ Kept (FX B bx) w w' := by
  have h1 := h.below ((Below.refl _ w).alloc (Nat.le_refl _) (.cells #[.int .i64 3, .int .i64 i, .int .i64 r, .int .i64 hh, .bool near] 34))
  have HC := h1.1.drop i r hh hw
  have HB := Lib.hid h1.2
  generalize dropS S i r hh = m at HC ⊢
  clear h h1
  go_enter Try.func16, Try.ntmps16
  go_wp2_with (go_at_call 29; refine HC.mono ?_; rintro e w1 ⟨rfl, hs, hb⟩)
  go_ret3
  exact ⟨rfl, hs, HB.out.trans hb⟩
set_option maxRecDepth 100000 in
set_option maxHeartbeats 4000000 in
theorem does4X {B bx a N : Nat} {w : World} {S : Tb} (h : StX B bx a w S N) (i r hh : Int) (near : Bool) (hw : wf64 hh) : Calls Try.prog 16 #[.pointer (some ⟨a, 0, none⟩), .agg #[.int .i64 4, .int .i64 i, .int .i64 r, .int .i64 hh, .bool near]] w fun e w' => e = .returned (.tuple #[.int .i64 (takeS S i r hh).1, .int .i64 (takeS S i r hh).2.1, .bool false]) ∧ StX B bx a w' (takeS S i r hh).2.2 N ∧ Kept (FX B bx) w w' := by
  have h1 := h.below ((Below.refl _ w).alloc (Nat.le_refl _) (.cells #[.int .i64 4, .int .i64 i, .int .i64 r, .int .i64 hh, .bool near] 34))
  have HC := h1.1.take i r hh hw
  have HB := Lib.hid h1.2
  generalize takeS S i r hh = m at HC ⊢
  clear h h1
  go_enter Try.func16, Try.ntmps16
  go_wp2_with (go_at_call 30; refine HC.mono ?_; rintro e w1 ⟨rfl, hs, hb⟩)
  go_ret3
  exact ⟨rfl, hs, HB.out.trans hb⟩
set_option maxRecDepth 100000 in
set_option maxHeartbeats 4000000 in
theorem does5X {B bx a N : Nat} {w : World} {S : Tb} (h : StX B bx a w S N) (i r hh : Int) (near : Bool) : Calls Try.prog 16 #[.pointer (some ⟨a, 0, none⟩), .agg #[.int .i64 5, .int .i64 i, .int .i64 r, .int .i64 hh, .bool near]] w fun e w' => e = .returned (.tuple #[.int .i64 (putS S i r hh).1, .int .i64 (putS S i r hh).2.1, .bool false]) ∧ StX B bx a w' (putS S i r hh).2.2 N ∧ Kept (FX B bx) w w' := by
  have h1 := h.below ((Below.refl _ w).alloc (Nat.le_refl _) (.cells #[.int .i64 5, .int .i64 i, .int .i64 r, .int .i64 hh, .bool near] 34))
  have HC := h1.1.put i r hh
  have HB := Lib.hid h1.2
  generalize putS S i r hh = m at HC ⊢
  clear h h1
  go_enter Try.func16, Try.ntmps16
  go_wp2_with (go_at_call 32; refine HC.mono ?_; rintro e w1 ⟨rfl, hs, hb⟩)
  go_ret3
  exact ⟨rfl, hs, HB.out.trans hb⟩
set_option maxRecDepth 100000 in
set_option maxHeartbeats 4000000 in
theorem does6X {B bx a N : Nat} {w : World} {S : Tb} (h : StX B bx a w S N) (i r hh : Int) (near : Bool) (hN : N < 100000) (hw : wf64 hh) : Calls Try.prog 16 #[.pointer (some ⟨a, 0, none⟩), .agg #[.int .i64 6, .int .i64 i, .int .i64 r, .int .i64 hh, .bool near]] w fun e w' => e = .returned (.tuple #[.int .i64 (lendS S i r hh).1, .int .i64 (lendS S i r hh).2.1, .bool false]) ∧ StX B bx a w' (lendS S i r hh).2.2 (N + 1) ∧ Kept (FX B bx) w w' := by
  have h1 := h.below ((Below.refl _ w).alloc (Nat.le_refl _) (.cells #[.int .i64 6, .int .i64 i, .int .i64 r, .int .i64 hh, .bool near] 34))
  have HC := h1.1.lend hN i r hh hw
  have HB := Lib.hid h1.2
  generalize lendS S i r hh = m at HC ⊢
  clear h h1
  go_enter Try.func16, Try.ntmps16
  go_wp2_with (go_at_call 28; refine HC.mono ?_; rintro e w1 ⟨rfl, hs, hb⟩)
  go_ret3
  exact ⟨rfl, hs, HB.out.trans hb⟩
set_option maxRecDepth 100000 in
set_option maxHeartbeats 4000000 in
theorem does7X {B bx a N : Nat} {w : World} {S : Tb} (h : StX B bx a w S N) (i r hh : Int) (near : Bool) : Calls Try.prog 16 #[.pointer (some ⟨a, 0, none⟩), .agg #[.int .i64 7, .int .i64 i, .int .i64 r, .int .i64 hh, .bool near]] w fun e w' => e = .returned (.tuple #[.int .i64 (borrowS S i r hh).1, .int .i64 (borrowS S i r hh).2.1, .bool false]) ∧ StX B bx a w' (borrowS S i r hh).2.2 N ∧ Kept (FX B bx) w w' := by
  have h1 := h.below ((Below.refl _ w).alloc (Nat.le_refl _) (.cells #[.int .i64 7, .int .i64 i, .int .i64 r, .int .i64 hh, .bool near] 34))
  have HC := h1.1.borrow i r hh
  have HB := Lib.hid h1.2
  generalize borrowS S i r hh = m at HC ⊢
  clear h h1
  go_enter Try.func16, Try.ntmps16
  go_wp2_with (go_at_call 31; refine HC.mono ?_; rintro e w1 ⟨rfl, hs, hb⟩)
  go_ret3
  exact ⟨rfl, hs, HB.out.trans hb⟩
set_option maxRecDepth 100000 in
set_option maxHeartbeats 4000000 in
theorem does8X {B bx a N : Nat} {w : World} {S : Tb} (h : StX B bx a w S N) (i r hh : Int) (near : Bool) : Calls Try.prog 16 #[.pointer (some ⟨a, 0, none⟩), .agg #[.int .i64 8, .int .i64 i, .int .i64 r, .int .i64 hh, .bool near]] w fun e w' => e = .returned (.tuple #[.int .i64 0, .int .i64 (enterS S i).1, .bool false]) ∧ StX B bx a w' (enterS S i).2 N ∧ Kept (FX B bx) w w' := by
  have h1 := h.below ((Below.refl _ w).alloc (Nat.le_refl _) (.cells #[.int .i64 8, .int .i64 i, .int .i64 r, .int .i64 hh, .bool near] 34))
  have HC := h1.1.enter i
  have HB := Lib.hid h1.2
  generalize enterS S i = m at HC ⊢
  clear h h1
  go_enter Try.func16, Try.ntmps16
  go_wp2_with (go_at_call 27; refine HC.mono ?_; rintro e w1 ⟨rfl, hs, hb⟩)
  go_ret3
  exact ⟨rfl, hs, HB.out.trans hb⟩
set_option maxRecDepth 100000 in
set_option maxHeartbeats 4000000 in
theorem does9X {B bx a N : Nat} {w : World} {S : Tb} (h : StX B bx a w S N) (k : Int) (h0 : ¬ k = 0) (h1 : ¬ k = 1) (h2 : ¬ k = 2) (h3 : ¬ k = 3) (h4 : ¬ k = 4) (h5 : ¬ k = 5) (h6 : ¬ k = 6) (h7 : ¬ k = 7) (h8 : ¬ k = 8) (i r hh : Int) (near : Bool) : Calls Try.prog 16 #[.pointer (some ⟨a, 0, none⟩), .agg #[.int .i64 k, .int .i64 i, .int .i64 r, .int .i64 hh, .bool near]] w fun e w' => e = .returned (.tuple #[.int .i64 0, .int .i64 (leaveS S).1, .bool false]) ∧ StX B bx a w' (leaveS S).2 N ∧ Kept (FX B bx) w w' := by
  have hb1 := h.below ((Below.refl _ w).alloc (Nat.le_refl _) (.cells #[.int .i64 k, .int .i64 i, .int .i64 r, .int .i64 hh, .bool near] 34))
  have HC := hb1.1.leave
  have HB := Lib.hid hb1.2
  generalize leaveS S = m at HC ⊢
  have e0 : (k == 0) = false := by simp [h0]
  have e1 : (k == 1) = false := by simp [h1]
  have e2 : (k == 2) = false := by simp [h2]
  have e3 : (k == 3) = false := by simp [h3]
  have e4 : (k == 4) = false := by simp [h4]
  have e5 : (k == 5) = false := by simp [h5]
  have e6 : (k == 6) = false := by simp [h6]
  have e7 : (k == 7) = false := by simp [h7]
  have e8 : (k == 8) = false := by simp [h8]
  clear h0 h1 h2 h3 h4 h5 h6 h7 h8
  clear h hb1
  go_enter Try.func16, Try.ntmps16
  go_wp2_with (go_at_call 25; refine HC.mono ?_; rintro e w1 ⟨rfl, hs, hb⟩)
  go_ret3
  exact ⟨rfl, hs, HB.out.trans hb⟩

theorem doesX {B bx a N : Nat} {w : World} {S : Tb} (h : StX B bx a w S N) (hN : N < 100000) (d : Dh) (hw : wf64 d.h) : Calls Try.prog 16 #[.pointer (some ⟨a, 0, none⟩), d.v] w fun e w' => e = .returned (.tuple #[.int .i64 (doesS S d).1, .int .i64 (doesS S d).2.1, .bool (doesS S d).2.2.1]) ∧ StX B bx a w' (doesS S d).2.2.2 (N + 1) ∧ Kept (FX B bx) w w' := by
  obtain ⟨k, i, r, hh, near⟩ := d
  dsimp only at hw
  unfold doesS
  dsimp only
  by_cases h0 : k = 0
  · subst h0; rw [if_pos rfl]
    exact (does0X h i r hh near).mono fun e w' ⟨a, b, c⟩ => ⟨a, b.more (by omega) (by omega), c⟩
  rw [if_neg h0]
  by_cases h1 : k = 1
  · subst h1; rw [if_pos rfl]
    exact (does1X h i r hh near hw).mono fun e w' ⟨a, b, c⟩ => ⟨a, b.more (by omega) (by omega), c⟩
  rw [if_neg h1]
  by_cases h2 : k = 2
  · subst h2; rw [if_pos (.inl rfl)]
    exact (does2X h i r hh near hw).mono fun e w' ⟨a, b, c⟩ => ⟨a, b.more (by omega) (by omega), c⟩
  by_cases h3 : k = 3
  · subst h3; rw [if_pos (.inr rfl)]
    exact (does3X h i r hh near hw).mono fun e w' ⟨a, b, c⟩ => ⟨a, b.more (by omega) (by omega), c⟩
  rw [if_neg (fun e => e.elim h2 h3)]
  by_cases h4 : k = 4
  · subst h4; rw [if_pos rfl]
    exact (does4X h i r hh near hw).mono fun e w' ⟨a, b, c⟩ => ⟨a, b.more (by omega) (by omega), c⟩
  rw [if_neg h4]
  by_cases h5 : k = 5
  · subst h5; rw [if_pos rfl]
    exact (does5X h i r hh near).mono fun e w' ⟨a, b, c⟩ => ⟨a, b.more (by omega) (by omega), c⟩
  rw [if_neg h5]
  by_cases h6 : k = 6
  · subst h6; rw [if_pos rfl]
    exact does6X h i r hh near hN hw
  rw [if_neg h6]
  by_cases h7 : k = 7
  · subst h7; rw [if_pos rfl]
    exact (does7X h i r hh near).mono fun e w' ⟨a, b, c⟩ => ⟨a, b.more (by omega) (by omega), c⟩
  rw [if_neg h7]
  by_cases h8 : k = 8
  · subst h8; rw [if_pos rfl]
    exact (does8X h i r hh near).mono fun e w' ⟨a, b, c⟩ => ⟨a, b.more (by omega) (by omega), c⟩
  rw [if_neg h8]
  exact (does9X h k h0 h1 h2 h3 h4 h5 h6 h7 h8 i r hh near).mono fun e w' ⟨a, b, c⟩ => ⟨a, b.more (by omega) (by omega), c⟩
end Go.Proofs.Ytjdkhhkjnnbpoaa
