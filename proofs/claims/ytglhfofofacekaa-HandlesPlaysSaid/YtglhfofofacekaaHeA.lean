/- handles: the law's does. -/
import Derived.Test.YtglhfofofacekaaHdZ
set_option linter.unusedVariables false
set_option linter.unusedSimpArgs false
namespace Go.Proofs.Ytglhfofofacekaa
open Go.RowKit

theorem St.more {B a N M : Nat} {w : World} {S : Tb} (h : St B a w S N) (hN : N ≤ M) (hM : M ≤ 100000) : St B a w S M := ⟨h.at', h.ok.mono hN, h.size, hM⟩
/-- What a deed does: its answer, its trap, whether it was owned. -/
def doesS (S : Tb) (d : Dh) : Int × Int × Bool × Tb :=
  if d.kind = 0 then ((makeS S d.i d.r d.h).1, (makeS S d.i d.r d.h).2.1, false, (makeS S d.i d.r d.h).2.2)
  else if d.kind = 1 then ((repS S d.i d.r d.h).1, (repS S d.i d.r d.h).2, false, S)
  else if d.kind = 2 ∨ d.kind = 3 then ((dropS S d.i d.r d.h).1, (dropS S d.i d.r d.h).2.2.1, (dropS S d.i d.r d.h).2.1, (dropS S d.i d.r d.h).2.2.2)
  else if d.kind = 4 then ((takeS S d.i d.r d.h).1, (takeS S d.i d.r d.h).2.1, false, (takeS S d.i d.r d.h).2.2)
  else if d.kind = 5 then ((putS S d.i d.r d.h).1, (putS S d.i d.r d.h).2.1, false, (putS S d.i d.r d.h).2.2)
  else if d.kind = 6 then ((lendS S d.i d.r d.h).1, (lendS S d.i d.r d.h).2.1, false, (lendS S d.i d.r d.h).2.2)
  else if d.kind = 7 then ((borrowS S d.i d.r d.h).1, (borrowS S d.i d.r d.h).2.1, false, (borrowS S d.i d.r d.h).2.2)
  else if d.kind = 8 then (0, (enterS S d.i).1, false, (enterS S d.i).2)
  else (0, (leaveS S).1, false, (leaveS S).2)

set_option maxRecDepth 100000 in
set_option maxHeartbeats 4000000 in
theorem does0 {B a N : Nat} {w : World} {S : Tb} (h : St B a w S N) (i r hh : Int) (near : Bool) : Calls Try.prog 11 #[.pointer (some ⟨a, 0, none⟩), .agg #[.int .i64 0, .int .i64 i, .int .i64 r, .int .i64 hh, .bool near]] w fun e w' => e = .returned (.tuple #[.int .i64 (makeS S i r hh).1, .int .i64 (makeS S i r hh).2.1, .bool false]) ∧ St B a w' (makeS S i r hh).2.2 N ∧ Below B w w' := by
  have h1 := h.below ((Below.refl _ w).alloc (Nat.le_refl _) (.cells #[.int .i64 0, .int .i64 i, .int .i64 r, .int .i64 hh, .bool near] 34))
  have HC := h1.1.make i r hh
  have HB := Lib.hid h1.2
  generalize makeS S i r hh = m at HC ⊢
  clear h h1
  go_enter Try.func11, Try.ntmps11
  go_wp2_with (go_at_call 21; refine HC.mono ?_; rintro e w1 ⟨rfl, hs, hb⟩)
  go_ret3
  exact ⟨rfl, hs, HB.out.trans hb⟩
set_option maxRecDepth 100000 in
set_option maxHeartbeats 4000000 in
theorem does1 {B a N : Nat} {w : World} {S : Tb} (h : St B a w S N) (i r hh : Int) (near : Bool) (hw : wf64 hh) : Calls Try.prog 11 #[.pointer (some ⟨a, 0, none⟩), .agg #[.int .i64 1, .int .i64 i, .int .i64 r, .int .i64 hh, .bool near]] w fun e w' => e = .returned (.tuple #[.int .i64 (repS S i r hh).1, .int .i64 (repS S i r hh).2, .bool false]) ∧ St B a w' S N ∧ Below B w w' := by
  have h1 := h.below ((Below.refl _ w).alloc (Nat.le_refl _) (.cells #[.int .i64 1, .int .i64 i, .int .i64 r, .int .i64 hh, .bool near] 34))
  have HC := h1.1.rep i r hh hw
  have HB := Lib.hid h1.2
  generalize repS S i r hh = m at HC ⊢
  clear h h1
  go_enter Try.func11, Try.ntmps11
  go_wp2_with (go_at_call 27; refine HC.mono ?_; rintro e w1 ⟨rfl, hs, hb⟩)
  go_ret3
  exact ⟨rfl, hs, HB.out.trans hb⟩
set_option maxRecDepth 100000 in
set_option maxHeartbeats 4000000 in
theorem does2 {B a N : Nat} {w : World} {S : Tb} (h : St B a w S N) (i r hh : Int) (near : Bool) (hw : wf64 hh) : Calls Try.prog 11 #[.pointer (some ⟨a, 0, none⟩), .agg #[.int .i64 2, .int .i64 i, .int .i64 r, .int .i64 hh, .bool near]] w fun e w' => e = .returned (.tuple #[.int .i64 (dropS S i r hh).1, .int .i64 (dropS S i r hh).2.2.1, .bool (dropS S i r hh).2.1]) ∧ St B a w' (dropS S i r hh).2.2.2 N ∧ Below B w w' := by
  have h1 := h.below ((Below.refl _ w).alloc (Nat.le_refl _) (.cells #[.int .i64 2, .int .i64 i, .int .i64 r, .int .i64 hh, .bool near] 34))
  have HC := h1.1.drop i r hh hw
  have HB := Lib.hid h1.2
  generalize dropS S i r hh = m at HC ⊢
  clear h h1
  go_enter Try.func11, Try.ntmps11
  go_wp2_with (go_at_call 25; refine HC.mono ?_; rintro e w1 ⟨rfl, hs, hb⟩)
  go_ret3
  exact ⟨rfl, hs, HB.out.trans hb⟩
set_option maxRecDepth 100000 in
set_option maxHeartbeats 4000000 in
theorem does3 {B a N : Nat} {w : World} {S : Tb} (h : St B a w S N) (i r hh : Int) (near : Bool) (hw : wf64 hh) : Calls Try.prog 11 #[.pointer (some ⟨a, 0, none⟩), .agg #[.int .i64 3, .int .i64 i, .int .i64 r, .int .i64 hh, .bool near]] w fun e w' => e = .returned (.tuple #[.int .i64 (dropS S i r hh).1, .int .i64 (dropS S i r hh).2.2.1, .bool (dropS S i r hh).2.1]) ∧ St B a w' (dropS S i r hh).2.2.2 N ∧ Below B w w' := by
  have h1 := h.below ((Below.refl _ w).alloc (Nat.le_refl _) (.cells #[.int .i64 3, .int .i64 i, .int .i64 r, .int .i64 hh, .bool near] 34))
  have HC := h1.1.drop i r hh hw
  have HB := Lib.hid h1.2
  generalize dropS S i r hh = m at HC ⊢
  clear h h1
  go_enter Try.func11, Try.ntmps11
  go_wp2_with (go_at_call 25; refine HC.mono ?_; rintro e w1 ⟨rfl, hs, hb⟩)
  go_ret3
  exact ⟨rfl, hs, HB.out.trans hb⟩
set_option maxRecDepth 100000 in
set_option maxHeartbeats 4000000 in
theorem does4 {B a N : Nat} {w : World} {S : Tb} (h : St B a w S N) (i r hh : Int) (near : Bool) (hw : wf64 hh) : Calls Try.prog 11 #[.pointer (some ⟨a, 0, none⟩), .agg #[.int .i64 4, .int .i64 i, .int .i64 r, .int .i64 hh, .bool near]] w fun e w' => e = .returned (.tuple #[.int .i64 (takeS S i r hh).1, .int .i64 (takeS S i r hh).2.1, .bool false]) ∧ St B a w' (takeS S i r hh).2.2 N ∧ Below B w w' := by
  have h1 := h.below ((Below.refl _ w).alloc (Nat.le_refl _) (.cells #[.int .i64 4, .int .i64 i, .int .i64 r, .int .i64 hh, .bool near] 34))
  have HC := h1.1.take i r hh hw
  have HB := Lib.hid h1.2
  generalize takeS S i r hh = m at HC ⊢
  clear h h1
  go_enter Try.func11, Try.ntmps11
  go_wp2_with (go_at_call 28; refine HC.mono ?_; rintro e w1 ⟨rfl, hs, hb⟩)
  go_ret3
  exact ⟨rfl, hs, HB.out.trans hb⟩
set_option maxRecDepth 100000 in
set_option maxHeartbeats 4000000 in
theorem does5 {B a N : Nat} {w : World} {S : Tb} (h : St B a w S N) (i r hh : Int) (near : Bool) : Calls Try.prog 11 #[.pointer (some ⟨a, 0, none⟩), .agg #[.int .i64 5, .int .i64 i, .int .i64 r, .int .i64 hh, .bool near]] w fun e w' => e = .returned (.tuple #[.int .i64 (putS S i r hh).1, .int .i64 (putS S i r hh).2.1, .bool false]) ∧ St B a w' (putS S i r hh).2.2 N ∧ Below B w w' := by
  have h1 := h.below ((Below.refl _ w).alloc (Nat.le_refl _) (.cells #[.int .i64 5, .int .i64 i, .int .i64 r, .int .i64 hh, .bool near] 34))
  have HC := h1.1.put i r hh
  have HB := Lib.hid h1.2
  generalize putS S i r hh = m at HC ⊢
  clear h h1
  go_enter Try.func11, Try.ntmps11
  go_wp2_with (go_at_call 29; refine HC.mono ?_; rintro e w1 ⟨rfl, hs, hb⟩)
  go_ret3
  exact ⟨rfl, hs, HB.out.trans hb⟩
set_option maxRecDepth 100000 in
set_option maxHeartbeats 4000000 in
theorem does6 {B a N : Nat} {w : World} {S : Tb} (h : St B a w S N) (i r hh : Int) (near : Bool) (hN : N < 100000) (hw : wf64 hh) : Calls Try.prog 11 #[.pointer (some ⟨a, 0, none⟩), .agg #[.int .i64 6, .int .i64 i, .int .i64 r, .int .i64 hh, .bool near]] w fun e w' => e = .returned (.tuple #[.int .i64 (lendS S i r hh).1, .int .i64 (lendS S i r hh).2.1, .bool false]) ∧ St B a w' (lendS S i r hh).2.2 (N + 1) ∧ Below B w w' := by
  have h1 := h.below ((Below.refl _ w).alloc (Nat.le_refl _) (.cells #[.int .i64 6, .int .i64 i, .int .i64 r, .int .i64 hh, .bool near] 34))
  have HC := h1.1.lend hN i r hh hw
  have HB := Lib.hid h1.2
  generalize lendS S i r hh = m at HC ⊢
  clear h h1
  go_enter Try.func11, Try.ntmps11
  go_wp2_with (go_at_call 23; refine HC.mono ?_; rintro e w1 ⟨rfl, hs, hb⟩)
  go_ret3
  exact ⟨rfl, hs, HB.out.trans hb⟩
set_option maxRecDepth 100000 in
set_option maxHeartbeats 4000000 in
theorem does7 {B a N : Nat} {w : World} {S : Tb} (h : St B a w S N) (i r hh : Int) (near : Bool) : Calls Try.prog 11 #[.pointer (some ⟨a, 0, none⟩), .agg #[.int .i64 7, .int .i64 i, .int .i64 r, .int .i64 hh, .bool near]] w fun e w' => e = .returned (.tuple #[.int .i64 (borrowS S i r hh).1, .int .i64 (borrowS S i r hh).2.1, .bool false]) ∧ St B a w' (borrowS S i r hh).2.2 N ∧ Below B w w' := by
  have h1 := h.below ((Below.refl _ w).alloc (Nat.le_refl _) (.cells #[.int .i64 7, .int .i64 i, .int .i64 r, .int .i64 hh, .bool near] 34))
  have HC := h1.1.borrow i r hh
  have HB := Lib.hid h1.2
  generalize borrowS S i r hh = m at HC ⊢
  clear h h1
  go_enter Try.func11, Try.ntmps11
  go_wp2_with (go_at_call 24; refine HC.mono ?_; rintro e w1 ⟨rfl, hs, hb⟩)
  go_ret3
  exact ⟨rfl, hs, HB.out.trans hb⟩
set_option maxRecDepth 100000 in
set_option maxHeartbeats 4000000 in
theorem does8 {B a N : Nat} {w : World} {S : Tb} (h : St B a w S N) (i r hh : Int) (near : Bool) : Calls Try.prog 11 #[.pointer (some ⟨a, 0, none⟩), .agg #[.int .i64 8, .int .i64 i, .int .i64 r, .int .i64 hh, .bool near]] w fun e w' => e = .returned (.tuple #[.int .i64 0, .int .i64 (enterS S i).1, .bool false]) ∧ St B a w' (enterS S i).2 N ∧ Below B w w' := by
  have h1 := h.below ((Below.refl _ w).alloc (Nat.le_refl _) (.cells #[.int .i64 8, .int .i64 i, .int .i64 r, .int .i64 hh, .bool near] 34))
  have HC := h1.1.enter i
  have HB := Lib.hid h1.2
  generalize enterS S i = m at HC ⊢
  clear h h1
  go_enter Try.func11, Try.ntmps11
  go_wp2_with (go_at_call 22; refine HC.mono ?_; rintro e w1 ⟨rfl, hs, hb⟩)
  go_ret3
  exact ⟨rfl, hs, HB.out.trans hb⟩
set_option maxRecDepth 100000 in
set_option maxHeartbeats 4000000 in
theorem does9 {B a N : Nat} {w : World} {S : Tb} (h : St B a w S N) (k : Int) (h0 : ¬ k = 0) (h1 : ¬ k = 1) (h2 : ¬ k = 2) (h3 : ¬ k = 3) (h4 : ¬ k = 4) (h5 : ¬ k = 5) (h6 : ¬ k = 6) (h7 : ¬ k = 7) (h8 : ¬ k = 8) (i r hh : Int) (near : Bool) : Calls Try.prog 11 #[.pointer (some ⟨a, 0, none⟩), .agg #[.int .i64 k, .int .i64 i, .int .i64 r, .int .i64 hh, .bool near]] w fun e w' => e = .returned (.tuple #[.int .i64 0, .int .i64 (leaveS S).1, .bool false]) ∧ St B a w' (leaveS S).2 N ∧ Below B w w' := by
  have hb1 := h.below ((Below.refl _ w).alloc (Nat.le_refl _) (.cells #[.int .i64 k, .int .i64 i, .int .i64 r, .int .i64 hh, .bool near] 34))
  have HC := hb1.1.leave
  have HB := Lib.hid hb1.2
  generalize leaveS S = m at HC ⊢
  have e0 : (k == 0) = false := by simp [h0]
  have e1 : (k == 1) = false := by simp [h1]
  have e2 : (k == 2) = false := by simp [h2]
  have e3 : (k == 3) = false := by simp [h3]
  have e4 : (k == 4) = false := by simp [h4]
  have e5 : (k == 5) = false := by simp [h5]
  have e6 : (k == 6) = false := by simp [h6]
  have e7 : (k == 7) = false := by simp [h7]
  have e8 : (k == 8) = false := by simp [h8]
  clear h0 h1 h2 h3 h4 h5 h6 h7 h8
  clear h hb1
  go_enter Try.func11, Try.ntmps11
  go_wp2_with (go_at_call 26; refine HC.mono ?_; rintro e w1 ⟨rfl, hs, hb⟩)
  go_ret3
  exact ⟨rfl, hs, HB.out.trans hb⟩

theorem does {B a N : Nat} {w : World} {S : Tb} (h : St B a w S N) (hN : N < 100000) (d : Dh) (hw : wf64 d.h) : Calls Try.prog 11 #[.pointer (some ⟨a, 0, none⟩), d.v] w fun e w' => e = .returned (.tuple #[.int .i64 (doesS S d).1, .int .i64 (doesS S d).2.1, .bool (doesS S d).2.2.1]) ∧ St B a w' (doesS S d).2.2.2 (N + 1) ∧ Below B w w' := by
  obtain ⟨k, i, r, hh, near⟩ := d
  dsimp only at hw
  unfold doesS
  dsimp only
  by_cases h0 : k = 0
  · subst h0; rw [if_pos rfl]
    exact (does0 h i r hh near).mono fun e w' ⟨a, b, c⟩ => ⟨a, b.more (by omega) (by omega), c⟩
  rw [if_neg h0]
  by_cases h1 : k = 1
  · subst h1; rw [if_pos rfl]
    exact (does1 h i r hh near hw).mono fun e w' ⟨a, b, c⟩ => ⟨a, b.more (by omega) (by omega), c⟩
  rw [if_neg h1]
  by_cases h2 : k = 2
  · subst h2; rw [if_pos (.inl rfl)]
    exact (does2 h i r hh near hw).mono fun e w' ⟨a, b, c⟩ => ⟨a, b.more (by omega) (by omega), c⟩
  by_cases h3 : k = 3
  · subst h3; rw [if_pos (.inr rfl)]
    exact (does3 h i r hh near hw).mono fun e w' ⟨a, b, c⟩ => ⟨a, b.more (by omega) (by omega), c⟩
  rw [if_neg (fun e => e.elim h2 h3)]
  by_cases h4 : k = 4
  · subst h4; rw [if_pos rfl]
    exact (does4 h i r hh near hw).mono fun e w' ⟨a, b, c⟩ => ⟨a, b.more (by omega) (by omega), c⟩
  rw [if_neg h4]
  by_cases h5 : k = 5
  · subst h5; rw [if_pos rfl]
    exact (does5 h i r hh near).mono fun e w' ⟨a, b, c⟩ => ⟨a, b.more (by omega) (by omega), c⟩
  rw [if_neg h5]
  by_cases h6 : k = 6
  · subst h6; rw [if_pos rfl]
    exact does6 h i r hh near hN hw
  rw [if_neg h6]
  by_cases h7 : k = 7
  · subst h7; rw [if_pos rfl]
    exact (does7 h i r hh near).mono fun e w' ⟨a, b, c⟩ => ⟨a, b.more (by omega) (by omega), c⟩
  rw [if_neg h7]
  by_cases h8 : k = 8
  · subst h8; rw [if_pos rfl]
    exact (does8 h i r hh near).mono fun e w' ⟨a, b, c⟩ => ⟨a, b.more (by omega) (by omega), c⟩
  rw [if_neg h8]
  exact (does9 h k h0 h1 h2 h3 h4 h5 h6 h7 h8 i r hh near).mono fun e w' ⟨a, b, c⟩ => ⟨a, b.more (by omega) (by omega), c⟩
end Go.Proofs.Ytglhfofofacekaa
