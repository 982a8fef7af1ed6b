/- handles: the law's did; the reference's New; same. -/
import Derived.Test.YtglhfofofacekaaHfM
set_option linter.unusedVariables false
set_option linter.unusedSimpArgs false
namespace Go.Proofs.Ytglhfofofacekaa
open Go.RowKit

set_option maxRecDepth 100000 in
set_option maxHeartbeats 4000000 in
theorem did0F {w0 : World} {G : Nat → Prop} {b N : Nat} {w : World} {S : Tb} (h : RfF w0 G b w S N) (hN : N < 1000) (i r hh : Int) (near : Bool) : Calls Try.prog 12 #[.pointer (some ⟨b, 0, none⟩), .agg #[.int .i64 0, .int .i64 i, .int .i64 r, .int .i64 hh, .bool near]] w fun e w' => e = .returned (.tuple #[.int .i64 (makeS S i r hh).1, .int .i64 (makeS S i r hh).2.1, .bool false]) ∧ RfF w0 G b w' (makeS S i r hh).2.2 (N + 1) ∧ Kept G w w' := by
  have h1 := h.below ((Below.refl _ w).alloc (Nat.le_refl _) (.cells #[.int .i64 0, .int .i64 i, .int .i64 r, .int .i64 hh, .bool near] 34))
  have HB : Hid (Kept G w (w.alloc (.cells #[.int .i64 0, .int .i64 i, .int .i64 r, .int .i64 hh, .bool near] 34))) := Lib.hid (Kept.of_below ((Below.refl _ w).alloc (Nat.le_refl _) _))
  have HC := h1.make hN i r hh
  generalize makeS S i r hh = m at HC ⊢
  clear h h1
  go_enter Try.func12, Try.ntmps12
  go_wp2_with (go_at_call 30; refine HC.mono ?_; rintro e w1 ⟨rfl, hs, hb⟩)
  go_ret3
  exact ⟨rfl, hs, HB.out.trans hb⟩
set_option maxRecDepth 100000 in
set_option maxHeartbeats 4000000 in
theorem did1F {w0 : World} {G : Nat → Prop} {b N : Nat} {w : World} {S : Tb} (h : RfF w0 G b w S N) (hN : N < 1000) (i r hh : Int) (near : Bool) : Calls Try.prog 12 #[.pointer (some ⟨b, 0, none⟩), .agg #[.int .i64 1, .int .i64 i, .int .i64 r, .int .i64 hh, .bool near]] w fun e w' => e = .returned (.tuple #[.int .i64 (repS S i r hh).1, .int .i64 (repS S i r hh).2, .bool false]) ∧ RfF w0 G b w' S (N + 1) ∧ Kept G w w' := by
  have h1 := h.below ((Below.refl _ w).alloc (Nat.le_refl _) (.cells #[.int .i64 1, .int .i64 i, .int .i64 r, .int .i64 hh, .bool near] 34))
  have HB : Hid (Kept G w (w.alloc (.cells #[.int .i64 1, .int .i64 i, .int .i64 r, .int .i64 hh, .bool near] 34))) := Lib.hid (Kept.of_below ((Below.refl _ w).alloc (Nat.le_refl _) _))
  have HC := h1.rep hN i r hh
  generalize repS S i r hh = m at HC ⊢
  clear h h1
  go_enter Try.func12, Try.ntmps12
  go_wp2_with (go_at_call 31; refine HC.mono ?_; rintro e w1 ⟨rfl, hs, hb⟩)
  go_ret3
  exact ⟨rfl, hs, HB.out.trans hb⟩
set_option maxRecDepth 100000 in
set_option maxHeartbeats 4000000 in
theorem did2F {w0 : World} {G : Nat → Prop} {b N : Nat} {w : World} {S : Tb} (h : RfF w0 G b w S N) (hN : N < 1000) (i r hh : Int) (near : Bool) : Calls Try.prog 12 #[.pointer (some ⟨b, 0, none⟩), .agg #[.int .i64 2, .int .i64 i, .int .i64 r, .int .i64 hh, .bool near]] w fun e w' => e = .returned (.tuple #[.int .i64 (dropS S i r hh).1, .int .i64 (dropS S i r hh).2.2.1, .bool (dropS S i r hh).2.1]) ∧ RfF w0 G b w' (dropS S i r hh).2.2.2 (N + 1) ∧ Kept G w w' := by
  have h1 := h.below ((Below.refl _ w).alloc (Nat.le_refl _) (.cells #[.int .i64 2, .int .i64 i, .int .i64 r, .int .i64 hh, .bool near] 34))
  have HB : Hid (Kept G w (w.alloc (.cells #[.int .i64 2, .int .i64 i, .int .i64 r, .int .i64 hh, .bool near] 34))) := Lib.hid (Kept.of_below ((Below.refl _ w).alloc (Nat.le_refl _) _))
  have HC := h1.drop hN i r hh
  generalize dropS S i r hh = m at HC ⊢
  clear h h1
  go_enter Try.func12, Try.ntmps12
  go_wp2_with (go_at_call 32; refine HC.mono ?_; rintro e w1 ⟨rfl, hs, hb⟩)
  go_ret3
  exact ⟨rfl, hs, HB.out.trans hb⟩
set_option maxRecDepth 100000 in
set_option maxHeartbeats 4000000 in
theorem did3F {w0 : World} {G : Nat → Prop} {b N : Nat} {w : World} {S : Tb} (h : RfF w0 G b w S N) (hN : N < 1000) (i r hh : Int) (near : Bool) : Calls Try.prog 12 #[.pointer (some ⟨b, 0, none⟩), .agg #[.int .i64 3, .int .i64 i, .int .i64 r, .int .i64 hh, .bool near]] w fun e w' => e = .returned (.tuple #[.int .i64 (dropS S i r hh).1, .int .i64 (dropS S i r hh).2.2.1, .bool (dropS S i r hh).2.1]) ∧ RfF w0 G b w' (dropS S i r hh).2.2.2 (N + 1) ∧ Kept G w w' := by
  have h1 := h.below ((Below.refl _ w).alloc (Nat.le_refl _) (.cells #[.int .i64 3, .int .i64 i, .int .i64 r, .int .i64 hh, .bool near] 34))
  have HB : Hid (Kept G w (w.alloc (.cells #[.int .i64 3, .int .i64 i, .int .i64 r, .int .i64 hh, .bool near] 34))) := Lib.hid (Kept.of_below ((Below.refl _ w).alloc (Nat.le_refl _) _))
  have HC := h1.drop hN i r hh
  generalize dropS S i r hh = m at HC ⊢
  clear h h1
  go_enter Try.func12, Try.ntmps12
  go_wp2_with (go_at_call 32; refine HC.mono ?_; rintro e w1 ⟨rfl, hs, hb⟩)
  go_ret3
  exact ⟨rfl, hs, HB.out.trans hb⟩
set_option maxRecDepth 100000 in
set_option maxHeartbeats 4000000 in
theorem did4F {w0 : World} {G : Nat → Prop} {b N : Nat} {w : World} {S : Tb} (h : RfF w0 G b w S N) (hN : N < 1000) (i r hh : Int) (near : Bool) : Calls Try.prog 12 #[.pointer (some ⟨b, 0, none⟩), .agg #[.int .i64 4, .int .i64 i, .int .i64 r, .int .i64 hh, .bool near]] w fun e w' => e = .returned (.tuple #[.int .i64 (takeS S i r hh).1, .int .i64 (takeS S i r hh).2.1, .bool false]) ∧ RfF w0 G b w' (takeS S i r hh).2.2 (N + 1) ∧ Kept G w w' := by
  have h1 := h.below ((Below.refl _ w).alloc (Nat.le_refl _) (.cells #[.int .i64 4, .int .i64 i, .int .i64 r, .int .i64 hh, .bool near] 34))
  have HB : Hid (Kept G w (w.alloc (.cells #[.int .i64 4, .int .i64 i, .int .i64 r, .int .i64 hh, .bool near] 34))) := Lib.hid (Kept.of_below ((Below.refl _ w).alloc (Nat.le_refl _) _))
  have HC := h1.take hN i r hh
  generalize takeS S i r hh = m at HC ⊢
  clear h h1
  go_enter Try.func12, Try.ntmps12
  go_wp2_with (go_at_call 33; refine HC.mono ?_; rintro e w1 ⟨rfl, hs, hb⟩)
  go_ret3
  exact ⟨rfl, hs, HB.out.trans hb⟩
set_option maxRecDepth 100000 in
set_option maxHeartbeats 4000000 in
theorem did5F {w0 : World} {G : Nat → Prop} {b N : Nat} {w : World} {S : Tb} (h : RfF w0 G b w S N) (hN : N < 1000) (i r hh : Int) (near : Bool) : Calls Try.prog 12 #[.pointer (some ⟨b, 0, none⟩), .agg #[.int .i64 5, .int .i64 i, .int .i64 r, .int .i64 hh, .bool near]] w fun e w' => e = .returned (.tuple #[.int .i64 (putS S i r hh).1, .int .i64 (putS S i r hh).2.1, .bool false]) ∧ RfF w0 G b w' (putS S i r hh).2.2 (N + 1) ∧ Kept G w w' := by
  have h1 := h.below ((Below.refl _ w).alloc (Nat.le_refl _) (.cells #[.int .i64 5, .int .i64 i, .int .i64 r, .int .i64 hh, .bool near] 34))
  have HB : Hid (Kept G w (w.alloc (.cells #[.int .i64 5, .int .i64 i, .int .i64 r, .int .i64 hh, .bool near] 34))) := Lib.hid (Kept.of_below ((Below.refl _ w).alloc (Nat.le_refl _) _))
  have HC := h1.put hN i r hh
  generalize putS S i r hh = m at HC ⊢
  clear h h1
  go_enter Try.func12, Try.ntmps12
  go_wp2_with (go_at_call 34; refine HC.mono ?_; rintro e w1 ⟨rfl, hs, hb⟩)
  go_ret3
  exact ⟨rfl, hs, HB.out.trans hb⟩
set_option maxRecDepth 100000 in
set_option maxHeartbeats 4000000 in
theorem did6F {w0 : World} {G : Nat → Prop} {b N : Nat} {w : World} {S : Tb} (h : RfF w0 G b w S N) (hN : N < 1000) (i r hh : Int) (near : Bool) : Calls Try.prog 12 #[.pointer (some ⟨b, 0, none⟩), .agg #[.int .i64 6, .int .i64 i, .int .i64 r, .int .i64 hh, .bool near]] w fun e w' => e = .returned (.tuple #[.int .i64 (lendS S i r hh).1, .int .i64 (lendS S i r hh).2.1, .bool false]) ∧ RfF w0 G b w' (lendS S i r hh).2.2 (N + 1) ∧ Kept G w w' := by
  have h1 := h.below ((Below.refl _ w).alloc (Nat.le_refl _) (.cells #[.int .i64 6, .int .i64 i, .int .i64 r, .int .i64 hh, .bool near] 34))
  have HB : Hid (Kept G w (w.alloc (.cells #[.int .i64 6, .int .i64 i, .int .i64 r, .int .i64 hh, .bool near] 34))) := Lib.hid (Kept.of_below ((Below.refl _ w).alloc (Nat.le_refl _) _))
  have HC := h1.lend hN i r hh
  generalize lendS S i r hh = m at HC ⊢
  clear h h1
  go_enter Try.func12, Try.ntmps12
  go_wp2_with (go_at_call 35; refine HC.mono ?_; rintro e w1 ⟨rfl, hs, hb⟩)
  go_ret3
  exact ⟨rfl, hs, HB.out.trans hb⟩
set_option maxRecDepth 100000 in
set_option maxHeartbeats 4000000 in
theorem did7F {w0 : World} {G : Nat → Prop} {b N : Nat} {w : World} {S : Tb} (h : RfF w0 G b w S N) (hN : N < 1000) (i r hh : Int) (near : Bool) : Calls Try.prog 12 #[.pointer (some ⟨b, 0, none⟩), .agg #[.int .i64 7, .int .i64 i, .int .i64 r, .int .i64 hh, .bool near]] w fun e w' => e = .returned (.tuple #[.int .i64 (borrowS S i r hh).1, .int .i64 (borrowS S i r hh).2.1, .bool false]) ∧ RfF w0 G b w' (borrowS S i r hh).2.2 (N + 1) ∧ Kept G w w' := by
  have h1 := h.below ((Below.refl _ w).alloc (Nat.le_refl _) (.cells #[.int .i64 7, .int .i64 i, .int .i64 r, .int .i64 hh, .bool near] 34))
  have HB : Hid (Kept G w (w.alloc (.cells #[.int .i64 7, .int .i64 i, .int .i64 r, .int .i64 hh, .bool near] 34))) := Lib.hid (Kept.of_below ((Below.refl _ w).alloc (Nat.le_refl _) _))
  have HC := h1.borrow hN i r hh
  generalize borrowS S i r hh = m at HC ⊢
  clear h h1
  go_enter Try.func12, Try.ntmps12
  go_wp2_with (go_at_call 36; refine HC.mono ?_; rintro e w1 ⟨rfl, hs, hb⟩)
  go_ret3
  exact ⟨rfl, hs, HB.out.trans hb⟩
set_option maxRecDepth 100000 in
set_option maxHeartbeats 4000000 in
theorem did8F {w0 : World} {G : Nat → Prop} {b N : Nat} {w : World} {S : Tb} (h : RfF w0 G b w S N) (hN : N < 1000) (i r hh : Int) (near : Bool) : Calls Try.prog 12 #[.pointer (some ⟨b, 0, none⟩), .agg #[.int .i64 8, .int .i64 i, .int .i64 r, .int .i64 hh, .bool near]] w fun e w' => e = .returned (.tuple #[.int .i64 0, .int .i64 (enterS S i).1, .bool false]) ∧ RfF w0 G b w' (enterS S i).2 (N + 1) ∧ Kept G w w' := by
  have h1 := h.below ((Below.refl _ w).alloc (Nat.le_refl _) (.cells #[.int .i64 8, .int .i64 i, .int .i64 r, .int .i64 hh, .bool near] 34))
  have HB : Hid (Kept G w (w.alloc (.cells #[.int .i64 8, .int .i64 i, .int .i64 r, .int .i64 hh, .bool near] 34))) := Lib.hid (Kept.of_below ((Below.refl _ w).alloc (Nat.le_refl _) _))
  have HC := h1.enter hN i
  generalize enterS S i = m at HC ⊢
  clear h h1
  go_enter Try.func12, Try.ntmps12
  go_wp2_with (go_at_call 37; refine HC.mono ?_; rintro e w1 ⟨rfl, hs, hb⟩)
  go_ret3
  exact ⟨rfl, hs, HB.out.trans hb⟩
set_option maxRecDepth 100000 in
set_option maxHeartbeats 4000000 in
theorem did9F {w0 : World} {G : Nat → Prop} {b N : Nat} {w : World} {S : Tb} (h : RfF w0 G b w S N) (hN : N < 1000) (k : Int) (h0 : ¬ k = 0) (h1 : ¬ k = 1) (h2 : ¬ k = 2) (h3 : ¬ k = 3) (h4 : ¬ k = 4) (h5 : ¬ k = 5) (h6 : ¬ k = 6) (h7 : ¬ k = 7) (h8 : ¬ k = 8) (i r hh : Int) (near : Bool) : Calls Try.prog 12 #[.pointer (some ⟨b, 0, none⟩), .agg #[.int .i64 k, .int .i64 i, .int .i64 r, .int .i64 hh, .bool near]] w fun e w' => e = .returned (.tuple #[.int .i64 0, .int .i64 (leaveS S).1, .bool false]) ∧ RfF w0 G b w' (leaveS S).2 (N + 1) ∧ Kept G w w' := by
  have hb1 := h.below ((Below.refl _ w).alloc (Nat.le_refl _) (.cells #[.int .i64 k, .int .i64 i, .int .i64 r, .int .i64 hh, .bool near] 34))
  have HB : Hid (Kept G w (w.alloc (.cells #[.int .i64 k, .int .i64 i, .int .i64 r, .int .i64 hh, .bool near] 34))) := Lib.hid (Kept.of_below ((Below.refl _ w).alloc (Nat.le_refl _) _))
  have HC := hb1.leave hN
  generalize leaveS S = m at HC ⊢
  have e0 : (k == 0) = false := by simp [h0]
  have e1 : (k == 1) = false := by simp [h1]
  have e2 : (k == 2) = false := by simp [h2]
  have e3 : (k == 3) = false := by simp [h3]
  have e4 : (k == 4) = false := by simp [h4]
  have e5 : (k == 5) = false := by simp [h5]
  have e6 : (k == 6) = false := by simp [h6]
  have e7 : (k == 7) = false := by simp [h7]
  have e8 : (k == 8) = false := by simp [h8]
  clear h0 h1 h2 h3 h4 h5 h6 h7 h8
  clear h hb1
  go_enter Try.func12, Try.ntmps12
  go_wp2_with (go_at_call 38; refine HC.mono ?_; rintro e w1 ⟨rfl, hs, hb⟩)
  go_ret3
  exact ⟨rfl, hs, HB.out.trans hb⟩

theorem didF {w0 : World} {G : Nat → Prop} {b N : Nat} {w : World} {S : Tb} (h : RfF w0 G b w S N) (hN : N < 1000) (d : Dh) : Calls Try.prog 12 #[.pointer (some ⟨b, 0, none⟩), d.v] w fun e w' => e = .returned (.tuple #[.int .i64 (doesS S d).1, .int .i64 (doesS S d).2.1, .bool (doesS S d).2.2.1]) ∧ RfF w0 G b w' (doesS S d).2.2.2 (N + 1) ∧ Kept G w w' := by
  obtain ⟨k, i, r, hh, near⟩ := d
  unfold doesS
  dsimp only
  by_cases h0 : k = 0
  · subst h0; rw [if_pos rfl]
    exact did0F h hN i r hh near
  rw [if_neg h0]
  by_cases h1 : k = 1
  · subst h1; rw [if_pos rfl]
    exact did1F h hN i r hh near
  rw [if_neg h1]
  by_cases h2 : k = 2
  · subst h2; rw [if_pos (.inl rfl)]
    exact did2F h hN i r hh near
  by_cases h3 : k = 3
  · subst h3; rw [if_pos (.inr rfl)]
    exact did3F h hN i r hh near
  rw [if_neg (fun e => e.elim h2 h3)]
  by_cases h4 : k = 4
  · subst h4; rw [if_pos rfl]
    exact did4F h hN i r hh near
  rw [if_neg h4]
  by_cases h5 : k = 5
  · subst h5; rw [if_pos rfl]
    exact did5F h hN i r hh near
  rw [if_neg h5]
  by_cases h6 : k = 6
  · subst h6; rw [if_pos rfl]
    exact did6F h hN i r hh near
  rw [if_neg h6]
  by_cases h7 : k = 7
  · subst h7; rw [if_pos rfl]
    exact did7F h hN i r hh near
  rw [if_neg h7]
  by_cases h8 : k = 8
  · subst h8; rw [if_pos rfl]
    exact did8F h hN i r hh near
  rw [if_neg h8]
  exact did9F h hN k h0 h1 h2 h3 h4 h5 h6 h7 h8 i r hh near

set_option maxRecDepth 100000 in
set_option maxHeartbeats 4000000 in
theorem refNew (n : Int) (ca : Option Addr) (c m : Nat) (ms : List Int) (w : World) (h : IntsIn w ca m c ms) :
    Calls Try.prog 6 #[.int .i64 n, .slice ca m c] w fun e w' => (newB n ms = false → e = .returned (.tuple #[.pointer none, .int .i64 1]) ∧ w = w') ∧
      (newB n ms = true → e = .returned (.tuple #[.pointer (some ⟨w.heap.size, 0, none⟩), .int .i64 0]) ∧ w' = w.alloc (.cells #[.int .i64 n, .slice ca m c, .slice none 0 0, .slice none 0 0, .slice none 0 0] 60)) := by
  have hl := h.len
  have HV := Lib.hid h.view
  unfold newB
  rw [hl]
  have HL := Lib.hid hl
  clear h hl
  by_cases h1 : n < 1
  · have e1 : decide (n < 1) = true := decide_eq_true h1
    simp only [e1, Bool.true_or, Bool.not_true]
    clear h1
    go_enter Try.func6, Try.ntmps6
    go_wp2_with fail
    go_ret2
    exact ⟨fun _ => ⟨rfl, rfl⟩, fun e => by cases e⟩
  · have e1 : decide (n < 1) = false := decide_eq_false h1
    by_cases h2 : 4 < n
    · have e2 : decide (4 < n) = true := decide_eq_true h2
      simp only [e1, e2, Bool.true_or, Bool.false_or, Bool.not_true]
      clear h1 h2
      go_enter Try.func6, Try.ntmps6
      go_wp2_with fail
      go_ret2
      exact ⟨fun _ => ⟨rfl, rfl⟩, fun e => by cases e⟩
    · have e2 : decide (4 < n) = false := decide_eq_false h2
      by_cases h3 : 16 < m
      · have e3 : decide ((16 : Int) < (m : Int)) = true := by simp; omega
        simp only [e1, e2, e3, Bool.true_or, Bool.false_or, Bool.not_true]
        clear h1 h2 h3
        go_enter Try.func6, Try.ntmps6
        go_wp2_with fail
        go_ret2
        exact ⟨fun _ => ⟨rfl, rfl⟩, fun e => by cases e⟩
      · have e3 : decide ((16 : Int) < (m : Int)) = false := by simp; omega
        simp only [e1, e2, e3, Bool.false_or]
        have H3 := Lib.hid h3
        clear h1 h2 h3
        go_enter Try.func6, Try.ntmps6
        go_wp2_with fail
        go_loopw [6] (fun kv wr => ∃ k : Nat, kv = .int .i64 k ∧ k ≤ m ∧ w = wr ∧ Hid (∀ j, j < k → (decide (ms.getD j 0 < 0) || decide (n ≤ ms.getD j 0)) = false)) (fun kv _ => m - (intOf kv).toNat)
        case atStart => exact ⟨0, rfl, Nat.zero_le _, rfl, Lib.hid (fun j hj => absurd hj (Nat.not_lt_zero _))⟩
        case round =>
          obtain ⟨k, rfl, hk, rfl, HA⟩ := hrel
          by_cases hlt : k < m
          · obtain ⟨g, o, rfl, hc⟩ := HV.out.resolve_left (by omega)
            have x0 := hc k hlt
            generalize hx : ms.getD k 0 = x at x0
            have HX := Lib.hid hx
            have HLT := Lib.hid hlt
            clear hc hk hx
            have HANY : Hid ((decide (x < 0) || decide (n ≤ x)) = true → ms.any (fun m => decide (m < 0) || decide (n ≤ m)) = true) := Lib.hid (fun hq => List.any_eq_true.2 ⟨x, by rw [← HX.out]; exact mem_getD (by rw [HL.out]; exact hlt), hq⟩)
            by_cases q1 : x < 0
            · have q1' : decide (x < 0) = true := decide_eq_true q1
              clear q1
              go_wp2_with fail
              go_ret2
              have := HANY.out (by rw [q1']; rfl)
              exact ⟨fun _ => ⟨rfl, rfl⟩, fun e => by rw [this] at e; cases e⟩
            · have q1' : decide (x < 0) = false := decide_eq_false q1
              by_cases q2 : n ≤ x
              · have q2' : decide (n ≤ x) = true := decide_eq_true q2
                clear q1 q2
                go_wp2_with fail
                go_ret2
                have := HANY.out (by rw [q2']; simp)
                exact ⟨fun _ => ⟨rfl, rfl⟩, fun e => by rw [this] at e; cases e⟩
              · have q2' : decide (n ≤ x) = false := decide_eq_false q2
                have HQ : Hid ((decide (x < 0) || decide (n ≤ x)) = false) := Lib.hid (by rw [q1', q2']; rfl)
                clear q1 q2
                go_wp2_with fail
                rw [show wrap64 ((k : Int) + 1) = (k : Int) + 1 by have := H3.out; have := HLT.out; unfold wrap64; omega]
                refine ⟨⟨k + 1, by simp, HLT.out, trivial, Lib.hid (fun j hj => ?_)⟩, by have := HLT.out; simp [intOf]; omega⟩
                by_cases hjk : j = k
                · subst hjk
                  rw [HX.out]
                  exact HQ.out
                · exact HA.out j (by omega)
          · have hke : k = m := by omega
            subst hke
            have hno : ms.any (fun m => decide (m < 0) || decide (n ≤ m)) = false := by
              apply List.any_eq_false.2
              intro x hx
              obtain ⟨j, hj, rfl⟩ := getD_of_mem (d := (0 : Int)) hx
              rw [HA.out j (by rw [← HL.out]; exact hj)]
              decide
            have HNO := Lib.hid hno
            clear hlt hk hno
            go_wp2_with fail
            go_ret2
            exact ⟨fun e => (by rw [HNO.out] at e; cases e), fun _ => ⟨rfl, rfl⟩⟩
end Go.Proofs.Ytglhfofofacekaa
