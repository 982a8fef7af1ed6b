/- The project's new memories, clones, and growing. -/
import Derived.Test.YtogkieekpmcinaaMemG
import Derived.Test.YtogkieekpmcinaaMemZ
namespace Go.Proofs.Ytogkieekpmcinaa
open Go.RowKit

/-- What Check tells. -/
def checkE (mn mx : Int) : Int := if mayB mn mx = true then 0 else 8
set_option maxRecDepth 100000 in
theorem check_any (mn mx : Int) (w : World) :
    Calls Try.prog 11 #[.agg #[.int .i64 mn, .int .i64 mx]] w fun e w' => e = .returned (.int .i64 (checkE mn mx)) ∧ Below w.heap.size w w' := by
  obtain ⟨r, hr⟩ : ∃ r, r = checkE mn mx := ⟨_, rfl⟩
  rw [← hr]
  have hb0 : ∀ b, mayB mn mx = b → r = if b = true then 0 else 8 := fun b h => by rw [hr, ← h]; rfl
  have key : (mn < 0 ∧ r = 8) ∨ (0 ≤ mn ∧ 16 < mn ∧ r = 8) ∨ (0 ≤ mn ∧ mn ≤ 16 ∧ mx = -1 ∧ r = 0) ∨ (0 ≤ mn ∧ mn ≤ 16 ∧ ¬ mx = -1 ∧ mx < mn ∧ r = 8) ∨
      (0 ≤ mn ∧ mn ≤ 16 ∧ ¬ mx = -1 ∧ mn ≤ mx ∧ 16 < mx ∧ r = 8) ∨ (0 ≤ mn ∧ mn ≤ 16 ∧ ¬ mx = -1 ∧ mn ≤ mx ∧ mx ≤ 16 ∧ r = 0) := by
    by_cases h1 : mn < 0
    · exact .inl ⟨h1, hb0 false (decide_eq_false (by omega))⟩
    by_cases h2 : 16 < mn
    · exact .inr (.inl ⟨by omega, h2, hb0 false (decide_eq_false (by omega))⟩)
    by_cases h3 : mx = -1
    · exact .inr (.inr (.inl ⟨by omega, by omega, h3, hb0 true (decide_eq_true (by omega))⟩))
    by_cases h4 : mx < mn
    · exact .inr (.inr (.inr (.inl ⟨by omega, by omega, h3, h4, hb0 false (decide_eq_false (by omega))⟩)))
    by_cases h5 : 16 < mx
    · exact .inr (.inr (.inr (.inr (.inl ⟨by omega, by omega, h3, by omega, h5, hb0 false (decide_eq_false (by omega))⟩))))
    · exact .inr (.inr (.inr (.inr (.inr ⟨by omega, by omega, h3, by omega, by omega, hb0 true (decide_eq_true (by omega))⟩))))
  clear hr hb0
  have HB := Lib.hid ((Below.refl w.heap.size w).alloc (Nat.le_refl _) (.cells #[.int .i64 mn, .int .i64 mx] 23))
  rcases key with ⟨h1, rfl⟩ | ⟨h1, h2, rfl⟩ | ⟨h1, h2, rfl, rfl⟩ | ⟨h1, h2, h3, h4, rfl⟩ | ⟨h1, h2, h3, h4, h5, rfl⟩ | ⟨h1, h2, h3, h4, h5, rfl⟩
  all_goals
    go_enter Try.func11, Try.ntmps11
    go_wp2_with fail
    go_ret
    exact ⟨rfl, HB.out⟩
theorem i_of_u8 : ∃ i, Try.prog.info? 5 = some i ∧ i.zero = some (.int .u8 0) ∧ i.size = 1 ∧ i.bytes = 1 := by
  have h := info_u8'
  rw [Option.map_eq_some_iff] at h
  obtain ⟨i, h1, h2⟩ := h
  simp only [Prod.mk.injEq] at h2
  exact ⟨i, h1, h2.1, h2.2.1, h2.2.2⟩
theorem growS_map (S : List Int) (q : Nat) : (growS S q).map (Value.int .u8) = S.map (Value.int .u8) ++ List.replicate (q * 65536) (.int .u8 0) := by
  unfold growS
  rw [List.map_append, List.map_replicate]
theorem growS_length (S : List Int) (q : Nat) : (growS S q).length = S.length + q * 65536 := by
  unfold growS
  rw [List.length_append, List.length_replicate]
/-- What the append of zeros leaves. -/
theorem PMem.zeros {a g cap : Nat} {S : List Int} {mo : Int} {w : World} (h : PMem a g cap S mo w) (q : Nat) (hq : q ≤ 16) :
    ∃ g2 cap2 w1, (∀ ty, (Builtin.append_ #[39, 3] ty #[.slice (some ⟨g, 0, none⟩) S.length cap, .int .i64 (q * 65536 : Nat)]).run Try.prog w = .ok (.slice (some ⟨g2, 0, none⟩) (S.length + q * 65536) cap2) w1) ∧
      w1.ownsRow 0 5 1 (.slice (some ⟨g2, 0, none⟩) (S.length + q * 65536) cap2) (S.length + q * 65536) ((growS S q).map (Value.int .u8)) ∧ Kept (· = g) w w1 ∧ (g2 = g ∨ w.heap.size ≤ g2) := by
  obtain ⟨i, hi, hz, hs, hb⟩ := i_of_u8
  obtain ⟨cur, hcur, hsz, ht⟩ := h.row
  have hcap := h.caps
  have hlen := h.len
  have hl := growS_length S q
  by_cases h0 : q = 0
  · subst h0
    refine ⟨g, cap, w, fun ty => run_append_zeros_none w _ _ ty _ i Try.underlying39 Try.underlying3 hi hb _ _ _ hcap.1, ?_, Kept.refl _ _, .inl rfl⟩
    have e : growS S 0 = S := by simp [growS]
    rw [e]
    exact h.own
  · have hm0 : ¬ q * 65536 = 0 := by omega
    have hml : ((growS S q).map (Value.int .u8)).length = S.length + q * 65536 := by rw [List.length_map, hl]
    by_cases hr : S.length + q * 65536 ≤ cap
    · refine ⟨g, cap, _, fun ty => run_append_zeros_room w _ _ ty _ i _ Try.underlying39 Try.underlying3 hi hz hs hb rfl rfl g S.length cap (q * 65536) cur hcur (by omega) hm0 hr (by omega), ?_, Kept.row (F := (· = g)) (Kept.refl _ _) rfl _, .inl rfl⟩
      refine ⟨by rw [hml, Nat.mul_one], .inr ⟨g, cap, _, rfl, Nat.zero_le _, setRow_heap w g cur _ _ _ hcur, hr, by unfold maxLen; omega, ?_, ?_⟩⟩
      · simp only [List.size_toArray, List.length_append, List.length_take, List.length_drop, Array.length_toList, List.length_replicate]
        omega
      · rw [Nat.mul_one, ht, ← growS_map]
        exact List.take_left' hml
    · have hge := grownCap_ge w (S.length + q * 65536) cap 5
      have hle := grownCap_le_maxLen w (S.length + q * 65536) cap 5 (by unfold maxLen; omega)
      refine ⟨w.heap.size, _, _, fun ty => run_append_zeros_grow w _ _ ty _ i _ Try.underlying39 Try.underlying3 hi hz hs hb rfl ⟨g, 0, none⟩ S.length cap (q * 65536) (S.map (Value.int .u8)) (by rw [List.length_map]) (World.ownsRow.cells h.own rfl) (by omega) (by omega) hm0, ?_, ⟨rfl, rfl, rfl, by simp, fun k hk _ => Below.heap_alloc w.drew _ k hk⟩, .inr (Nat.le_refl _)⟩
      refine ⟨by rw [hml, Nat.mul_one], .inr ⟨w.heap.size, _, _, rfl, Nat.zero_le _, heap_alloc_new w.drew _, by omega, hle, ?_, ?_⟩⟩
      · simp only [List.size_toArray, List.length_append, List.length_map, List.length_replicate]
        omega
      · rw [Nat.mul_one, ← growS_map]
        exact List.take_left' hml
/-- How many pages more there may be. -/
theorem room_any (a g cap : Nat) (S : List Int) (mo : Int) (P : Nat) (w : World) (h : PMem a g cap S mo w) (hP : S.length = P * 65536) (hm : 0 ≤ mostOf mo ∧ mostOf mo ≤ 16) :
    Calls Try.prog 43 #[.pointer (some ⟨a, 0, none⟩)] w fun e w' => e = .returned (.int .i64 (mostOf mo - P)) ∧ Below w.heap.size w w' := by
  have hlen := h.len
  have hs := h.most
  have HG : Hid (∀ w', Below w.heap.size w w' → Calls Try.prog 25 #[.pointer (some ⟨a, 0, none⟩)] w' fun e w2 => e = .returned (.int .i64 P) ∧ w' = w2) := Lib.hid fun w' hb => by
    have := pages_any a g cap S mo w' (h.kept (Kept.of_below (F := fun _ => False) hb) id id)
    rwa [show S.length / 65536 = P by omega] at this
  have hP16 : P ≤ 16 := by omega
  clear hP h
  unfold mostOf at hm ⊢
  by_cases hx : mo = -1
  · subst hx
    rw [if_pos rfl]
    go_enter Try.func43, Try.ntmps43
    go_wp2_with (go_at_call 25; refine (HG.out _ (Below.refl _ _)).mono ?_; rintro e w2 ⟨rfl, rfl⟩)
    go_ret
    exact ⟨rfl, Below.refl _ _⟩
  · have hx' : (mo == -1) = false := by simpa using hx
    rw [if_neg hx] at hm ⊢
    clear hx
    go_enter Try.func43, Try.ntmps43
    go_wp2_with fail
    go_quiet ((go_at_call 25; exact Calls.quiet_of_same ((HG.out _ (below_drewN (Below.refl _ _) _)).mono fun e w1 h => ⟨h.1, h.2.symm⟩)))
    go_wp2
    go_ret
    exact ⟨rfl, below_drewN (Below.refl _ _) _⟩
end Go.Proofs.Ytogkieekpmcinaa
