/- lex: the document's own names: the walk. -/
import Derived.Test.YtlkbgdhlbdjbiaaDoorLexT
namespace Go.Proofs.YtlkbgdhlbdjbiaaDoor
open Go.RowKit
open Lex

theorem ltr_knd (c : Int) : (ltr c = true ∧ knd c = 1) ∨ (ltr c = true ∧ knd c = 2) ∨ (ltr c = false ∧ knd c ≠ 1 ∧ knd c ≠ 2) := by
  unfold ltr
  cases h : sml c
  · cases h2 : grt c
    · refine .inr (.inr ⟨rfl, fun e => ?_, fun e => ?_⟩)
      · rw [knd_1 e] at h; cases h
      · rw [knd_2 e] at h2; cases h2
    · exact .inr (.inl ⟨rfl, knd_g h2⟩)
  · exact .inl ⟨rfl, knd_s h⟩
set_option maxRecDepth 100000 in
set_option maxHeartbeats 1000000 in
theorem refName_go (s : ByteArray) (h1 : 1 ≤ s.size) (h100 : s.size ≤ 100) (w : World) :
    Calls Tryd.prog 55 #[.string s] w fun e w' => e = .returned (.bool (goR true 0 (bl s))) ∧ w = w' := by
  obtain ⟨R, hR⟩ : ∃ R, R = goR true 0 (bl s) := ⟨_, rfl⟩
  rw [← hR]
  have HR := Lib.hid hR
  clear hR
  go_enter Tryd.func55, Tryd.ntmps55
  go_wp2_with fail
  go_loop [3, 4, 5] (fun zv iv _ => ∃ (z : Int) (i : Nat) (st : Bool), zv = .int .i64 z ∧ iv = .int .i64 i ∧ i ≤ s.size ∧ (i = 0 → st = true) ∧ (∀ j, i = j + 1 → st = ((bl s).getD j 0 == 45)) ∧ R = goR st z ((bl s).drop i)) (fun _ iv _ => s.size - (intOf iv).toNat)
  case atStart => exact ⟨0, 0, true, rfl, rfl, by omega, fun _ => rfl, fun j h => by omega, HR.out⟩
  case round =>
    obtain ⟨z, i, st, rfl, rfl, hi, hst0, hst1, hgo⟩ := hrel
    by_cases hlt : i < s.size
    · rw [bl_cons hlt, bl_get s i hlt] at hgo
      obtain ⟨c, hc⟩ : ∃ c : Nat, c = s[i].toNat := ⟨_, rfl⟩
      have hnext : ∀ j, i + 1 = j + 1 → ((c : Int) == 45) = ((bl s).getD j 0 == 45) := fun j hj => by
        have : j = i := by omega
        subst this
        rw [bl_get s j hlt, hc]
      rw [← hc] at hgo
      have HN := Lib.hid hnext
      clear hnext
      have hfirst : (i = 0 ∧ st = true) ∨ (∃ j, i = j + 1 ∧ ∃ hj : j < s.size, ((s[j].toNat : Int) == 45) = st) := by
        cases i with
        | zero => exact .inl ⟨rfl, hst0 rfl⟩
        | succ j => exact .inr ⟨j, rfl, by omega, by rw [hst1 j rfl, bl_get s j (by omega)]⟩
      clear hst0 hst1
      cases st with
      | true =>
        rw [goR_t] at hgo
        rcases ltr_knd c with ⟨hl, hk⟩ | ⟨hl, hk⟩ | ⟨hl, hk1, hk2⟩
        · rw [if_pos hl, hk] at hgo
          have h45 : ((c : Int) == 45) = false := by
            rw [Bool.eq_false_iff]
            intro e
            rw [beq_iff_eq.1 e] at hl
            exact absurd hl (by decide)
          have HG := Lib.hid hgo
          have HK := Lib.hid hk
          rw [h45] at HN
          clear hgo hk hl h45
          rcases hfirst with ⟨rfl, _⟩ | ⟨j, rfl, hj, hs⟩
          all_goals
            go_wp2_with (go_at_call 59; refine (kind_any _ _).mono ?_; rintro e w1 ⟨rfl, rfl⟩; rw [← hc, HK.out])
          · exact ⟨⟨1, 1, false, rfl, rfl, by omega, fun h => by omega, HN.out, HG.out⟩, by simp [intOf]; omega⟩
          · exact ⟨⟨1, j + 1 + 1, false, rfl, by go_num, by omega, fun h => by omega, HN.out, HG.out⟩, by simp [intOf]; omega⟩
        · rw [if_pos hl, hk] at hgo
          have h45 : ((c : Int) == 45) = false := by
            rw [Bool.eq_false_iff]
            intro e
            rw [beq_iff_eq.1 e] at hl
            exact absurd hl (by decide)
          have HG := Lib.hid hgo
          have HK := Lib.hid hk
          rw [h45] at HN
          clear hgo hk hl h45
          rcases hfirst with ⟨rfl, _⟩ | ⟨j, rfl, hj, hs⟩
          all_goals
            go_wp2_with (go_at_call 59; refine (kind_any _ _).mono ?_; rintro e w1 ⟨rfl, rfl⟩; rw [← hc, HK.out])
          · exact ⟨⟨2, 1, false, rfl, rfl, by omega, fun h => by omega, HN.out, HG.out⟩, by simp [intOf]; omega⟩
          · exact ⟨⟨2, j + 1 + 1, false, rfl, by go_num, by omega, fun h => by omega, HN.out, HG.out⟩, by simp [intOf]; omega⟩
        · rw [if_neg (by rw [hl]; decide)] at hgo
          have HG := Lib.hid hgo
          obtain ⟨kc, hkc⟩ : ∃ kc, kc = knd c := ⟨_, rfl⟩
          rw [← hkc] at hk1 hk2
          have HK := Lib.hid hkc.symm
          have t1 : (kc != 1) = true := by simpa using hk1
          have t2 : (kc != 2) = true := by simpa using hk2
          clear hgo hkc hl hk1 hk2 HN
          rcases hfirst with ⟨rfl, _⟩ | ⟨j, rfl, hj, hs⟩
          all_goals
            go_wp2_with (go_at_call 59; refine (kind_any _ _).mono ?_; rintro e w1 ⟨rfl, rfl⟩; rw [← hc, HK.out])
            go_ret
            rw [HG.out]
            exact ⟨rfl, rfl⟩
      | false =>
        rw [goR_f] at hgo
        obtain ⟨j, rfl, hj, hs⟩ : ∃ j, i = j + 1 ∧ ∃ hj : j < s.size, ((s[j].toNat : Int) == 45) = false := by
          rcases hfirst with ⟨_, h⟩ | h
          · cases h
          · exact h
        obtain ⟨kc, hkc⟩ : ∃ kc, kc = knd c := ⟨_, rfl⟩
        rw [← hkc] at hgo
        have HK := Lib.hid hkc.symm
        clear hfirst hkc
        by_cases hk : kc = z ∨ kc = 3 ∨ kc = 4
        · rw [if_pos hk] at hgo
          have HG := Lib.hid hgo
          have ht : (kc != z) = false ∨ ((kc != z) = true ∧ (kc != 3) = false) ∨ ((kc != z) = true ∧ (kc != 3) = true ∧ (kc != 4) = false) := by
            by_cases h1 : kc = z
            · exact .inl (by simpa using h1)
            · by_cases h2 : kc = 3
              · exact .inr (.inl ⟨by simpa using h1, by simpa using h2⟩)
              · exact .inr (.inr ⟨by simpa using h1, by simpa using h2, by simp; omega⟩)
          clear hgo hk
          rcases ht with h | ⟨h, h'⟩ | ⟨h, h', h''⟩
          all_goals
            go_wp2_with (go_at_call 59; refine (kind_any _ _).mono ?_; rintro e w1 ⟨rfl, rfl⟩; rw [← hc, HK.out])
            exact ⟨⟨z, j + 1 + 1, _, rfl, by go_num, by omega, fun h => by omega, HN.out, HG.out⟩, by simp [intOf]; omega⟩
        · rw [if_neg hk] at hgo
          have HG := Lib.hid hgo
          have t1 : (kc != z) = true := by simp; omega
          have t2 : (kc != 3) = true := by simp; omega
          have t3 : (kc != 4) = true := by simp; omega
          clear hgo hk HN
          go_wp2_with (go_at_call 59; refine (kind_any _ _).mono ?_; rintro e w1 ⟨rfl, rfl⟩; rw [← hc, HK.out])
          go_ret
          rw [HG.out]
          exact ⟨rfl, rfl⟩
    · have hl : i = s.size := by omega
      rw [bl_over (by omega)] at hgo
      have hj : s.size - 1 < s.size := by omega
      have hb := hst1 (s.size - 1) (by omega)
      rw [bl_get s (s.size - 1) hj] at hb
      have hfin : R = !((s[s.size - 1].toNat : Int) == 45) := by rw [hgo, hb]; cases ((s[s.size - 1].toNat : Int) == 45) <;> rfl
      have HF := Lib.hid hfin
      subst hl
      clear hgo hb hst0 hst1 hfin
      go_wp2_with fail
      go_ret
      rw [HF.out]
      exact ⟨rfl, rfl⟩
theorem refName_any (s : ByteArray) (hs : s.size ≤ maxLen) (w : World) :
    Calls Tryd.prog 55 #[.string s] w fun e w' => e = .returned (.bool (nameL (bl s))) ∧ w = w' := by
  rw [name_goR _ 0, bl_length]
  by_cases h100 : s.size ≤ 100
  · rw [decide_eq_true h100, Bool.true_and]
    by_cases h1 : 1 ≤ s.size
    · exact refName_go s h1 h100 w
    · have hz : s.size = 0 := by omega
      have hR : Hid (goR true 0 (bl s) = false) := Lib.hid (by rw [bl_zero hz]; rfl)
      clear h1 h100
      go_enter Tryd.func55, Tryd.ntmps55
      go_wp2_with fail
      go_ret
      rw [hR.out]
      exact ⟨rfl, rfl⟩
  · rw [decide_eq_false h100, Bool.false_and]
    have hbig : 100 < s.size := by omega
    unfold maxLen at hs
    clear h100
    go_enter Tryd.func55, Tryd.ntmps55
    go_wp2_with fail
    go_ret
    exact ⟨rfl, rfl⟩
end Go.Proofs.YtlkbgdhlbdjbiaaDoor
