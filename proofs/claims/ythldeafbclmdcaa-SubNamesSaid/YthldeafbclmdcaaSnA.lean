/- subtype: rows of texts that are the same: slices.Equal and the reference's SameNames. -/
import Derived.Test.YthldeafbclmdcaaCtE
set_option linter.unusedVariables false
set_option linter.unusedSimpArgs false
namespace Go.Proofs.Ythldeafbclmdcaa
open Go.RowKit
open Ct

theorem take_step {l m : List Nm} {i : Nat} {x y : Nm} (hx : l[i]? = some x) (hy : m[i]? = some y) (h : l.take i = m.take i) (e : x = y) : l.take (i + 1) = m.take (i + 1) := by
  rw [List.take_add_one, List.take_add_one, hx, hy, h, e]
theorem ne_at {l m : List Nm} {i : Nat} {x y : Nm} (hx : l[i]? = some x) (hy : m[i]? = some y) (e : x ≠ y) : (l == m) = false := by
  rw [Bool.eq_false_iff]
  intro h
  rw [beq_iff_eq] at h
  subst h
  rw [hx] at hy
  cases hy
  exact e rfl
theorem ne_len {l m : List Nm} (h : l.length ≠ m.length) : (l == m) = false := by
  rw [Bool.eq_false_iff]
  intro e
  rw [beq_iff_eq] at e
  subst e
  exact h rfl
theorem eq_all {l m : List Nm} {i : Nat} (hl : l.length ≤ i) (hm : m.length ≤ i) (h : l.take i = m.take i) : (l == m) = true := by
  rw [List.take_of_length_le hl, List.take_of_length_le hm] at h
  rw [beq_iff_eq]
  exact h
set_option maxRecDepth 100000 in
set_option maxHeartbeats 4000000 in
theorem rdEqual (l m : List Nm) (a c : Option Addr) (ca cc : Nat) (w : World) (hl : NmsAt w l a ca) (hm : NmsAt w m c cc) (hf : ∀ b ∈ l, NmOk b) (hg : ∀ b ∈ m, NmOk b) :
    Calls Try.prog 21 #[.slice a l.length ca, .slice c m.length cc] w fun y w' => y = .returned (.bool (l == m)) ∧ Kept (fun _ => False) w w' := by
  have HL := Lib.hid hl
  have HM := Lib.hid hm
  have HF := Lib.hid hf
  have HG := Lib.hid hg
  have hbd := hl.bound
  have hlen : (l.length : Int) ≤ 9223372036854775807 := by omega
  clear hl hm hf hg hbd
  by_cases hn : l.length = m.length
  · have b1 : ((l.length : Int) != (m.length : Int)) = false := by simp; omega
    have HE := Lib.hid hn
    clear hn
    go_enter Try.func21, Try.ntmps21
    go_wp2_with fail
    go_loopw [13] (fun v wr => ∃ i : Nat, v = .int .i64 i ∧ i ≤ l.length ∧ Kept (fun _ => False) w wr ∧ Hid (l.take i = m.take i)) (fun v _ => l.length - (intOf v).toNat)
    case atStart => exact ⟨0, rfl, Nat.zero_le _, Kept.refl _ _, Lib.hid rfl⟩
    case round =>
      obtain ⟨i, rfl, hi, hk, hno⟩ := hrel
      have HK := Lib.hid hk
      clear hk
      by_cases hlt : i < l.length
      · obtain ⟨x, hx⟩ : ∃ x, l[i]? = some x := ⟨_, List.getElem?_eq_getElem hlt⟩
        obtain ⟨z, hz⟩ : ∃ z, m[i]? = some z := ⟨_, List.getElem?_eq_getElem (by rw [← HE.out]; exact hlt)⟩
        have hltm : i < m.length := by rw [← HE.out]; exact hlt
        obtain ⟨g, o, rfl, hg, c0⟩ := (HL.out.kept HK.out).at hx
        obtain ⟨g2, o2, rfl, hg2, c2⟩ := (HM.out.kept HK.out).at hz
        have hq := nums_same (HF.out x (List.mem_of_getElem? hx)) (HG.out z (List.mem_of_getElem? hz))
        have HX := Lib.hid hx
        have HZ := Lib.hid hz
        have hltI : ((i : Int) < (l.length : Int)) = True := by simp; omega
        clear hx hz
        cases hE : (x == z)
        · rw [hE] at hq
          have HR : Hid ((l == m) = false) := Lib.hid (ne_at HX.out HZ.out (by simpa using hE))
          clear hE
          go_wp2_with fail
          go_region
          all_goals (go_wp2_with fail)
          all_goals go_ret
          all_goals exact ⟨by rw [HR.out] <;> rfl, HK.out.drew⟩
        · rw [hE] at hq
          have HR : Hid (l.take (i + 1) = m.take (i + 1)) := Lib.hid (take_step HX.out HZ.out hno.out (by simpa using hE))
          clear hE
          go_wp2_with fail
          go_region
          all_goals (go_wp2_with fail)
          all_goals exact ⟨⟨i + 1, by go_num, by omega, HK.out.drew, HR⟩, by simp [intOf]; omega⟩
      · have hie : i = l.length := by omega
        have HR : Hid ((l == m) = true) := Lib.hid (eq_all (by omega) (by rw [← HE.out]; omega) hno.out)
        subst hie
        clear hlt
        go_wp2_with fail
        go_ret
        exact ⟨by rw [HR.out] <;> rfl, HK.out⟩
  · have b1 : ((l.length : Int) != (m.length : Int)) = true := by simp; omega
    have HR : Hid ((l == m) = false) := Lib.hid (ne_len hn)
    clear hn
    go_enter Try.func21, Try.ntmps21
    go_wp2_with fail
    go_ret
    exact ⟨by rw [HR.out] <;> rfl, Kept.refl _ _⟩
set_option maxRecDepth 100000 in
set_option maxHeartbeats 4000000 in
theorem rdSameNames (l m : List Nm) (a c : Option Addr) (ca cc : Nat) (w : World) (hl : NmsAt w l a ca) (hm : NmsAt w m c cc) (hf : ∀ b ∈ l, NmOk b) (hg : ∀ b ∈ m, NmOk b) :
    Calls Try.prog 18 #[.slice a l.length ca, .slice c m.length cc] w fun y w' => y = .returned (.bool (l == m)) ∧ Kept (fun _ => False) w w' := by
  have HL := Lib.hid hl
  have HM := Lib.hid hm
  have HF := Lib.hid hf
  have HG := Lib.hid hg
  have hbd := hl.bound
  have hlen : (l.length : Int) ≤ 9223372036854775807 := by omega
  clear hl hm hf hg hbd
  by_cases hn : l.length = m.length
  · have b1 : ((l.length : Int) != (m.length : Int)) = false := by simp; omega
    have HE := Lib.hid hn
    clear hn
    go_enter Try.func18, Try.ntmps18
    go_wp2_with fail
    go_loopw [5] (fun v wr => ∃ i : Nat, v = .int .i64 i ∧ i ≤ l.length ∧ Kept (fun _ => False) w wr ∧ Hid (l.take i = m.take i)) (fun v _ => l.length - (intOf v).toNat)
    case atStart => exact ⟨0, rfl, Nat.zero_le _, Kept.refl _ _, Lib.hid rfl⟩
    case round =>
      obtain ⟨i, rfl, hi, hk, hno⟩ := hrel
      have HK := Lib.hid hk
      clear hk
      by_cases hlt : i < l.length
      · obtain ⟨x, hx⟩ : ∃ x, l[i]? = some x := ⟨_, List.getElem?_eq_getElem hlt⟩
        obtain ⟨z, hz⟩ : ∃ z, m[i]? = some z := ⟨_, List.getElem?_eq_getElem (by rw [← HE.out]; exact hlt)⟩
        have hltm : i < m.length := by rw [← HE.out]; exact hlt
        obtain ⟨g, o, rfl, hg, c0⟩ := (HL.out.kept HK.out).at hx
        obtain ⟨g2, o2, rfl, hg2, c2⟩ := (HM.out.kept HK.out).at hz
        have hq := nums_same (HF.out x (List.mem_of_getElem? hx)) (HG.out z (List.mem_of_getElem? hz))
        have HX := Lib.hid hx
        have HZ := Lib.hid hz
        have hltI : ((i : Int) < (l.length : Int)) = True := by simp; omega
        clear hx hz
        cases hE : (x == z)
        · rw [hE] at hq
          have HR : Hid ((l == m) = false) := Lib.hid (ne_at HX.out HZ.out (by simpa using hE))
          clear hE
          go_wp2_with fail
          go_region
          all_goals (go_wp2_with fail)
          all_goals go_ret
          all_goals exact ⟨by rw [HR.out] <;> rfl, HK.out.drew⟩
        · rw [hE] at hq
          have HR : Hid (l.take (i + 1) = m.take (i + 1)) := Lib.hid (take_step HX.out HZ.out hno.out (by simpa using hE))
          clear hE
          go_wp2_with fail
          go_region
          all_goals (go_wp2_with fail)
          all_goals exact ⟨⟨i + 1, by go_num, by omega, HK.out.drew, HR⟩, by simp [intOf]; omega⟩
      · have hie : i = l.length := by omega
        have HR : Hid ((l == m) = true) := Lib.hid (eq_all (by omega) (by rw [← HE.out]; omega) hno.out)
        subst hie
        clear hlt
        go_wp2_with fail
        go_ret
        exact ⟨by rw [HR.out] <;> rfl, HK.out⟩
  · have b1 : ((l.length : Int) != (m.length : Int)) = true := by simp; omega
    have HR : Hid ((l == m) = false) := Lib.hid (ne_len hn)
    clear hn
    go_enter Try.func18, Try.ntmps18
    go_wp2_with fail
    go_ret
    exact ⟨by rw [HR.out] <;> rfl, Kept.refl _ _⟩
end Go.Proofs.Ythldeafbclmdcaa
