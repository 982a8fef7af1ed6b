/- lex: the document's own signs. -/
import Derived.Test.YtnnajiaakfeocaaLexZ4
namespace Go.Proofs.Ytnnajiaakfeocaa
open Go.RowKit
open Lex

theorem sgn_at {c : Int} {i : Nat} (hi : i < 14) (h : sgnL.getD i 0 = c) : sgn c = true := by
  unfold sgn
  have hl : sgnL.length = 14 := rfl
  rw [← h, List.getD_eq_getElem?_getD, List.getElem?_eq_getElem (by omega)]
  exact List.elem_eq_true_of_mem (List.getElem_mem _)
theorem sgn_none {c : Int} (h : ∀ i, i < 14 → sgnL.getD i 0 ≠ c) : sgn c = false := by
  unfold sgn
  rw [Bool.eq_false_iff]
  intro hc
  obtain ⟨i, hi, he⟩ := List.getElem_of_mem (List.mem_of_elem_eq_true hc)
  have hl : sgnL.length = 14 := rfl
  refine h i (by omega) ?_
  rw [List.getD_eq_getElem?_getD, List.getElem?_eq_getElem hi]
  exact he

set_option maxRecDepth 100000 in
theorem refSign_any (c : Nat) (w : World) :
    Calls Try.prog 36 #[.int .u8 c] w fun e w' => e = .returned (.bool (sgn c)) ∧ w = w' := by
  obtain ⟨R, hR⟩ : ∃ R, R = sgn (c : Int) := ⟨_, rfl⟩
  rw [← hR]
  have HR := Lib.hid hR
  have HS : Hid (∀ i (hi : i < 14), ((sgnK[i]'hi).toNat : Int) = sgnL.getD i 0) := Lib.hid (fun i hi => by
    rw [← bl_get sgnK i hi]
    rfl)
  clear hR
  go_enter Try.func36, Try.ntmps36
  go_wp2_with fail
  go_loop [4] (fun iv => ∃ i : Nat, iv = .int .i64 i ∧ i ≤ 14 ∧ ∀ j, j < i → sgnL.getD j 0 ≠ (c : Int)) (fun iv => 14 - (intOf iv).toNat)
  case atStart => exact ⟨0, rfl, by omega, fun j hj => by omega⟩
  case round =>
    obtain ⟨i, rfl, hi, hno⟩ := hrel
    have HNO := Lib.hid hno
    clear hno
    by_cases hlt : i < 14
    · have hci := HS.out i hlt
      have hlt' : i < (⟨#[58, 59, 44, 46, 47, 123, 125, 40, 41, 60, 62, 61, 64, 95]⟩ : ByteArray).size := hlt
      by_cases he : sgnL.getD i 0 = (c : Int)
      · have HT : Hid (R = true) := Lib.hid (by rw [HR.out]; exact sgn_at hlt he)
        rw [he] at hci
        have t1 : ((((⟨#[58, 59, 44, 46, 47, 123, 125, 40, 41, 60, 62, 61, 64, 95]⟩ : ByteArray)[i]'hlt').toNat : Int) == (c : Int)) = true := beq_iff_eq.2 hci
        clear he hci
        go_wp2_with fail
        go_ret
        rw [HT.out]
        exact ⟨rfl, rfl⟩
      · have HNE := Lib.hid he
        have t1 : ((((⟨#[58, 59, 44, 46, 47, 123, 125, 40, 41, 60, 62, 61, 64, 95]⟩ : ByteArray)[i]'hlt').toNat : Int) == (c : Int)) = false := by
          rw [Bool.eq_false_iff, Ne, beq_iff_eq]
          intro e
          exact he (hci.symm.trans e)
        clear he hci
        go_wp2_with fail
        refine ⟨⟨i + 1, by go_num, by omega, fun j hj => ?_⟩, by simp [intOf]; omega⟩
        by_cases hji : j = i
        · rw [hji]
          exact HNE.out
        · exact HNO.out j (by omega)
    · have hie : i = 14 := by omega
      subst hie
      have HF : Hid (R = false) := Lib.hid (by rw [HR.out]; exact sgn_none HNO.out)
      go_wp2_with fail
      go_ret
      rw [HF.out]
      exact ⟨rfl, rfl⟩
end Go.Proofs.Ytnnajiaakfeocaa
