/- The reference's shapes and types. -/
import Derived.Test.YtfhifnkekegkkaaMemRefW
import Derived.Test.YtfhifnkekegkkaaNumSig
namespace Go.Proofs.Ytfhifnkekegkkaa
open Go.RowKit

set_option maxRecDepth 100000 in
/-- Is a number one of these, which lie in a row? -/
theorem refOneOf_any (n : Int) (l : List Int) (a : Option Addr) (len cap : Nat) (w : World) (hv : View w a len l) (hl : len = l.length) (hlen : len ≤ 1000000) :
    Calls Try.prog 28 #[.int .i64 n, .slice a len cap] w fun e w' => e = .returned (.bool (decide (n ∈ l))) ∧ w = w' := by
  have HL := Lib.hid hl
  have HV := Lib.hid hv
  obtain ⟨r, hr⟩ : ∃ r, r = decide (n ∈ l) := ⟨_, rfl⟩
  rw [← hr]
  have HR := Lib.hid hr
  clear hl hv hr
  go_enter Try.func28, Try.ntmps28
  go_wp2_with fail
  go_loop [5] (fun iv => ∃ i : Nat, iv = .int .i64 i ∧ i ≤ len ∧ ∀ j, j < i → l.getD j 0 ≠ n) (fun iv => len - (intOf iv).toNat)
  case atStart => exact ⟨0, rfl, by omega, fun j hj => by omega⟩
  case round =>
    obtain ⟨i, rfl, hi, hno⟩ := hrel
    have HNO := Lib.hid hno
    clear hno
    by_cases hlt : i < len
    · obtain ⟨b, off, rfl, hc⟩ := HV.out.resolve_left (by omega)
      have hci := hc i hlt
      have hmem : l.getD i 0 ∈ l := by
        rw [List.getD_eq_getElem?_getD, List.getElem?_eq_getElem (by rw [← HL.out]; exact hlt)]
        exact List.getElem_mem _
      obtain ⟨z, hz⟩ : ∃ z, z = l.getD i 0 := ⟨_, rfl⟩
      rw [← hz] at hci hmem
      have HZ := Lib.hid hz
      have HMEM := Lib.hid hmem
      clear hc hz hmem
      by_cases hzn : z = n
      · have HT : Hid (r = true) := Lib.hid (by rw [HR.out]; exact decide_eq_true (hzn ▸ HMEM.out))
        subst hzn
        go_wp2_with fail
        go_ret
        rw [HT.out]
        exact ⟨rfl, rfl⟩
      · have hzn' : (z == n) = false := by simpa using hzn
        go_wp2_with fail
        refine ⟨⟨i + 1, by go_num, by omega, fun j hj => ?_⟩, by simp [intOf]; omega⟩
        by_cases hji : j = i
        · rw [hji, ← HZ.out]
          exact hzn
        · exact HNO.out j (by omega)
    · have hil : i = len := by omega
      have HF : Hid (r = false) := Lib.hid (by
        rw [HR.out]
        refine decide_eq_false fun hm => ?_
        obtain ⟨k, hk, he⟩ := List.getElem_of_mem hm
        exact HNO.out k (by rw [hil, HL.out]; exact hk) (by rw [List.getD_eq_getElem?_getD, List.getElem?_eq_getElem hk]; exact he))
      subst hil
      go_wp2_with fail
      go_ret
      rw [HF.out]
      exact ⟨rfl, rfl⟩
set_option maxRecDepth 100000 in
theorem refIdx_any (n : Int) (w : World) :
    Calls Try.prog 29 #[.int .i64 n] w fun e w' => e = .returned (.bool (decide (0 ≤ n ∧ n ≤ 4294967295))) ∧ w = w' := by
  by_cases h1 : 0 ≤ n
  · by_cases h2 : n ≤ 4294967295
    · rw [show decide (0 ≤ n ∧ n ≤ 4294967295) = true from decide_eq_true ⟨h1, h2⟩]
      have e2 : decide (n ≤ (4294967295 : Int)) = true := decide_eq_true h2
      have e1 : decide ((0 : Int) ≤ n) = true := decide_eq_true h1
      clear h1 h2
      go_enter Try.func29, Try.ntmps29
      go_wp2_with fail
      go_ret
      exact ⟨by first | rfl | simp [e1, e2], rfl⟩
    · rw [show decide (0 ≤ n ∧ n ≤ 4294967295) = false from decide_eq_false (by omega)]
      have e2 : decide (n ≤ (4294967295 : Int)) = false := decide_eq_false h2
      have e1 : decide ((0 : Int) ≤ n) = true := decide_eq_true h1
      clear h2
      go_enter Try.func29, Try.ntmps29
      go_wp2_with fail
      go_ret
      exact ⟨by first | rfl | simp [e1, e2], rfl⟩
  · rw [show decide (0 ≤ n ∧ n ≤ 4294967295) = false from decide_eq_false (by omega)]
    have e1 : decide ((0 : Int) ≤ n) = false := decide_eq_false h1
    go_enter Try.func29, Try.ntmps29
    go_wp2_with fail
    go_ret
    exact ⟨by first | rfl | simp [e1], rfl⟩
/-- Whose byte it is. -/
def typeV (c : Int) : Int × Int := if c ∈ [127, 126, 112] then (c, 0) else if c = 125 ∨ c = 124 then (0, 3) else if c = 123 then (0, 4) else (0, 2)
end Go.Proofs.Ytfhifnkekegkkaa
