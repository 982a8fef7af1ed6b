/- lex: the words of the language. -/
import Derived.Test.YtnnajiaakfeocaaLexV
namespace Go.Proofs.Ytnnajiaakfeocaa
open Go.RowKit
open Lex

namespace Lex
def wordsU : List (List UInt8) := [
  [112, 97, 99, 107, 97, 103, 101],
  [105, 110, 116, 101, 114, 102, 97, 99, 101],
  [119, 111, 114, 108, 100],
  [117, 115, 101],
  [97, 115],
  [105, 109, 112, 111, 114, 116],
  [101, 120, 112, 111, 114, 116],
  [116, 121, 112, 101],
  [114, 101, 99, 111, 114, 100],
  [118, 97, 114, 105, 97, 110, 116],
  [101, 110, 117, 109],
  [102, 108, 97, 103, 115],
  [114, 101, 115, 111, 117, 114, 99, 101],
  [99, 111, 110, 115, 116, 114, 117, 99, 116, 111, 114],
  [115, 116, 97, 116, 105, 99],
  [102, 117, 110, 99],
  [98, 111, 111, 108],
  [115, 56],
  [117, 56],
  [115, 49, 54],
  [117, 49, 54],
  [115, 51, 50],
  [117, 51, 50],
  [115, 54, 52],
  [117, 54, 52],
  [102, 51, 50],
  [102, 54, 52],
  [99, 104, 97, 114],
  [115, 116, 114, 105, 110, 103],
  [108, 105, 115, 116],
  [111, 112, 116, 105, 111, 110],
  [114, 101, 115, 117, 108, 116],
  [116, 117, 112, 108, 101],
  [111, 119, 110],
  [98, 111, 114, 114, 111, 119]]
def wordB (s : ByteArray) : Bool := wordsU.contains s.toList
end Lex
def wordK (i : Nat) : ByteArray := ⟨(wordsU.getD i []).toArray⟩
theorem wordB_at {s : ByteArray} {i : Nat} (hi : i < 35) (h : wordK i = s) : wordB s = true := by
  unfold wordB
  have e : s.toList = wordsU.getD i [] := by rw [← h, ByteArray.toList_eq]; rfl
  rw [e]
  have hl : wordsU.length = 35 := rfl
  rw [List.getD_eq_getElem?_getD, List.getElem?_eq_getElem (by omega)]
  exact List.elem_eq_true_of_mem (List.getElem_mem _)
theorem wordB_none {s : ByteArray} (h : ∀ i, i < 35 → wordK i ≠ s) : wordB s = false := by
  unfold wordB
  rw [Bool.eq_false_iff]
  intro hc
  have hm := List.mem_of_elem_eq_true hc
  obtain ⟨i, hi, he⟩ := List.getElem_of_mem hm
  have hl : wordsU.length = 35 := rfl
  refine h i (by omega) ?_
  have e : (wordK i).toList = s.toList := by
    rw [ByteArray.toList_eq]
    unfold wordK
    rw [List.getD_eq_getElem?_getD, List.getElem?_eq_getElem hi, ← he]
    rfl
  exact (toList_eq_iff _ _).1 e

def wordO : Obj := .cells (wordsU.map fun u => Value.string ⟨u.toArray⟩).toArray 9
theorem words_any (w : World) : Calls Try.prog 27 #[] w fun e w' => e = .returned (.slice (some ⟨w.heap.size, 0, none⟩) 35 35) ∧ w' = w.alloc wordO := by
  go_enter Try.func27, Try.ntmps27
  go_wp2
  go_ret
  exact ⟨rfl, rfl⟩
theorem words_cells (w : World) (i : Nat) (hi : i < 35) : (w.alloc wordO).cell? ⟨w.heap.size, i, none⟩ = some (.string (wordK i)) := by
  unfold wordO
  have hl : wordsU.length = 35 := rfl
  rw [World.cell?_alloc_mark, List.getElem?_toArray, List.getElem?_map, List.getElem?_eq_getElem (by omega)]
  unfold wordK
  rw [List.getD_eq_getElem?_getD, List.getElem?_eq_getElem (by omega)]
  rfl

set_option maxRecDepth 100000 in
set_option maxHeartbeats 1000000 in
theorem refWord_any (s : ByteArray) (w : World) :
    Calls Try.prog 15 #[.string s] w fun e w' => e = .returned (.bool (wordB s)) ∧ Below w.heap.size w w' := by
  obtain ⟨R, hR⟩ : ∃ R, R = wordB s := ⟨_, rfl⟩
  rw [← hR]
  have HR := Lib.hid hR
  clear hR
  have HC := Lib.hid (words_cells w)
  have HW := Lib.hid (words_any w)
  have hb : Below w.heap.size w (w.alloc wordO) := (Below.refl _ w).alloc (Nat.le_refl _) _
  obtain ⟨W, hW⟩ : ∃ W, W = w.alloc wordO := ⟨_, rfl⟩
  rw [← hW] at hb HC HW
  clear hW
  go_enter Try.func15, Try.ntmps15
  go_wp2_with (go_at_call 27; refine HW.out.mono ?_; rintro e w1 ⟨rfl, rfl⟩)
  go_loop [4] (fun iv => ∃ i : Nat, iv = .int .i64 i ∧ i ≤ 35 ∧ ∀ j, j < i → wordK j ≠ s) (fun iv => 35 - (intOf iv).toNat)
  case atStart => exact ⟨0, rfl, by omega, fun j hj => by omega⟩
  case round =>
    obtain ⟨i, rfl, hi, hno⟩ := hrel
    have HNO := Lib.hid hno
    clear hno
    by_cases hlt : i < 35
    · have hci := HC.out i hlt
      by_cases he : wordK i = s
      · have HT : Hid (R = true) := Lib.hid (by rw [HR.out]; exact wordB_at hlt he)
        rw [he] at hci
        clear he
        go_wp2_with fail
        go_ret
        rw [HT.out]
        exact ⟨rfl, hb⟩
      · have hne : ((wordK i).toList == s.toList) = false := by
          rw [Bool.eq_false_iff, Ne, beq_iff_eq, toList_eq_iff]
          exact he
        have HNE := Lib.hid he
        revert hci hne HNE
        generalize hk : wordK i = k
        intro hci hne HNE
        have HK := Lib.hid hk
        clear hk he
        go_wp2_with fail
        refine ⟨⟨i + 1, by go_num, by omega, fun j hj => ?_⟩, by simp [intOf]; omega⟩
        by_cases hji : j = i
        · rw [hji, HK.out]
          exact HNE.out
        · exact HNO.out j (by omega)
    · have hie : i = 35 := by omega
      subst hie
      have HF : Hid (R = false) := Lib.hid (by rw [HR.out]; exact wordB_none HNO.out)
      go_wp2_with fail
      go_ret
      rw [HF.out]
      exact ⟨rfl, hb⟩

set_option maxRecDepth 100000 in
set_option maxHeartbeats 4000000 in
theorem Word_any (s : ByteArray) (w : World) :
    Calls Try.prog 14 #[.string s] w fun e w' => e = .returned (.bool (wordB s)) ∧ w = w' := by
  obtain ⟨R, hR⟩ : ∃ R, R = wordB s := ⟨_, rfl⟩
  rw [← hR]
  have HR := Lib.hid hR
  clear hR
  go_enter Try.func14, Try.ntmps14
  go_wp2_with fail
  all_goals go_ret
  all_goals rw [HR.out]
  all_goals refine ⟨congrArg (fun z => Ending.returned (.bool z)) ?_, rfl⟩
  all_goals first
    | (rename_i h; unfold wordB; rw [beq_iff_eq.1 h]; rfl)
    | (exfalso; rename_i h1 h2; rw [h1] at h2; cases h2)
    | (unfold wordB wordsU; simp only [List.contains_cons, *]; rfl)
    | (unfold wordB wordsU; simp [List.contains_cons, *])
    | (exfalso; simp_all)
end Go.Proofs.Ytnnajiaakfeocaa
