/- lex: LexNames' walk. -/
import Derived.Test.YtnnajiaakfeocaaLexX
namespace Go.Proofs.Ytnnajiaakfeocaa
open Go.RowKit
open Lex

set_option maxRecDepth 100000 in
set_option maxHeartbeats 1000000 in
theorem LexNames_walk (s : ByteArray) (hs : s.size ≤ maxLen) (w : World) :
    Calls Try.prog 4 #[.string s] w fun e w' => e = .returned (.bool true) ∧ Below w.heap.size w w' := by
  obtain ⟨A, hA⟩ : ∃ A, A = nameL (bl s) := ⟨_, rfl⟩
  obtain ⟨B, hB⟩ : ∃ B, B = versL (bl s) := ⟨_, rfl⟩
  obtain ⟨C, hC⟩ : ∃ C, C = wordB s := ⟨_, rfl⟩
  have n1 := fun w => Name_any s hs w
  have n2 := fun w => refName_any s hs w
  have v1 := fun w => Version_any s hs w
  have v2 := fun w => refVersion_any s hs w
  have x1 := fun w => Word_any s w
  have x2 := fun w => refWord_any s w
  rw [nameB_eq s hs, ← hA] at n1
  rw [← hA] at n2
  rw [versB_eq s hs, ← hB] at v1
  rw [← hB] at v2
  rw [← hC] at x1 x2
  have N1 := Lib.hid n1
  have N2 := Lib.hid n2
  have V1 := Lib.hid v1
  have V2 := Lib.hid v2
  have X1 := Lib.hid x1
  have X2 := Lib.hid x2
  clear n1 n2 v1 v2 x1 x2 hA hB hC hs
  have hb := Below.refl w.heap.size w
  go_enter Try.func4, Try.ntmps4
  go_wp2_with (first
    | (go_at_call 12; refine (N1.out _).mono ?_; rintro e w1 ⟨rfl, k⟩; replace hb := hb.trans (k.mono hb.size); clear k)
    | (go_at_call 13; refine (N2.out _).mono ?_; rintro e w1 ⟨rfl, rfl⟩)
    | (go_at_call 14; refine (X1.out _).mono ?_; rintro e w1 ⟨rfl, rfl⟩)
    | (go_at_call 15; refine (X2.out _).mono ?_; rintro e w1 ⟨rfl, k⟩; replace hb := hb.trans (k.mono hb.size); clear k)
    | (go_at_call 16; refine (V1.out _).mono ?_; rintro e w1 ⟨rfl, k⟩; replace hb := hb.trans (k.mono hb.size); clear k)
    | (go_at_call 17; refine (V2.out _).mono ?_; rintro e w1 ⟨rfl, rfl⟩)
    | (go_at_call 11; refine (awake_any _).mono ?_; rintro e w1 ⟨rfl, k⟩; replace hb := hb.trans (k.mono hb.size); clear k))
  go_ret
  exact ⟨rfl, hb⟩
end Go.Proofs.Ytnnajiaakfeocaa
