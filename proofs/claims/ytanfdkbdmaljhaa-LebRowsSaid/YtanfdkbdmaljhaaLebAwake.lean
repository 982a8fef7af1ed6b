/- The chapter's examples. -/
import Derived.Test.YtanfdkbdmaljhaaLebTakeS
import Derived.Test.YtanfdkbdmaljhaaLebAppW
import Derived.KernelRfl
namespace Go.Proofs.Ytanfdkbdmaljhaa
open Go.RowKit

theorem ex_take : sTup ⟨#[255, 127, 120]⟩ 5 2147483648 = .tuple #[.int .i64 (-1), .string ⟨#[120]⟩, .int .i64 0] := by kernel_rfl
theorem ex_300 : strOfNums (Leb.putU 300) = ⟨#[172, 2]⟩ := by kernel_rfl
theorem ex_m1 : strOfNums (Leb.putS (-1)) = ⟨#[127]⟩ := by kernel_rfl
theorem ex_64 : strOfNums (Leb.putS 64) = ⟨#[192, 0]⟩ := by kernel_rfl

theorem awake_any (w : World) : Calls Try.prog 14 #[] w fun e w' => e = .returned (.bool true) ∧ Below w.heap.size w w' := by
  have e2 := ex_300
  have e3 := ex_m1
  have e4 := ex_64
  have HT := Lib.hid (TakeS_any ⟨#[255, 127, 120]⟩ 32 5 2147483648 (.inl ⟨rfl, rfl, rfl⟩) (by unfold maxLen; decide))
  rw [ex_take] at HT
  have hb := Below.refl w.heap.size w
  go_enter Try.func14, Try.ntmps14
  go_wp2_with (first
    | (go_at_call 17; refine (HT.out _).mono ?_; rintro e w1 ⟨rfl, h1⟩; replace hb := hb.trans (h1.mono hb.size); clear h1)
    | (go_at_call 10; refine (PutU_any _ _ (by omega)).mono ?_; rintro e w1 ⟨rfl, h1⟩; replace hb := hb.trans (h1.mono hb.size); clear h1)
    | (go_at_call 12; refine (PutS_any _ _ (by omega) (by omega)).mono ?_; rintro e w1 ⟨rfl, h1⟩; replace hb := hb.trans (h1.mono hb.size); clear h1))
  go_ret
  exact ⟨rfl, hb⟩
end Go.Proofs.Ytanfdkbdmaljhaa
