/- The project's own laying of characters. -/
import Derived.Test.YtkmgngmpplgjnaaUtfRefW
import Derived.Test.YtkmgngmpplgjnaaUtfRefX
import Derived.Test.YtkmgngmpplgjnaaUtfBits
namespace Go.Proofs.Ytkmgngmpplgjnaa
open Go.RowKit

theorem low_0 (p : Int) (g : Nat) (w : World) (hc : w.cell? ⟨g, 0, none⟩ = some (.int .i64 p)) :
    Calls Try.prog 40 #[.int .i64 0, .pointer (some ⟨g, 0, none⟩)] w fun e w' => e = .returned (.int .u8 (128 + p % 64)) ∧ w = w' := by
  have ha := i64_and63 p
  have ho : bits .or .u8 128 (p % 64) = 128 + p % 64 := u8_or128 _ (by omega) (by omega)
  go_enter Try.func40, Try.ntmps40
  go_wp2_with fail
  go_ret
  exact ⟨rfl, rfl⟩
theorem low_6 (p : Int) (g : Nat) (w : World) (hc : w.cell? ⟨g, 0, none⟩ = some (.int .i64 p)) :
    Calls Try.prog 40 #[.int .i64 6, .pointer (some ⟨g, 0, none⟩)] w fun e w' => e = .returned (.int .u8 (128 + p / 64 % 64)) ∧ w = w' := by
  have ha := i64_and63 (p / 64)
  have ho : bits .or .u8 128 (p / 64 % 64) = 128 + p / 64 % 64 := u8_or128 _ (by omega) (by omega)
  go_enter Try.func40, Try.ntmps40
  go_wp2_with fail
  go_ret
  exact ⟨rfl, rfl⟩
theorem low_12 (p : Int) (g : Nat) (w : World) (hc : w.cell? ⟨g, 0, none⟩ = some (.int .i64 p)) :
    Calls Try.prog 40 #[.int .i64 12, .pointer (some ⟨g, 0, none⟩)] w fun e w' => e = .returned (.int .u8 (128 + p / 4096 % 64)) ∧ w = w' := by
  have ha := i64_and63 (p / 4096)
  have ho : bits .or .u8 128 (p / 4096 % 64) = 128 + p / 4096 % 64 := u8_or128 _ (by omega) (by omega)
  go_enter Try.func40, Try.ntmps40
  go_wp2_with fail
  go_ret
  exact ⟨rfl, rfl⟩

/-- How many bytes a number has in a form. -/
theorem width_any (form p : Int) (w : World) :
    Calls Try.prog 32 #[.int .i64 form, .int .i64 p] w fun e w' => e = .returned (.int .i64 (Utf.szL form p)) ∧ w = w' := by
  have hf : ((form == 2) = true ∧ (form == 1) = false ∧ (form != 0) = true ∧ form = 2) ∨ ((form == 2) = false ∧ (form == 1) = true ∧ (form != 0) = true ∧ form = 1) ∨
      ((form == 2) = false ∧ (form == 1) = false ∧ (form != 0) = false ∧ form = 0) ∨ ((form == 2) = false ∧ (form == 1) = false ∧ (form != 0) = true ∧ form ≠ 2 ∧ form ≠ 1 ∧ form ≠ 0) := by
    by_cases h2 : form = 2
    · subst h2; exact .inl ⟨rfl, rfl, rfl, rfl⟩
    · by_cases h1 : form = 1
      · subst h1; exact .inr (.inl ⟨rfl, rfl, rfl, rfl⟩)
      · by_cases h0 : form = 0
        · subst h0; exact .inr (.inr (.inl ⟨rfl, rfl, rfl, rfl⟩))
        · exact .inr (.inr (.inr ⟨by simpa using h2, by simpa using h1, by simpa using h0, h2, h1, h0⟩))
  have hp : (p < 128) ∨ (128 ≤ p ∧ p < 2048) ∨ (2048 ≤ p ∧ p < 65536) ∨ 65536 ≤ p := by omega
  rcases hp with hp | ⟨hp, hp'⟩ | ⟨hp, hp'⟩ | hp
  all_goals
    rcases hf with ⟨f2, f1, f0, hf⟩ | ⟨f2, f1, f0, hf⟩ | ⟨f2, f1, f0, hf⟩ | ⟨f2, f1, f0, hf⟩
    all_goals
      obtain ⟨z, hz⟩ : ∃ z, z = Utf.szL form p := ⟨_, rfl⟩
      have hz' := hz
      unfold Utf.szL at hz'
      (repeat' split at hz') <;> first
        | (exfalso; omega)
        | (have HZ := Lib.hid (hz.symm.trans hz')
           clear hz hz' hf
           go_enter Try.func32, Try.ntmps32
           go_wp2_with fail
           go_ret
           rw [HZ.out]
           exact ⟨rfl, rfl⟩)
end Go.Proofs.Ytkmgngmpplgjnaa
