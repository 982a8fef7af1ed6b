/- value: hex. -/
import Derived.Test.YtikgkjkgdlnekaaGreatDoorVbT1
import Derived.FnData
set_option linter.unusedVariables false
set_option linter.unusedSimpArgs false
namespace Go.Proofs.YtikgkjkgdlnekaaGreatDoor
open Go.RowKit
open Lex Ct

namespace Ct
def dbTab : List Int := [0, 1, 56, 2, 57, 49, 28, 3, 61, 58, 42, 50, 38, 29, 17, 4, 62, 47, 59, 36, 45, 43, 51, 22, 53, 39, 33, 30, 24, 18, 12, 5, 63, 55, 48, 27, 60, 41, 37, 16, 46, 35, 44, 21, 52, 32, 23, 11, 54, 26, 40, 15, 34, 20, 31, 10, 25, 14, 19, 9, 13, 8, 7, 6]
/-- A digit to the base 16. -/
def dig16 (n : Nat) : Int := if n < 10 then 48 + n else 87 + n
def hexL : Nat → Nat → List Int
  | 0, n => [dig16 (n % 16)]
  | k + 1, n => if n < 16 then [dig16 n] else hexL k (n / 16) ++ [dig16 (n % 16)]
end Ct
def Tab2 (w : World) : Prop := Lib.TabIs Tryz.prog w "math/bits.deBruijn64tab" .u8 dbTab
theorem tab2_cell {w : World} (h : Tab2 w) : w.cell? ⟨6, 15, none⟩ = some (.int .u8 4) :=
  (World.var?_cell (n := "math/bits.deBruijn64tab") (g := 6) (by kernel_rfl) h 15).trans (by rfl)
set_option maxRecDepth 100000 in
set_option maxHeartbeats 4000000 in
theorem rdTz64 (w : World) (h : Tab2 w) : Calls Tryz.prog 124 #[.int .u64 16] w fun y w' => y = .returned (.int .i64 4) ∧ w = w' := by
  have c0 := tab2_cell h
  have e1 : IntKind.u64.wrap (-16) = 18446744073709551600 := by decide +kernel
  have e2 : bits .and .u64 16 18446744073709551600 = 16 := by decide +kernel
  have e3 : IntKind.u64.wrap (16 * 285870213051353865) = 4573923408821661840 := by decide +kernel
  have e4 : IntKind.u64.wrap 4573923408821661840 = 4573923408821661840 := by decide +kernel
  clear h
  go_enter Tryz.func124, Tryz.ntmps124
  go_wp2_with fail
  go_ret
  exact ⟨rfl, rfl⟩
set_option maxRecDepth 100000 in
theorem rdTz (w : World) (h : Tab2 w) : Calls Tryz.prog 109 #[.int .u64 16] w fun y w' => y = .returned (.int .i64 4) ∧ w = w' := by
  have H := Lib.hid (rdTz64 w h)
  clear h
  go_enter Tryz.func109, Tryz.ntmps109
  go_wp2_with (first | (go_at_call 124; refine H.out.mono ?_; rintro y w1 ⟨rfl, rfl⟩))
  go_ret
  exact ⟨rfl, rfl⟩
set_option maxRecDepth 100000 in
theorem rdPow2 (w : World) : Calls Tryz.prog 108 #[.int .i64 16] w fun y w' => y = .returned (.bool true) ∧ w = w' := by
  go_enter Tryz.func108, Tryz.ntmps108
  go_wp2_with fail
  go_ret
  exact ⟨rfl, rfl⟩
end Go.Proofs.YtikgkjkgdlnekaaGreatDoor
