/- ctype: sizes and alignments: plain; small numbers as floats. -/
import Derived.Test.YtlkbgdhlbdjbiaaDoorCtK
import Derived.Laws.FloatArith
import Derived.Laws.Cover3
set_option linter.unusedVariables false
set_option linter.unusedSimpArgs false
namespace Go.Proofs.YtlkbgdhlbdjbiaaDoor
open Go.RowKit
open Lex Ct

abbrev flt (n : Nat) : Nat := floatOfInt .f64 (n : Int)
set_option maxRecDepth 100000 in
theorem flt_all : (List.range 8192).all (fun n => floatToIntVal .f64 (flt n) .i64 == some (n : Int)) = true := by decide +kernel
theorem flt_back {n : Nat} (h : n < 8192) : floatToIntVal .f64 (flt n) .i64 = some (n : Int) := by
  have := List.all_eq_true.1 flt_all n (List.mem_range.2 h)
  exact eq_of_beq this
theorem conv_back {n : Nat} (h : n < 8192) (w : World) : (convert 45 3 (.float .f64 (flt n))).run Tryd.prog w = .ok (.int .i64 (n : Int)) w :=
  run_convert_float_int w _ _ _ _ _ _ (by kernel_rfl) (by kernel_rfl) (flt_back h)
theorem flt0 : flt 0 = 0 := by decide +kernel
theorem flt1 : flt 1 = 4607182418800017408 := by decide +kernel
theorem flt2 : flt 2 = 4611686018427387904 := by decide +kernel
theorem flt4 : flt 4 = 4616189618054758400 := by decide +kernel
theorem flt8 : flt 8 = 4620693217682128896 := by decide +kernel
end Go.Proofs.YtlkbgdhlbdjbiaaDoor
