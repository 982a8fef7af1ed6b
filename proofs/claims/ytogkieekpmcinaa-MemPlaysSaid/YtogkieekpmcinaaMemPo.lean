/- Limits that came in: two numbers. -/
import Derived.Test.YtogkieekpmcinaaMemPm
import Derived.Test.YtogkieekpmcinaaMemS
import Derived.Lib.SmallJoins
namespace Go.Proofs.Ytogkieekpmcinaa
open Go.Joins Go.ChangeShapes Go.WideShapes Go.RowKit Go.Deep

theorem limits_of {H : Type} {enc : TypeId × Value → H} {w : World} {base b0 : Nat} {spare : Nat → Bool} {held : Bool} {r : Reach} {v : Value} {d : DataW H} {p : List MemPlace}
    (hv : Value.okWide Try.prog w r b0 23 v) (h : DataW.Trod enc Try.prog w base spare held 23 v d p) : ∃ m n : Int, v = .agg #[.int .i64 m, .int .i64 n] := by
  obtain ⟨v0, v1, y0, y1, n, rfl, _, _, h0, h1⟩ := open_agg2 Try.underlying23 (by kernel_rfl) (by kernel_rfl) hv h
  obtain ⟨a, ha, _⟩ := DataW.trod_int Try.underlying3 h0
  obtain ⟨b, hb, _⟩ := DataW.trod_int Try.underlying3 h1
  cases ha
  cases hb
  exact ⟨a, b, rfl⟩
end Go.Proofs.Ytogkieekpmcinaa
