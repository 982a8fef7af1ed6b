/- The statements of widths and of no memory. -/
import Derived.Test.YtogkieekpmcinaaMemK
namespace Go.Proofs.Ytogkieekpmcinaa
open Go.RowKit

set_option maxRecDepth 100000 in
theorem MemWidths_walk (op : Int) (_h : (Lit.int .i64 op).wf = true) (w : World) :
    Calls Try.prog 4 #[.int .i64 op] w fun e w' => e = .returned (.bool true) ∧ Below w.heap.size w w' := by
  have H1 := Lib.hid (width_any op)
  have H2 := Lib.hid (refWidth_any op)
  unfold Mem.widthTup at H1 H2
  have hb := Below.refl w.heap.size w
  clear _h
  revert H1 H2
  generalize (Mem.width op).1 = n
  generalize (Mem.width op).2.1 = ty
  generalize (Mem.width op).2.2 = st
  intro H1 H2
  go_enter Try.func4, Try.ntmps4
  go_wp2_with (first
    | (go_at_call 18; refine (H1.out _).mono ?_; rintro e w1 ⟨rfl, rfl⟩)
    | (go_at_call 19; refine (H2.out _).mono ?_; rintro e w2 ⟨rfl, h1⟩; replace hb := hb.trans (h1.mono hb.size); clear h1)
    | (go_at_call 12; refine (awake_any _).mono ?_; rintro e w6 ⟨rfl, h1⟩; replace hb := hb.trans (h1.mono hb.size); clear h1))
  go_ret
  exact ⟨rfl, hb⟩
set_option maxRecDepth 100000 in
set_option maxHeartbeats 1000000 in
theorem MemNone_walk (op at' v : Int) (_h1 : (Lit.int .i64 op).wf = true) (h2 : (Lit.int .i64 at').wf = true) (_h3 : (Lit.int .i64 v).wf = true) (w : World) :
    Calls Try.prog 8 #[.int .i64 op, .int .i64 at', .int .i64 v] w fun e w' => e = .returned (.bool true) ∧ Below w.heap.size w w' := by
  have hat := (i64_of_wf h2).2
  have H1 := Lib.hid (load_nil op at' w hat)
  have H2 := Lib.hid (read_nil_none w)
  have H3 := Lib.hid (read_nil_one at' w hat)
  have H4 := Lib.hid (store_nil op at' v w hat)
  have H5 := Lib.hid (write_nil at' ⟨#[120]⟩ (by decide) w hat)
  have H6 := Lib.hid (fill_nil at' v w hat)
  clear _h1 h2 _h3 hat
  go_enter Try.func8, Try.ntmps8
  go_wp2_with (first
    | (go_at_call 23; refine H1.out.mono ?_; rintro e w1 ⟨rfl, rfl⟩)
    | (go_at_call 21; refine H2.out.mono ?_; rintro e w1 ⟨rfl, rfl⟩; clear H2)
    | (go_at_call 21; refine H3.out.mono ?_; rintro e w1 ⟨rfl, rfl⟩; clear H3)
    | (go_at_call 25; refine (pages_nil _).mono ?_; rintro e w1 ⟨rfl, rfl⟩)
    | (go_at_call 26; refine (most_nil _).mono ?_; rintro e w1 ⟨rfl, rfl⟩)
    | (go_at_call 27; refine (grow_nil _ _).mono ?_; rintro e w1 ⟨rfl, rfl⟩)
    | (go_at_call 22; refine H4.out.mono ?_; rintro e w1 ⟨rfl, rfl⟩)
    | (go_at_call 28; refine H5.out.mono ?_; rintro e w1 ⟨rfl, rfl⟩)
    | (go_at_call 29; refine H6.out.mono ?_; rintro e w1 ⟨rfl, rfl⟩)
    | (go_at_call 24; refine (copy_nil _).mono ?_; rintro e w1 ⟨rfl, rfl⟩)
    | (go_at_call 17; refine (clone_nil _).mono ?_; rintro e w1 ⟨rfl, rfl⟩)
    | (go_at_call 12; refine (awake_any _).mono ?_; rintro e w6 ⟨rfl, hb⟩))
  go_ret
  exact ⟨rfl, hb⟩
end Go.Proofs.Ytogkieekpmcinaa
