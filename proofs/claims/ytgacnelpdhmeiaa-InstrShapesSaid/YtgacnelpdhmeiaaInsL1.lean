/- The walks of the statements on shapes and types. -/
import Derived.Test.YtgacnelpdhmeiaaInsAw
namespace Go.Proofs.Ytgacnelpdhmeiaa
open Go.RowKit Go.Deep
open Leb (byt byt_lt byt_get)

set_option maxRecDepth 100000 in
set_option maxHeartbeats 1000000 in
theorem InstrShapes_walk (op : Int) (_h : (Lit.int .i64 op).wf = true) (w : World) :
    Calls Try.prog 3 #[.int .i64 op] w fun e w' => e = .returned (.bool true) ∧ Below w.heap.size w w' := by
  have H1 := Lib.hid (shape_any op)
  have H2 := Lib.hid (refShape_any op)
  have H3 := Lib.hid (type_any op)
  have H4 := Lib.hid (refType_any op)
  have HA := Lib.hid awake_any
  have hb := Below.refl w.heap.size w
  revert H1 H2 H3 H4
  generalize (shapeV op).1 = a
  generalize (shapeV op).2 = e1
  generalize (typeV op).1 = c
  generalize (typeV op).2 = g
  intro H1 H2 H3 H4
  go_enter Try.func3, Try.ntmps3
  go_wp2_with (first
    | (go_at_call 11; refine (H1.out _).mono ?_; rintro e w1 ⟨rfl, rfl⟩)
    | (go_at_call 12; refine (H2.out _).mono ?_; rintro e w1 ⟨rfl, k1⟩; replace hb := hb.trans (k1.mono hb.size); clear k1)
    | (go_at_call 13; refine (H3.out _).mono ?_; rintro e w1 ⟨rfl, rfl⟩)
    | (go_at_call 14; refine (H4.out _).mono ?_; rintro e w1 ⟨rfl, k1⟩; replace hb := hb.trans (k1.mono hb.size); clear k1)
    | (go_at_call 15; refine (HA.out _).mono ?_; rintro e w1 ⟨rfl, k1⟩; replace hb := hb.trans (k1.mono hb.size); clear k1))
  go_ret
  exact ⟨rfl, hb⟩
set_option maxRecDepth 100000 in
set_option maxHeartbeats 1000000 in
theorem InstrTypes_walk (s : ByteArray) (hs : s.size ≤ maxLen) (w : World) :
    Calls Try.prog 10 #[.string s] w fun e w' => e = .returned (.bool true) ∧ Below w.heap.size w w' := by
  have H1 := Lib.hid (takeType_any s hs)
  have H4 := Lib.hid (refType_any (byt s 0 : Nat))
  have HA := Lib.hid awake_any
  have hb := Below.refl w.heap.size w
  unfold typeTup at H1
  unfold maxLen at hs
  by_cases h0 : s.size = 0
  · rw [if_pos h0] at H1
    have hse : s = ⟨#[]⟩ := ByteArray.size_eq_zero_iff.1 h0
    subst hse
    clear h0 H4
    go_enter Try.func10, Try.ntmps10
    go_wp2_with (first
      | (go_at_call 23; refine (H1.out _).mono ?_; rintro e w1 ⟨rfl, k1⟩; replace hb := hb.trans (k1.mono hb.size); clear k1)
      | (go_at_call 15; refine (HA.out _).mono ?_; rintro e w1 ⟨rfl, k1⟩; replace hb := hb.trans (k1.mono hb.size); clear k1))
    go_ret
    exact ⟨rfl, hb⟩
  · rw [if_neg h0] at H1
    have hpos : 0 < s.size := by omega
    have hne := toList_some hpos
    have e3 := byt_get s 0 hpos
    have e5 := byt_lt s 0
    have b1 : (1 : Int) ≤ s.size := by omega
    revert H1 H4
    generalize (typeV (byt s 0 : Nat)).1 = t
    generalize (typeV (byt s 0 : Nat)).2 = f
    intro H1 H4
    by_cases hf : f = 0
    · rw [if_pos hf] at H1
      subst hf
      go_enter Try.func10, Try.ntmps10
      go_wp2_with (first
        | (go_at_call 23; refine (H1.out _).mono ?_; rintro e w1 ⟨rfl, k1⟩; replace hb := hb.trans (k1.mono hb.size); clear k1)
        | (go_at_call 14; refine (H4.out _).mono ?_; rintro e w1 ⟨rfl, k1⟩; replace hb := hb.trans (k1.mono hb.size); clear k1)
        | (go_at_call 15; refine (HA.out _).mono ?_; rintro e w1 ⟨rfl, k1⟩; replace hb := hb.trans (k1.mono hb.size); clear k1))
      go_ret
      exact ⟨rfl, hb⟩
    · rw [if_neg hf] at H1
      have hf2 := eq_no hf
      clear hf
      go_enter Try.func10, Try.ntmps10
      go_wp2_with (first
        | (go_at_call 23; refine (H1.out _).mono ?_; rintro e w1 ⟨rfl, k1⟩; replace hb := hb.trans (k1.mono hb.size); clear k1)
        | (go_at_call 14; refine (H4.out _).mono ?_; rintro e w1 ⟨rfl, k1⟩; replace hb := hb.trans (k1.mono hb.size); clear k1)
        | (go_at_call 15; refine (HA.out _).mono ?_; rintro e w1 ⟨rfl, k1⟩; replace hb := hb.trans (k1.mono hb.size); clear k1))
      go_ret
      exact ⟨rfl, hb⟩
end Go.Proofs.Ytgacnelpdhmeiaa
