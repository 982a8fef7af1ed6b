/- handles: chapter 16's example, walked; tables that are none. -/
import Derived.Test.YtglhfofofacekaaHdT
set_option linter.unusedVariables false
set_option linter.unusedSimpArgs false
namespace Go.Proofs.Ytglhfofofacekaa
open Go.RowKit

theorem one_in (w : World) (x : Int) : IntsIn (w.alloc (.cells #[.int .i64 x] 3)) (some ⟨w.heap.size, 0, none⟩) 1 1 [x] := by
  refine ⟨rfl, .inr ⟨w.heap.size, 0, rfl, fun i hi => ?_⟩⟩
  obtain rfl : i = 0 := by omega
  rw [BlkAt.cell (BlkAt.new w _ _)]
  rfl
theorem wf1 : wf64 1 := by decide
set_option maxRecDepth 100000 in
set_option maxHeartbeats 4000000 in
theorem awake16 (w : World) : Calls Try.prog 7 #[] w fun e w' => e = .returned (.bool true) ∧ Below w.heap.size w w' := by
  have B0 : Below w.heap.size w (w.alloc (.cells #[.int .i64 0] 3)) := (Below.refl _ w).alloc (Nat.le_refl _) _
  have N0 := St.new 2 _ 1 1 [0] _ (one_in w 0) rfl
  have A1 : ∀ B a w, St B a w xs0 0 → _ := fun B a w h => by have := St.make h 0 0 7; rw [ex1] at this; exact this
  have A2 : ∀ B a w, St B a w xs1 0 → _ := fun B a w h => by have := St.enter h 1; rw [ex2] at this; exact this
  have A3 : ∀ B a w, St B a w xs2 0 → _ := fun B a w h => by have := St.lend h (by omega) 0 0 1 wf1; rw [ex3] at this; exact this
  have A4 : ∀ B a w, St B a w xs3 1 → _ := fun B a w h => by have := St.borrow h 1 0 7; rw [ex4] at this; exact this
  have A5 : ∀ B a w, St B a w xs4 1 → _ := fun B a w h => by have := St.drop h 0 0 1 wf1; rw [ex5] at this; exact this
  have A6 : ∀ B a w, St B a w xs4 1 → _ := fun B a w h => by have := St.leave h; rw [ex6] at this; exact this
  have A7 : ∀ B a w, St B a w xs4 1 → _ := fun B a w h => by have := St.drop h 1 0 1 wf1; rw [ex7] at this; exact this
  have A8 : ∀ B a w, St B a w xs5 1 → _ := fun B a w h => by have := St.leave h; rw [ex8] at this; exact this
  have HB := Lib.hid B0
  clear B0
  go_enter Try.func7, Try.ntmps7
  go_wp2_with (first
    | (go_at_call 26; refine (A8 _ _ _ T7.out).mono ?_; rintro e w8 ⟨rfl, t8, b8⟩; have B8 := Lib.hid (B7.out.trans (b8.mono (show w.heap.size ≤ (w.alloc (.cells #[.int .i64 0] 3)).heap.size by simp))); clear t8 b8 T7)
    | (go_at_call 25; refine (A7 _ _ _ T6.out).mono ?_; rintro e w7 ⟨rfl, t7, b7⟩; have T7 := Lib.hid t7; have B7 := Lib.hid (B6.out.trans (b7.mono (show w.heap.size ≤ (w.alloc (.cells #[.int .i64 0] 3)).heap.size by simp))); clear t7 b7 T6)
    | (go_at_call 26; refine (A6 _ _ _ T5.out).mono ?_; rintro e w6 ⟨rfl, t6, b6⟩; have T6 := Lib.hid t6; have B6 := Lib.hid (B5.out.trans (b6.mono (show w.heap.size ≤ (w.alloc (.cells #[.int .i64 0] 3)).heap.size by simp))); clear t6 b6 T5)
    | (go_at_call 25; refine (A5 _ _ _ T4.out).mono ?_; rintro e w5 ⟨rfl, t5, b5⟩; have T5 := Lib.hid t5; have B5 := Lib.hid (B4.out.trans (b5.mono (show w.heap.size ≤ (w.alloc (.cells #[.int .i64 0] 3)).heap.size by simp))); clear t5 b5 T4)
    | (go_at_call 24; refine (A4 _ _ _ T3.out).mono ?_; rintro e w4 ⟨rfl, t4, b4⟩; have T4 := Lib.hid t4; have B4 := Lib.hid (B3.out.trans (b4.mono (show w.heap.size ≤ (w.alloc (.cells #[.int .i64 0] 3)).heap.size by simp))); clear t4 b4 T3)
    | (go_at_call 23; refine (A3 _ _ _ T2.out).mono ?_; rintro e w3 ⟨rfl, t3, b3⟩; have T3 := Lib.hid t3; have B3 := Lib.hid (B2.out.trans (b3.mono (show w.heap.size ≤ (w.alloc (.cells #[.int .i64 0] 3)).heap.size by simp))); clear t3 b3 T2)
    | (go_at_call 22; refine (A2 _ _ _ T1.out).mono ?_; rintro e w2 ⟨rfl, t2, b2⟩; have T2 := Lib.hid t2; have B2 := Lib.hid (B1.out.trans (b2.mono (show w.heap.size ≤ (w.alloc (.cells #[.int .i64 0] 3)).heap.size by simp))); clear t2 b2 T1)
    | (go_at_call 21; refine (A1 _ _ _ T0.out).mono ?_; rintro e w1 ⟨rfl, t1, b1⟩; have T1 := Lib.hid t1; have B1 := Lib.hid (C0.out.trans (b1.mono (show w.heap.size ≤ (w.alloc (.cells #[.int .i64 0] 3)).heap.size by simp))); clear t1 b1 T0)
    | (go_at_call 5; refine N0.mono ?_; rintro e w0 ⟨a, rfl, t0, b0⟩; have T0 := Lib.hid t0; have C0 := Lib.hid (HB.out.trans (b0.mono (show w.heap.size ≤ (w.alloc (.cells #[.int .i64 0] 3)).heap.size by simp))); clear t0 b0))
  go_ret
  exact ⟨rfl, B8.out⟩

set_option maxRecDepth 100000 in
set_option maxHeartbeats 1000000 in
theorem calls_nil (w : World) : Calls Try.prog 41 #[.pointer none] w fun e w' => e = .returned (.slice none 0 0) ∧ w = w' := by
  go_enter Try.func41, Try.ntmps41
  go_wp2_with fail
  go_ret
  exact ⟨rfl, rfl⟩
set_option maxRecDepth 100000 in
set_option maxHeartbeats 1000000 in
theorem handles_nil (i : Int) (w : World) : Calls Try.prog 16 #[.pointer none, .int .i64 i] w fun e w' => e = .returned (.slice none 0 0) ∧ w = w' := by
  have HH := has_nil i w
  go_enter Try.func16, Try.ntmps16
  go_wp2_with (go_at_call 44; refine HH.mono ?_; rintro e w' ⟨rfl, rfl⟩)
  go_ret
  exact ⟨rfl, rfl⟩
set_option maxRecDepth 100000 in
set_option maxHeartbeats 1000000 in
theorem clone_nil (w : World) : Calls Try.prog 15 #[.pointer none] w fun e w' => e = .returned (.pointer none) ∧ w = w' := by
  go_enter Try.func15, Try.ntmps15
  go_wp2_with fail
  go_ret
  exact ⟨rfl, rfl⟩
end Go.Proofs.Ytglhfofofacekaa
