/- May an instruction's own numbers be? -/
import Derived.Test.YtfhifnkekegkkaaInsC
import Derived.Test.YtfhifnkekegkkaaInsD
namespace Go.Proofs.Ytfhifnkekegkkaa
open Go.RowKit

def idxB (n : Int) : Bool := decide (0 ≤ n ∧ n ≤ 4294967295)
theorem refIdx_b (n : Int) (w : World) : Calls Try.prog 29 #[.int .i64 n] w fun e w' => e = .returned (.bool (idxB n)) ∧ w = w' := refIdx_any n w
/-- An instruction's cells in a block. -/
def InsAt (w : World) (bd : Nat) (op a b m : Int) (xn xl xe : Option Addr) (nl ll el nc lc ec : Nat) : Prop :=
  w.cell? ⟨bd, 0, none⟩ = some (.int .i64 op) ∧ w.cell? ⟨bd, 1, none⟩ = some (.int .i64 a) ∧ w.cell? ⟨bd, 2, none⟩ = some (.int .i64 b) ∧ w.cell? ⟨bd, 3, none⟩ = some (.int .i64 m) ∧
  w.cell? ⟨bd, 4, none⟩ = some (.slice xn nl nc) ∧ w.cell? ⟨bd, 5, none⟩ = some (.slice xl ll lc) ∧ w.cell? ⟨bd, 6, none⟩ = some (.slice xe el ec)
theorem InsAt.below {w w' : World} {bd : Nat} {op a b m : Int} {xn xl xe : Option Addr} {nl ll el nc lc ec : Nat} (h : InsAt w bd op a b m xn xl xe nl ll el nc lc ec) (hb : Below w.heap.size w w') : InsAt w' bd op a b m xn xl xe nl ll el nc lc ec := by
  have key : ∀ o v, w.cell? ⟨bd, o, none⟩ = some v → w'.cell? ⟨bd, o, none⟩ = some v := fun o v hc => (hb.cell (World.block_lt_of_cell? w _ hc)).trans hc
  obtain ⟨h0, h1, h2, h3, h4, h5, h6⟩ := h
  exact ⟨key _ _ h0, key _ _ h1, key _ _ h2, key _ _ h3, key _ _ h4, key _ _ h5, key _ _ h6⟩
/-- May these be an instruction's numbers? -/
def mayV (sh er op a b m : Int) (n : List Int) (ll el : Nat) : Bool :=
  decide (er = 0) && (decide (sh = 2) || decide (ll = 0)) && (decide (op = 4) || decide (el = 0)) && (decide (sh = 4) || decide (n.length = 0)) && (decide (sh = 7) || decide (b = 0)) &&
  (decide (sh ∈ [5, 7, 8, 9]) || decide (m = 0)) && idxB m &&
  (if sh ∈ [1, 8, 11] then decide (a = 0) else if sh = 2 then idxB a || decide (a ∈ [-64, -1, -2, -16]) else if sh = 6 then decide ((typeV a).2 = 0)
   else if sh = 10 then decide (op = 66) || (decide (-2147483648 ≤ a) && decide (a ≤ 2147483647))
   else n.all idxB && idxB a && decide (0 ≤ b) && decide (b < 64) && decide (n.length ≤ 1000))
set_option maxRecDepth 100000 in
set_option maxHeartbeats 4000000 in
theorem refMay_s3 (op a b m : Int) (n : List Int) (xn xl xe : Option Addr) (nl ll el nc lc ec : Nat) (w : World) (hn : nl = n.length) (hv : View w xn nl n) (_hnc : nl ≤ nc) (hll : ll ≤ 9223372036854775807) (hel : el ≤ 9223372036854775807) (_hnl : nc ≤ 9223372036854775807) (hop : (op == 4) = false) (hs : shapeV op = (3, 0)) :
    Calls Try.prog 17 #[.agg #[.int .i64 op, .int .i64 a, .int .i64 b, .int .i64 m, .slice xn nl nc, .slice xl ll lc, .slice xe el ec]] w fun e w' => e = .returned (.bool (mayV 3 0 op a b m n ll el)) ∧ Below w.heap.size w w' := by
  have HS : Hid (∀ w, Calls Try.prog 27 #[.int .i64 op] w fun e w' => e = .returned (.tuple #[.int .i64 3, .int .i64 0]) ∧ Below w.heap.size w w') := Lib.hid fun w => by
    have := refShape_any op w
    rw [hs] at this
    exact this
  have HI := Lib.hid refIdx_b
  have HT := Lib.hid refType_any
  have HO1 := Lib.hid (refOneLit 3 [5, 7, 8, 9] (by decide) false (by decide))
  have HO2 := Lib.hid (refOneLit 3 [1, 8, 11] (by decide) false (by decide))
  have HO3 := Lib.hid (refOneLit a [-64, -1, -2, -16] (by decide) _ rfl)
  have hb0 : Below w.heap.size w (w.alloc (.cells #[.int .i64 op, .int .i64 a, .int .i64 b, .int .i64 m, .slice xn nl nc, .slice xl ll lc, .slice xe el ec] 47)) := (Below.refl _ _).alloc (Nat.le_refl _) _
  have D0 : Hid (InsAt (w.alloc (.cells #[.int .i64 op, .int .i64 a, .int .i64 b, .int .i64 m, .slice xn nl nc, .slice xl ll lc, .slice xe el ec] 47)) w.heap.size op a b m xn xl xe nl ll el nc lc ec) := Lib.hid ⟨World.cell?_alloc_mark w _ _ _ 0, World.cell?_alloc_mark w _ _ _ 1, World.cell?_alloc_mark w _ _ _ 2, World.cell?_alloc_mark w _ _ _ 3, World.cell?_alloc_mark w _ _ _ 4, World.cell?_alloc_mark w _ _ _ 5, World.cell?_alloc_mark w _ _ _ 6⟩
  have hb : Below (w.alloc (.cells #[.int .i64 op, .int .i64 a, .int .i64 b, .int .i64 m, .slice xn nl nc, .slice xl ll lc, .slice xe el ec] 47)).heap.size (w.alloc (.cells #[.int .i64 op, .int .i64 a, .int .i64 b, .int .i64 m, .slice xn nl nc, .slice xl ll lc, .slice xe el ec] 47)) (w.alloc (.cells #[.int .i64 op, .int .i64 a, .int .i64 b, .int .i64 m, .slice xn nl nc, .slice xl ll lc, .slice xe el ec] 47)) := Below.refl _ _
  have HB0 := Lib.hid hb0
  have HV := Lib.hid hv
  have HNN := Lib.hid hn
  unfold mayV
  rw [← hn]
  clear hb0 hs hv hn
  go_enter Try.func17, Try.ntmps17
  go_wp2_with (first
    | (go_at_call 27; refine (HS.out _).mono ?_; rintro e w1 ⟨rfl, hh⟩; replace hb := hb.trans (hh.mono hb.size); clear hh HS; have D := D0.out.below hb; obtain ⟨d0, d1, d2, d3, d4, d5, d6⟩ := D)
    | (go_at_call 29; refine (HI.out _ _).mono ?_; rintro e w1 ⟨rfl, rfl⟩)
    | (go_at_call 30; refine (HT.out _ _).mono ?_; rintro e w1 ⟨rfl, hh⟩; replace hb := hb.trans (hh.mono hb.size); clear hh; have D := D0.out.below hb; obtain ⟨d0, d1, d2, d3, d4, d5, d6⟩ := D)
    | (go_at_call 28; refine (HO1.out _).mono ?_; rintro e w1 ⟨rfl, hh⟩; replace hb := hb.trans (hh.mono hb.size); clear hh HO1; have D := D0.out.below hb; obtain ⟨d0, d1, d2, d3, d4, d5, d6⟩ := D)
    | (go_at_call 28; refine (HO2.out _).mono ?_; rintro e w1 ⟨rfl, hh⟩; replace hb := hb.trans (hh.mono hb.size); clear hh HO2; have D := D0.out.below hb; obtain ⟨d0, d1, d2, d3, d4, d5, d6⟩ := D)
    | (go_at_call 28; refine (HO3.out _).mono ?_; rintro e w1 ⟨rfl, hh⟩; replace hb := hb.trans (hh.mono hb.size); clear hh HO3; have D := D0.out.below hb; obtain ⟨d0, d1, d2, d3, d4, d5, d6⟩ := D))
  any_goals (
    go_loopw [7] (fun iv wr => iv = .int .i64 0 ∧ w1 = wr) (fun iv _ => 0)
    case atStart => exact ⟨rfl, rfl⟩
    case round =>
      obtain ⟨rfl, rfl⟩ := hrel
      go_wp2_with (go_at_call 29; refine (HI.out _ _).mono ?_; rintro e w1 ⟨rfl, rfl⟩)
      all_goals
        go_ret
        refine ⟨congrArg (fun c => Ending.returned (.bool c)) ?_, HB0.out.trans (hb.mono (by simp))⟩
        have hnil : n = [] := List.length_eq_zero_iff.1 (by have := HNN.out; omega)
        subst hnil
        first | (simp [*]; done) | (simp; done) | (simp only [bne_eq_false_iff_eq, Bool.not_eq_eq_eq_not, Bool.not_false] at *; simp [*]; done) | (simp only [bne_eq_false_iff_eq, Bool.not_eq_eq_eq_not, Bool.not_false] at *; simp [*]; first | omega | (rw [Bool.eq_iff_iff]; simp; done) | (rw [Bool.eq_iff_iff]; simp; omega)))
  all_goals
    go_ret
    refine ⟨congrArg (fun c => Ending.returned (.bool c)) ?_, HB0.out.trans (hb.mono (by simp))⟩
    first | (simp [*]; done) | (simp; done) | (simp only [bne_iff_ne, ne_eq] at *; simp [*]; done) | (simp only [bne_iff_ne, ne_eq, bne_eq_false_iff_eq, Bool.not_eq_false', Bool.not_eq_true', Bool.not_eq_eq_eq_not, Bool.not_true, Bool.not_false] at *; simp [*]; first | omega | (rw [Bool.eq_iff_iff]; simp; done) | (rw [Bool.eq_iff_iff]; simp; omega))
set_option maxRecDepth 100000 in
set_option maxHeartbeats 4000000 in
theorem refMay_s5 (op a b m : Int) (n : List Int) (xn xl xe : Option Addr) (nl ll el nc lc ec : Nat) (w : World) (hn : nl = n.length) (hv : View w xn nl n) (_hnc : nl ≤ nc) (hll : ll ≤ 9223372036854775807) (hel : el ≤ 9223372036854775807) (_hnl : nc ≤ 9223372036854775807) (hop : (op == 4) = false) (hs : shapeV op = (5, 0)) :
    Calls Try.prog 17 #[.agg #[.int .i64 op, .int .i64 a, .int .i64 b, .int .i64 m, .slice xn nl nc, .slice xl ll lc, .slice xe el ec]] w fun e w' => e = .returned (.bool (mayV 5 0 op a b m n ll el)) ∧ Below w.heap.size w w' := by
  have HS : Hid (∀ w, Calls Try.prog 27 #[.int .i64 op] w fun e w' => e = .returned (.tuple #[.int .i64 5, .int .i64 0]) ∧ Below w.heap.size w w') := Lib.hid fun w => by
    have := refShape_any op w
    rw [hs] at this
    exact this
  have HI := Lib.hid refIdx_b
  have HT := Lib.hid refType_any
  have HO1 := Lib.hid (refOneLit 5 [5, 7, 8, 9] (by decide) true (by decide))
  have HO2 := Lib.hid (refOneLit 5 [1, 8, 11] (by decide) false (by decide))
  have HO3 := Lib.hid (refOneLit a [-64, -1, -2, -16] (by decide) _ rfl)
  have hb0 : Below w.heap.size w (w.alloc (.cells #[.int .i64 op, .int .i64 a, .int .i64 b, .int .i64 m, .slice xn nl nc, .slice xl ll lc, .slice xe el ec] 47)) := (Below.refl _ _).alloc (Nat.le_refl _) _
  have D0 : Hid (InsAt (w.alloc (.cells #[.int .i64 op, .int .i64 a, .int .i64 b, .int .i64 m, .slice xn nl nc, .slice xl ll lc, .slice xe el ec] 47)) w.heap.size op a b m xn xl xe nl ll el nc lc ec) := Lib.hid ⟨World.cell?_alloc_mark w _ _ _ 0, World.cell?_alloc_mark w _ _ _ 1, World.cell?_alloc_mark w _ _ _ 2, World.cell?_alloc_mark w _ _ _ 3, World.cell?_alloc_mark w _ _ _ 4, World.cell?_alloc_mark w _ _ _ 5, World.cell?_alloc_mark w _ _ _ 6⟩
  have hb : Below (w.alloc (.cells #[.int .i64 op, .int .i64 a, .int .i64 b, .int .i64 m, .slice xn nl nc, .slice xl ll lc, .slice xe el ec] 47)).heap.size (w.alloc (.cells #[.int .i64 op, .int .i64 a, .int .i64 b, .int .i64 m, .slice xn nl nc, .slice xl ll lc, .slice xe el ec] 47)) (w.alloc (.cells #[.int .i64 op, .int .i64 a, .int .i64 b, .int .i64 m, .slice xn nl nc, .slice xl ll lc, .slice xe el ec] 47)) := Below.refl _ _
  have HB0 := Lib.hid hb0
  have HV := Lib.hid hv
  have HNN := Lib.hid hn
  unfold mayV
  rw [← hn]
  clear hb0 hs hv hn
  go_enter Try.func17, Try.ntmps17
  go_wp2_with (first
    | (go_at_call 27; refine (HS.out _).mono ?_; rintro e w1 ⟨rfl, hh⟩; replace hb := hb.trans (hh.mono hb.size); clear hh HS; have D := D0.out.below hb; obtain ⟨d0, d1, d2, d3, d4, d5, d6⟩ := D)
    | (go_at_call 29; refine (HI.out _ _).mono ?_; rintro e w1 ⟨rfl, rfl⟩)
    | (go_at_call 30; refine (HT.out _ _).mono ?_; rintro e w1 ⟨rfl, hh⟩; replace hb := hb.trans (hh.mono hb.size); clear hh; have D := D0.out.below hb; obtain ⟨d0, d1, d2, d3, d4, d5, d6⟩ := D)
    | (go_at_call 28; refine (HO1.out _).mono ?_; rintro e w1 ⟨rfl, hh⟩; replace hb := hb.trans (hh.mono hb.size); clear hh HO1; have D := D0.out.below hb; obtain ⟨d0, d1, d2, d3, d4, d5, d6⟩ := D)
    | (go_at_call 28; refine (HO2.out _).mono ?_; rintro e w1 ⟨rfl, hh⟩; replace hb := hb.trans (hh.mono hb.size); clear hh HO2; have D := D0.out.below hb; obtain ⟨d0, d1, d2, d3, d4, d5, d6⟩ := D)
    | (go_at_call 28; refine (HO3.out _).mono ?_; rintro e w1 ⟨rfl, hh⟩; replace hb := hb.trans (hh.mono hb.size); clear hh HO3; have D := D0.out.below hb; obtain ⟨d0, d1, d2, d3, d4, d5, d6⟩ := D))
  any_goals (
    go_loopw [7] (fun iv wr => iv = .int .i64 0 ∧ w1 = wr) (fun iv _ => 0)
    case atStart => exact ⟨rfl, rfl⟩
    case round =>
      obtain ⟨rfl, rfl⟩ := hrel
      go_wp2_with (go_at_call 29; refine (HI.out _ _).mono ?_; rintro e w1 ⟨rfl, rfl⟩)
      all_goals
        go_ret
        refine ⟨congrArg (fun c => Ending.returned (.bool c)) ?_, HB0.out.trans (hb.mono (by simp))⟩
        have hnil : n = [] := List.length_eq_zero_iff.1 (by have := HNN.out; omega)
        subst hnil
        first | (simp [*]; done) | (simp; done) | (simp only [bne_eq_false_iff_eq, Bool.not_eq_eq_eq_not, Bool.not_false] at *; simp [*]; done) | (simp only [bne_eq_false_iff_eq, Bool.not_eq_eq_eq_not, Bool.not_false] at *; simp [*]; first | omega | (rw [Bool.eq_iff_iff]; simp; done) | (rw [Bool.eq_iff_iff]; simp; omega)))
  all_goals
    go_ret
    refine ⟨congrArg (fun c => Ending.returned (.bool c)) ?_, HB0.out.trans (hb.mono (by simp))⟩
    first | (simp [*]; done) | (simp; done) | (simp only [bne_iff_ne, ne_eq, bne_eq_false_iff_eq, Bool.not_eq_eq_eq_not, Bool.not_true] at *; simp [*]; done) | (simp only [bne_iff_ne, ne_eq, bne_eq_false_iff_eq, Bool.not_eq_false', Bool.not_eq_true', Bool.not_eq_eq_eq_not, Bool.not_true, Bool.not_false] at *; simp [*]; first | omega | (rw [Bool.eq_iff_iff]; simp; done) | (rw [Bool.eq_iff_iff]; simp; omega))
set_option maxRecDepth 100000 in
set_option maxHeartbeats 4000000 in
theorem refMay_s7 (op a b m : Int) (n : List Int) (xn xl xe : Option Addr) (nl ll el nc lc ec : Nat) (w : World) (hn : nl = n.length) (hv : View w xn nl n) (_hnc : nl ≤ nc) (hll : ll ≤ 9223372036854775807) (hel : el ≤ 9223372036854775807) (_hnl : nc ≤ 9223372036854775807) (_hop : (op == 4) = false) (hs : shapeV op = (7, 0)) :
    Calls Try.prog 17 #[.agg #[.int .i64 op, .int .i64 a, .int .i64 b, .int .i64 m, .slice xn nl nc, .slice xl ll lc, .slice xe el ec]] w fun e w' => e = .returned (.bool (mayV 7 0 op a b m n ll el)) ∧ Below w.heap.size w w' := by
  have HS : Hid (∀ w, Calls Try.prog 27 #[.int .i64 op] w fun e w' => e = .returned (.tuple #[.int .i64 7, .int .i64 0]) ∧ Below w.heap.size w w') := Lib.hid fun w => by
    have := refShape_any op w
    rw [hs] at this
    exact this
  have HI := Lib.hid refIdx_b
  have HT := Lib.hid refType_any
  have HO1 := Lib.hid (refOneLit 7 [5, 7, 8, 9] (by decide) true (by decide))
  have HO2 := Lib.hid (refOneLit 7 [1, 8, 11] (by decide) false (by decide))
  have HO3 := Lib.hid (refOneLit a [-64, -1, -2, -16] (by decide) _ rfl)
  have hb0 : Below w.heap.size w (w.alloc (.cells #[.int .i64 op, .int .i64 a, .int .i64 b, .int .i64 m, .slice xn nl nc, .slice xl ll lc, .slice xe el ec] 47)) := (Below.refl _ _).alloc (Nat.le_refl _) _
  have D0 : Hid (InsAt (w.alloc (.cells #[.int .i64 op, .int .i64 a, .int .i64 b, .int .i64 m, .slice xn nl nc, .slice xl ll lc, .slice xe el ec] 47)) w.heap.size op a b m xn xl xe nl ll el nc lc ec) := Lib.hid ⟨World.cell?_alloc_mark w _ _ _ 0, World.cell?_alloc_mark w _ _ _ 1, World.cell?_alloc_mark w _ _ _ 2, World.cell?_alloc_mark w _ _ _ 3, World.cell?_alloc_mark w _ _ _ 4, World.cell?_alloc_mark w _ _ _ 5, World.cell?_alloc_mark w _ _ _ 6⟩
  have hb : Below (w.alloc (.cells #[.int .i64 op, .int .i64 a, .int .i64 b, .int .i64 m, .slice xn nl nc, .slice xl ll lc, .slice xe el ec] 47)).heap.size (w.alloc (.cells #[.int .i64 op, .int .i64 a, .int .i64 b, .int .i64 m, .slice xn nl nc, .slice xl ll lc, .slice xe el ec] 47)) (w.alloc (.cells #[.int .i64 op, .int .i64 a, .int .i64 b, .int .i64 m, .slice xn nl nc, .slice xl ll lc, .slice xe el ec] 47)) := Below.refl _ _
  have HB0 := Lib.hid hb0
  have HV := Lib.hid hv
  have HNN := Lib.hid hn
  unfold mayV
  rw [← hn]
  clear hb0 hs hv hn
  go_enter Try.func17, Try.ntmps17
  go_wp2_with (first
    | (go_at_call 27; refine (HS.out _).mono ?_; rintro e w1 ⟨rfl, hh⟩; replace hb := hb.trans (hh.mono hb.size); clear hh HS; have D := D0.out.below hb; obtain ⟨d0, d1, d2, d3, d4, d5, d6⟩ := D)
    | (go_at_call 29; refine (HI.out _ _).mono ?_; rintro e w1 ⟨rfl, rfl⟩)
    | (go_at_call 30; refine (HT.out _ _).mono ?_; rintro e w1 ⟨rfl, hh⟩; replace hb := hb.trans (hh.mono hb.size); clear hh; have D := D0.out.below hb; obtain ⟨d0, d1, d2, d3, d4, d5, d6⟩ := D)
    | (go_at_call 28; refine (HO1.out _).mono ?_; rintro e w1 ⟨rfl, hh⟩; replace hb := hb.trans (hh.mono hb.size); clear hh HO1; have D := D0.out.below hb; obtain ⟨d0, d1, d2, d3, d4, d5, d6⟩ := D)
    | (go_at_call 28; refine (HO2.out _).mono ?_; rintro e w1 ⟨rfl, hh⟩; replace hb := hb.trans (hh.mono hb.size); clear hh HO2; have D := D0.out.below hb; obtain ⟨d0, d1, d2, d3, d4, d5, d6⟩ := D)
    | (go_at_call 28; refine (HO3.out _).mono ?_; rintro e w1 ⟨rfl, hh⟩; replace hb := hb.trans (hh.mono hb.size); clear hh HO3; have D := D0.out.below hb; obtain ⟨d0, d1, d2, d3, d4, d5, d6⟩ := D))
  any_goals (
    go_loopw [7] (fun iv wr => iv = .int .i64 0 ∧ w1 = wr) (fun iv _ => 0)
    case atStart => exact ⟨rfl, rfl⟩
    case round =>
      obtain ⟨rfl, rfl⟩ := hrel
      go_wp2_with (go_at_call 29; refine (HI.out _ _).mono ?_; rintro e w1 ⟨rfl, rfl⟩)
      all_goals
        go_ret
        refine ⟨congrArg (fun c => Ending.returned (.bool c)) ?_, HB0.out.trans (hb.mono (by simp))⟩
        have hnil : n = [] := List.length_eq_zero_iff.1 (by have := HNN.out; omega)
        subst hnil
        first | (simp [*]; done) | (simp; done) | (simp only [Bool.not_eq_eq_eq_not, Bool.not_false] at *; simp [*]; done) | (simp only [Bool.not_eq_eq_eq_not, Bool.not_false] at *; simp [*]; first | omega | (rw [Bool.eq_iff_iff]; simp; done) | (rw [Bool.eq_iff_iff]; simp; omega)))
  all_goals
    go_ret
    refine ⟨congrArg (fun c => Ending.returned (.bool c)) ?_, HB0.out.trans (hb.mono (by simp))⟩
    first | (simp [*]; done) | (simp; done) | (simp only [Bool.not_eq_eq_eq_not, Bool.not_true] at *; simp [*]; done) | (simp only [bne_iff_ne, ne_eq, bne_eq_false_iff_eq, Bool.not_eq_false', Bool.not_eq_true', Bool.not_eq_eq_eq_not, Bool.not_true, Bool.not_false] at *; simp [*]; first | omega | (rw [Bool.eq_iff_iff]; simp; done) | (rw [Bool.eq_iff_iff]; simp; omega))
set_option maxRecDepth 100000 in
set_option maxHeartbeats 4000000 in
theorem refMay_s9 (op a b m : Int) (n : List Int) (xn xl xe : Option Addr) (nl ll el nc lc ec : Nat) (w : World) (hn : nl = n.length) (hv : View w xn nl n) (_hnc : nl ≤ nc) (hll : ll ≤ 9223372036854775807) (hel : el ≤ 9223372036854775807) (_hnl : nc ≤ 9223372036854775807) (hop : (op == 4) = false) (hs : shapeV op = (9, 0)) :
    Calls Try.prog 17 #[.agg #[.int .i64 op, .int .i64 a, .int .i64 b, .int .i64 m, .slice xn nl nc, .slice xl ll lc, .slice xe el ec]] w fun e w' => e = .returned (.bool (mayV 9 0 op a b m n ll el)) ∧ Below w.heap.size w w' := by
  have HS : Hid (∀ w, Calls Try.prog 27 #[.int .i64 op] w fun e w' => e = .returned (.tuple #[.int .i64 9, .int .i64 0]) ∧ Below w.heap.size w w') := Lib.hid fun w => by
    have := refShape_any op w
    rw [hs] at this
    exact this
  have HI := Lib.hid refIdx_b
  have HT := Lib.hid refType_any
  have HO1 := Lib.hid (refOneLit 9 [5, 7, 8, 9] (by decide) true (by decide))
  have HO2 := Lib.hid (refOneLit 9 [1, 8, 11] (by decide) false (by decide))
  have HO3 := Lib.hid (refOneLit a [-64, -1, -2, -16] (by decide) _ rfl)
  have hb0 : Below w.heap.size w (w.alloc (.cells #[.int .i64 op, .int .i64 a, .int .i64 b, .int .i64 m, .slice xn nl nc, .slice xl ll lc, .slice xe el ec] 47)) := (Below.refl _ _).alloc (Nat.le_refl _) _
  have D0 : Hid (InsAt (w.alloc (.cells #[.int .i64 op, .int .i64 a, .int .i64 b, .int .i64 m, .slice xn nl nc, .slice xl ll lc, .slice xe el ec] 47)) w.heap.size op a b m xn xl xe nl ll el nc lc ec) := Lib.hid ⟨World.cell?_alloc_mark w _ _ _ 0, World.cell?_alloc_mark w _ _ _ 1, World.cell?_alloc_mark w _ _ _ 2, World.cell?_alloc_mark w _ _ _ 3, World.cell?_alloc_mark w _ _ _ 4, World.cell?_alloc_mark w _ _ _ 5, World.cell?_alloc_mark w _ _ _ 6⟩
  have hb : Below (w.alloc (.cells #[.int .i64 op, .int .i64 a, .int .i64 b, .int .i64 m, .slice xn nl nc, .slice xl ll lc, .slice xe el ec] 47)).heap.size (w.alloc (.cells #[.int .i64 op, .int .i64 a, .int .i64 b, .int .i64 m, .slice xn nl nc, .slice xl ll lc, .slice xe el ec] 47)) (w.alloc (.cells #[.int .i64 op, .int .i64 a, .int .i64 b, .int .i64 m, .slice xn nl nc, .slice xl ll lc, .slice xe el ec] 47)) := Below.refl _ _
  have HB0 := Lib.hid hb0
  have HV := Lib.hid hv
  have HNN := Lib.hid hn
  unfold mayV
  rw [← hn]
  clear hb0 hs hv hn
  go_enter Try.func17, Try.ntmps17
  go_wp2_with (first
    | (go_at_call 27; refine (HS.out _).mono ?_; rintro e w1 ⟨rfl, hh⟩; replace hb := hb.trans (hh.mono hb.size); clear hh HS; have D := D0.out.below hb; obtain ⟨d0, d1, d2, d3, d4, d5, d6⟩ := D)
    | (go_at_call 29; refine (HI.out _ _).mono ?_; rintro e w1 ⟨rfl, rfl⟩)
    | (go_at_call 30; refine (HT.out _ _).mono ?_; rintro e w1 ⟨rfl, hh⟩; replace hb := hb.trans (hh.mono hb.size); clear hh; have D := D0.out.below hb; obtain ⟨d0, d1, d2, d3, d4, d5, d6⟩ := D)
    | (go_at_call 28; refine (HO1.out _).mono ?_; rintro e w1 ⟨rfl, hh⟩; replace hb := hb.trans (hh.mono hb.size); clear hh HO1; have D := D0.out.below hb; obtain ⟨d0, d1, d2, d3, d4, d5, d6⟩ := D)
    | (go_at_call 28; refine (HO2.out _).mono ?_; rintro e w1 ⟨rfl, hh⟩; replace hb := hb.trans (hh.mono hb.size); clear hh HO2; have D := D0.out.below hb; obtain ⟨d0, d1, d2, d3, d4, d5, d6⟩ := D)
    | (go_at_call 28; refine (HO3.out _).mono ?_; rintro e w1 ⟨rfl, hh⟩; replace hb := hb.trans (hh.mono hb.size); clear hh HO3; have D := D0.out.below hb; obtain ⟨d0, d1, d2, d3, d4, d5, d6⟩ := D))
  any_goals (
    go_loopw [7] (fun iv wr => iv = .int .i64 0 ∧ w1 = wr) (fun iv _ => 0)
    case atStart => exact ⟨rfl, rfl⟩
    case round =>
      obtain ⟨rfl, rfl⟩ := hrel
      go_wp2_with (go_at_call 29; refine (HI.out _ _).mono ?_; rintro e w1 ⟨rfl, rfl⟩)
      all_goals
        go_ret
        refine ⟨congrArg (fun c => Ending.returned (.bool c)) ?_, HB0.out.trans (hb.mono (by simp))⟩
        have hnil : n = [] := List.length_eq_zero_iff.1 (by have := HNN.out; omega)
        subst hnil
        first | (simp [*]; done) | (simp; done) | (simp only [bne_eq_false_iff_eq, Bool.not_eq_eq_eq_not, Bool.not_false] at *; simp [*]; done) | (simp only [bne_eq_false_iff_eq, Bool.not_eq_eq_eq_not, Bool.not_false] at *; simp [*]; first | omega | (rw [Bool.eq_iff_iff]; simp; done) | (rw [Bool.eq_iff_iff]; simp; omega)))
  all_goals
    go_ret
    refine ⟨congrArg (fun c => Ending.returned (.bool c)) ?_, HB0.out.trans (hb.mono (by simp))⟩
    first | (simp [*]; done) | (simp; done) | (simp only [bne_iff_ne, ne_eq, bne_eq_false_iff_eq, Bool.not_eq_eq_eq_not, Bool.not_true] at *; simp [*]; done) | (simp only [bne_iff_ne, ne_eq, bne_eq_false_iff_eq, Bool.not_eq_false', Bool.not_eq_true', Bool.not_eq_eq_eq_not, Bool.not_true, Bool.not_false] at *; simp [*]; first | omega | (rw [Bool.eq_iff_iff]; simp; done) | (rw [Bool.eq_iff_iff]; simp; omega))
set_option maxRecDepth 100000 in
set_option maxHeartbeats 4000000 in
theorem refMay_s1 (op a b m : Int) (n : List Int) (xn xl xe : Option Addr) (nl ll el nc lc ec : Nat) (w : World) (hn : nl = n.length) (hv : View w xn nl n) (_hnc : nl ≤ nc) (hll : ll ≤ 9223372036854775807) (hel : el ≤ 9223372036854775807) (_hnl : nc ≤ 9223372036854775807) (hop : (op == 4) = false) (hs : shapeV op = (1, 0)) :
    Calls Try.prog 17 #[.agg #[.int .i64 op, .int .i64 a, .int .i64 b, .int .i64 m, .slice xn nl nc, .slice xl ll lc, .slice xe el ec]] w fun e w' => e = .returned (.bool (mayV 1 0 op a b m n ll el)) ∧ Below w.heap.size w w' := by
  have HS : Hid (∀ w, Calls Try.prog 27 #[.int .i64 op] w fun e w' => e = .returned (.tuple #[.int .i64 1, .int .i64 0]) ∧ Below w.heap.size w w') := Lib.hid fun w => by
    have := refShape_any op w
    rw [hs] at this
    exact this
  have HI := Lib.hid refIdx_b
  have HT := Lib.hid refType_any
  have HO1 := Lib.hid (refOneLit 1 [5, 7, 8, 9] (by decide) false (by decide))
  have HO2 := Lib.hid (refOneLit 1 [1, 8, 11] (by decide) true (by decide))
  have HO3 := Lib.hid (refOneLit a [-64, -1, -2, -16] (by decide) _ rfl)
  have hb0 : Below w.heap.size w (w.alloc (.cells #[.int .i64 op, .int .i64 a, .int .i64 b, .int .i64 m, .slice xn nl nc, .slice xl ll lc, .slice xe el ec] 47)) := (Below.refl _ _).alloc (Nat.le_refl _) _
  have D0 : Hid (InsAt (w.alloc (.cells #[.int .i64 op, .int .i64 a, .int .i64 b, .int .i64 m, .slice xn nl nc, .slice xl ll lc, .slice xe el ec] 47)) w.heap.size op a b m xn xl xe nl ll el nc lc ec) := Lib.hid ⟨World.cell?_alloc_mark w _ _ _ 0, World.cell?_alloc_mark w _ _ _ 1, World.cell?_alloc_mark w _ _ _ 2, World.cell?_alloc_mark w _ _ _ 3, World.cell?_alloc_mark w _ _ _ 4, World.cell?_alloc_mark w _ _ _ 5, World.cell?_alloc_mark w _ _ _ 6⟩
  have hb : Below (w.alloc (.cells #[.int .i64 op, .int .i64 a, .int .i64 b, .int .i64 m, .slice xn nl nc, .slice xl ll lc, .slice xe el ec] 47)).heap.size (w.alloc (.cells #[.int .i64 op, .int .i64 a, .int .i64 b, .int .i64 m, .slice xn nl nc, .slice xl ll lc, .slice xe el ec] 47)) (w.alloc (.cells #[.int .i64 op, .int .i64 a, .int .i64 b, .int .i64 m, .slice xn nl nc, .slice xl ll lc, .slice xe el ec] 47)) := Below.refl _ _
  have HB0 := Lib.hid hb0
  have HV := Lib.hid hv
  have HNN := Lib.hid hn
  unfold mayV
  rw [← hn]
  clear hb0 hs hv hn
  go_enter Try.func17, Try.ntmps17
  go_wp2_with (first
    | (go_at_call 27; refine (HS.out _).mono ?_; rintro e w1 ⟨rfl, hh⟩; replace hb := hb.trans (hh.mono hb.size); clear hh HS; have D := D0.out.below hb; obtain ⟨d0, d1, d2, d3, d4, d5, d6⟩ := D)
    | (go_at_call 29; refine (HI.out _ _).mono ?_; rintro e w1 ⟨rfl, rfl⟩)
    | (go_at_call 30; refine (HT.out _ _).mono ?_; rintro e w1 ⟨rfl, hh⟩; replace hb := hb.trans (hh.mono hb.size); clear hh; have D := D0.out.below hb; obtain ⟨d0, d1, d2, d3, d4, d5, d6⟩ := D)
    | (go_at_call 28; refine (HO1.out _).mono ?_; rintro e w1 ⟨rfl, hh⟩; replace hb := hb.trans (hh.mono hb.size); clear hh HO1; have D := D0.out.below hb; obtain ⟨d0, d1, d2, d3, d4, d5, d6⟩ := D)
    | (go_at_call 28; refine (HO2.out _).mono ?_; rintro e w1 ⟨rfl, hh⟩; replace hb := hb.trans (hh.mono hb.size); clear hh HO2; have D := D0.out.below hb; obtain ⟨d0, d1, d2, d3, d4, d5, d6⟩ := D)
    | (go_at_call 28; refine (HO3.out _).mono ?_; rintro e w1 ⟨rfl, hh⟩; replace hb := hb.trans (hh.mono hb.size); clear hh HO3; have D := D0.out.below hb; obtain ⟨d0, d1, d2, d3, d4, d5, d6⟩ := D))
  all_goals
    go_ret
    refine ⟨congrArg (fun c => Ending.returned (.bool c)) ?_, HB0.out.trans (hb.mono (by simp))⟩
    first | (simp [*]; done) | (simp; done) | (simp only [bne_iff_ne, ne_eq, bne_eq_false_iff_eq, Bool.not_eq_eq_eq_not, Bool.not_false] at *; simp [*]; done) | (simp only [bne_eq_false_iff_eq, Bool.not_eq_eq_eq_not, Bool.not_false] at *; simp [*]; first | omega | (rw [Bool.eq_iff_iff]; simp; done) | (rw [Bool.eq_iff_iff]; simp; omega))
set_option maxRecDepth 100000 in
set_option maxHeartbeats 4000000 in
theorem refMay_s8 (op a b m : Int) (n : List Int) (xn xl xe : Option Addr) (nl ll el nc lc ec : Nat) (w : World) (hn : nl = n.length) (hv : View w xn nl n) (_hnc : nl ≤ nc) (hll : ll ≤ 9223372036854775807) (hel : el ≤ 9223372036854775807) (_hnl : nc ≤ 9223372036854775807) (hop : (op == 4) = false) (hs : shapeV op = (8, 0)) :
    Calls Try.prog 17 #[.agg #[.int .i64 op, .int .i64 a, .int .i64 b, .int .i64 m, .slice xn nl nc, .slice xl ll lc, .slice xe el ec]] w fun e w' => e = .returned (.bool (mayV 8 0 op a b m n ll el)) ∧ Below w.heap.size w w' := by
  have HS : Hid (∀ w, Calls Try.prog 27 #[.int .i64 op] w fun e w' => e = .returned (.tuple #[.int .i64 8, .int .i64 0]) ∧ Below w.heap.size w w') := Lib.hid fun w => by
    have := refShape_any op w
    rw [hs] at this
    exact this
  have HI := Lib.hid refIdx_b
  have HT := Lib.hid refType_any
  have HO1 := Lib.hid (refOneLit 8 [5, 7, 8, 9] (by decide) true (by decide))
  have HO2 := Lib.hid (refOneLit 8 [1, 8, 11] (by decide) true (by decide))
  have HO3 := Lib.hid (refOneLit a [-64, -1, -2, -16] (by decide) _ rfl)
  have hb0 : Below w.heap.size w (w.alloc (.cells #[.int .i64 op, .int .i64 a, .int .i64 b, .int .i64 m, .slice xn nl nc, .slice xl ll lc, .slice xe el ec] 47)) := (Below.refl _ _).alloc (Nat.le_refl _) _
  have D0 : Hid (InsAt (w.alloc (.cells #[.int .i64 op, .int .i64 a, .int .i64 b, .int .i64 m, .slice xn nl nc, .slice xl ll lc, .slice xe el ec] 47)) w.heap.size op a b m xn xl xe nl ll el nc lc ec) := Lib.hid ⟨World.cell?_alloc_mark w _ _ _ 0, World.cell?_alloc_mark w _ _ _ 1, World.cell?_alloc_mark w _ _ _ 2, World.cell?_alloc_mark w _ _ _ 3, World.cell?_alloc_mark w _ _ _ 4, World.cell?_alloc_mark w _ _ _ 5, World.cell?_alloc_mark w _ _ _ 6⟩
  have hb : Below (w.alloc (.cells #[.int .i64 op, .int .i64 a, .int .i64 b, .int .i64 m, .slice xn nl nc, .slice xl ll lc, .slice xe el ec] 47)).heap.size (w.alloc (.cells #[.int .i64 op, .int .i64 a, .int .i64 b, .int .i64 m, .slice xn nl nc, .slice xl ll lc, .slice xe el ec] 47)) (w.alloc (.cells #[.int .i64 op, .int .i64 a, .int .i64 b, .int .i64 m, .slice xn nl nc, .slice xl ll lc, .slice xe el ec] 47)) := Below.refl _ _
  have HB0 := Lib.hid hb0
  have HV := Lib.hid hv
  have HNN := Lib.hid hn
  unfold mayV
  rw [← hn]
  clear hb0 hs hv hn
  go_enter Try.func17, Try.ntmps17
  go_wp2_with (first
    | (go_at_call 27; refine (HS.out _).mono ?_; rintro e w1 ⟨rfl, hh⟩; replace hb := hb.trans (hh.mono hb.size); clear hh HS; have D := D0.out.below hb; obtain ⟨d0, d1, d2, d3, d4, d5, d6⟩ := D)
    | (go_at_call 29; refine (HI.out _ _).mono ?_; rintro e w1 ⟨rfl, rfl⟩)
    | (go_at_call 30; refine (HT.out _ _).mono ?_; rintro e w1 ⟨rfl, hh⟩; replace hb := hb.trans (hh.mono hb.size); clear hh; have D := D0.out.below hb; obtain ⟨d0, d1, d2, d3, d4, d5, d6⟩ := D)
    | (go_at_call 28; refine (HO1.out _).mono ?_; rintro e w1 ⟨rfl, hh⟩; replace hb := hb.trans (hh.mono hb.size); clear hh HO1; have D := D0.out.below hb; obtain ⟨d0, d1, d2, d3, d4, d5, d6⟩ := D)
    | (go_at_call 28; refine (HO2.out _).mono ?_; rintro e w1 ⟨rfl, hh⟩; replace hb := hb.trans (hh.mono hb.size); clear hh HO2; have D := D0.out.below hb; obtain ⟨d0, d1, d2, d3, d4, d5, d6⟩ := D)
    | (go_at_call 28; refine (HO3.out _).mono ?_; rintro e w1 ⟨rfl, hh⟩; replace hb := hb.trans (hh.mono hb.size); clear hh HO3; have D := D0.out.below hb; obtain ⟨d0, d1, d2, d3, d4, d5, d6⟩ := D))
  all_goals
    go_ret
    refine ⟨congrArg (fun c => Ending.returned (.bool c)) ?_, HB0.out.trans (hb.mono (by simp))⟩
    first | (simp [*]; done) | (simp; done) | (simp only [bne_iff_ne, ne_eq, bne_eq_false_iff_eq, Bool.not_eq_eq_eq_not, Bool.not_true, Bool.not_false] at *; simp [*]; done) | (simp only [bne_eq_false_iff_eq, Bool.not_eq_eq_eq_not, Bool.not_false] at *; simp [*]; first | omega | (rw [Bool.eq_iff_iff]; simp; done) | (rw [Bool.eq_iff_iff]; simp; omega))
set_option maxRecDepth 100000 in
set_option maxHeartbeats 4000000 in
theorem refMay_s11 (op a b m : Int) (n : List Int) (xn xl xe : Option Addr) (nl ll el nc lc ec : Nat) (w : World) (hn : nl = n.length) (hv : View w xn nl n) (_hnc : nl ≤ nc) (hll : ll ≤ 9223372036854775807) (hel : el ≤ 9223372036854775807) (_hnl : nc ≤ 9223372036854775807) (hop : (op == 4) = false) (hs : shapeV op = (11, 0)) :
    Calls Try.prog 17 #[.agg #[.int .i64 op, .int .i64 a, .int .i64 b, .int .i64 m, .slice xn nl nc, .slice xl ll lc, .slice xe el ec]] w fun e w' => e = .returned (.bool (mayV 11 0 op a b m n ll el)) ∧ Below w.heap.size w w' := by
  have HS : Hid (∀ w, Calls Try.prog 27 #[.int .i64 op] w fun e w' => e = .returned (.tuple #[.int .i64 11, .int .i64 0]) ∧ Below w.heap.size w w') := Lib.hid fun w => by
    have := refShape_any op w
    rw [hs] at this
    exact this
  have HI := Lib.hid refIdx_b
  have HT := Lib.hid refType_any
  have HO1 := Lib.hid (refOneLit 11 [5, 7, 8, 9] (by decide) false (by decide))
  have HO2 := Lib.hid (refOneLit 11 [1, 8, 11] (by decide) true (by decide))
  have HO3 := Lib.hid (refOneLit a [-64, -1, -2, -16] (by decide) _ rfl)
  have hb0 : Below w.heap.size w (w.alloc (.cells #[.int .i64 op, .int .i64 a, .int .i64 b, .int .i64 m, .slice xn nl nc, .slice xl ll lc, .slice xe el ec] 47)) := (Below.refl _ _).alloc (Nat.le_refl _) _
  have D0 : Hid (InsAt (w.alloc (.cells #[.int .i64 op, .int .i64 a, .int .i64 b, .int .i64 m, .slice xn nl nc, .slice xl ll lc, .slice xe el ec] 47)) w.heap.size op a b m xn xl xe nl ll el nc lc ec) := Lib.hid ⟨World.cell?_alloc_mark w _ _ _ 0, World.cell?_alloc_mark w _ _ _ 1, World.cell?_alloc_mark w _ _ _ 2, World.cell?_alloc_mark w _ _ _ 3, World.cell?_alloc_mark w _ _ _ 4, World.cell?_alloc_mark w _ _ _ 5, World.cell?_alloc_mark w _ _ _ 6⟩
  have hb : Below (w.alloc (.cells #[.int .i64 op, .int .i64 a, .int .i64 b, .int .i64 m, .slice xn nl nc, .slice xl ll lc, .slice xe el ec] 47)).heap.size (w.alloc (.cells #[.int .i64 op, .int .i64 a, .int .i64 b, .int .i64 m, .slice xn nl nc, .slice xl ll lc, .slice xe el ec] 47)) (w.alloc (.cells #[.int .i64 op, .int .i64 a, .int .i64 b, .int .i64 m, .slice xn nl nc, .slice xl ll lc, .slice xe el ec] 47)) := Below.refl _ _
  have HB0 := Lib.hid hb0
  have HV := Lib.hid hv
  have HNN := Lib.hid hn
  unfold mayV
  rw [← hn]
  clear hb0 hs hv hn
  go_enter Try.func17, Try.ntmps17
  go_wp2_with (first
    | (go_at_call 27; refine (HS.out _).mono ?_; rintro e w1 ⟨rfl, hh⟩; replace hb := hb.trans (hh.mono hb.size); clear hh HS; have D := D0.out.below hb; obtain ⟨d0, d1, d2, d3, d4, d5, d6⟩ := D)
    | (go_at_call 29; refine (HI.out _ _).mono ?_; rintro e w1 ⟨rfl, rfl⟩)
    | (go_at_call 30; refine (HT.out _ _).mono ?_; rintro e w1 ⟨rfl, hh⟩; replace hb := hb.trans (hh.mono hb.size); clear hh; have D := D0.out.below hb; obtain ⟨d0, d1, d2, d3, d4, d5, d6⟩ := D)
    | (go_at_call 28; refine (HO1.out _).mono ?_; rintro e w1 ⟨rfl, hh⟩; replace hb := hb.trans (hh.mono hb.size); clear hh HO1; have D := D0.out.below hb; obtain ⟨d0, d1, d2, d3, d4, d5, d6⟩ := D)
    | (go_at_call 28; refine (HO2.out _).mono ?_; rintro e w1 ⟨rfl, hh⟩; replace hb := hb.trans (hh.mono hb.size); clear hh HO2; have D := D0.out.below hb; obtain ⟨d0, d1, d2, d3, d4, d5, d6⟩ := D)
    | (go_at_call 28; refine (HO3.out _).mono ?_; rintro e w1 ⟨rfl, hh⟩; replace hb := hb.trans (hh.mono hb.size); clear hh HO3; have D := D0.out.below hb; obtain ⟨d0, d1, d2, d3, d4, d5, d6⟩ := D))
  all_goals
    go_ret
    refine ⟨congrArg (fun c => Ending.returned (.bool c)) ?_, HB0.out.trans (hb.mono (by simp))⟩
    first | (simp [*]; done) | (simp; done) | (simp only [bne_iff_ne, ne_eq, bne_eq_false_iff_eq, Bool.not_eq_eq_eq_not, Bool.not_false] at *; simp [*]; done) | (simp only [bne_eq_false_iff_eq, Bool.not_eq_eq_eq_not, Bool.not_false] at *; simp [*]; first | omega | (rw [Bool.eq_iff_iff]; simp; done) | (rw [Bool.eq_iff_iff]; simp; omega))
set_option maxRecDepth 100000 in
set_option maxHeartbeats 4000000 in
theorem refMay_s2 (op a b m : Int) (n : List Int) (xn xl xe : Option Addr) (nl ll el nc lc ec : Nat) (w : World) (hn : nl = n.length) (hv : View w xn nl n) (_hnc : nl ≤ nc) (_hll : ll ≤ 9223372036854775807) (hel : el ≤ 9223372036854775807) (_hnl : nc ≤ 9223372036854775807)  (hs : shapeV op = (2, 0)) :
    Calls Try.prog 17 #[.agg #[.int .i64 op, .int .i64 a, .int .i64 b, .int .i64 m, .slice xn nl nc, .slice xl ll lc, .slice xe el ec]] w fun e w' => e = .returned (.bool (mayV 2 0 op a b m n ll el)) ∧ Below w.heap.size w w' := by
  have HS : Hid (∀ w, Calls Try.prog 27 #[.int .i64 op] w fun e w' => e = .returned (.tuple #[.int .i64 2, .int .i64 0]) ∧ Below w.heap.size w w') := Lib.hid fun w => by
    have := refShape_any op w
    rw [hs] at this
    exact this
  have HI := Lib.hid refIdx_b
  have HT := Lib.hid refType_any
  have HO1 := Lib.hid (refOneLit 2 [5, 7, 8, 9] (by decide) false (by decide))
  have HO2 := Lib.hid (refOneLit 2 [1, 8, 11] (by decide) false (by decide))
  have HO3 := Lib.hid (refOneLit a [-64, -1, -2, -16] (by decide) _ rfl)
  have hb0 : Below w.heap.size w (w.alloc (.cells #[.int .i64 op, .int .i64 a, .int .i64 b, .int .i64 m, .slice xn nl nc, .slice xl ll lc, .slice xe el ec] 47)) := (Below.refl _ _).alloc (Nat.le_refl _) _
  have D0 : Hid (InsAt (w.alloc (.cells #[.int .i64 op, .int .i64 a, .int .i64 b, .int .i64 m, .slice xn nl nc, .slice xl ll lc, .slice xe el ec] 47)) w.heap.size op a b m xn xl xe nl ll el nc lc ec) := Lib.hid ⟨World.cell?_alloc_mark w _ _ _ 0, World.cell?_alloc_mark w _ _ _ 1, World.cell?_alloc_mark w _ _ _ 2, World.cell?_alloc_mark w _ _ _ 3, World.cell?_alloc_mark w _ _ _ 4, World.cell?_alloc_mark w _ _ _ 5, World.cell?_alloc_mark w _ _ _ 6⟩
  have hb : Below (w.alloc (.cells #[.int .i64 op, .int .i64 a, .int .i64 b, .int .i64 m, .slice xn nl nc, .slice xl ll lc, .slice xe el ec] 47)).heap.size (w.alloc (.cells #[.int .i64 op, .int .i64 a, .int .i64 b, .int .i64 m, .slice xn nl nc, .slice xl ll lc, .slice xe el ec] 47)) (w.alloc (.cells #[.int .i64 op, .int .i64 a, .int .i64 b, .int .i64 m, .slice xn nl nc, .slice xl ll lc, .slice xe el ec] 47)) := Below.refl _ _
  have HB0 := Lib.hid hb0
  have HV := Lib.hid hv
  have HNN := Lib.hid hn
  unfold mayV
  rw [← hn]
  clear hb0 hs hv hn
  go_enter Try.func17, Try.ntmps17
  go_wp2_with (first
    | (go_at_call 27; refine (HS.out _).mono ?_; rintro e w1 ⟨rfl, hh⟩; replace hb := hb.trans (hh.mono hb.size); clear hh HS; have D := D0.out.below hb; obtain ⟨d0, d1, d2, d3, d4, d5, d6⟩ := D)
    | (go_at_call 29; refine (HI.out _ _).mono ?_; rintro e w1 ⟨rfl, rfl⟩)
    | (go_at_call 30; refine (HT.out _ _).mono ?_; rintro e w1 ⟨rfl, hh⟩; replace hb := hb.trans (hh.mono hb.size); clear hh; have D := D0.out.below hb; obtain ⟨d0, d1, d2, d3, d4, d5, d6⟩ := D)
    | (go_at_call 28; refine (HO1.out _).mono ?_; rintro e w1 ⟨rfl, hh⟩; replace hb := hb.trans (hh.mono hb.size); clear hh HO1; have D := D0.out.below hb; obtain ⟨d0, d1, d2, d3, d4, d5, d6⟩ := D)
    | (go_at_call 28; refine (HO2.out _).mono ?_; rintro e w1 ⟨rfl, hh⟩; replace hb := hb.trans (hh.mono hb.size); clear hh HO2; have D := D0.out.below hb; obtain ⟨d0, d1, d2, d3, d4, d5, d6⟩ := D)
    | (go_at_call 28; refine (HO3.out _).mono ?_; rintro e w1 ⟨rfl, hh⟩; replace hb := hb.trans (hh.mono hb.size); clear hh HO3; have D := D0.out.below hb; obtain ⟨d0, d1, d2, d3, d4, d5, d6⟩ := D))
  all_goals
    go_ret
    refine ⟨congrArg (fun c => Ending.returned (.bool c)) ?_, HB0.out.trans (hb.mono (by simp))⟩
    first | (simp [*]; done) | (simp; done) | (simp only [bne_iff_ne, ne_eq, bne_eq_false_iff_eq, Bool.not_eq_eq_eq_not, Bool.not_false] at *; simp [*]; done) | (simp only [bne_iff_ne, ne_eq, bne_eq_false_iff_eq, Bool.not_eq_false', Bool.not_eq_true', Bool.not_eq_eq_eq_not, Bool.not_true, Bool.not_false] at *; simp [*]; first | omega | (rw [Bool.eq_iff_iff]; simp; done) | (rw [Bool.eq_iff_iff]; simp; omega))
set_option maxRecDepth 100000 in
set_option maxHeartbeats 4000000 in
theorem refMay_s6 (op a b m : Int) (n : List Int) (xn xl xe : Option Addr) (nl ll el nc lc ec : Nat) (w : World) (hn : nl = n.length) (hv : View w xn nl n) (_hnc : nl ≤ nc) (hll : ll ≤ 9223372036854775807) (hel : el ≤ 9223372036854775807) (_hnl : nc ≤ 9223372036854775807) (hop : (op == 4) = false) (hs : shapeV op = (6, 0)) :
    Calls Try.prog 17 #[.agg #[.int .i64 op, .int .i64 a, .int .i64 b, .int .i64 m, .slice xn nl nc, .slice xl ll lc, .slice xe el ec]] w fun e w' => e = .returned (.bool (mayV 6 0 op a b m n ll el)) ∧ Below w.heap.size w w' := by
  have HS : Hid (∀ w, Calls Try.prog 27 #[.int .i64 op] w fun e w' => e = .returned (.tuple #[.int .i64 6, .int .i64 0]) ∧ Below w.heap.size w w') := Lib.hid fun w => by
    have := refShape_any op w
    rw [hs] at this
    exact this
  have HI := Lib.hid refIdx_b
  have HT := Lib.hid refType_any
  have HO1 := Lib.hid (refOneLit 6 [5, 7, 8, 9] (by decide) false (by decide))
  have HO2 := Lib.hid (refOneLit 6 [1, 8, 11] (by decide) false (by decide))
  have HO3 := Lib.hid (refOneLit a [-64, -1, -2, -16] (by decide) _ rfl)
  have hb0 : Below w.heap.size w (w.alloc (.cells #[.int .i64 op, .int .i64 a, .int .i64 b, .int .i64 m, .slice xn nl nc, .slice xl ll lc, .slice xe el ec] 47)) := (Below.refl _ _).alloc (Nat.le_refl _) _
  have D0 : Hid (InsAt (w.alloc (.cells #[.int .i64 op, .int .i64 a, .int .i64 b, .int .i64 m, .slice xn nl nc, .slice xl ll lc, .slice xe el ec] 47)) w.heap.size op a b m xn xl xe nl ll el nc lc ec) := Lib.hid ⟨World.cell?_alloc_mark w _ _ _ 0, World.cell?_alloc_mark w _ _ _ 1, World.cell?_alloc_mark w _ _ _ 2, World.cell?_alloc_mark w _ _ _ 3, World.cell?_alloc_mark w _ _ _ 4, World.cell?_alloc_mark w _ _ _ 5, World.cell?_alloc_mark w _ _ _ 6⟩
  have hb : Below (w.alloc (.cells #[.int .i64 op, .int .i64 a, .int .i64 b, .int .i64 m, .slice xn nl nc, .slice xl ll lc, .slice xe el ec] 47)).heap.size (w.alloc (.cells #[.int .i64 op, .int .i64 a, .int .i64 b, .int .i64 m, .slice xn nl nc, .slice xl ll lc, .slice xe el ec] 47)) (w.alloc (.cells #[.int .i64 op, .int .i64 a, .int .i64 b, .int .i64 m, .slice xn nl nc, .slice xl ll lc, .slice xe el ec] 47)) := Below.refl _ _
  have HB0 := Lib.hid hb0
  have HV := Lib.hid hv
  have HNN := Lib.hid hn
  unfold mayV
  rw [← hn]
  clear hb0 hs hv hn
  go_enter Try.func17, Try.ntmps17
  go_wp2_with (first
    | (go_at_call 27; refine (HS.out _).mono ?_; rintro e w1 ⟨rfl, hh⟩; replace hb := hb.trans (hh.mono hb.size); clear hh HS; have D := D0.out.below hb; obtain ⟨d0, d1, d2, d3, d4, d5, d6⟩ := D)
    | (go_at_call 29; refine (HI.out _ _).mono ?_; rintro e w1 ⟨rfl, rfl⟩)
    | (go_at_call 30; refine (HT.out _ _).mono ?_; rintro e w1 ⟨rfl, hh⟩; replace hb := hb.trans (hh.mono hb.size); clear hh; have D := D0.out.below hb; obtain ⟨d0, d1, d2, d3, d4, d5, d6⟩ := D)
    | (go_at_call 28; refine (HO1.out _).mono ?_; rintro e w1 ⟨rfl, hh⟩; replace hb := hb.trans (hh.mono hb.size); clear hh HO1; have D := D0.out.below hb; obtain ⟨d0, d1, d2, d3, d4, d5, d6⟩ := D)
    | (go_at_call 28; refine (HO2.out _).mono ?_; rintro e w1 ⟨rfl, hh⟩; replace hb := hb.trans (hh.mono hb.size); clear hh HO2; have D := D0.out.below hb; obtain ⟨d0, d1, d2, d3, d4, d5, d6⟩ := D)
    | (go_at_call 28; refine (HO3.out _).mono ?_; rintro e w1 ⟨rfl, hh⟩; replace hb := hb.trans (hh.mono hb.size); clear hh HO3; have D := D0.out.below hb; obtain ⟨d0, d1, d2, d3, d4, d5, d6⟩ := D))
  all_goals
    go_ret
    refine ⟨congrArg (fun c => Ending.returned (.bool c)) ?_, HB0.out.trans (hb.mono (by simp))⟩
    first | (simp [*]; done) | (simp; done) | (simp only [bne_iff_ne, ne_eq, bne_eq_false_iff_eq, Bool.not_eq_eq_eq_not, Bool.not_false] at *; simp [*]; done) | (simp only [bne_eq_false_iff_eq, Bool.not_eq_eq_eq_not, Bool.not_false] at *; simp [*]; first | omega | (rw [Bool.eq_iff_iff]; simp; done) | (rw [Bool.eq_iff_iff]; simp; omega))
set_option maxRecDepth 100000 in
set_option maxHeartbeats 4000000 in
theorem refMay_s10 (op a b m : Int) (n : List Int) (xn xl xe : Option Addr) (nl ll el nc lc ec : Nat) (w : World) (hn : nl = n.length) (hv : View w xn nl n) (_hnc : nl ≤ nc) (hll : ll ≤ 9223372036854775807) (hel : el ≤ 9223372036854775807) (_hnl : nc ≤ 9223372036854775807) (hop : (op == 4) = false) (hs : shapeV op = (10, 0)) :
    Calls Try.prog 17 #[.agg #[.int .i64 op, .int .i64 a, .int .i64 b, .int .i64 m, .slice xn nl nc, .slice xl ll lc, .slice xe el ec]] w fun e w' => e = .returned (.bool (mayV 10 0 op a b m n ll el)) ∧ Below w.heap.size w w' := by
  have HS : Hid (∀ w, Calls Try.prog 27 #[.int .i64 op] w fun e w' => e = .returned (.tuple #[.int .i64 10, .int .i64 0]) ∧ Below w.heap.size w w') := Lib.hid fun w => by
    have := refShape_any op w
    rw [hs] at this
    exact this
  have HI := Lib.hid refIdx_b
  have HT := Lib.hid refType_any
  have HO1 := Lib.hid (refOneLit 10 [5, 7, 8, 9] (by decide) false (by decide))
  have HO2 := Lib.hid (refOneLit 10 [1, 8, 11] (by decide) false (by decide))
  have HO3 := Lib.hid (refOneLit a [-64, -1, -2, -16] (by decide) _ rfl)
  have hb0 : Below w.heap.size w (w.alloc (.cells #[.int .i64 op, .int .i64 a, .int .i64 b, .int .i64 m, .slice xn nl nc, .slice xl ll lc, .slice xe el ec] 47)) := (Below.refl _ _).alloc (Nat.le_refl _) _
  have D0 : Hid (InsAt (w.alloc (.cells #[.int .i64 op, .int .i64 a, .int .i64 b, .int .i64 m, .slice xn nl nc, .slice xl ll lc, .slice xe el ec] 47)) w.heap.size op a b m xn xl xe nl ll el nc lc ec) := Lib.hid ⟨World.cell?_alloc_mark w _ _ _ 0, World.cell?_alloc_mark w _ _ _ 1, World.cell?_alloc_mark w _ _ _ 2, World.cell?_alloc_mark w _ _ _ 3, World.cell?_alloc_mark w _ _ _ 4, World.cell?_alloc_mark w _ _ _ 5, World.cell?_alloc_mark w _ _ _ 6⟩
  have hb : Below (w.alloc (.cells #[.int .i64 op, .int .i64 a, .int .i64 b, .int .i64 m, .slice xn nl nc, .slice xl ll lc, .slice xe el ec] 47)).heap.size (w.alloc (.cells #[.int .i64 op, .int .i64 a, .int .i64 b, .int .i64 m, .slice xn nl nc, .slice xl ll lc, .slice xe el ec] 47)) (w.alloc (.cells #[.int .i64 op, .int .i64 a, .int .i64 b, .int .i64 m, .slice xn nl nc, .slice xl ll lc, .slice xe el ec] 47)) := Below.refl _ _
  have HB0 := Lib.hid hb0
  have HV := Lib.hid hv
  have HNN := Lib.hid hn
  unfold mayV
  rw [← hn]
  clear hb0 hs hv hn
  go_enter Try.func17, Try.ntmps17
  go_wp2_with (first
    | (go_at_call 27; refine (HS.out _).mono ?_; rintro e w1 ⟨rfl, hh⟩; replace hb := hb.trans (hh.mono hb.size); clear hh HS; have D := D0.out.below hb; obtain ⟨d0, d1, d2, d3, d4, d5, d6⟩ := D)
    | (go_at_call 29; refine (HI.out _ _).mono ?_; rintro e w1 ⟨rfl, rfl⟩)
    | (go_at_call 30; refine (HT.out _ _).mono ?_; rintro e w1 ⟨rfl, hh⟩; replace hb := hb.trans (hh.mono hb.size); clear hh; have D := D0.out.below hb; obtain ⟨d0, d1, d2, d3, d4, d5, d6⟩ := D)
    | (go_at_call 28; refine (HO1.out _).mono ?_; rintro e w1 ⟨rfl, hh⟩; replace hb := hb.trans (hh.mono hb.size); clear hh HO1; have D := D0.out.below hb; obtain ⟨d0, d1, d2, d3, d4, d5, d6⟩ := D)
    | (go_at_call 28; refine (HO2.out _).mono ?_; rintro e w1 ⟨rfl, hh⟩; replace hb := hb.trans (hh.mono hb.size); clear hh HO2; have D := D0.out.below hb; obtain ⟨d0, d1, d2, d3, d4, d5, d6⟩ := D)
    | (go_at_call 28; refine (HO3.out _).mono ?_; rintro e w1 ⟨rfl, hh⟩; replace hb := hb.trans (hh.mono hb.size); clear hh HO3; have D := D0.out.below hb; obtain ⟨d0, d1, d2, d3, d4, d5, d6⟩ := D))
  all_goals
    go_ret
    refine ⟨congrArg (fun c => Ending.returned (.bool c)) ?_, HB0.out.trans (hb.mono (by simp))⟩
    first | (simp [*]; done) | (simp; done) | (simp only [bne_iff_ne, ne_eq, bne_eq_false_iff_eq, Bool.not_eq_eq_eq_not, Bool.not_false] at *; simp [*]; done) | (simp only [bne_eq_false_iff_eq, Bool.not_eq_eq_eq_not, Bool.not_false] at *; simp [*]; first | omega | (rw [Bool.eq_iff_iff]; simp; done) | (rw [Bool.eq_iff_iff]; simp; omega))
end Go.Proofs.Ytfhifnkekegkkaa
