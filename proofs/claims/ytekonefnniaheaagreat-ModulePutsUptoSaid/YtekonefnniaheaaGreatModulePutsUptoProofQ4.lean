/- Texts of the proof of ModulePutsUptoProof, part 4. -/
import Derived.Test.YtekonefnniaheaaGreatModulePutsUptoProofQ3
namespace Go.Proofs.YtekonefnniaheaaGreat
open Go.RowKit

def idxB (n : Int) : Bool := decide (0 ≤ n ∧ n ≤ 4294967295)
theorem refIdx_b (n : Int) (w : World) : Calls Tryz.prog 159 #[.int .i64 n] w fun e w' => e = .returned (.bool (idxB n)) ∧ w = w' := refIdx_any n w
/-- An instruction's cells in a block. -/
def InsAt (w : World) (bd : Nat) (op a b m : Int) (xn xl xe : Option Addr) (nl ll el nc lc ec : Nat) : Prop :=
  w.cell? ⟨bd, 0, none⟩ = some (.int .i64 op) ∧ w.cell? ⟨bd, 1, none⟩ = some (.int .i64 a) ∧ w.cell? ⟨bd, 2, none⟩ = some (.int .i64 b) ∧ w.cell? ⟨bd, 3, none⟩ = some (.int .i64 m) ∧
  w.cell? ⟨bd, 4, none⟩ = some (.slice xn nl nc) ∧ w.cell? ⟨bd, 5, none⟩ = some (.slice xl ll lc) ∧ w.cell? ⟨bd, 6, none⟩ = some (.slice xe el ec)
theorem InsAt.below {w w' : World} {bd : Nat} {op a b m : Int} {xn xl xe : Option Addr} {nl ll el nc lc ec : Nat} (h : InsAt w bd op a b m xn xl xe nl ll el nc lc ec) (hb : Below w.heap.size w w') : InsAt w' bd op a b m xn xl xe nl ll el nc lc ec := by
  have key : ∀ o v, w.cell? ⟨bd, o, none⟩ = some v → w'.cell? ⟨bd, o, none⟩ = some v := fun o v hc => (hb.cell (World.block_lt_of_cell? w _ hc)).trans hc
  obtain ⟨h0, h1, h2, h3, h4, h5, h6⟩ := h
  exact ⟨key _ _ h0, key _ _ h1, key _ _ h2, key _ _ h3, key _ _ h4, key _ _ h5, key _ _ h6⟩
/-- May these be an instruction's numbers? -/
def mayV (sh er op a b m : Int) (n : List Int) (ll el : Nat) : Bool :=
  decide (er = 0) && (decide (sh = 2) || decide (ll = 0)) && (decide (op = 4) || decide (el = 0)) && (decide (sh = 4) || decide (n.length = 0)) && (decide (sh = 7) || decide (b = 0)) &&
  (decide (sh ∈ [5, 7, 8, 9]) || decide (m = 0)) && idxB m &&
  (if sh ∈ [1, 8, 11] then decide (a = 0) else if sh = 2 then idxB a || decide (a ∈ [-64, -1, -2, -16]) else if sh = 6 then decide ((typeV a).2 = 0)
   else if sh = 10 then decide (op = 66) || (decide (-2147483648 ≤ a) && decide (a ≤ 2147483647))
   else n.all idxB && idxB a && decide (0 ≤ b) && decide (b < 64) && decide (n.length ≤ 1000))
set_option maxRecDepth 100000 in
set_option maxHeartbeats 4000000 in
theorem refMay_s3 (op a b m : Int) (n : List Int) (xn xl xe : Option Addr) (nl ll el nc lc ec : Nat) (w : World) (hn : nl = n.length) (hv : View w xn nl n) (_hnc : nl ≤ nc) (hll : ll ≤ 9223372036854775807) (hel : el ≤ 9223372036854775807) (_hnl : nc ≤ 9223372036854775807) (hop : (op == 4) = false) (hs : shapeV op = (3, 0)) :
    Calls Tryz.prog 129 #[.agg #[.int .i64 op, .int .i64 a, .int .i64 b, .int .i64 m, .slice xn nl nc, .slice xl ll lc, .slice xe el ec]] w fun e w' => e = .returned (.bool (mayV 3 0 op a b m n ll el)) ∧ Below w.heap.size w w' := by
  have HS : Hid (∀ w, Calls Tryz.prog 158 #[.int .i64 op] w fun e w' => e = .returned (.tuple #[.int .i64 3, .int .i64 0]) ∧ Below w.heap.size w w') := Lib.hid fun w => by
    have := refShape_any op w
    rw [hs] at this
    exact this
  have HI := Lib.hid refIdx_b
  have HT := Lib.hid refType_any
  have HO1 := Lib.hid (refOneLit 3 [5, 7, 8, 9] (by decide) false (by decide))
  have HO2 := Lib.hid (refOneLit 3 [1, 8, 11] (by decide) false (by decide))
  have HO3 := Lib.hid (refOneLit a [-64, -1, -2, -16] (by decide) _ rfl)
  have hb0 : Below w.heap.size w (w.alloc (.cells #[.int .i64 op, .int .i64 a, .int .i64 b, .int .i64 m, .slice xn nl nc, .slice xl ll lc, .slice xe el ec] 50)) := (Below.refl _ _).alloc (Nat.le_refl _) _
  have D0 : Hid (InsAt (w.alloc (.cells #[.int .i64 op, .int .i64 a, .int .i64 b, .int .i64 m, .slice xn nl nc, .slice xl ll lc, .slice xe el ec] 50)) w.heap.size op a b m xn xl xe nl ll el nc lc ec) := Lib.hid ⟨World.cell?_alloc_mark w _ _ _ 0, World.cell?_alloc_mark w _ _ _ 1, World.cell?_alloc_mark w _ _ _ 2, World.cell?_alloc_mark w _ _ _ 3, World.cell?_alloc_mark w _ _ _ 4, World.cell?_alloc_mark w _ _ _ 5, World.cell?_alloc_mark w _ _ _ 6⟩
  have hb : Below (w.alloc (.cells #[.int .i64 op, .int .i64 a, .int .i64 b, .int .i64 m, .slice xn nl nc, .slice xl ll lc, .slice xe el ec] 50)).heap.size (w.alloc (.cells #[.int .i64 op, .int .i64 a, .int .i64 b, .int .i64 m, .slice xn nl nc, .slice xl ll lc, .slice xe el ec] 50)) (w.alloc (.cells #[.int .i64 op, .int .i64 a, .int .i64 b, .int .i64 m, .slice xn nl nc, .slice xl ll lc, .slice xe el ec] 50)) := Below.refl _ _
  have HB0 := Lib.hid hb0
  have HV := Lib.hid hv
  have HNN := Lib.hid hn
  unfold mayV
  rw [← hn]
  clear hb0 hs hv hn
  go_enter Tryz.func129, Tryz.ntmps129
  go_wp2_with (first
    | (go_at_call 158; refine (HS.out _).mono ?_; rintro e w1 ⟨rfl, hh⟩; replace hb := hb.trans (hh.mono hb.size); clear hh HS; have D := D0.out.below hb; obtain ⟨d0, d1, d2, d3, d4, d5, d6⟩ := D)
    | (go_at_call 159; refine (HI.out _ _).mono ?_; rintro e w1 ⟨rfl, rfl⟩)
    | (go_at_call 110; refine (HT.out _ _).mono ?_; rintro e w1 ⟨rfl, hh⟩; replace hb := hb.trans (hh.mono hb.size); clear hh; have D := D0.out.below hb; obtain ⟨d0, d1, d2, d3, d4, d5, d6⟩ := D)
    | (go_at_call 128; refine (HO1.out _).mono ?_; rintro e w1 ⟨rfl, hh⟩; replace hb := hb.trans (hh.mono hb.size); clear hh HO1; have D := D0.out.below hb; obtain ⟨d0, d1, d2, d3, d4, d5, d6⟩ := D)
    | (go_at_call 128; refine (HO2.out _).mono ?_; rintro e w1 ⟨rfl, hh⟩; replace hb := hb.trans (hh.mono hb.size); clear hh HO2; have D := D0.out.below hb; obtain ⟨d0, d1, d2, d3, d4, d5, d6⟩ := D)
    | (go_at_call 128; refine (HO3.out _).mono ?_; rintro e w1 ⟨rfl, hh⟩; replace hb := hb.trans (hh.mono hb.size); clear hh HO3; have D := D0.out.below hb; obtain ⟨d0, d1, d2, d3, d4, d5, d6⟩ := D))
  any_goals (
    go_loopw [7] (fun iv wr => iv = .int .i64 0 ∧ w1 = wr) (fun iv _ => 0)
    case atStart => exact ⟨rfl, rfl⟩
    case round =>
      obtain ⟨rfl, rfl⟩ := hrel
      go_wp2_with (go_at_call 159; refine (HI.out _ _).mono ?_; rintro e w1 ⟨rfl, rfl⟩)
      all_goals
        go_ret
        refine ⟨congrArg (fun c => Ending.returned (.bool c)) ?_, HB0.out.trans (hb.mono (by simp))⟩
        have hnil : n = [] := List.length_eq_zero_iff.1 (by have := HNN.out; omega)
        subst hnil
        first | (simp [*]; done) | (simp; done) | (simp only [bne_eq_false_iff_eq, Bool.not_eq_eq_eq_not, Bool.not_false] at *; simp [*]; done) | (simp only [bne_eq_false_iff_eq, Bool.not_eq_eq_eq_not, Bool.not_false] at *; simp [*]; first | omega | (rw [Bool.eq_iff_iff]; simp; done) | (rw [Bool.eq_iff_iff]; simp; omega)))
  all_goals
    go_ret
    refine ⟨congrArg (fun c => Ending.returned (.bool c)) ?_, HB0.out.trans (hb.mono (by simp))⟩
    first | (simp [*]; done) | (simp; done) | (simp only [bne_iff_ne, ne_eq] at *; simp [*]; done) | (simp only [bne_iff_ne, ne_eq, bne_eq_false_iff_eq, Bool.not_eq_false', Bool.not_eq_true', Bool.not_eq_eq_eq_not, Bool.not_true, Bool.not_false] at *; simp [*]; first | omega | (rw [Bool.eq_iff_iff]; simp; done) | (rw [Bool.eq_iff_iff]; simp; omega))
set_option maxRecDepth 100000 in
set_option maxHeartbeats 4000000 in
theorem refMay_s5 (op a b m : Int) (n : List Int) (xn xl xe : Option Addr) (nl ll el nc lc ec : Nat) (w : World) (hn : nl = n.length) (hv : View w xn nl n) (_hnc : nl ≤ nc) (hll : ll ≤ 9223372036854775807) (hel : el ≤ 9223372036854775807) (_hnl : nc ≤ 9223372036854775807) (hop : (op == 4) = false) (hs : shapeV op = (5, 0)) :
    Calls Tryz.prog 129 #[.agg #[.int .i64 op, .int .i64 a, .int .i64 b, .int .i64 m, .slice xn nl nc, .slice xl ll lc, .slice xe el ec]] w fun e w' => e = .returned (.bool (mayV 5 0 op a b m n ll el)) ∧ Below w.heap.size w w' := by
  have HS : Hid (∀ w, Calls Tryz.prog 158 #[.int .i64 op] w fun e w' => e = .returned (.tuple #[.int .i64 5, .int .i64 0]) ∧ Below w.heap.size w w') := Lib.hid fun w => by
    have := refShape_any op w
    rw [hs] at this
    exact this
  have HI := Lib.hid refIdx_b
  have HT := Lib.hid refType_any
  have HO1 := Lib.hid (refOneLit 5 [5, 7, 8, 9] (by decide) true (by decide))
  have HO2 := Lib.hid (refOneLit 5 [1, 8, 11] (by decide) false (by decide))
  have HO3 := Lib.hid (refOneLit a [-64, -1, -2, -16] (by decide) _ rfl)
  have hb0 : Below w.heap.size w (w.alloc (.cells #[.int .i64 op, .int .i64 a, .int .i64 b, .int .i64 m, .slice xn nl nc, .slice xl ll lc, .slice xe el ec] 50)) := (Below.refl _ _).alloc (Nat.le_refl _) _
  have D0 : Hid (InsAt (w.alloc (.cells #[.int .i64 op, .int .i64 a, .int .i64 b, .int .i64 m, .slice xn nl nc, .slice xl ll lc, .slice xe el ec] 50)) w.heap.size op a b m xn xl xe nl ll el nc lc ec) := Lib.hid ⟨World.cell?_alloc_mark w _ _ _ 0, World.cell?_alloc_mark w _ _ _ 1, World.cell?_alloc_mark w _ _ _ 2, World.cell?_alloc_mark w _ _ _ 3, World.cell?_alloc_mark w _ _ _ 4, World.cell?_alloc_mark w _ _ _ 5, World.cell?_alloc_mark w _ _ _ 6⟩
  have hb : Below (w.alloc (.cells #[.int .i64 op, .int .i64 a, .int .i64 b, .int .i64 m, .slice xn nl nc, .slice xl ll lc, .slice xe el ec] 50)).heap.size (w.alloc (.cells #[.int .i64 op, .int .i64 a, .int .i64 b, .int .i64 m, .slice xn nl nc, .slice xl ll lc, .slice xe el ec] 50)) (w.alloc (.cells #[.int .i64 op, .int .i64 a, .int .i64 b, .int .i64 m, .slice xn nl nc, .slice xl ll lc, .slice xe el ec] 50)) := Below.refl _ _
  have HB0 := Lib.hid hb0
  have HV := Lib.hid hv
  have HNN := Lib.hid hn
  unfold mayV
  rw [← hn]
  clear hb0 hs hv hn
  go_enter Tryz.func129, Tryz.ntmps129
  go_wp2_with (first
    | (go_at_call 158; refine (HS.out _).mono ?_; rintro e w1 ⟨rfl, hh⟩; replace hb := hb.trans (hh.mono hb.size); clear hh HS; have D := D0.out.below hb; obtain ⟨d0, d1, d2, d3, d4, d5, d6⟩ := D)
    | (go_at_call 159; refine (HI.out _ _).mono ?_; rintro e w1 ⟨rfl, rfl⟩)
    | (go_at_call 110; refine (HT.out _ _).mono ?_; rintro e w1 ⟨rfl, hh⟩; replace hb := hb.trans (hh.mono hb.size); clear hh; have D := D0.out.below hb; obtain ⟨d0, d1, d2, d3, d4, d5, d6⟩ := D)
    | (go_at_call 128; refine (HO1.out _).mono ?_; rintro e w1 ⟨rfl, hh⟩; replace hb := hb.trans (hh.mono hb.size); clear hh HO1; have D := D0.out.below hb; obtain ⟨d0, d1, d2, d3, d4, d5, d6⟩ := D)
    | (go_at_call 128; refine (HO2.out _).mono ?_; rintro e w1 ⟨rfl, hh⟩; replace hb := hb.trans (hh.mono hb.size); clear hh HO2; have D := D0.out.below hb; obtain ⟨d0, d1, d2, d3, d4, d5, d6⟩ := D)
    | (go_at_call 128; refine (HO3.out _).mono ?_; rintro e w1 ⟨rfl, hh⟩; replace hb := hb.trans (hh.mono hb.size); clear hh HO3; have D := D0.out.below hb; obtain ⟨d0, d1, d2, d3, d4, d5, d6⟩ := D))
  any_goals (
    go_loopw [7] (fun iv wr => iv = .int .i64 0 ∧ w1 = wr) (fun iv _ => 0)
    case atStart => exact ⟨rfl, rfl⟩
    case round =>
      obtain ⟨rfl, rfl⟩ := hrel
      go_wp2_with (go_at_call 159; refine (HI.out _ _).mono ?_; rintro e w1 ⟨rfl, rfl⟩)
      all_goals
        go_ret
        refine ⟨congrArg (fun c => Ending.returned (.bool c)) ?_, HB0.out.trans (hb.mono (by simp))⟩
        have hnil : n = [] := List.length_eq_zero_iff.1 (by have := HNN.out; omega)
        subst hnil
        first | (simp [*]; done) | (simp; done) | (simp only [bne_eq_false_iff_eq, Bool.not_eq_eq_eq_not, Bool.not_false] at *; simp [*]; done) | (simp only [bne_eq_false_iff_eq, Bool.not_eq_eq_eq_not, Bool.not_false] at *; simp [*]; first | omega | (rw [Bool.eq_iff_iff]; simp; done) | (rw [Bool.eq_iff_iff]; simp; omega)))
  all_goals
    go_ret
    refine ⟨congrArg (fun c => Ending.returned (.bool c)) ?_, HB0.out.trans (hb.mono (by simp))⟩
    first | (simp [*]; done) | (simp; done) | (simp only [bne_iff_ne, ne_eq, bne_eq_false_iff_eq, Bool.not_eq_eq_eq_not, Bool.not_true] at *; simp [*]; done) | (simp only [bne_iff_ne, ne_eq, bne_eq_false_iff_eq, Bool.not_eq_false', Bool.not_eq_true', Bool.not_eq_eq_eq_not, Bool.not_true, Bool.not_false] at *; simp [*]; first | omega | (rw [Bool.eq_iff_iff]; simp; done) | (rw [Bool.eq_iff_iff]; simp; omega))
set_option maxRecDepth 100000 in
set_option maxHeartbeats 4000000 in
theorem refMay_s7 (op a b m : Int) (n : List Int) (xn xl xe : Option Addr) (nl ll el nc lc ec : Nat) (w : World) (hn : nl = n.length) (hv : View w xn nl n) (_hnc : nl ≤ nc) (hll : ll ≤ 9223372036854775807) (hel : el ≤ 9223372036854775807) (_hnl : nc ≤ 9223372036854775807) (_hop : (op == 4) = false) (hs : shapeV op = (7, 0)) :
    Calls Tryz.prog 129 #[.agg #[.int .i64 op, .int .i64 a, .int .i64 b, .int .i64 m, .slice xn nl nc, .slice xl ll lc, .slice xe el ec]] w fun e w' => e = .returned (.bool (mayV 7 0 op a b m n ll el)) ∧ Below w.heap.size w w' := by
  have HS : Hid (∀ w, Calls Tryz.prog 158 #[.int .i64 op] w fun e w' => e = .returned (.tuple #[.int .i64 7, .int .i64 0]) ∧ Below w.heap.size w w') := Lib.hid fun w => by
    have := refShape_any op w
    rw [hs] at this
    exact this
  have HI := Lib.hid refIdx_b
  have HT := Lib.hid refType_any
  have HO1 := Lib.hid (refOneLit 7 [5, 7, 8, 9] (by decide) true (by decide))
  have HO2 := Lib.hid (refOneLit 7 [1, 8, 11] (by decide) false (by decide))
  have HO3 := Lib.hid (refOneLit a [-64, -1, -2, -16] (by decide) _ rfl)
  have hb0 : Below w.heap.size w (w.alloc (.cells #[.int .i64 op, .int .i64 a, .int .i64 b, .int .i64 m, .slice xn nl nc, .slice xl ll lc, .slice xe el ec] 50)) := (Below.refl _ _).alloc (Nat.le_refl _) _
  have D0 : Hid (InsAt (w.alloc (.cells #[.int .i64 op, .int .i64 a, .int .i64 b, .int .i64 m, .slice xn nl nc, .slice xl ll lc, .slice xe el ec] 50)) w.heap.size op a b m xn xl xe nl ll el nc lc ec) := Lib.hid ⟨World.cell?_alloc_mark w _ _ _ 0, World.cell?_alloc_mark w _ _ _ 1, World.cell?_alloc_mark w _ _ _ 2, World.cell?_alloc_mark w _ _ _ 3, World.cell?_alloc_mark w _ _ _ 4, World.cell?_alloc_mark w _ _ _ 5, World.cell?_alloc_mark w _ _ _ 6⟩
  have hb : Below (w.alloc (.cells #[.int .i64 op, .int .i64 a, .int .i64 b, .int .i64 m, .slice xn nl nc, .slice xl ll lc, .slice xe el ec] 50)).heap.size (w.alloc (.cells #[.int .i64 op, .int .i64 a, .int .i64 b, .int .i64 m, .slice xn nl nc, .slice xl ll lc, .slice xe el ec] 50)) (w.alloc (.cells #[.int .i64 op, .int .i64 a, .int .i64 b, .int .i64 m, .slice xn nl nc, .slice xl ll lc, .slice xe el ec] 50)) := Below.refl _ _
  have HB0 := Lib.hid hb0
  have HV := Lib.hid hv
  have HNN := Lib.hid hn
  unfold mayV
  rw [← hn]
  clear hb0 hs hv hn
  go_enter Tryz.func129, Tryz.ntmps129
  go_wp2_with (first
    | (go_at_call 158; refine (HS.out _).mono ?_; rintro e w1 ⟨rfl, hh⟩; replace hb := hb.trans (hh.mono hb.size); clear hh HS; have D := D0.out.below hb; obtain ⟨d0, d1, d2, d3, d4, d5, d6⟩ := D)
    | (go_at_call 159; refine (HI.out _ _).mono ?_; rintro e w1 ⟨rfl, rfl⟩)
    | (go_at_call 110; refine (HT.out _ _).mono ?_; rintro e w1 ⟨rfl, hh⟩; replace hb := hb.trans (hh.mono hb.size); clear hh; have D := D0.out.below hb; obtain ⟨d0, d1, d2, d3, d4, d5, d6⟩ := D)
    | (go_at_call 128; refine (HO1.out _).mono ?_; rintro e w1 ⟨rfl, hh⟩; replace hb := hb.trans (hh.mono hb.size); clear hh HO1; have D := D0.out.below hb; obtain ⟨d0, d1, d2, d3, d4, d5, d6⟩ := D)
    | (go_at_call 128; refine (HO2.out _).mono ?_; rintro e w1 ⟨rfl, hh⟩; replace hb := hb.trans (hh.mono hb.size); clear hh HO2; have D := D0.out.below hb; obtain ⟨d0, d1, d2, d3, d4, d5, d6⟩ := D)
    | (go_at_call 128; refine (HO3.out _).mono ?_; rintro e w1 ⟨rfl, hh⟩; replace hb := hb.trans (hh.mono hb.size); clear hh HO3; have D := D0.out.below hb; obtain ⟨d0, d1, d2, d3, d4, d5, d6⟩ := D))
  any_goals (
    go_loopw [7] (fun iv wr => iv = .int .i64 0 ∧ w1 = wr) (fun iv _ => 0)
    case atStart => exact ⟨rfl, rfl⟩
    case round =>
      obtain ⟨rfl, rfl⟩ := hrel
      go_wp2_with (go_at_call 159; refine (HI.out _ _).mono ?_; rintro e w1 ⟨rfl, rfl⟩)
      all_goals
        go_ret
        refine ⟨congrArg (fun c => Ending.returned (.bool c)) ?_, HB0.out.trans (hb.mono (by simp))⟩
        have hnil : n = [] := List.length_eq_zero_iff.1 (by have := HNN.out; omega)
        subst hnil
        first | (simp [*]; done) | (simp; done) | (simp only [Bool.not_eq_eq_eq_not, Bool.not_false] at *; simp [*]; done) | (simp only [Bool.not_eq_eq_eq_not, Bool.not_false] at *; simp [*]; first | omega | (rw [Bool.eq_iff_iff]; simp; done) | (rw [Bool.eq_iff_iff]; simp; omega)))
  all_goals
    go_ret
    refine ⟨congrArg (fun c => Ending.returned (.bool c)) ?_, HB0.out.trans (hb.mono (by simp))⟩
    first | (simp [*]; done) | (simp; done) | (simp only [Bool.not_eq_eq_eq_not, Bool.not_true] at *; simp [*]; done) | (simp only [bne_iff_ne, ne_eq, bne_eq_false_iff_eq, Bool.not_eq_false', Bool.not_eq_true', Bool.not_eq_eq_eq_not, Bool.not_true, Bool.not_false] at *; simp [*]; first | omega | (rw [Bool.eq_iff_iff]; simp; done) | (rw [Bool.eq_iff_iff]; simp; omega))
set_option maxRecDepth 100000 in
set_option maxHeartbeats 4000000 in
theorem refMay_s9 (op a b m : Int) (n : List Int) (xn xl xe : Option Addr) (nl ll el nc lc ec : Nat) (w : World) (hn : nl = n.length) (hv : View w xn nl n) (_hnc : nl ≤ nc) (hll : ll ≤ 9223372036854775807) (hel : el ≤ 9223372036854775807) (_hnl : nc ≤ 9223372036854775807) (hop : (op == 4) = false) (hs : shapeV op = (9, 0)) :
    Calls Tryz.prog 129 #[.agg #[.int .i64 op, .int .i64 a, .int .i64 b, .int .i64 m, .slice xn nl nc, .slice xl ll lc, .slice xe el ec]] w fun e w' => e = .returned (.bool (mayV 9 0 op a b m n ll el)) ∧ Below w.heap.size w w' := by
  have HS : Hid (∀ w, Calls Tryz.prog 158 #[.int .i64 op] w fun e w' => e = .returned (.tuple #[.int .i64 9, .int .i64 0]) ∧ Below w.heap.size w w') := Lib.hid fun w => by
    have := refShape_any op w
    rw [hs] at this
    exact this
  have HI := Lib.hid refIdx_b
  have HT := Lib.hid refType_any
  have HO1 := Lib.hid (refOneLit 9 [5, 7, 8, 9] (by decide) true (by decide))
  have HO2 := Lib.hid (refOneLit 9 [1, 8, 11] (by decide) false (by decide))
  have HO3 := Lib.hid (refOneLit a [-64, -1, -2, -16] (by decide) _ rfl)
  have hb0 : Below w.heap.size w (w.alloc (.cells #[.int .i64 op, .int .i64 a, .int .i64 b, .int .i64 m, .slice xn nl nc, .slice xl ll lc, .slice xe el ec] 50)) := (Below.refl _ _).alloc (Nat.le_refl _) _
  have D0 : Hid (InsAt (w.alloc (.cells #[.int .i64 op, .int .i64 a, .int .i64 b, .int .i64 m, .slice xn nl nc, .slice xl ll lc, .slice xe el ec] 50)) w.heap.size op a b m xn xl xe nl ll el nc lc ec) := Lib.hid ⟨World.cell?_alloc_mark w _ _ _ 0, World.cell?_alloc_mark w _ _ _ 1, World.cell?_alloc_mark w _ _ _ 2, World.cell?_alloc_mark w _ _ _ 3, World.cell?_alloc_mark w _ _ _ 4, World.cell?_alloc_mark w _ _ _ 5, World.cell?_alloc_mark w _ _ _ 6⟩
  have hb : Below (w.alloc (.cells #[.int .i64 op, .int .i64 a, .int .i64 b, .int .i64 m, .slice xn nl nc, .slice xl ll lc, .slice xe el ec] 50)).heap.size (w.alloc (.cells #[.int .i64 op, .int .i64 a, .int .i64 b, .int .i64 m, .slice xn nl nc, .slice xl ll lc, .slice xe el ec] 50)) (w.alloc (.cells #[.int .i64 op, .int .i64 a, .int .i64 b, .int .i64 m, .slice xn nl nc, .slice xl ll lc, .slice xe el ec] 50)) := Below.refl _ _
  have HB0 := Lib.hid hb0
  have HV := Lib.hid hv
  have HNN := Lib.hid hn
  unfold mayV
  rw [← hn]
  clear hb0 hs hv hn
  go_enter Tryz.func129, Tryz.ntmps129
  go_wp2_with (first
    | (go_at_call 158; refine (HS.out _).mono ?_; rintro e w1 ⟨rfl, hh⟩; replace hb := hb.trans (hh.mono hb.size); clear hh HS; have D := D0.out.below hb; obtain ⟨d0, d1, d2, d3, d4, d5, d6⟩ := D)
    | (go_at_call 159; refine (HI.out _ _).mono ?_; rintro e w1 ⟨rfl, rfl⟩)
    | (go_at_call 110; refine (HT.out _ _).mono ?_; rintro e w1 ⟨rfl, hh⟩; replace hb := hb.trans (hh.mono hb.size); clear hh; have D := D0.out.below hb; obtain ⟨d0, d1, d2, d3, d4, d5, d6⟩ := D)
    | (go_at_call 128; refine (HO1.out _).mono ?_; rintro e w1 ⟨rfl, hh⟩; replace hb := hb.trans (hh.mono hb.size); clear hh HO1; have D := D0.out.below hb; obtain ⟨d0, d1, d2, d3, d4, d5, d6⟩ := D)
    | (go_at_call 128; refine (HO2.out _).mono ?_; rintro e w1 ⟨rfl, hh⟩; replace hb := hb.trans (hh.mono hb.size); clear hh HO2; have D := D0.out.below hb; obtain ⟨d0, d1, d2, d3, d4, d5, d6⟩ := D)
    | (go_at_call 128; refine (HO3.out _).mono ?_; rintro e w1 ⟨rfl, hh⟩; replace hb := hb.trans (hh.mono hb.size); clear hh HO3; have D := D0.out.below hb; obtain ⟨d0, d1, d2, d3, d4, d5, d6⟩ := D))
  any_goals (
    go_loopw [7] (fun iv wr => iv = .int .i64 0 ∧ w1 = wr) (fun iv _ => 0)
    case atStart => exact ⟨rfl, rfl⟩
    case round =>
      obtain ⟨rfl, rfl⟩ := hrel
      go_wp2_with (go_at_call 159; refine (HI.out _ _).mono ?_; rintro e w1 ⟨rfl, rfl⟩)
      all_goals
        go_ret
        refine ⟨congrArg (fun c => Ending.returned (.bool c)) ?_, HB0.out.trans (hb.mono (by simp))⟩
        have hnil : n = [] := List.length_eq_zero_iff.1 (by have := HNN.out; omega)
        subst hnil
        first | (simp [*]; done) | (simp; done) | (simp only [bne_eq_false_iff_eq, Bool.not_eq_eq_eq_not, Bool.not_false] at *; simp [*]; done) | (simp only [bne_eq_false_iff_eq, Bool.not_eq_eq_eq_not, Bool.not_false] at *; simp [*]; first | omega | (rw [Bool.eq_iff_iff]; simp; done) | (rw [Bool.eq_iff_iff]; simp; omega)))
  all_goals
    go_ret
    refine ⟨congrArg (fun c => Ending.returned (.bool c)) ?_, HB0.out.trans (hb.mono (by simp))⟩
    first | (simp [*]; done) | (simp; done) | (simp only [bne_iff_ne, ne_eq, bne_eq_false_iff_eq, Bool.not_eq_eq_eq_not, Bool.not_true] at *; simp [*]; done) | (simp only [bne_iff_ne, ne_eq, bne_eq_false_iff_eq, Bool.not_eq_false', Bool.not_eq_true', Bool.not_eq_eq_eq_not, Bool.not_true, Bool.not_false] at *; simp [*]; first | omega | (rw [Bool.eq_iff_iff]; simp; done) | (rw [Bool.eq_iff_iff]; simp; omega))
set_option maxRecDepth 100000 in
set_option maxHeartbeats 4000000 in
theorem refMay_s1 (op a b m : Int) (n : List Int) (xn xl xe : Option Addr) (nl ll el nc lc ec : Nat) (w : World) (hn : nl = n.length) (hv : View w xn nl n) (_hnc : nl ≤ nc) (hll : ll ≤ 9223372036854775807) (hel : el ≤ 9223372036854775807) (_hnl : nc ≤ 9223372036854775807) (hop : (op == 4) = false) (hs : shapeV op = (1, 0)) :
    Calls Tryz.prog 129 #[.agg #[.int .i64 op, .int .i64 a, .int .i64 b, .int .i64 m, .slice xn nl nc, .slice xl ll lc, .slice xe el ec]] w fun e w' => e = .returned (.bool (mayV 1 0 op a b m n ll el)) ∧ Below w.heap.size w w' := by
  have HS : Hid (∀ w, Calls Tryz.prog 158 #[.int .i64 op] w fun e w' => e = .returned (.tuple #[.int .i64 1, .int .i64 0]) ∧ Below w.heap.size w w') := Lib.hid fun w => by
    have := refShape_any op w
    rw [hs] at this
    exact this
  have HI := Lib.hid refIdx_b
  have HT := Lib.hid refType_any
  have HO1 := Lib.hid (refOneLit 1 [5, 7, 8, 9] (by decide) false (by decide))
  have HO2 := Lib.hid (refOneLit 1 [1, 8, 11] (by decide) true (by decide))
  have HO3 := Lib.hid (refOneLit a [-64, -1, -2, -16] (by decide) _ rfl)
  have hb0 : Below w.heap.size w (w.alloc (.cells #[.int .i64 op, .int .i64 a, .int .i64 b, .int .i64 m, .slice xn nl nc, .slice xl ll lc, .slice xe el ec] 50)) := (Below.refl _ _).alloc (Nat.le_refl _) _
  have D0 : Hid (InsAt (w.alloc (.cells #[.int .i64 op, .int .i64 a, .int .i64 b, .int .i64 m, .slice xn nl nc, .slice xl ll lc, .slice xe el ec] 50)) w.heap.size op a b m xn xl xe nl ll el nc lc ec) := Lib.hid ⟨World.cell?_alloc_mark w _ _ _ 0, World.cell?_alloc_mark w _ _ _ 1, World.cell?_alloc_mark w _ _ _ 2, World.cell?_alloc_mark w _ _ _ 3, World.cell?_alloc_mark w _ _ _ 4, World.cell?_alloc_mark w _ _ _ 5, World.cell?_alloc_mark w _ _ _ 6⟩
  have hb : Below (w.alloc (.cells #[.int .i64 op, .int .i64 a, .int .i64 b, .int .i64 m, .slice xn nl nc, .slice xl ll lc, .slice xe el ec] 50)).heap.size (w.alloc (.cells #[.int .i64 op, .int .i64 a, .int .i64 b, .int .i64 m, .slice xn nl nc, .slice xl ll lc, .slice xe el ec] 50)) (w.alloc (.cells #[.int .i64 op, .int .i64 a, .int .i64 b, .int .i64 m, .slice xn nl nc, .slice xl ll lc, .slice xe el ec] 50)) := Below.refl _ _
  have HB0 := Lib.hid hb0
  have HV := Lib.hid hv
  have HNN := Lib.hid hn
  unfold mayV
  rw [← hn]
  clear hb0 hs hv hn
  go_enter Tryz.func129, Tryz.ntmps129
  go_wp2_with (first
    | (go_at_call 158; refine (HS.out _).mono ?_; rintro e w1 ⟨rfl, hh⟩; replace hb := hb.trans (hh.mono hb.size); clear hh HS; have D := D0.out.below hb; obtain ⟨d0, d1, d2, d3, d4, d5, d6⟩ := D)
    | (go_at_call 159; refine (HI.out _ _).mono ?_; rintro e w1 ⟨rfl, rfl⟩)
    | (go_at_call 110; refine (HT.out _ _).mono ?_; rintro e w1 ⟨rfl, hh⟩; replace hb := hb.trans (hh.mono hb.size); clear hh; have D := D0.out.below hb; obtain ⟨d0, d1, d2, d3, d4, d5, d6⟩ := D)
    | (go_at_call 128; refine (HO1.out _).mono ?_; rintro e w1 ⟨rfl, hh⟩; replace hb := hb.trans (hh.mono hb.size); clear hh HO1; have D := D0.out.below hb; obtain ⟨d0, d1, d2, d3, d4, d5, d6⟩ := D)
    | (go_at_call 128; refine (HO2.out _).mono ?_; rintro e w1 ⟨rfl, hh⟩; replace hb := hb.trans (hh.mono hb.size); clear hh HO2; have D := D0.out.below hb; obtain ⟨d0, d1, d2, d3, d4, d5, d6⟩ := D)
    | (go_at_call 128; refine (HO3.out _).mono ?_; rintro e w1 ⟨rfl, hh⟩; replace hb := hb.trans (hh.mono hb.size); clear hh HO3; have D := D0.out.below hb; obtain ⟨d0, d1, d2, d3, d4, d5, d6⟩ := D))
  all_goals
    go_ret
    refine ⟨congrArg (fun c => Ending.returned (.bool c)) ?_, HB0.out.trans (hb.mono (by simp))⟩
    first | (simp [*]; done) | (simp; done) | (simp only [bne_iff_ne, ne_eq, bne_eq_false_iff_eq, Bool.not_eq_eq_eq_not, Bool.not_false] at *; simp [*]; done) | (simp only [bne_eq_false_iff_eq, Bool.not_eq_eq_eq_not, Bool.not_false] at *; simp [*]; first | omega | (rw [Bool.eq_iff_iff]; simp; done) | (rw [Bool.eq_iff_iff]; simp; omega))
set_option maxRecDepth 100000 in
set_option maxHeartbeats 4000000 in
theorem refMay_s8 (op a b m : Int) (n : List Int) (xn xl xe : Option Addr) (nl ll el nc lc ec : Nat) (w : World) (hn : nl = n.length) (hv : View w xn nl n) (_hnc : nl ≤ nc) (hll : ll ≤ 9223372036854775807) (hel : el ≤ 9223372036854775807) (_hnl : nc ≤ 9223372036854775807) (hop : (op == 4) = false) (hs : shapeV op = (8, 0)) :
    Calls Tryz.prog 129 #[.agg #[.int .i64 op, .int .i64 a, .int .i64 b, .int .i64 m, .slice xn nl nc, .slice xl ll lc, .slice xe el ec]] w fun e w' => e = .returned (.bool (mayV 8 0 op a b m n ll el)) ∧ Below w.heap.size w w' := by
  have HS : Hid (∀ w, Calls Tryz.prog 158 #[.int .i64 op] w fun e w' => e = .returned (.tuple #[.int .i64 8, .int .i64 0]) ∧ Below w.heap.size w w') := Lib.hid fun w => by
    have := refShape_any op w
    rw [hs] at this
    exact this
  have HI := Lib.hid refIdx_b
  have HT := Lib.hid refType_any
  have HO1 := Lib.hid (refOneLit 8 [5, 7, 8, 9] (by decide) true (by decide))
  have HO2 := Lib.hid (refOneLit 8 [1, 8, 11] (by decide) true (by decide))
  have HO3 := Lib.hid (refOneLit a [-64, -1, -2, -16] (by decide) _ rfl)
  have hb0 : Below w.heap.size w (w.alloc (.cells #[.int .i64 op, .int .i64 a, .int .i64 b, .int .i64 m, .slice xn nl nc, .slice xl ll lc, .slice xe el ec] 50)) := (Below.refl _ _).alloc (Nat.le_refl _) _
  have D0 : Hid (InsAt (w.alloc (.cells #[.int .i64 op, .int .i64 a, .int .i64 b, .int .i64 m, .slice xn nl nc, .slice xl ll lc, .slice xe el ec] 50)) w.heap.size op a b m xn xl xe nl ll el nc lc ec) := Lib.hid ⟨World.cell?_alloc_mark w _ _ _ 0, World.cell?_alloc_mark w _ _ _ 1, World.cell?_alloc_mark w _ _ _ 2, World.cell?_alloc_mark w _ _ _ 3, World.cell?_alloc_mark w _ _ _ 4, World.cell?_alloc_mark w _ _ _ 5, World.cell?_alloc_mark w _ _ _ 6⟩
  have hb : Below (w.alloc (.cells #[.int .i64 op, .int .i64 a, .int .i64 b, .int .i64 m, .slice xn nl nc, .slice xl ll lc, .slice xe el ec] 50)).heap.size (w.alloc (.cells #[.int .i64 op, .int .i64 a, .int .i64 b, .int .i64 m, .slice xn nl nc, .slice xl ll lc, .slice xe el ec] 50)) (w.alloc (.cells #[.int .i64 op, .int .i64 a, .int .i64 b, .int .i64 m, .slice xn nl nc, .slice xl ll lc, .slice xe el ec] 50)) := Below.refl _ _
  have HB0 := Lib.hid hb0
  have HV := Lib.hid hv
  have HNN := Lib.hid hn
  unfold mayV
  rw [← hn]
  clear hb0 hs hv hn
  go_enter Tryz.func129, Tryz.ntmps129
  go_wp2_with (first
    | (go_at_call 158; refine (HS.out _).mono ?_; rintro e w1 ⟨rfl, hh⟩; replace hb := hb.trans (hh.mono hb.size); clear hh HS; have D := D0.out.below hb; obtain ⟨d0, d1, d2, d3, d4, d5, d6⟩ := D)
    | (go_at_call 159; refine (HI.out _ _).mono ?_; rintro e w1 ⟨rfl, rfl⟩)
    | (go_at_call 110; refine (HT.out _ _).mono ?_; rintro e w1 ⟨rfl, hh⟩; replace hb := hb.trans (hh.mono hb.size); clear hh; have D := D0.out.below hb; obtain ⟨d0, d1, d2, d3, d4, d5, d6⟩ := D)
    | (go_at_call 128; refine (HO1.out _).mono ?_; rintro e w1 ⟨rfl, hh⟩; replace hb := hb.trans (hh.mono hb.size); clear hh HO1; have D := D0.out.below hb; obtain ⟨d0, d1, d2, d3, d4, d5, d6⟩ := D)
    | (go_at_call 128; refine (HO2.out _).mono ?_; rintro e w1 ⟨rfl, hh⟩; replace hb := hb.trans (hh.mono hb.size); clear hh HO2; have D := D0.out.below hb; obtain ⟨d0, d1, d2, d3, d4, d5, d6⟩ := D)
    | (go_at_call 128; refine (HO3.out _).mono ?_; rintro e w1 ⟨rfl, hh⟩; replace hb := hb.trans (hh.mono hb.size); clear hh HO3; have D := D0.out.below hb; obtain ⟨d0, d1, d2, d3, d4, d5, d6⟩ := D))
  all_goals
    go_ret
    refine ⟨congrArg (fun c => Ending.returned (.bool c)) ?_, HB0.out.trans (hb.mono (by simp))⟩
    first | (simp [*]; done) | (simp; done) | (simp only [bne_iff_ne, ne_eq, bne_eq_false_iff_eq, Bool.not_eq_eq_eq_not, Bool.not_true, Bool.not_false] at *; simp [*]; done) | (simp only [bne_eq_false_iff_eq, Bool.not_eq_eq_eq_not, Bool.not_false] at *; simp [*]; first | omega | (rw [Bool.eq_iff_iff]; simp; done) | (rw [Bool.eq_iff_iff]; simp; omega))
set_option maxRecDepth 100000 in
set_option maxHeartbeats 4000000 in
theorem refMay_s11 (op a b m : Int) (n : List Int) (xn xl xe : Option Addr) (nl ll el nc lc ec : Nat) (w : World) (hn : nl = n.length) (hv : View w xn nl n) (_hnc : nl ≤ nc) (hll : ll ≤ 9223372036854775807) (hel : el ≤ 9223372036854775807) (_hnl : nc ≤ 9223372036854775807) (hop : (op == 4) = false) (hs : shapeV op = (11, 0)) :
    Calls Tryz.prog 129 #[.agg #[.int .i64 op, .int .i64 a, .int .i64 b, .int .i64 m, .slice xn nl nc, .slice xl ll lc, .slice xe el ec]] w fun e w' => e = .returned (.bool (mayV 11 0 op a b m n ll el)) ∧ Below w.heap.size w w' := by
  have HS : Hid (∀ w, Calls Tryz.prog 158 #[.int .i64 op] w fun e w' => e = .returned (.tuple #[.int .i64 11, .int .i64 0]) ∧ Below w.heap.size w w') := Lib.hid fun w => by
    have := refShape_any op w
    rw [hs] at this
    exact this
  have HI := Lib.hid refIdx_b
  have HT := Lib.hid refType_any
  have HO1 := Lib.hid (refOneLit 11 [5, 7, 8, 9] (by decide) false (by decide))
  have HO2 := Lib.hid (refOneLit 11 [1, 8, 11] (by decide) true (by decide))
  have HO3 := Lib.hid (refOneLit a [-64, -1, -2, -16] (by decide) _ rfl)
  have hb0 : Below w.heap.size w (w.alloc (.cells #[.int .i64 op, .int .i64 a, .int .i64 b, .int .i64 m, .slice xn nl nc, .slice xl ll lc, .slice xe el ec] 50)) := (Below.refl _ _).alloc (Nat.le_refl _) _
  have D0 : Hid (InsAt (w.alloc (.cells #[.int .i64 op, .int .i64 a, .int .i64 b, .int .i64 m, .slice xn nl nc, .slice xl ll lc, .slice xe el ec] 50)) w.heap.size op a b m xn xl xe nl ll el nc lc ec) := Lib.hid ⟨World.cell?_alloc_mark w _ _ _ 0, World.cell?_alloc_mark w _ _ _ 1, World.cell?_alloc_mark w _ _ _ 2, World.cell?_alloc_mark w _ _ _ 3, World.cell?_alloc_mark w _ _ _ 4, World.cell?_alloc_mark w _ _ _ 5, World.cell?_alloc_mark w _ _ _ 6⟩
  have hb : Below (w.alloc (.cells #[.int .i64 op, .int .i64 a, .int .i64 b, .int .i64 m, .slice xn nl nc, .slice xl ll lc, .slice xe el ec] 50)).heap.size (w.alloc (.cells #[.int .i64 op, .int .i64 a, .int .i64 b, .int .i64 m, .slice xn nl nc, .slice xl ll lc, .slice xe el ec] 50)) (w.alloc (.cells #[.int .i64 op, .int .i64 a, .int .i64 b, .int .i64 m, .slice xn nl nc, .slice xl ll lc, .slice xe el ec] 50)) := Below.refl _ _
  have HB0 := Lib.hid hb0
  have HV := Lib.hid hv
  have HNN := Lib.hid hn
  unfold mayV
  rw [← hn]
  clear hb0 hs hv hn
  go_enter Tryz.func129, Tryz.ntmps129
  go_wp2_with (first
    | (go_at_call 158; refine (HS.out _).mono ?_; rintro e w1 ⟨rfl, hh⟩; replace hb := hb.trans (hh.mono hb.size); clear hh HS; have D := D0.out.below hb; obtain ⟨d0, d1, d2, d3, d4, d5, d6⟩ := D)
    | (go_at_call 159; refine (HI.out _ _).mono ?_; rintro e w1 ⟨rfl, rfl⟩)
    | (go_at_call 110; refine (HT.out _ _).mono ?_; rintro e w1 ⟨rfl, hh⟩; replace hb := hb.trans (hh.mono hb.size); clear hh; have D := D0.out.below hb; obtain ⟨d0, d1, d2, d3, d4, d5, d6⟩ := D)
    | (go_at_call 128; refine (HO1.out _).mono ?_; rintro e w1 ⟨rfl, hh⟩; replace hb := hb.trans (hh.mono hb.size); clear hh HO1; have D := D0.out.below hb; obtain ⟨d0, d1, d2, d3, d4, d5, d6⟩ := D)
    | (go_at_call 128; refine (HO2.out _).mono ?_; rintro e w1 ⟨rfl, hh⟩; replace hb := hb.trans (hh.mono hb.size); clear hh HO2; have D := D0.out.below hb; obtain ⟨d0, d1, d2, d3, d4, d5, d6⟩ := D)
    | (go_at_call 128; refine (HO3.out _).mono ?_; rintro e w1 ⟨rfl, hh⟩; replace hb := hb.trans (hh.mono hb.size); clear hh HO3; have D := D0.out.below hb; obtain ⟨d0, d1, d2, d3, d4, d5, d6⟩ := D))
  all_goals
    go_ret
    refine ⟨congrArg (fun c => Ending.returned (.bool c)) ?_, HB0.out.trans (hb.mono (by simp))⟩
    first | (simp [*]; done) | (simp; done) | (simp only [bne_iff_ne, ne_eq, bne_eq_false_iff_eq, Bool.not_eq_eq_eq_not, Bool.not_false] at *; simp [*]; done) | (simp only [bne_eq_false_iff_eq, Bool.not_eq_eq_eq_not, Bool.not_false] at *; simp [*]; first | omega | (rw [Bool.eq_iff_iff]; simp; done) | (rw [Bool.eq_iff_iff]; simp; omega))
set_option maxRecDepth 100000 in
set_option maxHeartbeats 4000000 in
theorem refMay_s2 (op a b m : Int) (n : List Int) (xn xl xe : Option Addr) (nl ll el nc lc ec : Nat) (w : World) (hn : nl = n.length) (hv : View w xn nl n) (_hnc : nl ≤ nc) (_hll : ll ≤ 9223372036854775807) (hel : el ≤ 9223372036854775807) (_hnl : nc ≤ 9223372036854775807)  (hs : shapeV op = (2, 0)) :
    Calls Tryz.prog 129 #[.agg #[.int .i64 op, .int .i64 a, .int .i64 b, .int .i64 m, .slice xn nl nc, .slice xl ll lc, .slice xe el ec]] w fun e w' => e = .returned (.bool (mayV 2 0 op a b m n ll el)) ∧ Below w.heap.size w w' := by
  have HS : Hid (∀ w, Calls Tryz.prog 158 #[.int .i64 op] w fun e w' => e = .returned (.tuple #[.int .i64 2, .int .i64 0]) ∧ Below w.heap.size w w') := Lib.hid fun w => by
    have := refShape_any op w
    rw [hs] at this
    exact this
  have HI := Lib.hid refIdx_b
  have HT := Lib.hid refType_any
  have HO1 := Lib.hid (refOneLit 2 [5, 7, 8, 9] (by decide) false (by decide))
  have HO2 := Lib.hid (refOneLit 2 [1, 8, 11] (by decide) false (by decide))
  have HO3 := Lib.hid (refOneLit a [-64, -1, -2, -16] (by decide) _ rfl)
  have hb0 : Below w.heap.size w (w.alloc (.cells #[.int .i64 op, .int .i64 a, .int .i64 b, .int .i64 m, .slice xn nl nc, .slice xl ll lc, .slice xe el ec] 50)) := (Below.refl _ _).alloc (Nat.le_refl _) _
  have D0 : Hid (InsAt (w.alloc (.cells #[.int .i64 op, .int .i64 a, .int .i64 b, .int .i64 m, .slice xn nl nc, .slice xl ll lc, .slice xe el ec] 50)) w.heap.size op a b m xn xl xe nl ll el nc lc ec) := Lib.hid ⟨World.cell?_alloc_mark w _ _ _ 0, World.cell?_alloc_mark w _ _ _ 1, World.cell?_alloc_mark w _ _ _ 2, World.cell?_alloc_mark w _ _ _ 3, World.cell?_alloc_mark w _ _ _ 4, World.cell?_alloc_mark w _ _ _ 5, World.cell?_alloc_mark w _ _ _ 6⟩
  have hb : Below (w.alloc (.cells #[.int .i64 op, .int .i64 a, .int .i64 b, .int .i64 m, .slice xn nl nc, .slice xl ll lc, .slice xe el ec] 50)).heap.size (w.alloc (.cells #[.int .i64 op, .int .i64 a, .int .i64 b, .int .i64 m, .slice xn nl nc, .slice xl ll lc, .slice xe el ec] 50)) (w.alloc (.cells #[.int .i64 op, .int .i64 a, .int .i64 b, .int .i64 m, .slice xn nl nc, .slice xl ll lc, .slice xe el ec] 50)) := Below.refl _ _
  have HB0 := Lib.hid hb0
  have HV := Lib.hid hv
  have HNN := Lib.hid hn
  unfold mayV
  rw [← hn]
  clear hb0 hs hv hn
  go_enter Tryz.func129, Tryz.ntmps129
  go_wp2_with (first
    | (go_at_call 158; refine (HS.out _).mono ?_; rintro e w1 ⟨rfl, hh⟩; replace hb := hb.trans (hh.mono hb.size); clear hh HS; have D := D0.out.below hb; obtain ⟨d0, d1, d2, d3, d4, d5, d6⟩ := D)
    | (go_at_call 159; refine (HI.out _ _).mono ?_; rintro e w1 ⟨rfl, rfl⟩)
    | (go_at_call 110; refine (HT.out _ _).mono ?_; rintro e w1 ⟨rfl, hh⟩; replace hb := hb.trans (hh.mono hb.size); clear hh; have D := D0.out.below hb; obtain ⟨d0, d1, d2, d3, d4, d5, d6⟩ := D)
    | (go_at_call 128; refine (HO1.out _).mono ?_; rintro e w1 ⟨rfl, hh⟩; replace hb := hb.trans (hh.mono hb.size); clear hh HO1; have D := D0.out.below hb; obtain ⟨d0, d1, d2, d3, d4, d5, d6⟩ := D)
    | (go_at_call 128; refine (HO2.out _).mono ?_; rintro e w1 ⟨rfl, hh⟩; replace hb := hb.trans (hh.mono hb.size); clear hh HO2; have D := D0.out.below hb; obtain ⟨d0, d1, d2, d3, d4, d5, d6⟩ := D)
    | (go_at_call 128; refine (HO3.out _).mono ?_; rintro e w1 ⟨rfl, hh⟩; replace hb := hb.trans (hh.mono hb.size); clear hh HO3; have D := D0.out.below hb; obtain ⟨d0, d1, d2, d3, d4, d5, d6⟩ := D))
  all_goals
    go_ret
    refine ⟨congrArg (fun c => Ending.returned (.bool c)) ?_, HB0.out.trans (hb.mono (by simp))⟩
    first | (simp [*]; done) | (simp; done) | (simp only [bne_iff_ne, ne_eq, bne_eq_false_iff_eq, Bool.not_eq_eq_eq_not, Bool.not_false] at *; simp [*]; done) | (simp only [bne_iff_ne, ne_eq, bne_eq_false_iff_eq, Bool.not_eq_false', Bool.not_eq_true', Bool.not_eq_eq_eq_not, Bool.not_true, Bool.not_false] at *; simp [*]; first | omega | (rw [Bool.eq_iff_iff]; simp; done) | (rw [Bool.eq_iff_iff]; simp; omega))
set_option maxRecDepth 100000 in
set_option maxHeartbeats 4000000 in
theorem refMay_s6 (op a b m : Int) (n : List Int) (xn xl xe : Option Addr) (nl ll el nc lc ec : Nat) (w : World) (hn : nl = n.length) (hv : View w xn nl n) (_hnc : nl ≤ nc) (hll : ll ≤ 9223372036854775807) (hel : el ≤ 9223372036854775807) (_hnl : nc ≤ 9223372036854775807) (hop : (op == 4) = false) (hs : shapeV op = (6, 0)) :
    Calls Tryz.prog 129 #[.agg #[.int .i64 op, .int .i64 a, .int .i64 b, .int .i64 m, .slice xn nl nc, .slice xl ll lc, .slice xe el ec]] w fun e w' => e = .returned (.bool (mayV 6 0 op a b m n ll el)) ∧ Below w.heap.size w w' := by
  have HS : Hid (∀ w, Calls Tryz.prog 158 #[.int .i64 op] w fun e w' => e = .returned (.tuple #[.int .i64 6, .int .i64 0]) ∧ Below w.heap.size w w') := Lib.hid fun w => by
    have := refShape_any op w
    rw [hs] at this
    exact this
  have HI := Lib.hid refIdx_b
  have HT := Lib.hid refType_any
  have HO1 := Lib.hid (refOneLit 6 [5, 7, 8, 9] (by decide) false (by decide))
  have HO2 := Lib.hid (refOneLit 6 [1, 8, 11] (by decide) false (by decide))
  have HO3 := Lib.hid (refOneLit a [-64, -1, -2, -16] (by decide) _ rfl)
  have hb0 : Below w.heap.size w (w.alloc (.cells #[.int .i64 op, .int .i64 a, .int .i64 b, .int .i64 m, .slice xn nl nc, .slice xl ll lc, .slice xe el ec] 50)) := (Below.refl _ _).alloc (Nat.le_refl _) _
  have D0 : Hid (InsAt (w.alloc (.cells #[.int .i64 op, .int .i64 a, .int .i64 b, .int .i64 m, .slice xn nl nc, .slice xl ll lc, .slice xe el ec] 50)) w.heap.size op a b m xn xl xe nl ll el nc lc ec) := Lib.hid ⟨World.cell?_alloc_mark w _ _ _ 0, World.cell?_alloc_mark w _ _ _ 1, World.cell?_alloc_mark w _ _ _ 2, World.cell?_alloc_mark w _ _ _ 3, World.cell?_alloc_mark w _ _ _ 4, World.cell?_alloc_mark w _ _ _ 5, World.cell?_alloc_mark w _ _ _ 6⟩
  have hb : Below (w.alloc (.cells #[.int .i64 op, .int .i64 a, .int .i64 b, .int .i64 m, .slice xn nl nc, .slice xl ll lc, .slice xe el ec] 50)).heap.size (w.alloc (.cells #[.int .i64 op, .int .i64 a, .int .i64 b, .int .i64 m, .slice xn nl nc, .slice xl ll lc, .slice xe el ec] 50)) (w.alloc (.cells #[.int .i64 op, .int .i64 a, .int .i64 b, .int .i64 m, .slice xn nl nc, .slice xl ll lc, .slice xe el ec] 50)) := Below.refl _ _
  have HB0 := Lib.hid hb0
  have HV := Lib.hid hv
  have HNN := Lib.hid hn
  unfold mayV
  rw [← hn]
  clear hb0 hs hv hn
  go_enter Tryz.func129, Tryz.ntmps129
  go_wp2_with (first
    | (go_at_call 158; refine (HS.out _).mono ?_; rintro e w1 ⟨rfl, hh⟩; replace hb := hb.trans (hh.mono hb.size); clear hh HS; have D := D0.out.below hb; obtain ⟨d0, d1, d2, d3, d4, d5, d6⟩ := D)
    | (go_at_call 159; refine (HI.out _ _).mono ?_; rintro e w1 ⟨rfl, rfl⟩)
    | (go_at_call 110; refine (HT.out _ _).mono ?_; rintro e w1 ⟨rfl, hh⟩; replace hb := hb.trans (hh.mono hb.size); clear hh; have D := D0.out.below hb; obtain ⟨d0, d1, d2, d3, d4, d5, d6⟩ := D)
    | (go_at_call 128; refine (HO1.out _).mono ?_; rintro e w1 ⟨rfl, hh⟩; replace hb := hb.trans (hh.mono hb.size); clear hh HO1; have D := D0.out.below hb; obtain ⟨d0, d1, d2, d3, d4, d5, d6⟩ := D)
    | (go_at_call 128; refine (HO2.out _).mono ?_; rintro e w1 ⟨rfl, hh⟩; replace hb := hb.trans (hh.mono hb.size); clear hh HO2; have D := D0.out.below hb; obtain ⟨d0, d1, d2, d3, d4, d5, d6⟩ := D)
    | (go_at_call 128; refine (HO3.out _).mono ?_; rintro e w1 ⟨rfl, hh⟩; replace hb := hb.trans (hh.mono hb.size); clear hh HO3; have D := D0.out.below hb; obtain ⟨d0, d1, d2, d3, d4, d5, d6⟩ := D))
  all_goals
    go_ret
    refine ⟨congrArg (fun c => Ending.returned (.bool c)) ?_, HB0.out.trans (hb.mono (by simp))⟩
    first | (simp [*]; done) | (simp; done) | (simp only [bne_iff_ne, ne_eq, bne_eq_false_iff_eq, Bool.not_eq_eq_eq_not, Bool.not_false] at *; simp [*]; done) | (simp only [bne_eq_false_iff_eq, Bool.not_eq_eq_eq_not, Bool.not_false] at *; simp [*]; first | omega | (rw [Bool.eq_iff_iff]; simp; done) | (rw [Bool.eq_iff_iff]; simp; omega))
set_option maxRecDepth 100000 in
set_option maxHeartbeats 4000000 in
theorem refMay_s10 (op a b m : Int) (n : List Int) (xn xl xe : Option Addr) (nl ll el nc lc ec : Nat) (w : World) (hn : nl = n.length) (hv : View w xn nl n) (_hnc : nl ≤ nc) (hll : ll ≤ 9223372036854775807) (hel : el ≤ 9223372036854775807) (_hnl : nc ≤ 9223372036854775807) (hop : (op == 4) = false) (hs : shapeV op = (10, 0)) :
    Calls Tryz.prog 129 #[.agg #[.int .i64 op, .int .i64 a, .int .i64 b, .int .i64 m, .slice xn nl nc, .slice xl ll lc, .slice xe el ec]] w fun e w' => e = .returned (.bool (mayV 10 0 op a b m n ll el)) ∧ Below w.heap.size w w' := by
  have HS : Hid (∀ w, Calls Tryz.prog 158 #[.int .i64 op] w fun e w' => e = .returned (.tuple #[.int .i64 10, .int .i64 0]) ∧ Below w.heap.size w w') := Lib.hid fun w => by
    have := refShape_any op w
    rw [hs] at this
    exact this
  have HI := Lib.hid refIdx_b
  have HT := Lib.hid refType_any
  have HO1 := Lib.hid (refOneLit 10 [5, 7, 8, 9] (by decide) false (by decide))
  have HO2 := Lib.hid (refOneLit 10 [1, 8, 11] (by decide) false (by decide))
  have HO3 := Lib.hid (refOneLit a [-64, -1, -2, -16] (by decide) _ rfl)
  have hb0 : Below w.heap.size w (w.alloc (.cells #[.int .i64 op, .int .i64 a, .int .i64 b, .int .i64 m, .slice xn nl nc, .slice xl ll lc, .slice xe el ec] 50)) := (Below.refl _ _).alloc (Nat.le_refl _) _
  have D0 : Hid (InsAt (w.alloc (.cells #[.int .i64 op, .int .i64 a, .int .i64 b, .int .i64 m, .slice xn nl nc, .slice xl ll lc, .slice xe el ec] 50)) w.heap.size op a b m xn xl xe nl ll el nc lc ec) := Lib.hid ⟨World.cell?_alloc_mark w _ _ _ 0, World.cell?_alloc_mark w _ _ _ 1, World.cell?_alloc_mark w _ _ _ 2, World.cell?_alloc_mark w _ _ _ 3, World.cell?_alloc_mark w _ _ _ 4, World.cell?_alloc_mark w _ _ _ 5, World.cell?_alloc_mark w _ _ _ 6⟩
  have hb : Below (w.alloc (.cells #[.int .i64 op, .int .i64 a, .int .i64 b, .int .i64 m, .slice xn nl nc, .slice xl ll lc, .slice xe el ec] 50)).heap.size (w.alloc (.cells #[.int .i64 op, .int .i64 a, .int .i64 b, .int .i64 m, .slice xn nl nc, .slice xl ll lc, .slice xe el ec] 50)) (w.alloc (.cells #[.int .i64 op, .int .i64 a, .int .i64 b, .int .i64 m, .slice xn nl nc, .slice xl ll lc, .slice xe el ec] 50)) := Below.refl _ _
  have HB0 := Lib.hid hb0
  have HV := Lib.hid hv
  have HNN := Lib.hid hn
  unfold mayV
  rw [← hn]
  clear hb0 hs hv hn
  go_enter Tryz.func129, Tryz.ntmps129
  go_wp2_with (first
    | (go_at_call 158; refine (HS.out _).mono ?_; rintro e w1 ⟨rfl, hh⟩; replace hb := hb.trans (hh.mono hb.size); clear hh HS; have D := D0.out.below hb; obtain ⟨d0, d1, d2, d3, d4, d5, d6⟩ := D)
    | (go_at_call 159; refine (HI.out _ _).mono ?_; rintro e w1 ⟨rfl, rfl⟩)
    | (go_at_call 110; refine (HT.out _ _).mono ?_; rintro e w1 ⟨rfl, hh⟩; replace hb := hb.trans (hh.mono hb.size); clear hh; have D := D0.out.below hb; obtain ⟨d0, d1, d2, d3, d4, d5, d6⟩ := D)
    | (go_at_call 128; refine (HO1.out _).mono ?_; rintro e w1 ⟨rfl, hh⟩; replace hb := hb.trans (hh.mono hb.size); clear hh HO1; have D := D0.out.below hb; obtain ⟨d0, d1, d2, d3, d4, d5, d6⟩ := D)
    | (go_at_call 128; refine (HO2.out _).mono ?_; rintro e w1 ⟨rfl, hh⟩; replace hb := hb.trans (hh.mono hb.size); clear hh HO2; have D := D0.out.below hb; obtain ⟨d0, d1, d2, d3, d4, d5, d6⟩ := D)
    | (go_at_call 128; refine (HO3.out _).mono ?_; rintro e w1 ⟨rfl, hh⟩; replace hb := hb.trans (hh.mono hb.size); clear hh HO3; have D := D0.out.below hb; obtain ⟨d0, d1, d2, d3, d4, d5, d6⟩ := D))
  all_goals
    go_ret
    refine ⟨congrArg (fun c => Ending.returned (.bool c)) ?_, HB0.out.trans (hb.mono (by simp))⟩
    first | (simp [*]; done) | (simp; done) | (simp only [bne_iff_ne, ne_eq, bne_eq_false_iff_eq, Bool.not_eq_eq_eq_not, Bool.not_false] at *; simp [*]; done) | (simp only [bne_eq_false_iff_eq, Bool.not_eq_eq_eq_not, Bool.not_false] at *; simp [*]; first | omega | (rw [Bool.eq_iff_iff]; simp; done) | (rw [Bool.eq_iff_iff]; simp; omega))
end Go.Proofs.YtekonefnniaheaaGreat
namespace Go.Proofs.YtekonefnniaheaaGreat
open Go.RowKit

set_option maxRecDepth 100000 in
set_option maxHeartbeats 4000000 in
theorem refMay_bad (op a b m sh er : Int) (n : List Int) (xn xl xe : Option Addr) (nl ll el nc lc ec : Nat) (w : World) (her : (er == 0) = false) (hs : shapeV op = (sh, er)) :
    Calls Tryz.prog 129 #[.agg #[.int .i64 op, .int .i64 a, .int .i64 b, .int .i64 m, .slice xn nl nc, .slice xl ll lc, .slice xe el ec]] w fun e w' => e = .returned (.bool (mayV sh er op a b m n ll el)) ∧ Below w.heap.size w w' := by
  have HS : Hid (∀ w, Calls Tryz.prog 158 #[.int .i64 op] w fun e w' => e = .returned (.tuple #[.int .i64 sh, .int .i64 er]) ∧ Below w.heap.size w w') := Lib.hid fun w => by
    have := refShape_any op w
    rw [hs] at this
    exact this
  have HB0 := Lib.hid ((Below.refl w.heap.size w).alloc (Nat.le_refl _) (.cells #[.int .i64 op, .int .i64 a, .int .i64 b, .int .i64 m, .slice xn nl nc, .slice xl ll lc, .slice xe el ec] 50))
  have HF : Hid (mayV sh er op a b m n ll el = false) := Lib.hid (by
    have : er ≠ 0 := by simpa using her
    unfold mayV
    rw [decide_eq_false this]
    simp)
  have D0 := Lib.hid (World.cell?_alloc_mark w #[.int .i64 op, .int .i64 a, .int .i64 b, .int .i64 m, .slice xn nl nc, .slice xl ll lc, .slice xe el ec] 50 (0, 0) 0)
  have her2 : (er != 0) = true := by simpa using her
  clear hs her
  go_enter Tryz.func129, Tryz.ntmps129
  go_wp2_with (go_at_call 158; refine (HS.out _).mono ?_; rintro e w1 ⟨rfl, hh⟩; have d0 := (hh.cell (p := ⟨w.heap.size, 0, none⟩) (by simp)).trans D0.out)
  go_ret
  rw [HF.out]
  exact ⟨rfl, HB0.out.trans (hh.mono (by simp))⟩
theorem all_upto {n : List Int} {f : Int → Bool} (h : ∀ j, j < n.length → f (n.getD j 0) = true) : n.all f = true := by
  rw [List.all_eq_true]
  intro z hz
  obtain ⟨k, hk, rfl⟩ := List.getElem_of_mem hz
  have := h k hk
  rwa [List.getD_eq_getElem?_getD, List.getElem?_eq_getElem hk] at this
theorem all_not {n : List Int} {f : Int → Bool} {j : Nat} (hj : j < n.length) (h : f (n.getD j 0) = false) : n.all f = false := by
  rw [← Bool.not_eq_true, List.all_eq_true]
  intro ha
  have := ha (n.getD j 0) (by rw [List.getD_eq_getElem?_getD, List.getElem?_eq_getElem hj]; exact List.getElem_mem _)
  rw [h] at this
  exact absurd this (by decide)
set_option maxRecDepth 100000 in
set_option maxHeartbeats 4000000 in
theorem refMay_s4 (op a b m : Int) (n : List Int) (xn xl xe : Option Addr) (nl ll el nc lc ec : Nat) (w : World) (hn : nl = n.length) (hv : View w xn nl n) (hnc : nl ≤ nc) (hll : ll ≤ 9223372036854775807) (hel : el ≤ 9223372036854775807) (hnl : nc ≤ 9223372036854775807) (hop : (op == 4) = false) (hs : shapeV op = (4, 0)) :
    Calls Tryz.prog 129 #[.agg #[.int .i64 op, .int .i64 a, .int .i64 b, .int .i64 m, .slice xn nl nc, .slice xl ll lc, .slice xe el ec]] w fun e w' => e = .returned (.bool (mayV 4 0 op a b m n ll el)) ∧ Below w.heap.size w w' := by
  have HS : Hid (∀ w, Calls Tryz.prog 158 #[.int .i64 op] w fun e w' => e = .returned (.tuple #[.int .i64 4, .int .i64 0]) ∧ Below w.heap.size w w') := Lib.hid fun w => by
    have := refShape_any op w
    rw [hs] at this
    exact this
  have HI := Lib.hid refIdx_b
  have HO1 := Lib.hid (refOneLit 4 [5, 7, 8, 9] (by decide) false (by decide))
  have HO2 := Lib.hid (refOneLit 4 [1, 8, 11] (by decide) false (by decide))
  have hb0 : Below w.heap.size w (w.alloc (.cells #[.int .i64 op, .int .i64 a, .int .i64 b, .int .i64 m, .slice xn nl nc, .slice xl ll lc, .slice xe el ec] 50)) := (Below.refl _ _).alloc (Nat.le_refl _) _
  have D0 : Hid (InsAt (w.alloc (.cells #[.int .i64 op, .int .i64 a, .int .i64 b, .int .i64 m, .slice xn nl nc, .slice xl ll lc, .slice xe el ec] 50)) w.heap.size op a b m xn xl xe nl ll el nc lc ec) := Lib.hid ⟨World.cell?_alloc_mark w _ _ _ 0, World.cell?_alloc_mark w _ _ _ 1, World.cell?_alloc_mark w _ _ _ 2, World.cell?_alloc_mark w _ _ _ 3, World.cell?_alloc_mark w _ _ _ 4, World.cell?_alloc_mark w _ _ _ 5, World.cell?_alloc_mark w _ _ _ 6⟩
  have hb : Below (w.alloc (.cells #[.int .i64 op, .int .i64 a, .int .i64 b, .int .i64 m, .slice xn nl nc, .slice xl ll lc, .slice xe el ec] 50)).heap.size (w.alloc (.cells #[.int .i64 op, .int .i64 a, .int .i64 b, .int .i64 m, .slice xn nl nc, .slice xl ll lc, .slice xe el ec] 50)) (w.alloc (.cells #[.int .i64 op, .int .i64 a, .int .i64 b, .int .i64 m, .slice xn nl nc, .slice xl ll lc, .slice xe el ec] 50)) := Below.refl _ _
  have HB0 := Lib.hid hb0
  have HV := Lib.hid hv
  have HNN := Lib.hid hn
  unfold mayV
  rw [← hn]
  clear hb0 hs hv hn
  go_enter Tryz.func129, Tryz.ntmps129
  go_wp2_with (first
    | (go_at_call 158; refine (HS.out _).mono ?_; rintro e w1 ⟨rfl, hh⟩; replace hb := hb.trans (hh.mono hb.size); clear hh HS; have D := D0.out.below hb; obtain ⟨d0, d1, d2, d3, d4, d5, d6⟩ := D)
    | (go_at_call 159; refine (HI.out _ _).mono ?_; rintro e w1 ⟨rfl, rfl⟩)
    | (go_at_call 128; refine (HO1.out _).mono ?_; rintro e w1 ⟨rfl, hh⟩; replace hb := hb.trans (hh.mono hb.size); clear hh HO1; have D := D0.out.below hb; obtain ⟨d0, d1, d2, d3, d4, d5, d6⟩ := D)
    | (go_at_call 128; refine (HO2.out _).mono ?_; rintro e w1 ⟨rfl, hh⟩; replace hb := hb.trans (hh.mono hb.size); clear hh HO2; have D := D0.out.below hb; obtain ⟨d0, d1, d2, d3, d4, d5, d6⟩ := D))
  any_goals (
    go_ret
    refine ⟨congrArg (fun c => Ending.returned (.bool c)) ?_, HB0.out.trans (hb.mono (by simp))⟩
    first | (simp [*]; done) | (simp; done) | (simp only [bne_iff_ne, ne_eq] at *; simp [*]; done) | (simp only [bne_iff_ne, ne_eq, bne_eq_false_iff_eq, Bool.not_eq_false', Bool.not_eq_true', Bool.not_eq_eq_eq_not, Bool.not_true, Bool.not_false] at *; simp [*]; first | omega | (rw [Bool.eq_iff_iff]; simp; done) | (rw [Bool.eq_iff_iff]; simp; omega)))
  have hbw : Below w.heap.size w w1 := HB0.out.trans (hb.mono (by simp))
  have HVW := Lib.hid (HV.out.below hbw)
  have HBW := Lib.hid hbw
  clear hbw hb HV
  go_loopw [7] (fun iv wr => ∃ i : Nat, iv = .int .i64 i ∧ i ≤ nl ∧ (∀ j, j < i → idxB (n.getD j 0) = true) ∧ w1 = wr) (fun iv _ => nl - (intOf iv).toNat)
  case atStart => exact ⟨0, rfl, by omega, fun j hj => by omega, rfl⟩
  case round =>
    obtain ⟨i, rfl, hi, hall, rfl⟩ := hrel
    have HALL := Lib.hid hall
    clear hall
    by_cases hlt : i < nl
    · obtain ⟨b2, off2, rfl, hc⟩ := HVW.out.resolve_left (by omega)
      have hci := hc i hlt
      have HZ : Hid (∀ z, n.getD i 0 = z → idxB z = false → n.all idxB = false) := Lib.hid fun z hz hf => all_not (by rw [← HNN.out]; exact hlt) (by rw [hz]; exact hf)
      have HZ2 : Hid (∀ z, n.getD i 0 = z → idxB z = true → ∀ j, j < i + 1 → idxB (n.getD j 0) = true) := Lib.hid fun z hz ht j hj => by
        by_cases hji : j = i
        · rw [hji, hz]; exact ht
        · exact HALL.out j (by omega)
      obtain ⟨z, hz⟩ : ∃ z, n.getD i 0 = z := ⟨_, rfl⟩
      rw [hz] at hci
      have HZE := Lib.hid hz
      clear hc hz
      by_cases hzi : idxB z = true
      · have HIZ := Lib.hid (hzi ▸ refIdx_b z)
        have HT := Lib.hid hzi
        clear hzi
        go_wp2_with (go_at_call 159; refine (HIZ.out _).mono ?_; rintro e w2 ⟨rfl, rfl⟩)
        exact ⟨⟨i + 1, by go_num, by omega, HZ2.out z HZE.out HT.out, trivial⟩, by simp [intOf]; omega⟩
      · have HIZ := Lib.hid (not_true hzi ▸ refIdx_b z)
        have HA := Lib.hid (HZ.out z HZE.out (not_true hzi))
        clear hzi
        go_wp2_with (go_at_call 159; refine (HIZ.out _).mono ?_; rintro e w2 ⟨rfl, rfl⟩)
        go_ret
        refine ⟨congrArg (fun c => Ending.returned (.bool c)) ?_, HBW.out⟩
        rw [HA.out]
        simp
    · have hin : i = nl := by omega
      have HA : Hid (n.all idxB = true) := Lib.hid (all_upto fun j hj => HALL.out j (by rw [hin, HNN.out]; exact hj))
      subst hin
      go_wp2_with (go_at_call 159; refine (HI.out _ _).mono ?_; rintro e w2 ⟨rfl, rfl⟩)
      all_goals
        go_ret
        refine ⟨congrArg (fun c => Ending.returned (.bool c)) ?_, HBW.out⟩
        try rw [HA.out]
        first | (simp [*]; done) | (simp; done) | (simp only [bne_eq_false_iff_eq, Bool.not_eq_eq_eq_not, Bool.not_false] at *; simp [*]; done) | (simp only [bne_eq_false_iff_eq, Bool.not_eq_eq_eq_not, Bool.not_false] at *; simp [*]; first | omega | (rw [Bool.eq_iff_iff]; simp; done) | (rw [Bool.eq_iff_iff]; simp; omega))
theorem shapeV_in (op : Int) (h : (shapeV op).2 = 0) : shapeV op = (1, 0) ∨ shapeV op = (2, 0) ∨ shapeV op = (3, 0) ∨ shapeV op = (4, 0) ∨ shapeV op = (5, 0) ∨ shapeV op = (6, 0) ∨ shapeV op = (7, 0) ∨ shapeV op = (8, 0) ∨ shapeV op = (9, 0) ∨ shapeV op = (10, 0) ∨ shapeV op = (11, 0) := by
  unfold shapeV at h ⊢
  by_cases c0 : 0 < (Num.sig op).1 ∨ op ∈ [0, 1, 15, 26, 27, 209]
  · rw [if_pos c0] at h ⊢
    simp
  rw [if_neg c0] at h ⊢
  by_cases c1 : op ∈ [2, 3, 4]
  · rw [if_pos c1] at h ⊢
    simp
  rw [if_neg c1] at h ⊢
  by_cases c2 : op ∈ [12, 13, 16, 32, 33, 34, 35, 36, 210]
  · rw [if_pos c2] at h ⊢
    simp
  rw [if_neg c2] at h ⊢
  by_cases c3 : op = 14
  · rw [if_pos c3] at h ⊢
    simp
  rw [if_neg c3] at h ⊢
  by_cases c4 : op = 17
  · rw [if_pos c4] at h ⊢
    simp
  rw [if_neg c4] at h ⊢
  by_cases c5 : op = 28
  · rw [if_pos c5] at h ⊢
    simp
  rw [if_neg c5] at h ⊢
  by_cases c6 : 0 < (Mem.width op).1
  · rw [if_pos c6] at h ⊢
    simp
  rw [if_neg c6] at h ⊢
  by_cases c7 : op ∈ [37, 38, 63, 64, 64523, 64527, 64528, 64529]
  · rw [if_pos c7] at h ⊢
    simp
  rw [if_neg c7] at h ⊢
  by_cases c8 : op = 64522 ∨ op = 64526
  · rw [if_pos c8] at h ⊢
    simp
  rw [if_neg c8] at h ⊢
  by_cases c9 : op = 65 ∨ op = 66
  · rw [if_pos c9] at h ⊢
    simp
  rw [if_neg c9] at h ⊢
  by_cases c10 : op = 208
  · rw [if_pos c10] at h ⊢
    simp
  rw [if_neg c10] at h ⊢
  by_cases c11 : isFloat op = true
  · rw [if_pos c11] at h ⊢
    exact absurd h (by decide)
  rw [if_neg c11] at h ⊢
  by_cases c12 : op = 253
  · rw [if_pos c12] at h ⊢
    exact absurd h (by decide)
  rw [if_neg c12] at h ⊢
  exact absurd h (by decide)
theorem shapeV_4 : shapeV 4 = (2, 0) := by decide
theorem refMay_any (op a b m : Int) (n : List Int) (xn xl xe : Option Addr) (nl ll el nc lc ec : Nat) (w : World) (hn : nl = n.length) (hv : View w xn nl n) (hnc : nl ≤ nc) (hll : ll ≤ 9223372036854775807) (hel : el ≤ 9223372036854775807) (hnl : nc ≤ 9223372036854775807) :
    Calls Tryz.prog 129 #[.agg #[.int .i64 op, .int .i64 a, .int .i64 b, .int .i64 m, .slice xn nl nc, .slice xl ll lc, .slice xe el ec]] w fun e w' => e = .returned (.bool (mayV (shapeV op).1 (shapeV op).2 op a b m n ll el)) ∧ Below w.heap.size w w' := by
  by_cases her : (shapeV op).2 = 0
  · have hop : ∀ k, shapeV op = (k, 0) → k ≠ 2 → (op == 4) = false := fun k hk h2 => by
      refine eq_no fun h4 => ?_
      rw [h4, shapeV_4] at hk
      exact h2 (congrArg Prod.fst hk).symm
    rcases shapeV_in op her with h | h | h | h | h | h | h | h | h | h | h
    all_goals rw [h]
    · exact refMay_s1 op a b m n xn xl xe nl ll el nc lc ec w hn hv hnc hll hel hnl (hop _ h (by decide)) h
    · exact refMay_s2 op a b m n xn xl xe nl ll el nc lc ec w hn hv hnc hll hel hnl h
    · exact refMay_s3 op a b m n xn xl xe nl ll el nc lc ec w hn hv hnc hll hel hnl (hop _ h (by decide)) h
    · exact refMay_s4 op a b m n xn xl xe nl ll el nc lc ec w hn hv hnc hll hel hnl (hop _ h (by decide)) h
    · exact refMay_s5 op a b m n xn xl xe nl ll el nc lc ec w hn hv hnc hll hel hnl (hop _ h (by decide)) h
    · exact refMay_s6 op a b m n xn xl xe nl ll el nc lc ec w hn hv hnc hll hel hnl (hop _ h (by decide)) h
    · exact refMay_s7 op a b m n xn xl xe nl ll el nc lc ec w hn hv hnc hll hel hnl (hop _ h (by decide)) h
    · exact refMay_s8 op a b m n xn xl xe nl ll el nc lc ec w hn hv hnc hll hel hnl (hop _ h (by decide)) h
    · exact refMay_s9 op a b m n xn xl xe nl ll el nc lc ec w hn hv hnc hll hel hnl (hop _ h (by decide)) h
    · exact refMay_s10 op a b m n xn xl xe nl ll el nc lc ec w hn hv hnc hll hel hnl (hop _ h (by decide)) h
    · exact refMay_s11 op a b m n xn xl xe nl ll el nc lc ec w hn hv hnc hll hel hnl (hop _ h (by decide)) h
  · exact refMay_bad op a b m _ _ n xn xl xe nl ll el nc lc ec w (eq_no her) rfl
end Go.Proofs.YtekonefnniaheaaGreat
