/- The reference's laying of a block. -/
import Derived.Test.YtfhifnkekegkkaaInsR3
namespace Go.Proofs.Ytfhifnkekegkkaa
open Go.RowKit
open Leb (putU putS)

set_option maxRecDepth 100000 in
set_option maxHeartbeats 4000000 in
theorem refSingle_s2 (op a b m : Int) (xn xl xe : Option Addr) (nl ll el nc lc ec : Nat) (w : World) (_ha0 : -9223372036854775808 ≤ a) (_ha1 : a ≤ 9223372036854775807) (_ho : 2 ≤ op ∧ op ≤ 4) (HS : ∀ w, Calls Try.prog 27 #[.int .i64 op] w fun e w' => e = .returned (.tuple #[.int .i64 2, .int .i64 0]) ∧ Below w.heap.size w w') (hel : el = 0) (SL SE : ByteArray) (zl : SL.size ≤ 100000000) (_ze : SE.size ≤ 100000000)
    (HTL : ∀ w', Below w.heap.size w w' → Calls Try.prog 14 #[.slice xl ll lc] w' fun e w2 => e = .returned (.string SL) ∧ Below w'.heap.size w' w2)
    (HTE : ∀ w', Below w.heap.size w w' → Calls Try.prog 14 #[.slice xe el ec] w' fun e w2 => e = .returned (.string SE) ∧ Below w'.heap.size w' w2) :
    Calls Try.prog 25 #[.agg #[.int .i64 op, .int .i64 a, .int .i64 b, .int .i64 m, .slice xn nl nc, .slice xl ll lc, .slice xe el ec]] w fun e w' => e = .returned (.string (strOfNums [op % 256] ++ strOfNums (putS a) ++ SL ++ strOfNums [11 % 256])) ∧ Below w.heap.size w w' := by
  have hop : op < 64512 := by omega
  have hel' := hel
  have H0 := Lib.hid (fun w2 => refByte1_any op w2)
  have H1 := Lib.hid (fun w2 => refPutS_any a w2 _ha0 _ha1)
  have HL := Lib.hid HTL
  have HE := Lib.hid HTE
  have H5 := Lib.hid (fun w2 => refByte1_any 5 w2)
  have H11 := Lib.hid (fun w2 => refByte1_any 11 w2)
  have z0 : (strOfNums [op % 256]).size ≤ 100000 := by rw [strOfNums_size]; show 1 ≤ 100000; omega
  have z1 : (strOfNums (putS a)).size ≤ 100000 := by rw [strOfNums_size]; have := Leb.putS_length a; omega
  have z5 : (strOfNums [5 % 256]).size ≤ 100000 := by rw [strOfNums_size]; show 1 ≤ 100000; omega
  have z11 : (strOfNums [11 % 256]).size ≤ 100000 := by rw [strOfNums_size]; show 1 ≤ 100000; omega
  revert H0 H1 H5 H11 z0 z1 z5 z11
  generalize strOfNums [op % 256] = S0
  generalize strOfNums (putS a) = S1
  generalize strOfNums [5 % 256] = S5
  generalize strOfNums [11 % 256] = S11
  intro H0 H1 H5 H11 z0 z1 z5 z11
  have n1 : ¬ 9223372036854775807 < S0.size + S1.size := by omega
  have n2 : ¬ 9223372036854775807 < S0.size + S1.size + SL.size := by omega
  have n5 : ¬ 9223372036854775807 < S0.size + S1.size + SL.size + S11.size := by omega
  subst hel
  have HB0 := Lib.hid ((Below.refl w.heap.size w).alloc (Nat.le_refl _) (.cells #[.int .i64 op, .int .i64 a, .int .i64 b, .int .i64 m, .slice xn nl nc, .slice xl ll lc, .slice xe 0 ec] 47))
  have D0 : Hid (InsAt (w.alloc (.cells #[.int .i64 op, .int .i64 a, .int .i64 b, .int .i64 m, .slice xn nl nc, .slice xl ll lc, .slice xe 0 ec] 47)) w.heap.size op a b m xn xl xe nl ll 0 nc lc ec) := Lib.hid ⟨World.cell?_alloc_mark w _ _ _ 0, World.cell?_alloc_mark w _ _ _ 1, World.cell?_alloc_mark w _ _ _ 2, World.cell?_alloc_mark w _ _ _ 3, World.cell?_alloc_mark w _ _ _ 4, World.cell?_alloc_mark w _ _ _ 5, World.cell?_alloc_mark w _ _ _ 6⟩
  have q0 := Below.refl (w.alloc (.cells #[.int .i64 op, .int .i64 a, .int .i64 b, .int .i64 m, .slice xn nl nc, .slice xl ll lc, .slice xe 0 ec] 47)).heap.size (w.alloc (.cells #[.int .i64 op, .int .i64 a, .int .i64 b, .int .i64 m, .slice xn nl nc, .slice xl ll lc, .slice xe 0 ec] 47))
  obtain ⟨d0, d1, d2, d3, d4, d5, d6⟩ := D0.out
  have HSH := Lib.hid HS
  clear HS HTL HTE _ha0 _ha1 _ho z0 z1 z5 z11 zl _ze 
  go_enter Try.func25, Try.ntmps25
  go_wp2_with (first
    | (go_at_call 15; refine (H0.out _).mono ?_; rintro e w1 ⟨rfl, k1⟩; have q1 := q0.trans (k1.mono q0.size); obtain ⟨g10, g11, g12, g13, g14, g15, g16⟩ := D0.out.below q1; clear k1 H0)
    | (go_at_call 27; refine (HSH.out _).mono ?_; rintro e w2 ⟨rfl, k2⟩; have q2 := q1.trans (k2.mono q1.size); obtain ⟨g20, g21, g22, g23, g24, g25, g26⟩ := D0.out.below q2; clear k2 HSH))
  have qda := q2.drew
  obtain ⟨r0, r1, r2, r3, r4, r5, r6⟩ := D0.out.below qda
  have DSa := Lib.hid (And.intro r1 r5)
  clear r0 r1 r2 r3 r4 r5 r6
  go_region_held3 (fun w' => w'.cell? ⟨w.heap.size, 1, none⟩ = some (.int .i64 a) ∧ w'.cell? ⟨w.heap.size, 5, none⟩ = some (.slice xl ll lc))
    (first | exact DSa.out | exact DS3.out | exact DS4.out)
    (first
      | (go_at_call 47; refine (H1.out _).mono ?_; rintro e w3 ⟨rfl, k3⟩; have q3 := qda.trans (k3.mono qda.size); obtain ⟨g30, g31, g32, g33, g34, g35, g36⟩ := D0.out.below q3; clear k3 H1; have DS3 := Lib.hid (And.intro g31 g35))
      | (go_at_call 14; refine (HL.out _ (HB0.out.trans (q3.mono HB0.out.size))).mono ?_; rintro e w4 ⟨rfl, k4⟩; have q4 := q3.trans (k4.mono q3.size); obtain ⟨g40, g41, g42, g43, g44, g45, g46⟩ := D0.out.below q4; clear k4 HL; have DS4 := Lib.hid (And.intro g41 g45)))
  all_goals
    go_wp2_with (first | (go_at_call 15; refine (H11.out _).mono ?_; rintro e w5 ⟨rfl, k5⟩; have q5 := q4.trans (k5.mono q4.size); obtain ⟨g50, g51, g52, g53, g54, g55, g56⟩ := D0.out.below q5; clear k5 H11))
    go_ret
    exact ⟨rfl, HB0.out.trans (q5.mono HB0.out.size)⟩
set_option maxRecDepth 100000 in
set_option maxHeartbeats 4000000 in
theorem refSingle_s2e (op a b m : Int) (xn xl xe : Option Addr) (nl ll el nc lc ec : Nat) (w : World) (_ha0 : -9223372036854775808 ≤ a) (_ha1 : a ≤ 9223372036854775807) (_ho : 2 ≤ op ∧ op ≤ 4) (HS : ∀ w, Calls Try.prog 27 #[.int .i64 op] w fun e w' => e = .returned (.tuple #[.int .i64 2, .int .i64 0]) ∧ Below w.heap.size w w') (hel : 0 < el) (SL SE : ByteArray) (zl : SL.size ≤ 100000000) (_ze : SE.size ≤ 100000000)
    (HTL : ∀ w', Below w.heap.size w w' → Calls Try.prog 14 #[.slice xl ll lc] w' fun e w2 => e = .returned (.string SL) ∧ Below w'.heap.size w' w2)
    (HTE : ∀ w', Below w.heap.size w w' → Calls Try.prog 14 #[.slice xe el ec] w' fun e w2 => e = .returned (.string SE) ∧ Below w'.heap.size w' w2) :
    Calls Try.prog 25 #[.agg #[.int .i64 op, .int .i64 a, .int .i64 b, .int .i64 m, .slice xn nl nc, .slice xl ll lc, .slice xe el ec]] w fun e w' => e = .returned (.string (strOfNums [op % 256] ++ strOfNums (putS a) ++ SL ++ strOfNums [5 % 256] ++ SE ++ strOfNums [11 % 256])) ∧ Below w.heap.size w w' := by
  have hop : op < 64512 := by omega
  have hel' := hel
  have H0 := Lib.hid (fun w2 => refByte1_any op w2)
  have H1 := Lib.hid (fun w2 => refPutS_any a w2 _ha0 _ha1)
  have HL := Lib.hid HTL
  have HE := Lib.hid HTE
  have H5 := Lib.hid (fun w2 => refByte1_any 5 w2)
  have H11 := Lib.hid (fun w2 => refByte1_any 11 w2)
  have z0 : (strOfNums [op % 256]).size ≤ 100000 := by rw [strOfNums_size]; show 1 ≤ 100000; omega
  have z1 : (strOfNums (putS a)).size ≤ 100000 := by rw [strOfNums_size]; have := Leb.putS_length a; omega
  have z5 : (strOfNums [5 % 256]).size ≤ 100000 := by rw [strOfNums_size]; show 1 ≤ 100000; omega
  have z11 : (strOfNums [11 % 256]).size ≤ 100000 := by rw [strOfNums_size]; show 1 ≤ 100000; omega
  revert H0 H1 H5 H11 z0 z1 z5 z11
  generalize strOfNums [op % 256] = S0
  generalize strOfNums (putS a) = S1
  generalize strOfNums [5 % 256] = S5
  generalize strOfNums [11 % 256] = S11
  intro H0 H1 H5 H11 z0 z1 z5 z11
  have n1 : ¬ 9223372036854775807 < S0.size + S1.size := by omega
  have n2 : ¬ 9223372036854775807 < S0.size + S1.size + SL.size := by omega
  have n3 : ¬ 9223372036854775807 < S0.size + S1.size + SL.size + S5.size := by omega
  have n4 : ¬ 9223372036854775807 < S0.size + S1.size + SL.size + S5.size + SE.size := by omega
  have n5 : ¬ 9223372036854775807 < S0.size + S1.size + SL.size + S5.size + SE.size + S11.size := by omega
  have hel2 : (0 : Int) < (el : Int) := by omega
  have HB0 := Lib.hid ((Below.refl w.heap.size w).alloc (Nat.le_refl _) (.cells #[.int .i64 op, .int .i64 a, .int .i64 b, .int .i64 m, .slice xn nl nc, .slice xl ll lc, .slice xe el ec] 47))
  have D0 : Hid (InsAt (w.alloc (.cells #[.int .i64 op, .int .i64 a, .int .i64 b, .int .i64 m, .slice xn nl nc, .slice xl ll lc, .slice xe el ec] 47)) w.heap.size op a b m xn xl xe nl ll el nc lc ec) := Lib.hid ⟨World.cell?_alloc_mark w _ _ _ 0, World.cell?_alloc_mark w _ _ _ 1, World.cell?_alloc_mark w _ _ _ 2, World.cell?_alloc_mark w _ _ _ 3, World.cell?_alloc_mark w _ _ _ 4, World.cell?_alloc_mark w _ _ _ 5, World.cell?_alloc_mark w _ _ _ 6⟩
  have q0 := Below.refl (w.alloc (.cells #[.int .i64 op, .int .i64 a, .int .i64 b, .int .i64 m, .slice xn nl nc, .slice xl ll lc, .slice xe el ec] 47)).heap.size (w.alloc (.cells #[.int .i64 op, .int .i64 a, .int .i64 b, .int .i64 m, .slice xn nl nc, .slice xl ll lc, .slice xe el ec] 47))
  obtain ⟨d0, d1, d2, d3, d4, d5, d6⟩ := D0.out
  have HSH := Lib.hid HS
  clear HS HTL HTE _ha0 _ha1 _ho z0 z1 z5 z11 zl _ze hel
  go_enter Try.func25, Try.ntmps25
  go_wp2_with (first
    | (go_at_call 15; refine (H0.out _).mono ?_; rintro e w1 ⟨rfl, k1⟩; have q1 := q0.trans (k1.mono q0.size); obtain ⟨g10, g11, g12, g13, g14, g15, g16⟩ := D0.out.below q1; clear k1 H0)
    | (go_at_call 27; refine (HSH.out _).mono ?_; rintro e w2 ⟨rfl, k2⟩; have q2 := q1.trans (k2.mono q1.size); obtain ⟨g20, g21, g22, g23, g24, g25, g26⟩ := D0.out.below q2; clear k2 HSH))
  have qda := q2.drew
  obtain ⟨r0, r1, r2, r3, r4, r5, r6⟩ := D0.out.below qda
  have DSa := Lib.hid (And.intro r1 r5)
  clear r0 r1 r2 r3 r4 r5 r6
  go_region_held3 (fun w' => w'.cell? ⟨w.heap.size, 1, none⟩ = some (.int .i64 a) ∧ w'.cell? ⟨w.heap.size, 5, none⟩ = some (.slice xl ll lc))
    (first | exact DSa.out | exact DS3.out | exact DS4.out)
    (first
      | (go_at_call 47; refine (H1.out _).mono ?_; rintro e w3 ⟨rfl, k3⟩; have q3 := qda.trans (k3.mono qda.size); obtain ⟨g30, g31, g32, g33, g34, g35, g36⟩ := D0.out.below q3; clear k3 H1; have DS3 := Lib.hid (And.intro g31 g35))
      | (go_at_call 14; refine (HL.out _ (HB0.out.trans (q3.mono HB0.out.size))).mono ?_; rintro e w4 ⟨rfl, k4⟩; have q4 := q3.trans (k4.mono q3.size); obtain ⟨g40, g41, g42, g43, g44, g45, g46⟩ := D0.out.below q4; clear k4 HL; have DS4 := Lib.hid (And.intro g41 g45)))
  all_goals
    go_wp2_with fail
    have qdb := q4.drew
    obtain ⟨r0, r1, r2, r3, r4, r5, r6⟩ := D0.out.below qdb
    have DSb := Lib.hid r6
    clear r0 r1 r2 r3 r4 r5 r6
    go_region_held3 (fun w' => w'.cell? ⟨w.heap.size, 6, none⟩ = some (.slice xe el ec))
      (first | exact DSb.out | exact DS5.out | exact DS6.out)
      (first
        | (go_at_call 15; refine (H5.out _).mono ?_; rintro e w5 ⟨rfl, k5⟩; have q5 := qdb.trans (k5.mono qdb.size); obtain ⟨g50, g51, g52, g53, g54, g55, g56⟩ := D0.out.below q5; clear k5 H5; have DS5 := Lib.hid g56)
        | (go_at_call 14; refine (HE.out _ (HB0.out.trans (q5.mono HB0.out.size))).mono ?_; rintro e w6 ⟨rfl, k6⟩; have q6 := q5.trans (k6.mono q5.size); obtain ⟨g60, g61, g62, g63, g64, g65, g66⟩ := D0.out.below q6; clear k6 HE; have DS6 := Lib.hid g66))
    all_goals
      go_wp2_with (first | (go_at_call 15; refine (H11.out _).mono ?_; rintro e w7 ⟨rfl, k7⟩; have q7 := q6.trans (k7.mono q6.size); obtain ⟨g70, g71, g72, g73, g74, g75, g76⟩ := D0.out.below q7; clear k7 H11))
      go_ret
      exact ⟨rfl, HB0.out.trans (q7.mono HB0.out.size)⟩
end Go.Proofs.Ytfhifnkekegkkaa
