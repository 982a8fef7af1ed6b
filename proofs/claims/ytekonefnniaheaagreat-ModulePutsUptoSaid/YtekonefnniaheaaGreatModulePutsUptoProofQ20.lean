/- Texts of the proof of ModulePutsUptoProof, part 20. -/
import Derived.Test.YtekonefnniaheaaGreatModulePutsUptoProofQ7
import Derived.Test.YtekonefnniaheaaGreatModulePutsUptoProofQ8
namespace Go.Proofs.YtekonefnniaheaaGreat
open Go.RowKit
open Leb (putU putS)

theorem opB_lo {op : Int} (h : op < 64512) : opB op = [op % 256] := if_pos h
theorem opB_hi {op : Int} (h : ¬ op < 64512) : opB op = [252 % 256] ++ putU (op - 64512) := if_neg h
set_option maxRecDepth 100000 in
set_option maxHeartbeats 2000000 in
theorem refSingle_s1
    (op a b m : Int) (n : List Int) (xn xl xe : Option Addr) (nl ll el nc lc ec : Nat) (w : World) (_hn : nl = n.length) (_hv : View w xn nl n) (_ha0 : -9223372036854775808 ≤ a) (_ha1 : a ≤ 9223372036854775807) (_hm1 : m ≤ 9223372036854775807) (_hb0 : 0 ≤ b) (_hb1 : b ≤ 63) (_hnl : nl ≤ 1000) (_hr : ∀ i, i < n.length → n.getD i 0 ≤ 9223372036854775807) (ho0 : 0 ≤ op) (ho1 : op ≤ 65000) (HS : ∀ w, Calls Tryz.prog 158 #[.int .i64 op] w fun e w' => e = .returned (.tuple #[.int .i64 1, .int .i64 0]) ∧ Below w.heap.size w w') (hop : op < 64512) :
    Calls Tryz.prog 132 #[.agg #[.int .i64 op, .int .i64 a, .int .i64 b, .int .i64 m, .slice xn nl nc, .slice xl ll lc, .slice xe el ec]] w fun e w' => e = .returned (.string (strOfNums (opB op ++ fldB 1 a b m n))) ∧ Below w.heap.size w w' := by
  have hn := _hn
  have hv := _hv
  have ha0 := _ha0
  have ha1 := _ha1
  have hm1 := _hm1
  have hb0 := _hb0
  have hb1 := _hb1
  have hnl := _hnl
  have hr := _hr
  have HF : fldB 1 a b m n = [] := rfl
  have HOP : opB op = [op % 256] := opB_lo hop
  have H0 := Lib.hid (fun w2 => refByte1_any op w2)
  have z0 : (strOfNums ([op % 256])).size ≤ 100000 := by rw [strOfNums_size]; show 1 ≤ 100000; omega
  have HC : strOfNums (opB op ++ fldB 1 a b m n) = strOfNums ([op % 256]) := by rw [HOP, HF, List.append_nil]
  rw [HC]
  clear HC HOP HF
  revert H0 z0
  generalize strOfNums ([op % 256]) = S0
  intro H0 z0
  have HB0 := Lib.hid ((Below.refl w.heap.size w).alloc (Nat.le_refl _) (.cells #[.int .i64 op, .int .i64 a, .int .i64 b, .int .i64 m, .slice xn nl nc, .slice xl ll lc, .slice xe el ec] 50))
  have D0 : Hid (InsAt (w.alloc (.cells #[.int .i64 op, .int .i64 a, .int .i64 b, .int .i64 m, .slice xn nl nc, .slice xl ll lc, .slice xe el ec] 50)) w.heap.size op a b m xn xl xe nl ll el nc lc ec) := Lib.hid ⟨World.cell?_alloc_mark w _ _ _ 0, World.cell?_alloc_mark w _ _ _ 1, World.cell?_alloc_mark w _ _ _ 2, World.cell?_alloc_mark w _ _ _ 3, World.cell?_alloc_mark w _ _ _ 4, World.cell?_alloc_mark w _ _ _ 5, World.cell?_alloc_mark w _ _ _ 6⟩
  have q0 := Below.refl (w.alloc (.cells #[.int .i64 op, .int .i64 a, .int .i64 b, .int .i64 m, .slice xn nl nc, .slice xl ll lc, .slice xe el ec] 50)).heap.size (w.alloc (.cells #[.int .i64 op, .int .i64 a, .int .i64 b, .int .i64 m, .slice xn nl nc, .slice xl ll lc, .slice xe el ec] 50))
  obtain ⟨d0, d1, d2, d3, d4, d5, d6⟩ := D0.out
  have HSH := Lib.hid HS
  clear hn hv ha0 ha1 hm1 hb0 hb1 hnl hr HS _hn _hv _ha0 _ha1 _hm1 _hb0 _hb1 _hnl _hr
  go_enter Tryz.func132, Tryz.ntmps132
  go_wp2_with (first
    | (go_at_call 115; refine (H0.out _).mono ?_; rintro e w1 ⟨rfl, k1⟩; have q1 := q0.trans (k1.mono q0.size); obtain ⟨g10, g11, g12, g13, g14, g15, g16⟩ := D0.out.below q1; clear k1 H0)
    | (go_at_call 158; refine (HSH.out _).mono ?_; rintro e w2 ⟨rfl, k2⟩; have q2 := q1.trans (k2.mono q1.size); obtain ⟨g20, g21, g22, g23, g24, g25, g26⟩ := D0.out.below q2; clear k2 HSH))
  go_ret
  exact ⟨rfl, HB0.out.trans (q2.mono HB0.out.size)⟩
set_option maxRecDepth 100000 in
set_option maxHeartbeats 2000000 in
theorem refSingle_s3
    (op a b m : Int) (n : List Int) (xn xl xe : Option Addr) (nl ll el nc lc ec : Nat) (w : World) (_hn : nl = n.length) (_hv : View w xn nl n) (_ha0 : -9223372036854775808 ≤ a) (_ha1 : a ≤ 9223372036854775807) (_hm1 : m ≤ 9223372036854775807) (_hb0 : 0 ≤ b) (_hb1 : b ≤ 63) (_hnl : nl ≤ 1000) (_hr : ∀ i, i < n.length → n.getD i 0 ≤ 9223372036854775807) (ho0 : 0 ≤ op) (ho1 : op ≤ 65000) (HS : ∀ w, Calls Tryz.prog 158 #[.int .i64 op] w fun e w' => e = .returned (.tuple #[.int .i64 3, .int .i64 0]) ∧ Below w.heap.size w w') (hop : op < 64512) :
    Calls Tryz.prog 132 #[.agg #[.int .i64 op, .int .i64 a, .int .i64 b, .int .i64 m, .slice xn nl nc, .slice xl ll lc, .slice xe el ec]] w fun e w' => e = .returned (.string (strOfNums (opB op ++ fldB 3 a b m n))) ∧ Below w.heap.size w w' := by
  have hn := _hn
  have hv := _hv
  have ha0 := _ha0
  have ha1 := _ha1
  have hm1 := _hm1
  have hb0 := _hb0
  have hb1 := _hb1
  have hnl := _hnl
  have hr := _hr
  have HF : fldB 3 a b m n = putU (a) := rfl
  have HOP : opB op = [op % 256] := opB_lo hop
  have H0 := Lib.hid (fun w2 => refByte1_any op w2)
  have H1 := Lib.hid (fun w2 => refPutU_any (a) w2 (by omega))
  have z0 : (strOfNums ([op % 256])).size ≤ 100000 := by rw [strOfNums_size]; show 1 ≤ 100000; omega
  have z1 : (strOfNums (putU (a))).size ≤ 100000 := by rw [strOfNums_size]; have := Leb.putU_length (a); omega
  have HC : strOfNums (opB op ++ fldB 3 a b m n) = strOfNums ([op % 256]) ++ strOfNums (putU (a)) := by rw [HOP, HF, strOfNums_app]
  rw [HC]
  clear HC HOP HF
  revert H0 z0
  generalize strOfNums ([op % 256]) = S0
  intro H0 z0
  revert H1 z1
  generalize strOfNums (putU (a)) = S1
  intro H1 z1
  have HB0 := Lib.hid ((Below.refl w.heap.size w).alloc (Nat.le_refl _) (.cells #[.int .i64 op, .int .i64 a, .int .i64 b, .int .i64 m, .slice xn nl nc, .slice xl ll lc, .slice xe el ec] 50))
  have D0 : Hid (InsAt (w.alloc (.cells #[.int .i64 op, .int .i64 a, .int .i64 b, .int .i64 m, .slice xn nl nc, .slice xl ll lc, .slice xe el ec] 50)) w.heap.size op a b m xn xl xe nl ll el nc lc ec) := Lib.hid ⟨World.cell?_alloc_mark w _ _ _ 0, World.cell?_alloc_mark w _ _ _ 1, World.cell?_alloc_mark w _ _ _ 2, World.cell?_alloc_mark w _ _ _ 3, World.cell?_alloc_mark w _ _ _ 4, World.cell?_alloc_mark w _ _ _ 5, World.cell?_alloc_mark w _ _ _ 6⟩
  have q0 := Below.refl (w.alloc (.cells #[.int .i64 op, .int .i64 a, .int .i64 b, .int .i64 m, .slice xn nl nc, .slice xl ll lc, .slice xe el ec] 50)).heap.size (w.alloc (.cells #[.int .i64 op, .int .i64 a, .int .i64 b, .int .i64 m, .slice xn nl nc, .slice xl ll lc, .slice xe el ec] 50))
  obtain ⟨d0, d1, d2, d3, d4, d5, d6⟩ := D0.out
  have HSH := Lib.hid HS
  have n1 : ¬ 9223372036854775807 < S0.size + S1.size := by omega
  clear hn hv ha0 ha1 hm1 hb0 hb1 hnl hr HS _hn _hv _ha0 _ha1 _hm1 _hb0 _hb1 _hnl _hr
  go_enter Tryz.func132, Tryz.ntmps132
  go_wp2_with (first
    | (go_at_call 115; refine (H0.out _).mono ?_; rintro e w1 ⟨rfl, k1⟩; have q1 := q0.trans (k1.mono q0.size); obtain ⟨g10, g11, g12, g13, g14, g15, g16⟩ := D0.out.below q1; clear k1 H0)
    | (go_at_call 158; refine (HSH.out _).mono ?_; rintro e w2 ⟨rfl, k2⟩; have q2 := q1.trans (k2.mono q1.size); obtain ⟨g20, g21, g22, g23, g24, g25, g26⟩ := D0.out.below q2; clear k2 HSH)
    | (go_at_call 58; refine (H1.out _).mono ?_; rintro e w3 ⟨rfl, k3⟩; have q3 := q2.trans (k3.mono q2.size); obtain ⟨g30, g31, g32, g33, g34, g35, g36⟩ := D0.out.below q3; clear k3 H1))
  go_ret
  exact ⟨rfl, HB0.out.trans (q3.mono HB0.out.size)⟩
set_option maxRecDepth 100000 in
set_option maxHeartbeats 2000000 in
theorem refSingle_s4
    (op a b m : Int) (n : List Int) (xn xl xe : Option Addr) (nl ll el nc lc ec : Nat) (w : World) (_hn : nl = n.length) (_hv : View w xn nl n) (_ha0 : -9223372036854775808 ≤ a) (_ha1 : a ≤ 9223372036854775807) (_hm1 : m ≤ 9223372036854775807) (_hb0 : 0 ≤ b) (_hb1 : b ≤ 63) (_hnl : nl ≤ 1000) (_hr : ∀ i, i < n.length → n.getD i 0 ≤ 9223372036854775807) (ho0 : 0 ≤ op) (ho1 : op ≤ 65000) (HS : ∀ w, Calls Tryz.prog 158 #[.int .i64 op] w fun e w' => e = .returned (.tuple #[.int .i64 4, .int .i64 0]) ∧ Below w.heap.size w w') (hop : op < 64512) :
    Calls Tryz.prog 132 #[.agg #[.int .i64 op, .int .i64 a, .int .i64 b, .int .i64 m, .slice xn nl nc, .slice xl ll lc, .slice xe el ec]] w fun e w' => e = .returned (.string (strOfNums (opB op ++ fldB 4 a b m n))) ∧ Below w.heap.size w w' := by
  have hn := _hn
  have hv := _hv
  have ha0 := _ha0
  have ha1 := _ha1
  have hm1 := _hm1
  have hb0 := _hb0
  have hb1 := _hb1
  have hnl := _hnl
  have hr := _hr
  have HF : fldB 4 a b m n = rowL nl n nl ++ putU (a) := by rw [show fldB 4 a b m n = allB n ++ putU (a) from rfl, ← rowL_all, ← hn]
  have HOP : opB op = [op % 256] := opB_lo hop
  have H0 := Lib.hid (fun w2 => refByte1_any op w2)
  have H1 := Lib.hid (fun w2 (hb : Below w.heap.size w w2) => refPutAll_any xn nl nc n w2 (hv.below hb) (by omega) (by omega) (fun i hi => hr i (by omega)))
  have H2 := Lib.hid (fun w2 => refPutU_any (a) w2 (by omega))
  have z0 : (strOfNums ([op % 256])).size ≤ 100000 := by rw [strOfNums_size]; show 1 ≤ 100000; omega
  have z1 : (strOfNums (rowL nl n nl)).size ≤ 100000 := by rw [strOfNums_size]; have := rowL_length nl n nl; omega
  have z2 : (strOfNums (putU (a))).size ≤ 100000 := by rw [strOfNums_size]; have := Leb.putU_length (a); omega
  have HC : strOfNums (opB op ++ fldB 4 a b m n) = strOfNums ([op % 256]) ++ strOfNums (rowL nl n nl) ++ strOfNums (putU (a)) := by rw [HOP, HF]; simp only [strOfNums_app, List.append_assoc]
  rw [HC]
  clear HC HOP HF
  revert H0 z0
  generalize strOfNums ([op % 256]) = S0
  intro H0 z0
  revert H1 z1
  generalize strOfNums (rowL nl n nl) = S1
  intro H1 z1
  revert H2 z2
  generalize strOfNums (putU (a)) = S2
  intro H2 z2
  have HB0 := Lib.hid ((Below.refl w.heap.size w).alloc (Nat.le_refl _) (.cells #[.int .i64 op, .int .i64 a, .int .i64 b, .int .i64 m, .slice xn nl nc, .slice xl ll lc, .slice xe el ec] 50))
  have D0 : Hid (InsAt (w.alloc (.cells #[.int .i64 op, .int .i64 a, .int .i64 b, .int .i64 m, .slice xn nl nc, .slice xl ll lc, .slice xe el ec] 50)) w.heap.size op a b m xn xl xe nl ll el nc lc ec) := Lib.hid ⟨World.cell?_alloc_mark w _ _ _ 0, World.cell?_alloc_mark w _ _ _ 1, World.cell?_alloc_mark w _ _ _ 2, World.cell?_alloc_mark w _ _ _ 3, World.cell?_alloc_mark w _ _ _ 4, World.cell?_alloc_mark w _ _ _ 5, World.cell?_alloc_mark w _ _ _ 6⟩
  have q0 := Below.refl (w.alloc (.cells #[.int .i64 op, .int .i64 a, .int .i64 b, .int .i64 m, .slice xn nl nc, .slice xl ll lc, .slice xe el ec] 50)).heap.size (w.alloc (.cells #[.int .i64 op, .int .i64 a, .int .i64 b, .int .i64 m, .slice xn nl nc, .slice xl ll lc, .slice xe el ec] 50))
  obtain ⟨d0, d1, d2, d3, d4, d5, d6⟩ := D0.out
  have HSH := Lib.hid HS
  have n1 : ¬ 9223372036854775807 < S0.size + S1.size := by omega
  have n2 : ¬ 9223372036854775807 < S0.size + S1.size + S2.size := by omega
  clear hn hv ha0 ha1 hm1 hb0 hb1 hnl hr HS _hn _hv _ha0 _ha1 _hm1 _hb0 _hb1 _hnl _hr
  go_enter Tryz.func132, Tryz.ntmps132
  go_wp2_with (first
    | (go_at_call 115; refine (H0.out _).mono ?_; rintro e w1 ⟨rfl, k1⟩; have q1 := q0.trans (k1.mono q0.size); obtain ⟨g10, g11, g12, g13, g14, g15, g16⟩ := D0.out.below q1; clear k1 H0)
    | (go_at_call 158; refine (HSH.out _).mono ?_; rintro e w2 ⟨rfl, k2⟩; have q2 := q1.trans (k2.mono q1.size); obtain ⟨g20, g21, g22, g23, g24, g25, g26⟩ := D0.out.below q2; clear k2 HSH))
  have qd := q2.drew
  obtain ⟨r0, r1, r2, r3, r4, r5, r6⟩ := D0.out.below qd
  have DS := Lib.hid (And.intro r1 r4)
  clear r0 r1 r2 r3 r4 r5 r6
  go_region_held3 (fun w' => w'.cell? ⟨w.heap.size, 1, none⟩ = some (.int .i64 a) ∧ w'.cell? ⟨w.heap.size, 4, none⟩ = some (.slice xn nl nc))
    (first | exact DS.out | exact DS3.out | exact DS4.out)
    (first
      | (go_at_call 64; refine (H1.out _ (HB0.out.trans (qd.mono HB0.out.size))).mono ?_; rintro e w3 ⟨rfl, k3⟩; have q3 := qd.trans (k3.mono qd.size); obtain ⟨g30, g31, g32, g33, g34, g35, g36⟩ := D0.out.below q3; clear k3 H1; have DS3 := Lib.hid (And.intro g31 g34))
      | (go_at_call 58; refine (H2.out _).mono ?_; rintro e w4 ⟨rfl, k4⟩; have q4 := q3.trans (k4.mono q3.size); obtain ⟨g40, g41, g42, g43, g44, g45, g46⟩ := D0.out.below q4; clear k4 H2; have DS4 := Lib.hid (And.intro g41 g44)))
  all_goals
    go_wp2_with fail
    go_ret
    exact ⟨rfl, HB0.out.trans (q4.mono HB0.out.size)⟩
set_option maxRecDepth 100000 in
set_option maxHeartbeats 2000000 in
theorem refSingle_s5
    (op a b m : Int) (n : List Int) (xn xl xe : Option Addr) (nl ll el nc lc ec : Nat) (w : World) (_hn : nl = n.length) (_hv : View w xn nl n) (_ha0 : -9223372036854775808 ≤ a) (_ha1 : a ≤ 9223372036854775807) (_hm1 : m ≤ 9223372036854775807) (_hb0 : 0 ≤ b) (_hb1 : b ≤ 63) (_hnl : nl ≤ 1000) (_hr : ∀ i, i < n.length → n.getD i 0 ≤ 9223372036854775807) (ho0 : 0 ≤ op) (ho1 : op ≤ 65000) (HS : ∀ w, Calls Tryz.prog 158 #[.int .i64 op] w fun e w' => e = .returned (.tuple #[.int .i64 5, .int .i64 0]) ∧ Below w.heap.size w w') (hop : op < 64512) :
    Calls Tryz.prog 132 #[.agg #[.int .i64 op, .int .i64 a, .int .i64 b, .int .i64 m, .slice xn nl nc, .slice xl ll lc, .slice xe el ec]] w fun e w' => e = .returned (.string (strOfNums (opB op ++ fldB 5 a b m n))) ∧ Below w.heap.size w w' := by
  have hn := _hn
  have hv := _hv
  have ha0 := _ha0
  have ha1 := _ha1
  have hm1 := _hm1
  have hb0 := _hb0
  have hb1 := _hb1
  have hnl := _hnl
  have hr := _hr
  have HF : fldB 5 a b m n = putU (a) ++ putU (m) := rfl
  have HOP : opB op = [op % 256] := opB_lo hop
  have H0 := Lib.hid (fun w2 => refByte1_any op w2)
  have H1 := Lib.hid (fun w2 => refPutU_any (a) w2 (by omega))
  have H2 := Lib.hid (fun w2 => refPutU_any (m) w2 (by omega))
  have z0 : (strOfNums ([op % 256])).size ≤ 100000 := by rw [strOfNums_size]; show 1 ≤ 100000; omega
  have z1 : (strOfNums (putU (a))).size ≤ 100000 := by rw [strOfNums_size]; have := Leb.putU_length (a); omega
  have z2 : (strOfNums (putU (m))).size ≤ 100000 := by rw [strOfNums_size]; have := Leb.putU_length (m); omega
  have HC : strOfNums (opB op ++ fldB 5 a b m n) = strOfNums ([op % 256]) ++ strOfNums (putU (a)) ++ strOfNums (putU (m)) := by rw [HOP, HF]; simp only [strOfNums_app, List.append_assoc]
  rw [HC]
  clear HC HOP HF
  revert H0 z0
  generalize strOfNums ([op % 256]) = S0
  intro H0 z0
  revert H1 z1
  generalize strOfNums (putU (a)) = S1
  intro H1 z1
  revert H2 z2
  generalize strOfNums (putU (m)) = S2
  intro H2 z2
  have HB0 := Lib.hid ((Below.refl w.heap.size w).alloc (Nat.le_refl _) (.cells #[.int .i64 op, .int .i64 a, .int .i64 b, .int .i64 m, .slice xn nl nc, .slice xl ll lc, .slice xe el ec] 50))
  have D0 : Hid (InsAt (w.alloc (.cells #[.int .i64 op, .int .i64 a, .int .i64 b, .int .i64 m, .slice xn nl nc, .slice xl ll lc, .slice xe el ec] 50)) w.heap.size op a b m xn xl xe nl ll el nc lc ec) := Lib.hid ⟨World.cell?_alloc_mark w _ _ _ 0, World.cell?_alloc_mark w _ _ _ 1, World.cell?_alloc_mark w _ _ _ 2, World.cell?_alloc_mark w _ _ _ 3, World.cell?_alloc_mark w _ _ _ 4, World.cell?_alloc_mark w _ _ _ 5, World.cell?_alloc_mark w _ _ _ 6⟩
  have q0 := Below.refl (w.alloc (.cells #[.int .i64 op, .int .i64 a, .int .i64 b, .int .i64 m, .slice xn nl nc, .slice xl ll lc, .slice xe el ec] 50)).heap.size (w.alloc (.cells #[.int .i64 op, .int .i64 a, .int .i64 b, .int .i64 m, .slice xn nl nc, .slice xl ll lc, .slice xe el ec] 50))
  obtain ⟨d0, d1, d2, d3, d4, d5, d6⟩ := D0.out
  have HSH := Lib.hid HS
  have n1 : ¬ 9223372036854775807 < S0.size + S1.size := by omega
  have n2 : ¬ 9223372036854775807 < S0.size + S1.size + S2.size := by omega
  clear hn hv ha0 ha1 hm1 hb0 hb1 hnl hr HS _hn _hv _ha0 _ha1 _hm1 _hb0 _hb1 _hnl _hr
  go_enter Tryz.func132, Tryz.ntmps132
  go_wp2_with (first
    | (go_at_call 115; refine (H0.out _).mono ?_; rintro e w1 ⟨rfl, k1⟩; have q1 := q0.trans (k1.mono q0.size); obtain ⟨g10, g11, g12, g13, g14, g15, g16⟩ := D0.out.below q1; clear k1 H0)
    | (go_at_call 158; refine (HSH.out _).mono ?_; rintro e w2 ⟨rfl, k2⟩; have q2 := q1.trans (k2.mono q1.size); obtain ⟨g20, g21, g22, g23, g24, g25, g26⟩ := D0.out.below q2; clear k2 HSH))
  have qd := q2.drew
  obtain ⟨r0, r1, r2, r3, r4, r5, r6⟩ := D0.out.below qd
  have DS := Lib.hid (And.intro r1 r3)
  clear r0 r1 r2 r3 r4 r5 r6
  go_region_held3 (fun w' => w'.cell? ⟨w.heap.size, 1, none⟩ = some (.int .i64 a) ∧ w'.cell? ⟨w.heap.size, 3, none⟩ = some (.int .i64 m))
    (first | exact DS.out | exact DS3.out | exact DS4.out)
    (first
      | (go_at_call 58; refine (H1.out _).mono ?_; rintro e w3 ⟨rfl, k3⟩; have q3 := qd.trans (k3.mono qd.size); obtain ⟨g30, g31, g32, g33, g34, g35, g36⟩ := D0.out.below q3; clear k3 H1; have DS3 := Lib.hid (And.intro g31 g33))
      | (go_at_call 58; refine (H2.out _).mono ?_; rintro e w4 ⟨rfl, k4⟩; have q4 := q3.trans (k4.mono q3.size); obtain ⟨g40, g41, g42, g43, g44, g45, g46⟩ := D0.out.below q4; clear k4 H2; have DS4 := Lib.hid (And.intro g41 g43)))
  all_goals
    go_wp2_with fail
    go_ret
    exact ⟨rfl, HB0.out.trans (q4.mono HB0.out.size)⟩
set_option maxRecDepth 100000 in
set_option maxHeartbeats 2000000 in
theorem refSingle_s6
    (op a b m : Int) (n : List Int) (xn xl xe : Option Addr) (nl ll el nc lc ec : Nat) (w : World) (_hn : nl = n.length) (_hv : View w xn nl n) (_ha0 : -9223372036854775808 ≤ a) (_ha1 : a ≤ 9223372036854775807) (_hm1 : m ≤ 9223372036854775807) (_hb0 : 0 ≤ b) (_hb1 : b ≤ 63) (_hnl : nl ≤ 1000) (_hr : ∀ i, i < n.length → n.getD i 0 ≤ 9223372036854775807) (ho0 : 0 ≤ op) (ho1 : op ≤ 65000) (HS : ∀ w, Calls Tryz.prog 158 #[.int .i64 op] w fun e w' => e = .returned (.tuple #[.int .i64 6, .int .i64 0]) ∧ Below w.heap.size w w') (hop : op < 64512) :
    Calls Tryz.prog 132 #[.agg #[.int .i64 op, .int .i64 a, .int .i64 b, .int .i64 m, .slice xn nl nc, .slice xl ll lc, .slice xe el ec]] w fun e w' => e = .returned (.string (strOfNums (opB op ++ fldB 6 a b m n))) ∧ Below w.heap.size w w' := by
  have hn := _hn
  have hv := _hv
  have ha0 := _ha0
  have ha1 := _ha1
  have hm1 := _hm1
  have hb0 := _hb0
  have hb1 := _hb1
  have hnl := _hnl
  have hr := _hr
  have HF : fldB 6 a b m n = [(1) % 256] ++ [(a) % 256] := rfl
  have HOP : opB op = [op % 256] := opB_lo hop
  have H0 := Lib.hid (fun w2 => refByte1_any op w2)
  have H1 := Lib.hid (fun w2 => refByte1_any (1) w2)
  have H2 := Lib.hid (fun w2 => refByte1_any (a) w2)
  have z0 : (strOfNums ([op % 256])).size ≤ 100000 := by rw [strOfNums_size]; show 1 ≤ 100000; omega
  have z1 : (strOfNums ([(1) % 256])).size ≤ 100000 := by rw [strOfNums_size]; show 1 ≤ 100000; omega
  have z2 : (strOfNums ([(a) % 256])).size ≤ 100000 := by rw [strOfNums_size]; show 1 ≤ 100000; omega
  have HC : strOfNums (opB op ++ fldB 6 a b m n) = strOfNums ([op % 256]) ++ strOfNums ([(1) % 256]) ++ strOfNums ([(a) % 256]) := by rw [HOP, HF]; simp only [strOfNums_app, List.append_assoc]
  rw [HC]
  clear HC HOP HF
  revert H0 z0
  generalize strOfNums ([op % 256]) = S0
  intro H0 z0
  revert H1 z1
  generalize strOfNums ([(1) % 256]) = S1
  intro H1 z1
  revert H2 z2
  generalize strOfNums ([(a) % 256]) = S2
  intro H2 z2
  have HB0 := Lib.hid ((Below.refl w.heap.size w).alloc (Nat.le_refl _) (.cells #[.int .i64 op, .int .i64 a, .int .i64 b, .int .i64 m, .slice xn nl nc, .slice xl ll lc, .slice xe el ec] 50))
  have D0 : Hid (InsAt (w.alloc (.cells #[.int .i64 op, .int .i64 a, .int .i64 b, .int .i64 m, .slice xn nl nc, .slice xl ll lc, .slice xe el ec] 50)) w.heap.size op a b m xn xl xe nl ll el nc lc ec) := Lib.hid ⟨World.cell?_alloc_mark w _ _ _ 0, World.cell?_alloc_mark w _ _ _ 1, World.cell?_alloc_mark w _ _ _ 2, World.cell?_alloc_mark w _ _ _ 3, World.cell?_alloc_mark w _ _ _ 4, World.cell?_alloc_mark w _ _ _ 5, World.cell?_alloc_mark w _ _ _ 6⟩
  have q0 := Below.refl (w.alloc (.cells #[.int .i64 op, .int .i64 a, .int .i64 b, .int .i64 m, .slice xn nl nc, .slice xl ll lc, .slice xe el ec] 50)).heap.size (w.alloc (.cells #[.int .i64 op, .int .i64 a, .int .i64 b, .int .i64 m, .slice xn nl nc, .slice xl ll lc, .slice xe el ec] 50))
  obtain ⟨d0, d1, d2, d3, d4, d5, d6⟩ := D0.out
  have HSH := Lib.hid HS
  have n1 : ¬ 9223372036854775807 < S0.size + S1.size := by omega
  have n2 : ¬ 9223372036854775807 < S0.size + S1.size + S2.size := by omega
  clear hn hv ha0 ha1 hm1 hb0 hb1 hnl hr HS _hn _hv _ha0 _ha1 _hm1 _hb0 _hb1 _hnl _hr
  go_enter Tryz.func132, Tryz.ntmps132
  go_wp2_with (first
    | (go_at_call 115; refine (H0.out _).mono ?_; rintro e w1 ⟨rfl, k1⟩; have q1 := q0.trans (k1.mono q0.size); obtain ⟨g10, g11, g12, g13, g14, g15, g16⟩ := D0.out.below q1; clear k1 H0)
    | (go_at_call 158; refine (HSH.out _).mono ?_; rintro e w2 ⟨rfl, k2⟩; have q2 := q1.trans (k2.mono q1.size); obtain ⟨g20, g21, g22, g23, g24, g25, g26⟩ := D0.out.below q2; clear k2 HSH))
  have qd := q2.drew
  obtain ⟨r0, r1, r2, r3, r4, r5, r6⟩ := D0.out.below qd
  have DS := Lib.hid r1
  clear r0 r1 r2 r3 r4 r5 r6
  go_region_held3 (fun w' => w'.cell? ⟨w.heap.size, 1, none⟩ = some (.int .i64 a))
    (first | exact DS.out | exact DS3.out | exact DS4.out)
    (first
      | (go_at_call 115; refine (H1.out _).mono ?_; rintro e w3 ⟨rfl, k3⟩; have q3 := qd.trans (k3.mono qd.size); obtain ⟨g30, g31, g32, g33, g34, g35, g36⟩ := D0.out.below q3; clear k3 H1; have DS3 := Lib.hid g31)
      | (go_at_call 115; refine (H2.out _).mono ?_; rintro e w4 ⟨rfl, k4⟩; have q4 := q3.trans (k4.mono q3.size); obtain ⟨g40, g41, g42, g43, g44, g45, g46⟩ := D0.out.below q4; clear k4 H2; have DS4 := Lib.hid g41))
  all_goals
    go_wp2_with fail
    go_ret
    exact ⟨rfl, HB0.out.trans (q4.mono HB0.out.size)⟩
set_option maxRecDepth 100000 in
set_option maxHeartbeats 2000000 in
theorem refSingle_s7
    (op a b m : Int) (n : List Int) (xn xl xe : Option Addr) (nl ll el nc lc ec : Nat) (w : World) (_hn : nl = n.length) (_hv : View w xn nl n) (_ha0 : -9223372036854775808 ≤ a) (_ha1 : a ≤ 9223372036854775807) (_hm1 : m ≤ 9223372036854775807) (_hb0 : 0 ≤ b) (_hb1 : b ≤ 63) (_hnl : nl ≤ 1000) (_hr : ∀ i, i < n.length → n.getD i 0 ≤ 9223372036854775807) (ho0 : 0 ≤ op) (ho1 : op ≤ 65000) (HS : ∀ w, Calls Tryz.prog 158 #[.int .i64 op] w fun e w' => e = .returned (.tuple #[.int .i64 7, .int .i64 0]) ∧ Below w.heap.size w w') (hop : op < 64512) (hm : m = 0) :
    Calls Tryz.prog 132 #[.agg #[.int .i64 op, .int .i64 a, .int .i64 b, .int .i64 m, .slice xn nl nc, .slice xl ll lc, .slice xe el ec]] w fun e w' => e = .returned (.string (strOfNums (opB op ++ fldB 7 a b m n))) ∧ Below w.heap.size w w' := by
  have hn := _hn
  have hv := _hv
  have ha0 := _ha0
  have ha1 := _ha1
  have hm1 := _hm1
  have hb0 := _hb0
  have hb1 := _hb1
  have hnl := _hnl
  have hr := _hr
  have HF : fldB 7 a b m n = putU (b) ++ putU (a) := by rw [show fldB 7 a b m n = placeB b m ++ putU (a) from rfl, placeB, if_pos hm]
  have HOP : opB op = [op % 256] := opB_lo hop
  have H0 := Lib.hid (fun w2 => refByte1_any op w2)
  have H1 := Lib.hid (fun w2 => refPutU_any (b) w2 (by omega))
  have H2 := Lib.hid (fun w2 => refPutU_any (a) w2 (by omega))
  have z0 : (strOfNums ([op % 256])).size ≤ 100000 := by rw [strOfNums_size]; show 1 ≤ 100000; omega
  have z1 : (strOfNums (putU (b))).size ≤ 100000 := by rw [strOfNums_size]; have := Leb.putU_length (b); omega
  have z2 : (strOfNums (putU (a))).size ≤ 100000 := by rw [strOfNums_size]; have := Leb.putU_length (a); omega
  have HC : strOfNums (opB op ++ fldB 7 a b m n) = strOfNums ([op % 256]) ++ strOfNums (putU (b)) ++ strOfNums (putU (a)) := by rw [HOP, HF]; simp only [strOfNums_app, List.append_assoc]
  rw [HC]
  clear HC HOP HF
  have hm2 : (m == 0) = true := by simpa using hm
  clear hm
  revert H0 z0
  generalize strOfNums ([op % 256]) = S0
  intro H0 z0
  revert H1 z1
  generalize strOfNums (putU (b)) = S1
  intro H1 z1
  revert H2 z2
  generalize strOfNums (putU (a)) = S2
  intro H2 z2
  have HB0 := Lib.hid ((Below.refl w.heap.size w).alloc (Nat.le_refl _) (.cells #[.int .i64 op, .int .i64 a, .int .i64 b, .int .i64 m, .slice xn nl nc, .slice xl ll lc, .slice xe el ec] 50))
  have D0 : Hid (InsAt (w.alloc (.cells #[.int .i64 op, .int .i64 a, .int .i64 b, .int .i64 m, .slice xn nl nc, .slice xl ll lc, .slice xe el ec] 50)) w.heap.size op a b m xn xl xe nl ll el nc lc ec) := Lib.hid ⟨World.cell?_alloc_mark w _ _ _ 0, World.cell?_alloc_mark w _ _ _ 1, World.cell?_alloc_mark w _ _ _ 2, World.cell?_alloc_mark w _ _ _ 3, World.cell?_alloc_mark w _ _ _ 4, World.cell?_alloc_mark w _ _ _ 5, World.cell?_alloc_mark w _ _ _ 6⟩
  have q0 := Below.refl (w.alloc (.cells #[.int .i64 op, .int .i64 a, .int .i64 b, .int .i64 m, .slice xn nl nc, .slice xl ll lc, .slice xe el ec] 50)).heap.size (w.alloc (.cells #[.int .i64 op, .int .i64 a, .int .i64 b, .int .i64 m, .slice xn nl nc, .slice xl ll lc, .slice xe el ec] 50))
  obtain ⟨d0, d1, d2, d3, d4, d5, d6⟩ := D0.out
  have HSH := Lib.hid HS
  have n1 : ¬ 9223372036854775807 < S0.size + S1.size := by omega
  have n2 : ¬ 9223372036854775807 < S0.size + S1.size + S2.size := by omega
  clear hn hv ha0 ha1 hm1 hb0 hb1 hnl hr HS _hn _hv _ha0 _ha1 _hm1 _hb0 _hb1 _hnl _hr
  go_enter Tryz.func132, Tryz.ntmps132
  go_wp2_with (first
    | (go_at_call 115; refine (H0.out _).mono ?_; rintro e w1 ⟨rfl, k1⟩; have q1 := q0.trans (k1.mono q0.size); obtain ⟨g10, g11, g12, g13, g14, g15, g16⟩ := D0.out.below q1; clear k1 H0)
    | (go_at_call 158; refine (HSH.out _).mono ?_; rintro e w2 ⟨rfl, k2⟩; have q2 := q1.trans (k2.mono q1.size); obtain ⟨g20, g21, g22, g23, g24, g25, g26⟩ := D0.out.below q2; clear k2 HSH))
  have qd := q2.drew
  obtain ⟨r0, r1, r2, r3, r4, r5, r6⟩ := D0.out.below qd
  have DS := Lib.hid (And.intro r1 r2)
  clear r0 r1 r2 r3 r4 r5 r6
  go_region_held3 (fun w' => w'.cell? ⟨w.heap.size, 1, none⟩ = some (.int .i64 a) ∧ w'.cell? ⟨w.heap.size, 2, none⟩ = some (.int .i64 b))
    (first | exact DS.out | exact DS3.out | exact DS4.out)
    (first
      | (go_at_call 58; refine (H1.out _).mono ?_; rintro e w3 ⟨rfl, k3⟩; have q3 := qd.trans (k3.mono qd.size); obtain ⟨g30, g31, g32, g33, g34, g35, g36⟩ := D0.out.below q3; clear k3 H1; have DS3 := Lib.hid (And.intro g31 g32))
      | (go_at_call 58; refine (H2.out _).mono ?_; rintro e w4 ⟨rfl, k4⟩; have q4 := q3.trans (k4.mono q3.size); obtain ⟨g40, g41, g42, g43, g44, g45, g46⟩ := D0.out.below q4; clear k4 H2; have DS4 := Lib.hid (And.intro g41 g42)))
  all_goals
    go_wp2_with fail
    go_ret
    exact ⟨rfl, HB0.out.trans (q4.mono HB0.out.size)⟩
set_option maxRecDepth 100000 in
set_option maxHeartbeats 2000000 in
theorem refSingle_s7m
    (op a b m : Int) (n : List Int) (xn xl xe : Option Addr) (nl ll el nc lc ec : Nat) (w : World) (_hn : nl = n.length) (_hv : View w xn nl n) (_ha0 : -9223372036854775808 ≤ a) (_ha1 : a ≤ 9223372036854775807) (_hm1 : m ≤ 9223372036854775807) (_hb0 : 0 ≤ b) (_hb1 : b ≤ 63) (_hnl : nl ≤ 1000) (_hr : ∀ i, i < n.length → n.getD i 0 ≤ 9223372036854775807) (ho0 : 0 ≤ op) (ho1 : op ≤ 65000) (HS : ∀ w, Calls Tryz.prog 158 #[.int .i64 op] w fun e w' => e = .returned (.tuple #[.int .i64 7, .int .i64 0]) ∧ Below w.heap.size w w') (hop : op < 64512) (hm : ¬ m = 0) :
    Calls Tryz.prog 132 #[.agg #[.int .i64 op, .int .i64 a, .int .i64 b, .int .i64 m, .slice xn nl nc, .slice xl ll lc, .slice xe el ec]] w fun e w' => e = .returned (.string (strOfNums (opB op ++ fldB 7 a b m n))) ∧ Below w.heap.size w w' := by
  have hn := _hn
  have hv := _hv
  have ha0 := _ha0
  have ha1 := _ha1
  have hm1 := _hm1
  have hb0 := _hb0
  have hb1 := _hb1
  have hnl := _hnl
  have hr := _hr
  have HF : fldB 7 a b m n = putU (b + 64) ++ putU (m) ++ putU (a) := by rw [show fldB 7 a b m n = placeB b m ++ putU (a) from rfl, placeB, if_neg hm]
  have HOP : opB op = [op % 256] := opB_lo hop
  have H0 := Lib.hid (fun w2 => refByte1_any op w2)
  have H1 := Lib.hid (fun w2 => refPutU_any (b + 64) w2 (by omega))
  have H2 := Lib.hid (fun w2 => refPutU_any (m) w2 (by omega))
  have H3 := Lib.hid (fun w2 => refPutU_any (a) w2 (by omega))
  have z0 : (strOfNums ([op % 256])).size ≤ 100000 := by rw [strOfNums_size]; show 1 ≤ 100000; omega
  have z1 : (strOfNums (putU (b + 64))).size ≤ 100000 := by rw [strOfNums_size]; have := Leb.putU_length (b + 64); omega
  have z2 : (strOfNums (putU (m))).size ≤ 100000 := by rw [strOfNums_size]; have := Leb.putU_length (m); omega
  have z3 : (strOfNums (putU (a))).size ≤ 100000 := by rw [strOfNums_size]; have := Leb.putU_length (a); omega
  have HC : strOfNums (opB op ++ fldB 7 a b m n) = strOfNums ([op % 256]) ++ strOfNums (putU (b + 64)) ++ strOfNums (putU (m)) ++ strOfNums (putU (a)) := by rw [HOP, HF]; simp only [strOfNums_app, List.append_assoc]
  rw [HC]
  clear HC HOP HF
  have hm2 : (m == 0) = false := by simpa using hm
  clear hm
  revert H0 z0
  generalize strOfNums ([op % 256]) = S0
  intro H0 z0
  revert H1 z1
  generalize strOfNums (putU (b + 64)) = S1
  intro H1 z1
  revert H2 z2
  generalize strOfNums (putU (m)) = S2
  intro H2 z2
  revert H3 z3
  generalize strOfNums (putU (a)) = S3
  intro H3 z3
  have HB0 := Lib.hid ((Below.refl w.heap.size w).alloc (Nat.le_refl _) (.cells #[.int .i64 op, .int .i64 a, .int .i64 b, .int .i64 m, .slice xn nl nc, .slice xl ll lc, .slice xe el ec] 50))
  have D0 : Hid (InsAt (w.alloc (.cells #[.int .i64 op, .int .i64 a, .int .i64 b, .int .i64 m, .slice xn nl nc, .slice xl ll lc, .slice xe el ec] 50)) w.heap.size op a b m xn xl xe nl ll el nc lc ec) := Lib.hid ⟨World.cell?_alloc_mark w _ _ _ 0, World.cell?_alloc_mark w _ _ _ 1, World.cell?_alloc_mark w _ _ _ 2, World.cell?_alloc_mark w _ _ _ 3, World.cell?_alloc_mark w _ _ _ 4, World.cell?_alloc_mark w _ _ _ 5, World.cell?_alloc_mark w _ _ _ 6⟩
  have q0 := Below.refl (w.alloc (.cells #[.int .i64 op, .int .i64 a, .int .i64 b, .int .i64 m, .slice xn nl nc, .slice xl ll lc, .slice xe el ec] 50)).heap.size (w.alloc (.cells #[.int .i64 op, .int .i64 a, .int .i64 b, .int .i64 m, .slice xn nl nc, .slice xl ll lc, .slice xe el ec] 50))
  obtain ⟨d0, d1, d2, d3, d4, d5, d6⟩ := D0.out
  have HSH := Lib.hid HS
  have wb : IntKind.i64.wrap (b + 64) = b + 64 := by rw [IntKind.wrap_i64]; omega
  have n1 : ¬ 9223372036854775807 < S0.size + S1.size := by omega
  have n2 : ¬ 9223372036854775807 < S0.size + S1.size + S2.size := by omega
  have n3 : ¬ 9223372036854775807 < S0.size + S1.size + S2.size + S3.size := by omega
  clear hn hv ha0 ha1 hm1 hb0 hb1 hnl hr HS _hn _hv _ha0 _ha1 _hm1 _hb0 _hb1 _hnl _hr
  go_enter Tryz.func132, Tryz.ntmps132
  go_wp2_with (first
    | (go_at_call 115; refine (H0.out _).mono ?_; rintro e w1 ⟨rfl, k1⟩; have q1 := q0.trans (k1.mono q0.size); obtain ⟨g10, g11, g12, g13, g14, g15, g16⟩ := D0.out.below q1; clear k1 H0)
    | (go_at_call 158; refine (HSH.out _).mono ?_; rintro e w2 ⟨rfl, k2⟩; have q2 := q1.trans (k2.mono q1.size); obtain ⟨g20, g21, g22, g23, g24, g25, g26⟩ := D0.out.below q2; clear k2 HSH))
  have qd := q2.drew
  obtain ⟨r0, r1, r2, r3, r4, r5, r6⟩ := D0.out.below qd
  have DS := Lib.hid (And.intro r1 (And.intro r2 r3))
  clear r0 r1 r2 r3 r4 r5 r6
  go_region_held3 (fun w' => w'.cell? ⟨w.heap.size, 1, none⟩ = some (.int .i64 a) ∧ w'.cell? ⟨w.heap.size, 2, none⟩ = some (.int .i64 b) ∧ w'.cell? ⟨w.heap.size, 3, none⟩ = some (.int .i64 m))
    (first | exact DS.out | exact DS3.out | exact DS4.out | exact DS5.out)
    (first
      | (go_at_call 58; refine (H1.out _).mono ?_; rintro e w3 ⟨rfl, k3⟩; have q3 := qd.trans (k3.mono qd.size); obtain ⟨g30, g31, g32, g33, g34, g35, g36⟩ := D0.out.below q3; clear k3 H1; have DS3 := Lib.hid (And.intro g31 (And.intro g32 g33)))
      | (go_at_call 58; refine (H2.out _).mono ?_; rintro e w4 ⟨rfl, k4⟩; have q4 := q3.trans (k4.mono q3.size); obtain ⟨g40, g41, g42, g43, g44, g45, g46⟩ := D0.out.below q4; clear k4 H2; have DS4 := Lib.hid (And.intro g41 (And.intro g42 g43)))
      | (go_at_call 58; refine (H3.out _).mono ?_; rintro e w5 ⟨rfl, k5⟩; have q5 := q4.trans (k5.mono q4.size); obtain ⟨g50, g51, g52, g53, g54, g55, g56⟩ := D0.out.below q5; clear k5 H3; have DS5 := Lib.hid (And.intro g51 (And.intro g52 g53))))
  all_goals
    go_wp2_with fail
    go_ret
    exact ⟨rfl, HB0.out.trans (q5.mono HB0.out.size)⟩
set_option maxRecDepth 100000 in
set_option maxHeartbeats 2000000 in
theorem refSingle_s8
    (op a b m : Int) (n : List Int) (xn xl xe : Option Addr) (nl ll el nc lc ec : Nat) (w : World) (_hn : nl = n.length) (_hv : View w xn nl n) (_ha0 : -9223372036854775808 ≤ a) (_ha1 : a ≤ 9223372036854775807) (_hm1 : m ≤ 9223372036854775807) (_hb0 : 0 ≤ b) (_hb1 : b ≤ 63) (_hnl : nl ≤ 1000) (_hr : ∀ i, i < n.length → n.getD i 0 ≤ 9223372036854775807) (ho0 : 0 ≤ op) (ho1 : op ≤ 65000) (HS : ∀ w, Calls Tryz.prog 158 #[.int .i64 op] w fun e w' => e = .returned (.tuple #[.int .i64 8, .int .i64 0]) ∧ Below w.heap.size w w') (hop : op < 64512) :
    Calls Tryz.prog 132 #[.agg #[.int .i64 op, .int .i64 a, .int .i64 b, .int .i64 m, .slice xn nl nc, .slice xl ll lc, .slice xe el ec]] w fun e w' => e = .returned (.string (strOfNums (opB op ++ fldB 8 a b m n))) ∧ Below w.heap.size w w' := by
  have hn := _hn
  have hv := _hv
  have ha0 := _ha0
  have ha1 := _ha1
  have hm1 := _hm1
  have hb0 := _hb0
  have hb1 := _hb1
  have hnl := _hnl
  have hr := _hr
  have HF : fldB 8 a b m n = putU (m) := rfl
  have HOP : opB op = [op % 256] := opB_lo hop
  have H0 := Lib.hid (fun w2 => refByte1_any op w2)
  have H1 := Lib.hid (fun w2 => refPutU_any (m) w2 (by omega))
  have z0 : (strOfNums ([op % 256])).size ≤ 100000 := by rw [strOfNums_size]; show 1 ≤ 100000; omega
  have z1 : (strOfNums (putU (m))).size ≤ 100000 := by rw [strOfNums_size]; have := Leb.putU_length (m); omega
  have HC : strOfNums (opB op ++ fldB 8 a b m n) = strOfNums ([op % 256]) ++ strOfNums (putU (m)) := by rw [HOP, HF, strOfNums_app]
  rw [HC]
  clear HC HOP HF
  revert H0 z0
  generalize strOfNums ([op % 256]) = S0
  intro H0 z0
  revert H1 z1
  generalize strOfNums (putU (m)) = S1
  intro H1 z1
  have HB0 := Lib.hid ((Below.refl w.heap.size w).alloc (Nat.le_refl _) (.cells #[.int .i64 op, .int .i64 a, .int .i64 b, .int .i64 m, .slice xn nl nc, .slice xl ll lc, .slice xe el ec] 50))
  have D0 : Hid (InsAt (w.alloc (.cells #[.int .i64 op, .int .i64 a, .int .i64 b, .int .i64 m, .slice xn nl nc, .slice xl ll lc, .slice xe el ec] 50)) w.heap.size op a b m xn xl xe nl ll el nc lc ec) := Lib.hid ⟨World.cell?_alloc_mark w _ _ _ 0, World.cell?_alloc_mark w _ _ _ 1, World.cell?_alloc_mark w _ _ _ 2, World.cell?_alloc_mark w _ _ _ 3, World.cell?_alloc_mark w _ _ _ 4, World.cell?_alloc_mark w _ _ _ 5, World.cell?_alloc_mark w _ _ _ 6⟩
  have q0 := Below.refl (w.alloc (.cells #[.int .i64 op, .int .i64 a, .int .i64 b, .int .i64 m, .slice xn nl nc, .slice xl ll lc, .slice xe el ec] 50)).heap.size (w.alloc (.cells #[.int .i64 op, .int .i64 a, .int .i64 b, .int .i64 m, .slice xn nl nc, .slice xl ll lc, .slice xe el ec] 50))
  obtain ⟨d0, d1, d2, d3, d4, d5, d6⟩ := D0.out
  have HSH := Lib.hid HS
  have n1 : ¬ 9223372036854775807 < S0.size + S1.size := by omega
  clear hn hv ha0 ha1 hm1 hb0 hb1 hnl hr HS _hn _hv _ha0 _ha1 _hm1 _hb0 _hb1 _hnl _hr
  go_enter Tryz.func132, Tryz.ntmps132
  go_wp2_with (first
    | (go_at_call 115; refine (H0.out _).mono ?_; rintro e w1 ⟨rfl, k1⟩; have q1 := q0.trans (k1.mono q0.size); obtain ⟨g10, g11, g12, g13, g14, g15, g16⟩ := D0.out.below q1; clear k1 H0)
    | (go_at_call 158; refine (HSH.out _).mono ?_; rintro e w2 ⟨rfl, k2⟩; have q2 := q1.trans (k2.mono q1.size); obtain ⟨g20, g21, g22, g23, g24, g25, g26⟩ := D0.out.below q2; clear k2 HSH)
    | (go_at_call 58; refine (H1.out _).mono ?_; rintro e w3 ⟨rfl, k3⟩; have q3 := q2.trans (k3.mono q2.size); obtain ⟨g30, g31, g32, g33, g34, g35, g36⟩ := D0.out.below q3; clear k3 H1))
  go_ret
  exact ⟨rfl, HB0.out.trans (q3.mono HB0.out.size)⟩
set_option maxRecDepth 100000 in
set_option maxHeartbeats 2000000 in
theorem refSingle_s8h
    (op a b m : Int) (n : List Int) (xn xl xe : Option Addr) (nl ll el nc lc ec : Nat) (w : World) (_hn : nl = n.length) (_hv : View w xn nl n) (_ha0 : -9223372036854775808 ≤ a) (_ha1 : a ≤ 9223372036854775807) (_hm1 : m ≤ 9223372036854775807) (_hb0 : 0 ≤ b) (_hb1 : b ≤ 63) (_hnl : nl ≤ 1000) (_hr : ∀ i, i < n.length → n.getD i 0 ≤ 9223372036854775807) (ho0 : 0 ≤ op) (ho1 : op ≤ 65000) (HS : ∀ w, Calls Tryz.prog 158 #[.int .i64 op] w fun e w' => e = .returned (.tuple #[.int .i64 8, .int .i64 0]) ∧ Below w.heap.size w w') (hop : ¬ op < 64512) :
    Calls Tryz.prog 132 #[.agg #[.int .i64 op, .int .i64 a, .int .i64 b, .int .i64 m, .slice xn nl nc, .slice xl ll lc, .slice xe el ec]] w fun e w' => e = .returned (.string (strOfNums (opB op ++ fldB 8 a b m n))) ∧ Below w.heap.size w w' := by
  have hn := _hn
  have hv := _hv
  have ha0 := _ha0
  have ha1 := _ha1
  have hm1 := _hm1
  have hb0 := _hb0
  have hb1 := _hb1
  have hnl := _hnl
  have hr := _hr
  have HF : fldB 8 a b m n = putU (m) := rfl
  have HOP : opB op = [252 % 256] ++ putU (op - 64512) := opB_hi hop
  have H0 := Lib.hid (fun w2 => refByte1_any 252 w2)
  have H1 := Lib.hid (fun w2 => refPutU_any (op - 64512) w2 (by omega))
  have H2 := Lib.hid (fun w2 => refPutU_any (m) w2 (by omega))
  have z0 : (strOfNums ([252 % 256])).size ≤ 100000 := by rw [strOfNums_size]; show 1 ≤ 100000; omega
  have z1 : (strOfNums (putU (op - 64512))).size ≤ 100000 := by rw [strOfNums_size]; have := Leb.putU_length (op - 64512); omega
  have z2 : (strOfNums (putU (m))).size ≤ 100000 := by rw [strOfNums_size]; have := Leb.putU_length (m); omega
  have HC : strOfNums (opB op ++ fldB 8 a b m n) = strOfNums ([252 % 256]) ++ strOfNums (putU (op - 64512)) ++ strOfNums (putU (m)) := by rw [HOP, HF]; simp only [strOfNums_app, List.append_assoc]
  rw [HC]
  clear HC HOP HF
  revert H0 z0
  generalize strOfNums ([252 % 256]) = S0
  intro H0 z0
  revert H1 z1
  generalize strOfNums (putU (op - 64512)) = S1
  intro H1 z1
  revert H2 z2
  generalize strOfNums (putU (m)) = S2
  intro H2 z2
  have HB0 := Lib.hid ((Below.refl w.heap.size w).alloc (Nat.le_refl _) (.cells #[.int .i64 op, .int .i64 a, .int .i64 b, .int .i64 m, .slice xn nl nc, .slice xl ll lc, .slice xe el ec] 50))
  have D0 : Hid (InsAt (w.alloc (.cells #[.int .i64 op, .int .i64 a, .int .i64 b, .int .i64 m, .slice xn nl nc, .slice xl ll lc, .slice xe el ec] 50)) w.heap.size op a b m xn xl xe nl ll el nc lc ec) := Lib.hid ⟨World.cell?_alloc_mark w _ _ _ 0, World.cell?_alloc_mark w _ _ _ 1, World.cell?_alloc_mark w _ _ _ 2, World.cell?_alloc_mark w _ _ _ 3, World.cell?_alloc_mark w _ _ _ 4, World.cell?_alloc_mark w _ _ _ 5, World.cell?_alloc_mark w _ _ _ 6⟩
  have q0 := Below.refl (w.alloc (.cells #[.int .i64 op, .int .i64 a, .int .i64 b, .int .i64 m, .slice xn nl nc, .slice xl ll lc, .slice xe el ec] 50)).heap.size (w.alloc (.cells #[.int .i64 op, .int .i64 a, .int .i64 b, .int .i64 m, .slice xn nl nc, .slice xl ll lc, .slice xe el ec] 50))
  obtain ⟨d0, d1, d2, d3, d4, d5, d6⟩ := D0.out
  have HSH := Lib.hid HS
  have wu : IntKind.i64.wrap (op - 64512) = op - 64512 := by rw [IntKind.wrap_i64]; omega
  have n1 : ¬ 9223372036854775807 < S0.size + S1.size := by omega
  have n2 : ¬ 9223372036854775807 < S0.size + S1.size + S2.size := by omega
  clear hn hv ha0 ha1 hm1 hb0 hb1 hnl hr HS _hn _hv _ha0 _ha1 _hm1 _hb0 _hb1 _hnl _hr
  go_enter Tryz.func132, Tryz.ntmps132
  skip
  have HO1 := H0
  have HOO := Lib.hid (fun w2 => refByte1_any op w2)
  go_wp2_with (first | (go_at_call 115; refine (HOO.out _).mono ?_; rintro e w2 ⟨rfl, k2⟩; have q2 := q0.trans (k2.mono q0.size); obtain ⟨g20, g21, g22, g23, g24, g25, g26⟩ := D0.out.below q2; clear k2 HOO))
  have qd := q2.drew
  obtain ⟨r0, r1, r2, r3, r4, r5, r6⟩ := D0.out.below qd
  have DS := Lib.hid r0
  clear r0 r1 r2 r3 r4 r5 r6
  go_region_held3 (fun w' => w'.cell? ⟨w.heap.size, 0, none⟩ = some (.int .i64 op))
    (first | exact DS.out | exact DS3.out | exact DS4.out)
    (first
      | (go_at_call 115; refine (H0.out _).mono ?_; rintro e w3 ⟨rfl, k3⟩; have q3 := qd.trans (k3.mono qd.size); obtain ⟨g30, g31, g32, g33, g34, g35, g36⟩ := D0.out.below q3; clear k3 H0; have DS3 := Lib.hid g30)
      | (go_at_call 58; refine (H1.out _).mono ?_; rintro e w4 ⟨rfl, k4⟩; have q4 := q3.trans (k4.mono q3.size); obtain ⟨g40, g41, g42, g43, g44, g45, g46⟩ := D0.out.below q4; clear k4 H1; have DS4 := Lib.hid g40))
  all_goals
    go_wp2_with (first
      | (go_at_call 158; refine (HSH.out _).mono ?_; rintro e w5 ⟨rfl, k5⟩; have q5 := q4.trans (k5.mono q4.size); obtain ⟨g50, g51, g52, g53, g54, g55, g56⟩ := D0.out.below q5; clear k5 HSH)
      | (go_at_call 58; refine (H2.out _).mono ?_; rintro e w6 ⟨rfl, k6⟩; have q6 := q5.trans (k6.mono q5.size); obtain ⟨g60, g61, g62, g63, g64, g65, g66⟩ := D0.out.below q6; clear k6 H2))
    go_ret
    exact ⟨rfl, HB0.out.trans (q6.mono HB0.out.size)⟩
set_option maxRecDepth 100000 in
set_option maxHeartbeats 2000000 in
theorem refSingle_s9
    (op a b m : Int) (n : List Int) (xn xl xe : Option Addr) (nl ll el nc lc ec : Nat) (w : World) (_hn : nl = n.length) (_hv : View w xn nl n) (_ha0 : -9223372036854775808 ≤ a) (_ha1 : a ≤ 9223372036854775807) (_hm1 : m ≤ 9223372036854775807) (_hb0 : 0 ≤ b) (_hb1 : b ≤ 63) (_hnl : nl ≤ 1000) (_hr : ∀ i, i < n.length → n.getD i 0 ≤ 9223372036854775807) (ho0 : 0 ≤ op) (ho1 : op ≤ 65000) (HS : ∀ w, Calls Tryz.prog 158 #[.int .i64 op] w fun e w' => e = .returned (.tuple #[.int .i64 9, .int .i64 0]) ∧ Below w.heap.size w w') (hop : op < 64512) :
    Calls Tryz.prog 132 #[.agg #[.int .i64 op, .int .i64 a, .int .i64 b, .int .i64 m, .slice xn nl nc, .slice xl ll lc, .slice xe el ec]] w fun e w' => e = .returned (.string (strOfNums (opB op ++ fldB 9 a b m n))) ∧ Below w.heap.size w w' := by
  have hn := _hn
  have hv := _hv
  have ha0 := _ha0
  have ha1 := _ha1
  have hm1 := _hm1
  have hb0 := _hb0
  have hb1 := _hb1
  have hnl := _hnl
  have hr := _hr
  have HF : fldB 9 a b m n = putU (m) ++ putU (a) := rfl
  have HOP : opB op = [op % 256] := opB_lo hop
  have H0 := Lib.hid (fun w2 => refByte1_any op w2)
  have H1 := Lib.hid (fun w2 => refPutU_any (m) w2 (by omega))
  have H2 := Lib.hid (fun w2 => refPutU_any (a) w2 (by omega))
  have z0 : (strOfNums ([op % 256])).size ≤ 100000 := by rw [strOfNums_size]; show 1 ≤ 100000; omega
  have z1 : (strOfNums (putU (m))).size ≤ 100000 := by rw [strOfNums_size]; have := Leb.putU_length (m); omega
  have z2 : (strOfNums (putU (a))).size ≤ 100000 := by rw [strOfNums_size]; have := Leb.putU_length (a); omega
  have HC : strOfNums (opB op ++ fldB 9 a b m n) = strOfNums ([op % 256]) ++ strOfNums (putU (m)) ++ strOfNums (putU (a)) := by rw [HOP, HF]; simp only [strOfNums_app, List.append_assoc]
  rw [HC]
  clear HC HOP HF
  revert H0 z0
  generalize strOfNums ([op % 256]) = S0
  intro H0 z0
  revert H1 z1
  generalize strOfNums (putU (m)) = S1
  intro H1 z1
  revert H2 z2
  generalize strOfNums (putU (a)) = S2
  intro H2 z2
  have HB0 := Lib.hid ((Below.refl w.heap.size w).alloc (Nat.le_refl _) (.cells #[.int .i64 op, .int .i64 a, .int .i64 b, .int .i64 m, .slice xn nl nc, .slice xl ll lc, .slice xe el ec] 50))
  have D0 : Hid (InsAt (w.alloc (.cells #[.int .i64 op, .int .i64 a, .int .i64 b, .int .i64 m, .slice xn nl nc, .slice xl ll lc, .slice xe el ec] 50)) w.heap.size op a b m xn xl xe nl ll el nc lc ec) := Lib.hid ⟨World.cell?_alloc_mark w _ _ _ 0, World.cell?_alloc_mark w _ _ _ 1, World.cell?_alloc_mark w _ _ _ 2, World.cell?_alloc_mark w _ _ _ 3, World.cell?_alloc_mark w _ _ _ 4, World.cell?_alloc_mark w _ _ _ 5, World.cell?_alloc_mark w _ _ _ 6⟩
  have q0 := Below.refl (w.alloc (.cells #[.int .i64 op, .int .i64 a, .int .i64 b, .int .i64 m, .slice xn nl nc, .slice xl ll lc, .slice xe el ec] 50)).heap.size (w.alloc (.cells #[.int .i64 op, .int .i64 a, .int .i64 b, .int .i64 m, .slice xn nl nc, .slice xl ll lc, .slice xe el ec] 50))
  obtain ⟨d0, d1, d2, d3, d4, d5, d6⟩ := D0.out
  have HSH := Lib.hid HS
  have n1 : ¬ 9223372036854775807 < S0.size + S1.size := by omega
  have n2 : ¬ 9223372036854775807 < S0.size + S1.size + S2.size := by omega
  clear hn hv ha0 ha1 hm1 hb0 hb1 hnl hr HS _hn _hv _ha0 _ha1 _hm1 _hb0 _hb1 _hnl _hr
  go_enter Tryz.func132, Tryz.ntmps132
  go_wp2_with (first
    | (go_at_call 115; refine (H0.out _).mono ?_; rintro e w1 ⟨rfl, k1⟩; have q1 := q0.trans (k1.mono q0.size); obtain ⟨g10, g11, g12, g13, g14, g15, g16⟩ := D0.out.below q1; clear k1 H0)
    | (go_at_call 158; refine (HSH.out _).mono ?_; rintro e w2 ⟨rfl, k2⟩; have q2 := q1.trans (k2.mono q1.size); obtain ⟨g20, g21, g22, g23, g24, g25, g26⟩ := D0.out.below q2; clear k2 HSH))
  have qd := q2.drew
  obtain ⟨r0, r1, r2, r3, r4, r5, r6⟩ := D0.out.below qd
  have DS := Lib.hid (And.intro r1 r3)
  clear r0 r1 r2 r3 r4 r5 r6
  go_region_held3 (fun w' => w'.cell? ⟨w.heap.size, 1, none⟩ = some (.int .i64 a) ∧ w'.cell? ⟨w.heap.size, 3, none⟩ = some (.int .i64 m))
    (first | exact DS.out | exact DS3.out | exact DS4.out)
    (first
      | (go_at_call 58; refine (H1.out _).mono ?_; rintro e w3 ⟨rfl, k3⟩; have q3 := qd.trans (k3.mono qd.size); obtain ⟨g30, g31, g32, g33, g34, g35, g36⟩ := D0.out.below q3; clear k3 H1; have DS3 := Lib.hid (And.intro g31 g33))
      | (go_at_call 58; refine (H2.out _).mono ?_; rintro e w4 ⟨rfl, k4⟩; have q4 := q3.trans (k4.mono q3.size); obtain ⟨g40, g41, g42, g43, g44, g45, g46⟩ := D0.out.below q4; clear k4 H2; have DS4 := Lib.hid (And.intro g41 g43)))
  all_goals
    go_wp2_with fail
    go_ret
    exact ⟨rfl, HB0.out.trans (q4.mono HB0.out.size)⟩
set_option maxRecDepth 100000 in
set_option maxHeartbeats 2000000 in
theorem refSingle_s9h
    (op a b m : Int) (n : List Int) (xn xl xe : Option Addr) (nl ll el nc lc ec : Nat) (w : World) (_hn : nl = n.length) (_hv : View w xn nl n) (_ha0 : -9223372036854775808 ≤ a) (_ha1 : a ≤ 9223372036854775807) (_hm1 : m ≤ 9223372036854775807) (_hb0 : 0 ≤ b) (_hb1 : b ≤ 63) (_hnl : nl ≤ 1000) (_hr : ∀ i, i < n.length → n.getD i 0 ≤ 9223372036854775807) (ho0 : 0 ≤ op) (ho1 : op ≤ 65000) (HS : ∀ w, Calls Tryz.prog 158 #[.int .i64 op] w fun e w' => e = .returned (.tuple #[.int .i64 9, .int .i64 0]) ∧ Below w.heap.size w w') (hop : ¬ op < 64512) :
    Calls Tryz.prog 132 #[.agg #[.int .i64 op, .int .i64 a, .int .i64 b, .int .i64 m, .slice xn nl nc, .slice xl ll lc, .slice xe el ec]] w fun e w' => e = .returned (.string (strOfNums (opB op ++ fldB 9 a b m n))) ∧ Below w.heap.size w w' := by
  have hn := _hn
  have hv := _hv
  have ha0 := _ha0
  have ha1 := _ha1
  have hm1 := _hm1
  have hb0 := _hb0
  have hb1 := _hb1
  have hnl := _hnl
  have hr := _hr
  have HF : fldB 9 a b m n = putU (m) ++ putU (a) := rfl
  have HOP : opB op = [252 % 256] ++ putU (op - 64512) := opB_hi hop
  have H0 := Lib.hid (fun w2 => refByte1_any 252 w2)
  have H1 := Lib.hid (fun w2 => refPutU_any (op - 64512) w2 (by omega))
  have H2 := Lib.hid (fun w2 => refPutU_any (m) w2 (by omega))
  have H3 := Lib.hid (fun w2 => refPutU_any (a) w2 (by omega))
  have z0 : (strOfNums ([252 % 256])).size ≤ 100000 := by rw [strOfNums_size]; show 1 ≤ 100000; omega
  have z1 : (strOfNums (putU (op - 64512))).size ≤ 100000 := by rw [strOfNums_size]; have := Leb.putU_length (op - 64512); omega
  have z2 : (strOfNums (putU (m))).size ≤ 100000 := by rw [strOfNums_size]; have := Leb.putU_length (m); omega
  have z3 : (strOfNums (putU (a))).size ≤ 100000 := by rw [strOfNums_size]; have := Leb.putU_length (a); omega
  have HC : strOfNums (opB op ++ fldB 9 a b m n) = strOfNums ([252 % 256]) ++ strOfNums (putU (op - 64512)) ++ strOfNums (putU (m)) ++ strOfNums (putU (a)) := by rw [HOP, HF]; simp only [strOfNums_app, List.append_assoc]
  rw [HC]
  clear HC HOP HF
  revert H0 z0
  generalize strOfNums ([252 % 256]) = S0
  intro H0 z0
  revert H1 z1
  generalize strOfNums (putU (op - 64512)) = S1
  intro H1 z1
  revert H2 z2
  generalize strOfNums (putU (m)) = S2
  intro H2 z2
  revert H3 z3
  generalize strOfNums (putU (a)) = S3
  intro H3 z3
  have HB0 := Lib.hid ((Below.refl w.heap.size w).alloc (Nat.le_refl _) (.cells #[.int .i64 op, .int .i64 a, .int .i64 b, .int .i64 m, .slice xn nl nc, .slice xl ll lc, .slice xe el ec] 50))
  have D0 : Hid (InsAt (w.alloc (.cells #[.int .i64 op, .int .i64 a, .int .i64 b, .int .i64 m, .slice xn nl nc, .slice xl ll lc, .slice xe el ec] 50)) w.heap.size op a b m xn xl xe nl ll el nc lc ec) := Lib.hid ⟨World.cell?_alloc_mark w _ _ _ 0, World.cell?_alloc_mark w _ _ _ 1, World.cell?_alloc_mark w _ _ _ 2, World.cell?_alloc_mark w _ _ _ 3, World.cell?_alloc_mark w _ _ _ 4, World.cell?_alloc_mark w _ _ _ 5, World.cell?_alloc_mark w _ _ _ 6⟩
  have q0 := Below.refl (w.alloc (.cells #[.int .i64 op, .int .i64 a, .int .i64 b, .int .i64 m, .slice xn nl nc, .slice xl ll lc, .slice xe el ec] 50)).heap.size (w.alloc (.cells #[.int .i64 op, .int .i64 a, .int .i64 b, .int .i64 m, .slice xn nl nc, .slice xl ll lc, .slice xe el ec] 50))
  obtain ⟨d0, d1, d2, d3, d4, d5, d6⟩ := D0.out
  have HSH := Lib.hid HS
  have wu : IntKind.i64.wrap (op - 64512) = op - 64512 := by rw [IntKind.wrap_i64]; omega
  have n1 : ¬ 9223372036854775807 < S0.size + S1.size := by omega
  have n2 : ¬ 9223372036854775807 < S0.size + S1.size + S2.size := by omega
  have n3 : ¬ 9223372036854775807 < S0.size + S1.size + S2.size + S3.size := by omega
  clear hn hv ha0 ha1 hm1 hb0 hb1 hnl hr HS _hn _hv _ha0 _ha1 _hm1 _hb0 _hb1 _hnl _hr
  go_enter Tryz.func132, Tryz.ntmps132
  skip
  have HO1 := H0
  have HOO := Lib.hid (fun w2 => refByte1_any op w2)
  go_wp2_with (first | (go_at_call 115; refine (HOO.out _).mono ?_; rintro e w2 ⟨rfl, k2⟩; have q2 := q0.trans (k2.mono q0.size); obtain ⟨g20, g21, g22, g23, g24, g25, g26⟩ := D0.out.below q2; clear k2 HOO))
  have qd := q2.drew
  obtain ⟨r0, r1, r2, r3, r4, r5, r6⟩ := D0.out.below qd
  have DS := Lib.hid r0
  clear r0 r1 r2 r3 r4 r5 r6
  go_region_held3 (fun w' => w'.cell? ⟨w.heap.size, 0, none⟩ = some (.int .i64 op))
    (first | exact DS.out | exact DS3.out | exact DS4.out)
    (first
      | (go_at_call 115; refine (H0.out _).mono ?_; rintro e w3 ⟨rfl, k3⟩; have q3 := qd.trans (k3.mono qd.size); obtain ⟨g30, g31, g32, g33, g34, g35, g36⟩ := D0.out.below q3; clear k3 H0; have DS3 := Lib.hid g30)
      | (go_at_call 58; refine (H1.out _).mono ?_; rintro e w4 ⟨rfl, k4⟩; have q4 := q3.trans (k4.mono q3.size); obtain ⟨g40, g41, g42, g43, g44, g45, g46⟩ := D0.out.below q4; clear k4 H1; have DS4 := Lib.hid g40))
  all_goals
    go_wp2_with (first
      | (go_at_call 158; refine (HSH.out _).mono ?_; rintro e w5 ⟨rfl, k5⟩; have q5 := q4.trans (k5.mono q4.size); obtain ⟨g50, g51, g52, g53, g54, g55, g56⟩ := D0.out.below q5; clear k5 HSH))
    clear qd DS
    have qd := q5.drew
    obtain ⟨r0, r1, r2, r3, r4, r5, r6⟩ := D0.out.below qd
    have DS := Lib.hid (And.intro r1 r3)
    clear r0 r1 r2 r3 r4 r5 r6
    go_region_held3 (fun w' => w'.cell? ⟨w.heap.size, 1, none⟩ = some (.int .i64 a) ∧ w'.cell? ⟨w.heap.size, 3, none⟩ = some (.int .i64 m))
      (first | exact DS.out | exact DS6.out | exact DS7.out)
      (first
        | (go_at_call 58; refine (H2.out _).mono ?_; rintro e w6 ⟨rfl, k6⟩; have q6 := qd.trans (k6.mono qd.size); obtain ⟨g60, g61, g62, g63, g64, g65, g66⟩ := D0.out.below q6; clear k6 H2; have DS6 := Lib.hid (And.intro g61 g63))
        | (go_at_call 58; refine (H3.out _).mono ?_; rintro e w7 ⟨rfl, k7⟩; have q7 := q6.trans (k7.mono q6.size); obtain ⟨g70, g71, g72, g73, g74, g75, g76⟩ := D0.out.below q7; clear k7 H3; have DS7 := Lib.hid (And.intro g71 g73)))
    all_goals
      go_wp2_with fail
      go_ret
      exact ⟨rfl, HB0.out.trans (q7.mono HB0.out.size)⟩
set_option maxRecDepth 100000 in
set_option maxHeartbeats 2000000 in
theorem refSingle_s10
    (op a b m : Int) (n : List Int) (xn xl xe : Option Addr) (nl ll el nc lc ec : Nat) (w : World) (_hn : nl = n.length) (_hv : View w xn nl n) (_ha0 : -9223372036854775808 ≤ a) (_ha1 : a ≤ 9223372036854775807) (_hm1 : m ≤ 9223372036854775807) (_hb0 : 0 ≤ b) (_hb1 : b ≤ 63) (_hnl : nl ≤ 1000) (_hr : ∀ i, i < n.length → n.getD i 0 ≤ 9223372036854775807) (ho0 : 0 ≤ op) (ho1 : op ≤ 65000) (HS : ∀ w, Calls Tryz.prog 158 #[.int .i64 op] w fun e w' => e = .returned (.tuple #[.int .i64 10, .int .i64 0]) ∧ Below w.heap.size w w') (hop : op < 64512) :
    Calls Tryz.prog 132 #[.agg #[.int .i64 op, .int .i64 a, .int .i64 b, .int .i64 m, .slice xn nl nc, .slice xl ll lc, .slice xe el ec]] w fun e w' => e = .returned (.string (strOfNums (opB op ++ fldB 10 a b m n))) ∧ Below w.heap.size w w' := by
  have hn := _hn
  have hv := _hv
  have ha0 := _ha0
  have ha1 := _ha1
  have hm1 := _hm1
  have hb0 := _hb0
  have hb1 := _hb1
  have hnl := _hnl
  have hr := _hr
  have HF : fldB 10 a b m n = putS a := rfl
  have HOP : opB op = [op % 256] := opB_lo hop
  have H0 := Lib.hid (fun w2 => refByte1_any op w2)
  have H1 := Lib.hid (fun w2 => refPutS_any a w2 ha0 ha1)
  have z0 : (strOfNums ([op % 256])).size ≤ 100000 := by rw [strOfNums_size]; show 1 ≤ 100000; omega
  have z1 : (strOfNums (putS a)).size ≤ 100000 := by rw [strOfNums_size]; have := Leb.putS_length a; omega
  have HC : strOfNums (opB op ++ fldB 10 a b m n) = strOfNums ([op % 256]) ++ strOfNums (putS a) := by rw [HOP, HF, strOfNums_app]
  rw [HC]
  clear HC HOP HF
  revert H0 z0
  generalize strOfNums ([op % 256]) = S0
  intro H0 z0
  revert H1 z1
  generalize strOfNums (putS a) = S1
  intro H1 z1
  have HB0 := Lib.hid ((Below.refl w.heap.size w).alloc (Nat.le_refl _) (.cells #[.int .i64 op, .int .i64 a, .int .i64 b, .int .i64 m, .slice xn nl nc, .slice xl ll lc, .slice xe el ec] 50))
  have D0 : Hid (InsAt (w.alloc (.cells #[.int .i64 op, .int .i64 a, .int .i64 b, .int .i64 m, .slice xn nl nc, .slice xl ll lc, .slice xe el ec] 50)) w.heap.size op a b m xn xl xe nl ll el nc lc ec) := Lib.hid ⟨World.cell?_alloc_mark w _ _ _ 0, World.cell?_alloc_mark w _ _ _ 1, World.cell?_alloc_mark w _ _ _ 2, World.cell?_alloc_mark w _ _ _ 3, World.cell?_alloc_mark w _ _ _ 4, World.cell?_alloc_mark w _ _ _ 5, World.cell?_alloc_mark w _ _ _ 6⟩
  have q0 := Below.refl (w.alloc (.cells #[.int .i64 op, .int .i64 a, .int .i64 b, .int .i64 m, .slice xn nl nc, .slice xl ll lc, .slice xe el ec] 50)).heap.size (w.alloc (.cells #[.int .i64 op, .int .i64 a, .int .i64 b, .int .i64 m, .slice xn nl nc, .slice xl ll lc, .slice xe el ec] 50))
  obtain ⟨d0, d1, d2, d3, d4, d5, d6⟩ := D0.out
  have HSH := Lib.hid HS
  have n1 : ¬ 9223372036854775807 < S0.size + S1.size := by omega
  clear hn hv ha0 ha1 hm1 hb0 hb1 hnl hr HS _hn _hv _ha0 _ha1 _hm1 _hb0 _hb1 _hnl _hr
  go_enter Tryz.func132, Tryz.ntmps132
  go_wp2_with (first
    | (go_at_call 115; refine (H0.out _).mono ?_; rintro e w1 ⟨rfl, k1⟩; have q1 := q0.trans (k1.mono q0.size); obtain ⟨g10, g11, g12, g13, g14, g15, g16⟩ := D0.out.below q1; clear k1 H0)
    | (go_at_call 158; refine (HSH.out _).mono ?_; rintro e w2 ⟨rfl, k2⟩; have q2 := q1.trans (k2.mono q1.size); obtain ⟨g20, g21, g22, g23, g24, g25, g26⟩ := D0.out.below q2; clear k2 HSH)
    | (go_at_call 162; refine (H1.out _).mono ?_; rintro e w3 ⟨rfl, k3⟩; have q3 := q2.trans (k3.mono q2.size); obtain ⟨g30, g31, g32, g33, g34, g35, g36⟩ := D0.out.below q3; clear k3 H1))
  go_ret
  exact ⟨rfl, HB0.out.trans (q3.mono HB0.out.size)⟩
set_option maxRecDepth 100000 in
set_option maxHeartbeats 2000000 in
theorem refSingle_s11
    (op a b m : Int) (n : List Int) (xn xl xe : Option Addr) (nl ll el nc lc ec : Nat) (w : World) (_hn : nl = n.length) (_hv : View w xn nl n) (_ha0 : -9223372036854775808 ≤ a) (_ha1 : a ≤ 9223372036854775807) (_hm1 : m ≤ 9223372036854775807) (_hb0 : 0 ≤ b) (_hb1 : b ≤ 63) (_hnl : nl ≤ 1000) (_hr : ∀ i, i < n.length → n.getD i 0 ≤ 9223372036854775807) (ho0 : 0 ≤ op) (ho1 : op ≤ 65000) (HS : ∀ w, Calls Tryz.prog 158 #[.int .i64 op] w fun e w' => e = .returned (.tuple #[.int .i64 11, .int .i64 0]) ∧ Below w.heap.size w w') (hop : op < 64512) :
    Calls Tryz.prog 132 #[.agg #[.int .i64 op, .int .i64 a, .int .i64 b, .int .i64 m, .slice xn nl nc, .slice xl ll lc, .slice xe el ec]] w fun e w' => e = .returned (.string (strOfNums (opB op ++ fldB 11 a b m n))) ∧ Below w.heap.size w w' := by
  have hn := _hn
  have hv := _hv
  have ha0 := _ha0
  have ha1 := _ha1
  have hm1 := _hm1
  have hb0 := _hb0
  have hb1 := _hb1
  have hnl := _hnl
  have hr := _hr
  have HF : fldB 11 a b m n = [(112) % 256] := rfl
  have HOP : opB op = [op % 256] := opB_lo hop
  have H0 := Lib.hid (fun w2 => refByte1_any op w2)
  have H1 := Lib.hid (fun w2 => refByte1_any (112) w2)
  have z0 : (strOfNums ([op % 256])).size ≤ 100000 := by rw [strOfNums_size]; show 1 ≤ 100000; omega
  have z1 : (strOfNums ([(112) % 256])).size ≤ 100000 := by rw [strOfNums_size]; show 1 ≤ 100000; omega
  have HC : strOfNums (opB op ++ fldB 11 a b m n) = strOfNums ([op % 256]) ++ strOfNums ([(112) % 256]) := by rw [HOP, HF, strOfNums_app]
  rw [HC]
  clear HC HOP HF
  revert H0 z0
  generalize strOfNums ([op % 256]) = S0
  intro H0 z0
  revert H1 z1
  generalize strOfNums ([(112) % 256]) = S1
  intro H1 z1
  have HB0 := Lib.hid ((Below.refl w.heap.size w).alloc (Nat.le_refl _) (.cells #[.int .i64 op, .int .i64 a, .int .i64 b, .int .i64 m, .slice xn nl nc, .slice xl ll lc, .slice xe el ec] 50))
  have D0 : Hid (InsAt (w.alloc (.cells #[.int .i64 op, .int .i64 a, .int .i64 b, .int .i64 m, .slice xn nl nc, .slice xl ll lc, .slice xe el ec] 50)) w.heap.size op a b m xn xl xe nl ll el nc lc ec) := Lib.hid ⟨World.cell?_alloc_mark w _ _ _ 0, World.cell?_alloc_mark w _ _ _ 1, World.cell?_alloc_mark w _ _ _ 2, World.cell?_alloc_mark w _ _ _ 3, World.cell?_alloc_mark w _ _ _ 4, World.cell?_alloc_mark w _ _ _ 5, World.cell?_alloc_mark w _ _ _ 6⟩
  have q0 := Below.refl (w.alloc (.cells #[.int .i64 op, .int .i64 a, .int .i64 b, .int .i64 m, .slice xn nl nc, .slice xl ll lc, .slice xe el ec] 50)).heap.size (w.alloc (.cells #[.int .i64 op, .int .i64 a, .int .i64 b, .int .i64 m, .slice xn nl nc, .slice xl ll lc, .slice xe el ec] 50))
  obtain ⟨d0, d1, d2, d3, d4, d5, d6⟩ := D0.out
  have HSH := Lib.hid HS
  have n1 : ¬ 9223372036854775807 < S0.size + S1.size := by omega
  clear hn hv ha0 ha1 hm1 hb0 hb1 hnl hr HS _hn _hv _ha0 _ha1 _hm1 _hb0 _hb1 _hnl _hr
  go_enter Tryz.func132, Tryz.ntmps132
  go_wp2_with (first
    | (go_at_call 115; refine (H0.out _).mono ?_; rintro e w1 ⟨rfl, k1⟩; have q1 := q0.trans (k1.mono q0.size); obtain ⟨g10, g11, g12, g13, g14, g15, g16⟩ := D0.out.below q1; clear k1 H0)
    | (go_at_call 158; refine (HSH.out _).mono ?_; rintro e w2 ⟨rfl, k2⟩; have q2 := q1.trans (k2.mono q1.size); obtain ⟨g20, g21, g22, g23, g24, g25, g26⟩ := D0.out.below q2; clear k2 HSH)
    | (go_at_call 115; refine (H1.out _).mono ?_; rintro e w3 ⟨rfl, k3⟩; have q3 := q2.trans (k3.mono q2.size); obtain ⟨g30, g31, g32, g33, g34, g35, g36⟩ := D0.out.below q3; clear k3 H1))
  go_ret
  exact ⟨rfl, HB0.out.trans (q3.mono HB0.out.size)⟩
end Go.Proofs.YtekonefnniaheaaGreat
