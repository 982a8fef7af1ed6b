/- Texts of the proof of ModulePutsUptoProof, part 21. -/
import Derived.Deep.RegionHeld3
import Derived.Test.YtekonefnniaheaaGreatModulePutsUptoProofQ5
import Derived.Test.YtekonefnniaheaaGreatModulePutsUptoProofQ8
import Derived.Test.YtekonefnniaheaaGreatModulePutsUptoProofQ11
import Derived.Test.YtekonefnniaheaaGreatModulePutsUptoProofQ17
import Derived.Test.YtekonefnniaheaaGreatModulePutsUptoProofQ19
import Derived.Test.YtekonefnniaheaaGreatModulePutsUptoProofQ20
namespace Go.Proofs.YtekonefnniaheaaGreat
open Go.RowKit
open Leb (putU putS)

set_option maxRecDepth 100000 in
set_option maxHeartbeats 4000000 in
theorem refSingle_s2 (op a b m : Int) (xn xl xe : Option Addr) (nl ll el nc lc ec : Nat) (w : World) (_ha0 : -9223372036854775808 ≤ a) (_ha1 : a ≤ 9223372036854775807) (_ho : 2 ≤ op ∧ op ≤ 4) (HS : ∀ w, Calls Tryz.prog 158 #[.int .i64 op] w fun e w' => e = .returned (.tuple #[.int .i64 2, .int .i64 0]) ∧ Below w.heap.size w w') (hel : el = 0) (SL SE : ByteArray) (zl : SL.size ≤ 100000000) (_ze : SE.size ≤ 100000000)
    (HTL : ∀ w', Below w.heap.size w w' → Calls Tryz.prog 114 #[.slice xl ll lc] w' fun e w2 => e = .returned (.string SL) ∧ Below w'.heap.size w' w2)
    (HTE : ∀ w', Below w.heap.size w w' → Calls Tryz.prog 114 #[.slice xe el ec] w' fun e w2 => e = .returned (.string SE) ∧ Below w'.heap.size w' w2) :
    Calls Tryz.prog 132 #[.agg #[.int .i64 op, .int .i64 a, .int .i64 b, .int .i64 m, .slice xn nl nc, .slice xl ll lc, .slice xe el ec]] w fun e w' => e = .returned (.string (strOfNums [op % 256] ++ strOfNums (putS a) ++ SL ++ strOfNums [11 % 256])) ∧ Below w.heap.size w w' := by
  have hop : op < 64512 := by omega
  have hel' := hel
  have H0 := Lib.hid (fun w2 => refByte1_any op w2)
  have H1 := Lib.hid (fun w2 => refPutS_any a w2 _ha0 _ha1)
  have HL := Lib.hid HTL
  have HE := Lib.hid HTE
  have H5 := Lib.hid (fun w2 => refByte1_any 5 w2)
  have H11 := Lib.hid (fun w2 => refByte1_any 11 w2)
  have z0 : (strOfNums [op % 256]).size ≤ 100000 := by rw [strOfNums_size]; show 1 ≤ 100000; omega
  have z1 : (strOfNums (putS a)).size ≤ 100000 := by rw [strOfNums_size]; have := Leb.putS_length a; omega
  have z5 : (strOfNums [5 % 256]).size ≤ 100000 := by rw [strOfNums_size]; show 1 ≤ 100000; omega
  have z11 : (strOfNums [11 % 256]).size ≤ 100000 := by rw [strOfNums_size]; show 1 ≤ 100000; omega
  revert H0 H1 H5 H11 z0 z1 z5 z11
  generalize strOfNums [op % 256] = S0
  generalize strOfNums (putS a) = S1
  generalize strOfNums [5 % 256] = S5
  generalize strOfNums [11 % 256] = S11
  intro H0 H1 H5 H11 z0 z1 z5 z11
  have n1 : ¬ 9223372036854775807 < S0.size + S1.size := by omega
  have n2 : ¬ 9223372036854775807 < S0.size + S1.size + SL.size := by omega
  have n5 : ¬ 9223372036854775807 < S0.size + S1.size + SL.size + S11.size := by omega
  subst hel
  have HB0 := Lib.hid ((Below.refl w.heap.size w).alloc (Nat.le_refl _) (.cells #[.int .i64 op, .int .i64 a, .int .i64 b, .int .i64 m, .slice xn nl nc, .slice xl ll lc, .slice xe 0 ec] 50))
  have D0 : Hid (InsAt (w.alloc (.cells #[.int .i64 op, .int .i64 a, .int .i64 b, .int .i64 m, .slice xn nl nc, .slice xl ll lc, .slice xe 0 ec] 50)) w.heap.size op a b m xn xl xe nl ll 0 nc lc ec) := Lib.hid ⟨World.cell?_alloc_mark w _ _ _ 0, World.cell?_alloc_mark w _ _ _ 1, World.cell?_alloc_mark w _ _ _ 2, World.cell?_alloc_mark w _ _ _ 3, World.cell?_alloc_mark w _ _ _ 4, World.cell?_alloc_mark w _ _ _ 5, World.cell?_alloc_mark w _ _ _ 6⟩
  have q0 := Below.refl (w.alloc (.cells #[.int .i64 op, .int .i64 a, .int .i64 b, .int .i64 m, .slice xn nl nc, .slice xl ll lc, .slice xe 0 ec] 50)).heap.size (w.alloc (.cells #[.int .i64 op, .int .i64 a, .int .i64 b, .int .i64 m, .slice xn nl nc, .slice xl ll lc, .slice xe 0 ec] 50))
  obtain ⟨d0, d1, d2, d3, d4, d5, d6⟩ := D0.out
  have HSH := Lib.hid HS
  clear HS HTL HTE _ha0 _ha1 _ho z0 z1 z5 z11 zl _ze 
  go_enter Tryz.func132, Tryz.ntmps132
  go_wp2_with (first
    | (go_at_call 115; refine (H0.out _).mono ?_; rintro e w1 ⟨rfl, k1⟩; have q1 := q0.trans (k1.mono q0.size); obtain ⟨g10, g11, g12, g13, g14, g15, g16⟩ := D0.out.below q1; clear k1 H0)
    | (go_at_call 158; refine (HSH.out _).mono ?_; rintro e w2 ⟨rfl, k2⟩; have q2 := q1.trans (k2.mono q1.size); obtain ⟨g20, g21, g22, g23, g24, g25, g26⟩ := D0.out.below q2; clear k2 HSH))
  have qda := q2.drew
  obtain ⟨r0, r1, r2, r3, r4, r5, r6⟩ := D0.out.below qda
  have DSa := Lib.hid (And.intro r1 r5)
  clear r0 r1 r2 r3 r4 r5 r6
  go_region_held3 (fun w' => w'.cell? ⟨w.heap.size, 1, none⟩ = some (.int .i64 a) ∧ w'.cell? ⟨w.heap.size, 5, none⟩ = some (.slice xl ll lc))
    (first | exact DSa.out | exact DS3.out | exact DS4.out)
    (first
      | (go_at_call 162; refine (H1.out _).mono ?_; rintro e w3 ⟨rfl, k3⟩; have q3 := qda.trans (k3.mono qda.size); obtain ⟨g30, g31, g32, g33, g34, g35, g36⟩ := D0.out.below q3; clear k3 H1; have DS3 := Lib.hid (And.intro g31 g35))
      | (go_at_call 114; refine (HL.out _ (HB0.out.trans (q3.mono HB0.out.size))).mono ?_; rintro e w4 ⟨rfl, k4⟩; have q4 := q3.trans (k4.mono q3.size); obtain ⟨g40, g41, g42, g43, g44, g45, g46⟩ := D0.out.below q4; clear k4 HL; have DS4 := Lib.hid (And.intro g41 g45)))
  all_goals
    go_wp2_with (first | (go_at_call 115; refine (H11.out _).mono ?_; rintro e w5 ⟨rfl, k5⟩; have q5 := q4.trans (k5.mono q4.size); obtain ⟨g50, g51, g52, g53, g54, g55, g56⟩ := D0.out.below q5; clear k5 H11))
    go_ret
    exact ⟨rfl, HB0.out.trans (q5.mono HB0.out.size)⟩
set_option maxRecDepth 100000 in
set_option maxHeartbeats 4000000 in
theorem refSingle_s2e (op a b m : Int) (xn xl xe : Option Addr) (nl ll el nc lc ec : Nat) (w : World) (_ha0 : -9223372036854775808 ≤ a) (_ha1 : a ≤ 9223372036854775807) (_ho : 2 ≤ op ∧ op ≤ 4) (HS : ∀ w, Calls Tryz.prog 158 #[.int .i64 op] w fun e w' => e = .returned (.tuple #[.int .i64 2, .int .i64 0]) ∧ Below w.heap.size w w') (hel : 0 < el) (SL SE : ByteArray) (zl : SL.size ≤ 100000000) (_ze : SE.size ≤ 100000000)
    (HTL : ∀ w', Below w.heap.size w w' → Calls Tryz.prog 114 #[.slice xl ll lc] w' fun e w2 => e = .returned (.string SL) ∧ Below w'.heap.size w' w2)
    (HTE : ∀ w', Below w.heap.size w w' → Calls Tryz.prog 114 #[.slice xe el ec] w' fun e w2 => e = .returned (.string SE) ∧ Below w'.heap.size w' w2) :
    Calls Tryz.prog 132 #[.agg #[.int .i64 op, .int .i64 a, .int .i64 b, .int .i64 m, .slice xn nl nc, .slice xl ll lc, .slice xe el ec]] w fun e w' => e = .returned (.string (strOfNums [op % 256] ++ strOfNums (putS a) ++ SL ++ strOfNums [5 % 256] ++ SE ++ strOfNums [11 % 256])) ∧ Below w.heap.size w w' := by
  have hop : op < 64512 := by omega
  have hel' := hel
  have H0 := Lib.hid (fun w2 => refByte1_any op w2)
  have H1 := Lib.hid (fun w2 => refPutS_any a w2 _ha0 _ha1)
  have HL := Lib.hid HTL
  have HE := Lib.hid HTE
  have H5 := Lib.hid (fun w2 => refByte1_any 5 w2)
  have H11 := Lib.hid (fun w2 => refByte1_any 11 w2)
  have z0 : (strOfNums [op % 256]).size ≤ 100000 := by rw [strOfNums_size]; show 1 ≤ 100000; omega
  have z1 : (strOfNums (putS a)).size ≤ 100000 := by rw [strOfNums_size]; have := Leb.putS_length a; omega
  have z5 : (strOfNums [5 % 256]).size ≤ 100000 := by rw [strOfNums_size]; show 1 ≤ 100000; omega
  have z11 : (strOfNums [11 % 256]).size ≤ 100000 := by rw [strOfNums_size]; show 1 ≤ 100000; omega
  revert H0 H1 H5 H11 z0 z1 z5 z11
  generalize strOfNums [op % 256] = S0
  generalize strOfNums (putS a) = S1
  generalize strOfNums [5 % 256] = S5
  generalize strOfNums [11 % 256] = S11
  intro H0 H1 H5 H11 z0 z1 z5 z11
  have n1 : ¬ 9223372036854775807 < S0.size + S1.size := by omega
  have n2 : ¬ 9223372036854775807 < S0.size + S1.size + SL.size := by omega
  have n3 : ¬ 9223372036854775807 < S0.size + S1.size + SL.size + S5.size := by omega
  have n4 : ¬ 9223372036854775807 < S0.size + S1.size + SL.size + S5.size + SE.size := by omega
  have n5 : ¬ 9223372036854775807 < S0.size + S1.size + SL.size + S5.size + SE.size + S11.size := by omega
  have hel2 : (0 : Int) < (el : Int) := by omega
  have HB0 := Lib.hid ((Below.refl w.heap.size w).alloc (Nat.le_refl _) (.cells #[.int .i64 op, .int .i64 a, .int .i64 b, .int .i64 m, .slice xn nl nc, .slice xl ll lc, .slice xe el ec] 50))
  have D0 : Hid (InsAt (w.alloc (.cells #[.int .i64 op, .int .i64 a, .int .i64 b, .int .i64 m, .slice xn nl nc, .slice xl ll lc, .slice xe el ec] 50)) w.heap.size op a b m xn xl xe nl ll el nc lc ec) := Lib.hid ⟨World.cell?_alloc_mark w _ _ _ 0, World.cell?_alloc_mark w _ _ _ 1, World.cell?_alloc_mark w _ _ _ 2, World.cell?_alloc_mark w _ _ _ 3, World.cell?_alloc_mark w _ _ _ 4, World.cell?_alloc_mark w _ _ _ 5, World.cell?_alloc_mark w _ _ _ 6⟩
  have q0 := Below.refl (w.alloc (.cells #[.int .i64 op, .int .i64 a, .int .i64 b, .int .i64 m, .slice xn nl nc, .slice xl ll lc, .slice xe el ec] 50)).heap.size (w.alloc (.cells #[.int .i64 op, .int .i64 a, .int .i64 b, .int .i64 m, .slice xn nl nc, .slice xl ll lc, .slice xe el ec] 50))
  obtain ⟨d0, d1, d2, d3, d4, d5, d6⟩ := D0.out
  have HSH := Lib.hid HS
  clear HS HTL HTE _ha0 _ha1 _ho z0 z1 z5 z11 zl _ze hel
  go_enter Tryz.func132, Tryz.ntmps132
  go_wp2_with (first
    | (go_at_call 115; refine (H0.out _).mono ?_; rintro e w1 ⟨rfl, k1⟩; have q1 := q0.trans (k1.mono q0.size); obtain ⟨g10, g11, g12, g13, g14, g15, g16⟩ := D0.out.below q1; clear k1 H0)
    | (go_at_call 158; refine (HSH.out _).mono ?_; rintro e w2 ⟨rfl, k2⟩; have q2 := q1.trans (k2.mono q1.size); obtain ⟨g20, g21, g22, g23, g24, g25, g26⟩ := D0.out.below q2; clear k2 HSH))
  have qda := q2.drew
  obtain ⟨r0, r1, r2, r3, r4, r5, r6⟩ := D0.out.below qda
  have DSa := Lib.hid (And.intro r1 r5)
  clear r0 r1 r2 r3 r4 r5 r6
  go_region_held3 (fun w' => w'.cell? ⟨w.heap.size, 1, none⟩ = some (.int .i64 a) ∧ w'.cell? ⟨w.heap.size, 5, none⟩ = some (.slice xl ll lc))
    (first | exact DSa.out | exact DS3.out | exact DS4.out)
    (first
      | (go_at_call 162; refine (H1.out _).mono ?_; rintro e w3 ⟨rfl, k3⟩; have q3 := qda.trans (k3.mono qda.size); obtain ⟨g30, g31, g32, g33, g34, g35, g36⟩ := D0.out.below q3; clear k3 H1; have DS3 := Lib.hid (And.intro g31 g35))
      | (go_at_call 114; refine (HL.out _ (HB0.out.trans (q3.mono HB0.out.size))).mono ?_; rintro e w4 ⟨rfl, k4⟩; have q4 := q3.trans (k4.mono q3.size); obtain ⟨g40, g41, g42, g43, g44, g45, g46⟩ := D0.out.below q4; clear k4 HL; have DS4 := Lib.hid (And.intro g41 g45)))
  all_goals
    go_wp2_with fail
    have qdb := q4.drew
    obtain ⟨r0, r1, r2, r3, r4, r5, r6⟩ := D0.out.below qdb
    have DSb := Lib.hid r6
    clear r0 r1 r2 r3 r4 r5 r6
    go_region_held3 (fun w' => w'.cell? ⟨w.heap.size, 6, none⟩ = some (.slice xe el ec))
      (first | exact DSb.out | exact DS5.out | exact DS6.out)
      (first
        | (go_at_call 115; refine (H5.out _).mono ?_; rintro e w5 ⟨rfl, k5⟩; have q5 := qdb.trans (k5.mono qdb.size); obtain ⟨g50, g51, g52, g53, g54, g55, g56⟩ := D0.out.below q5; clear k5 H5; have DS5 := Lib.hid g56)
        | (go_at_call 114; refine (HE.out _ (HB0.out.trans (q5.mono HB0.out.size))).mono ?_; rintro e w6 ⟨rfl, k6⟩; have q6 := q5.trans (k6.mono q5.size); obtain ⟨g60, g61, g62, g63, g64, g65, g66⟩ := D0.out.below q6; clear k6 HE; have DS6 := Lib.hid g66))
    all_goals
      go_wp2_with (first | (go_at_call 115; refine (H11.out _).mono ?_; rintro e w7 ⟨rfl, k7⟩; have q7 := q6.trans (k7.mono q6.size); obtain ⟨g70, g71, g72, g73, g74, g75, g76⟩ := D0.out.below q7; clear k7 H11))
      go_ret
      exact ⟨rfl, HB0.out.trans (q7.mono HB0.out.size)⟩
end Go.Proofs.YtekonefnniaheaaGreat
namespace Go.Proofs.YtekonefnniaheaaGreat
open Go.RowKit

/-- What counting comes to in the reference's words. -/
def cR (d n : Nat) (l : List Ins) : Int := if okL d l = true ∧ n + sizL l ≤ 8192 then ((n + sizL l : Nat) : Int) else -1
theorem okI_plain {d : Nat} {c : Ins} (h : ¬ (2 ≤ c.op ∧ c.op ≤ 4)) : okI d c = mayI c := by rw [okI_eq, if_neg h, Bool.and_true]
mutual
theorem inI_ok : ∀ (d : Nat) (c : Ins), inI d c = if okL (d + 1) c.l = true ∧ sizL c.l ≤ 8192 ∧ okL (d + 1) c.e = true ∧ sizL c.e ≤ 8192 then ((sizL c.l + sizL c.e : Nat) : Int) else -1
  | d, .mk op a b m n l e => by
    have h1 := cntL_ok (d + 1) 0 l (by decide)
    have h2 := cntL_ok (d + 1) 0 e (by decide)
    unfold cR at h1 h2
    rw [inI, show ((0 : Nat) : Int) = 0 from rfl] at *
    rw [h1, h2]
    rw [Nat.zero_add, Nat.zero_add]
    show _ = if okL (d + 1) l = true ∧ sizL l ≤ 8192 ∧ okL (d + 1) e = true ∧ sizL e ≤ 8192 then ((sizL l + sizL e : Nat) : Int) else -1
    by_cases a1 : okL (d + 1) l = true ∧ sizL l ≤ 8192
    · by_cases a2 : okL (d + 1) e = true ∧ sizL e ≤ 8192
      · rw [if_pos a1, if_pos a2, if_neg (by omega), if_pos ⟨a1.1, a1.2, a2.1, a2.2⟩]
        omega
      · rw [if_neg a2, if_pos (by omega), if_neg (fun q => a2 q.2.2)]
    · rw [if_neg a1, if_pos (by omega), if_neg (fun q => a1 ⟨q.1, q.2.1⟩)]
theorem cntL_ok : ∀ (d n : Nat) (l : List Ins), n ≤ 8192 → cntL d n l = cR d n l
  | d, n, [], h => by
    unfold cR
    rw [cntL, okL, sizL, if_pos ⟨rfl, by omega⟩]
    rfl
  | d, n, c :: r, h => by
    have h1 := inI_ok d c
    unfold cR
    rw [cntL, okL, sizL, sizI_eq]
    by_cases hm : mayI c = false
    · rw [if_pos hm, if_neg (fun q => by have := q.1; rw [okI_eq, hm] at this; simp at this)]
    · rw [if_neg hm]
      have hm' : mayI c = true := by simpa using hm
      by_cases hb : 2 ≤ c.op ∧ c.op ≤ 4
      · rw [if_pos hb]
        by_cases hd : d = 32
        · rw [if_pos hd, if_neg (fun q => by have := q.1; rw [okI_eq, if_pos hb, hd] at this; simp at this)]
        · rw [if_neg hd]
          have hoc : okI d c = (okL (d + 1) c.l && okL (d + 1) c.e) := by rw [okI_eq, hm', if_pos hb, decide_eq_true hd, Bool.true_and, Bool.true_and]
          rw [hoc]
          by_cases hi : okL (d + 1) c.l = true ∧ sizL c.l ≤ 8192 ∧ okL (d + 1) c.e = true ∧ sizL c.e ≤ 8192
          · rw [if_pos hi] at h1
            rw [h1, if_neg (by omega), hi.1, hi.2.2.1, Bool.true_and, Bool.true_and]
            by_cases hs : n + 1 + (sizL c.l + sizL c.e) ≤ 8192
            · rw [if_neg (by omega)]
              have h2 := cntL_ok d (n + 1 + (sizL c.l + sizL c.e)) r hs
              unfold cR at h2
              rw [show (n : Int) + 1 + ((sizL c.l + sizL c.e : Nat) : Int) = ((n + 1 + (sizL c.l + sizL c.e) : Nat) : Int) by omega, h2, show n + (1 + sizL c.l + sizL c.e + sizL r) = n + 1 + (sizL c.l + sizL c.e) + sizL r by omega]
            · rw [if_pos (by omega), if_neg (fun q => hs (by omega))]
          · rw [if_neg hi] at h1
            rw [h1, if_pos (by decide), if_neg (fun q => hi ?_)]
            obtain ⟨q1, q2⟩ := q
            simp only [Bool.and_eq_true] at q1
            exact ⟨q1.1.1, by omega, q1.1.2, by omega⟩
      · rw [if_neg hb, okI_plain hb, hm', Bool.true_and]
        obtain ⟨e1, e2, e3⟩ := mayI_parts hm'
        have hl : c.l = [] := e2.resolve_left (fun q => hb (shapeV_two q))
        have he : c.e = [] := e3.resolve_left (fun q => hb (by omega))
        rw [hl, he, sizL]
        by_cases hs : n + 1 ≤ 8192
        · rw [if_neg (by omega)]
          have h2 := cntL_ok d (n + 1) r hs
          unfold cR at h2
          rw [show (n : Int) + 1 = ((n + 1 : Nat) : Int) by omega, h2, show n + (1 + 0 + 0 + sizL r) = n + 1 + sizL r by omega]
        · rw [if_pos (by omega), if_neg (fun q => hs (by omega))]
end
end Go.Proofs.YtekonefnniaheaaGreat
namespace Go.Proofs.YtekonefnniaheaaGreat
open Go.RowKit Go.Deep
open Leb (putU putS)

theorem ops_hi {op : Int} (h : (shapeV op).2 = 0) (hi : 64512 ≤ op) : (shapeV op).1 = 8 ∨ (shapeV op).1 = 9 := by
  by_cases hm : op ∈ nameOps
  · have key : ∀ op ∈ nameOps, 64512 ≤ op → (shapeV op).1 = 8 ∨ (shapeV op).1 = 9 := by decide
    exact key op hm hi
  · exfalso
    rw [shapeV_other hm] at h
    by_cases hs : 0 < (Num.sig op).1
    · rcases Num.sig_cases op with ⟨h, k⟩ | ⟨h, h', k⟩ | ⟨h, k⟩ | ⟨h, k⟩ | ⟨h, k⟩ | ⟨h, k⟩ | ⟨h, h', k⟩ | ⟨h, h', k⟩ | ⟨h, k⟩ | ⟨h, k⟩ | ⟨h, h', k⟩ | ⟨h, h', k⟩ | ⟨h, h', k⟩ | ⟨h, h', k⟩ | ⟨h, k⟩
      all_goals first
        | omega
        | (exfalso
           unfold Num.sigTup Num.tup3 at k
           simp only [Value.tuple.injEq, Array.mk.injEq, List.cons.injEq, Value.int.injEq, true_and] at k
           omega)
    rw [if_neg hs] at h
    by_cases hw : 0 < (Mem.width op).1
    · have hm2 : op ∈ Mem.wOps := by
        by_cases q : op ∈ Mem.wOps
        · exact q
        · unfold Mem.width at hw
          rw [if_neg q] at hw
          exact absurd hw (by decide)
      have key : ∀ op ∈ Mem.wOps, op < 64512 := by decide
      have := key op hm2
      omega
    rw [if_neg hw] at h
    split at h
    · cases h
    split at h
    · cases h
    · cases h
theorem putI_plain {c : Ins} {sh : Int} (h : shapeV c.op = (sh, 0)) (h2 : sh ≠ 2) : putI c = opB c.op ++ fldB sh c.a c.b c.m c.n := by
  rw [putI_eq, h, if_neg h2, List.append_nil]
set_option maxRecDepth 100000 in
set_option maxHeartbeats 1000000 in
theorem refSingle_any (d : Nat) (c : Ins) (xn xl xe : Option Addr) (nc lc ec : Nat) (w : World) (hok : okI d c = true) (hwf : wfI c) (hvn : View w xn c.n.length c.n) (zl : (putL c.l).length ≤ 100000000) (ze : (putL c.e).length ≤ 100000000)
    (HTL : (shapeV c.op).1 = 2 → ∀ w', Below w.heap.size w w' → Calls Tryz.prog 114 #[.slice xl c.l.length lc] w' fun e w2 => e = .returned (.string (strOfNums (putL c.l))) ∧ Below w'.heap.size w' w2)
    (HTE : (shapeV c.op).1 = 2 → ∀ w', Below w.heap.size w w' → Calls Tryz.prog 114 #[.slice xe c.e.length ec] w' fun e w2 => e = .returned (.string (strOfNums (putL c.e))) ∧ Below w'.heap.size w' w2) :
    Calls Tryz.prog 132 #[.agg #[.int .i64 c.op, .int .i64 c.a, .int .i64 c.b, .int .i64 c.m, .slice xn c.n.length nc, .slice xl c.l.length lc, .slice xe c.e.length ec]] w fun e w' => e = .returned (.string (strOfNums (putI c))) ∧ Below w.heap.size w w' := by
  have hmay : mayI c = true := by
    rw [okI_eq, Bool.and_eq_true] at hok
    exact hok.1
  have her := (mayI_parts hmay).1
  obtain ⟨hbm, hbb, hbn, hbr, _⟩ := mayI_bounds hmay
  have hw2 := (wfI_eq c).1 hwf
  have hin := ops_in her
  have HS : ∀ sh, shapeV c.op = (sh, 0) → ∀ w, Calls Tryz.prog 158 #[.int .i64 c.op] w fun e w' => e = .returned (.tuple #[.int .i64 sh, .int .i64 0]) ∧ Below w.heap.size w w' := fun sh h w => by
    have := refShape_any c.op w
    rw [h] at this
    exact this
  have hr : ∀ i, i < c.n.length → c.n.getD i 0 ≤ 9223372036854775807 := fun i hi => by have := hbr i hi; omega
  have lo : ∀ sh, shapeV c.op = (sh, 0) → sh ≠ 8 → sh ≠ 9 → c.op < 64512 := fun sh h h8 h9 => by
    by_cases q : c.op < 64512
    · exact q
    · rcases ops_hi her (by omega) with k | k
      · rw [h] at k; exact absurd k h8
      · rw [h] at k; exact absurd k h9
  rcases shapeV_in c.op her with s | s | s | s | s | s | s | s | s | s | s
  · rw [putI_plain s (by decide)]
    exact refSingle_s1 _ _ _ _ _ _ _ _ _ _ _ _ _ _ _ rfl hvn hw2.1.1 hw2.1.2 (by omega) hbb.1 hbb.2 hbn hr (by omega) (by omega) (HS 1 s) (lo 1 s (by decide) (by decide))
  · have hb2 : 2 ≤ c.op ∧ c.op ≤ 4 := shapeV_two (by rw [s])
    have hput := putI_eq c
    rw [s] at hput
    rw [if_pos rfl, opB_lo (by omega), show fldB 2 c.a c.b c.m c.n = putS c.a from rfl] at hput
    by_cases he : c.e.length = 0
    · rw [if_pos he, List.nil_append] at hput
      have := refSingle_s2 c.op c.a c.b c.m xn xl xe c.n.length c.l.length c.e.length nc lc ec w hw2.1.1 hw2.1.2 hb2 (HS 2 s) he (strOfNums (putL c.l)) (strOfNums (putL c.e)) (by rw [strOfNums_size]; exact zl) (by rw [strOfNums_size]; exact ze) (HTL (by rw [s])) (HTE (by rw [s]))
      rw [hput]
      rw [strOfNums_app, strOfNums_app, strOfNums_app, List.append_assoc, List.append_assoc] at this
      exact this
    · rw [if_neg he] at hput
      have := refSingle_s2e c.op c.a c.b c.m xn xl xe c.n.length c.l.length c.e.length nc lc ec w hw2.1.1 hw2.1.2 hb2 (HS 2 s) (by omega) (strOfNums (putL c.l)) (strOfNums (putL c.e)) (by rw [strOfNums_size]; exact zl) (by rw [strOfNums_size]; exact ze) (HTL (by rw [s])) (HTE (by rw [s]))
      rw [hput]
      simp only [strOfNums_app, List.append_assoc] at this
      exact this
  · rw [putI_plain s (by decide)]
    exact refSingle_s3 _ _ _ _ _ _ _ _ _ _ _ _ _ _ _ rfl hvn hw2.1.1 hw2.1.2 (by omega) hbb.1 hbb.2 hbn hr (by omega) (by omega) (HS 3 s) (lo 3 s (by decide) (by decide))
  · rw [putI_plain s (by decide)]
    exact refSingle_s4 _ _ _ _ _ _ _ _ _ _ _ _ _ _ _ rfl hvn hw2.1.1 hw2.1.2 (by omega) hbb.1 hbb.2 hbn hr (by omega) (by omega) (HS 4 s) (lo 4 s (by decide) (by decide))
  · rw [putI_plain s (by decide)]
    exact refSingle_s5 _ _ _ _ _ _ _ _ _ _ _ _ _ _ _ rfl hvn hw2.1.1 hw2.1.2 (by omega) hbb.1 hbb.2 hbn hr (by omega) (by omega) (HS 5 s) (lo 5 s (by decide) (by decide))
  · rw [putI_plain s (by decide)]
    exact refSingle_s6 _ _ _ _ _ _ _ _ _ _ _ _ _ _ _ rfl hvn hw2.1.1 hw2.1.2 (by omega) hbb.1 hbb.2 hbn hr (by omega) (by omega) (HS 6 s) (lo 6 s (by decide) (by decide))
  · rw [putI_plain s (by decide)]
    by_cases hm : c.m = 0
    · exact refSingle_s7 _ _ _ _ _ _ _ _ _ _ _ _ _ _ _ rfl hvn hw2.1.1 hw2.1.2 (by omega) hbb.1 hbb.2 hbn hr (by omega) (by omega) (HS 7 s) (lo 7 s (by decide) (by decide)) hm
    · exact refSingle_s7m _ _ _ _ _ _ _ _ _ _ _ _ _ _ _ rfl hvn hw2.1.1 hw2.1.2 (by omega) hbb.1 hbb.2 hbn hr (by omega) (by omega) (HS 7 s) (lo 7 s (by decide) (by decide)) hm
  · rw [putI_plain s (by decide)]
    by_cases q : c.op < 64512
    · exact refSingle_s8 _ _ _ _ _ _ _ _ _ _ _ _ _ _ _ rfl hvn hw2.1.1 hw2.1.2 (by omega) hbb.1 hbb.2 hbn hr (by omega) (by omega) (HS 8 s) q
    · exact refSingle_s8h _ _ _ _ _ _ _ _ _ _ _ _ _ _ _ rfl hvn hw2.1.1 hw2.1.2 (by omega) hbb.1 hbb.2 hbn hr (by omega) (by omega) (HS 8 s) q
  · rw [putI_plain s (by decide)]
    by_cases q : c.op < 64512
    · exact refSingle_s9 _ _ _ _ _ _ _ _ _ _ _ _ _ _ _ rfl hvn hw2.1.1 hw2.1.2 (by omega) hbb.1 hbb.2 hbn hr (by omega) (by omega) (HS 9 s) q
    · exact refSingle_s9h _ _ _ _ _ _ _ _ _ _ _ _ _ _ _ rfl hvn hw2.1.1 hw2.1.2 (by omega) hbb.1 hbb.2 hbn hr (by omega) (by omega) (HS 9 s) q
  · rw [putI_plain s (by decide)]
    exact refSingle_s10 _ _ _ _ _ _ _ _ _ _ _ _ _ _ _ rfl hvn hw2.1.1 hw2.1.2 (by omega) hbb.1 hbb.2 hbn hr (by omega) (by omega) (HS 10 s) (lo 10 s (by decide) (by decide))
  · rw [putI_plain s (by decide)]
    exact refSingle_s11 _ _ _ _ _ _ _ _ _ _ _ _ _ _ _ rfl hvn hw2.1.1 hw2.1.2 (by omega) hbb.1 hbb.2 hbn hr (by omega) (by omega) (HS 11 s) (lo 11 s (by decide) (by decide))
set_option maxRecDepth 100000 in
set_option maxHeartbeats 4000000 in
theorem refText_all (N : Nat) : ∀ (d : Nat) (ls : List Ins) (x : Option Addr) (len cap : Nat) (w : World), SizeOf.sizeOf ls < N → okL d ls = true → wfL ls → InsIn w x len cap ls → (putL ls).length ≤ 100000000 →
    Calls Tryz.prog 114 #[.slice x len cap] w fun e w' => e = .returned (.string (strOfNums (putL ls))) ∧ Below w.heap.size w w' := by
  induction N with
  | zero => exact fun _ _ _ _ _ _ h => absurd h (by omega)
  | succ N ih =>
    intro d ls x len cap w hN hok hwf hin hz
    obtain ⟨hlen, hle, htop, hlies⟩ := hin
    have HLEN := Lib.hid hlen
    have HLIES := Lib.hid hlies
    have HIH := Lib.hid ih
    have HNN := Lib.hid hN
    have HOK := Lib.hid hok
    have HWF := Lib.hid hwf
    have HZ := Lib.hid hz
    clear ih hlies hN hlen hok hwf hz
    go_enter Tryz.func114, Tryz.ntmps114
    go_wp2_with fail
    go_loopw [3, 4] (fun sv iv wr => ∃ (i : Nat), iv = .int .i64 i ∧ i ≤ len ∧ sv = .string (strOfNums (putL (ls.take i))) ∧ Below w.heap.size w wr) (fun _ iv _ => len - (intOf iv).toNat)
    case atStart =>
      refine ⟨0, rfl, by omega, ?_, Below.refl _ _⟩
      rw [List.take_zero, putL]
      rfl
    case round =>
      obtain ⟨i, rfl, hi, rfl, hb⟩ := hrel
      have HB := Lib.hid hb
      by_cases hlt : i < len
      · have hil : i < ls.length := by rw [← HLEN.out]; exact hlt
        obtain ⟨b, off, rfl⟩ := LiesL.addr HLIES.out (by omega)
        have hli := (LiesL.at HLIES.out i hil).below hb
        have hsz : SizeOf.sizeOf (ls.getD i default) < SizeOf.sizeOf ls := by
          rw [List.getD_eq_getElem?_getD, List.getElem?_eq_getElem hil]
          exact List.sizeOf_lt_of_mem (List.getElem_mem hil)
        have hoc := okL_at HOK.out hil
        have hwc := wfL_at HWF.out hil
        have hsp := putL_split hil
        have hpt := putL_take hil
        have hzz := HZ.out
        revert hli hsz hoc hwc hsp hpt
        generalize ls.getD i default = c
        intro hli hsz hoc hwc hsp hpt
        obtain ⟨xn, nc, xl, lc, xe, ec, c0, c1, c2, c3, c4, c5, c6, hvn, hnc, hncm, hl, he⟩ := hli.may
        have hsl : SizeOf.sizeOf c.l < N ∧ SizeOf.sizeOf c.e < N := by
          have := HNN.out
          cases c with
          | mk op a b' m n' l' e' =>
            simp only [Ins.mk.sizeOf_spec] at hsz
            simp only [Ins.l, Ins.e]
            omega
        have hpl := congrArg List.length (putI_eq c)
        rw [List.length_append, List.length_append] at hpl
        have hsub : (shapeV c.op).1 = 2 → (putL c.l).length + (putL c.e).length ≤ 100000000 := fun h2 => by
          rw [if_pos h2, List.length_append, List.length_append] at hpl
          by_cases h0 : c.e.length = 0
          · have : c.e = [] := List.length_eq_zero_iff.1 h0
            rw [this, putL, List.length_nil]
            omega
          · rw [if_neg h0, List.length_cons] at hpl
            omega
        have hnil : ¬ (shapeV c.op).1 = 2 → c.l = [] ∧ c.e = [] := fun h2 => by
          have hmay : mayI c = true := by
            rw [okI_eq, Bool.and_eq_true] at hoc
            exact hoc.1
          obtain ⟨_, e2, e3⟩ := mayI_parts hmay
          refine ⟨e2.resolve_left h2, e3.resolve_left fun q => h2 ?_⟩
          rw [q]
          decide
        have hz2 : (putL c.l).length ≤ 100000000 ∧ (putL c.e).length ≤ 100000000 := by
          by_cases h2 : (shapeV c.op).1 = 2
          · have := hsub h2
            omega
          · rw [(hnil h2).1, (hnil h2).2, putL]
            exact ⟨Nat.zero_le _, Nat.zero_le _⟩
        have hoks : (shapeV c.op).1 = 2 → okL (d + 1) c.l = true ∧ okL (d + 1) c.e = true := fun h2 => by
          rw [okI_eq, if_pos (shapeV_two h2), Bool.and_eq_true, Bool.and_eq_true, Bool.and_eq_true] at hoc
          exact hoc.2.2
        have hw2 := (wfI_eq c).1 hwc
        have HS := Lib.hid (refSingle_any d c xn xl xe nc lc ec wr hoc hwc hvn hz2.1 hz2.2 (fun h2 w' hb' => HIH.out (d + 1) c.l xl c.l.length lc w' hsl.1 (hoks h2).1 hw2.2.1 (hl.below hb') hz2.1) (fun h2 w' hb' => HIH.out (d + 1) c.e xe c.e.length ec w' hsl.2 (hoks h2).2 hw2.2.2 (he.below hb') hz2.2))
        have HP : Hid (strOfNums (putL (ls.take i)) ++ strOfNums (putI c) = strOfNums (putL (ls.take (i + 1)))) := Lib.hid (by rw [hpt, strOfNums_app])
        have hno : ¬ 9223372036854775807 < (strOfNums (putL (ls.take i))).size + (strOfNums (putI c)).size := by
          rw [strOfNums_size, strOfNums_size]
          omega
        clear hpl hsub hnil hz2 hoks hw2 hsl hsz hoc hwc hsp hpt hzz hvn hnc hncm hl he hli
        revert HS HP hno
        generalize strOfNums (putL (ls.take i)) = S0
        generalize strOfNums (putI c) = S1
        intro HS HP hno
        go_wp2_with (go_at_call 132; refine HS.out.mono ?_; rintro e w1 ⟨rfl, hb2⟩; have hb3 := HB.out.trans (hb2.mono HB.out.size))
        exact ⟨⟨i + 1, by go_num, by omega, congrArg Value.string HP.out, hb3⟩, by simp [intOf]; omega⟩
      · have hie : i = len := by omega
        subst hie
        have HE : Hid (strOfNums (putL (ls.take i)) = strOfNums (putL ls)) := Lib.hid (by rw [HLEN.out, List.take_length])
        go_wp2_with fail
        go_ret
        rw [HE.out]
        exact ⟨rfl, HB.out⟩
set_option maxRecDepth 100000 in
theorem refPut_any (ls : List Ins) (x : Option Addr) (len cap : Nat) (w : World) (h : InsIn w x len cap ls) (hwf : wfL ls) :
    Calls Tryz.prog 65 #[.slice x len cap] w fun e w' => e = .returned (.tuple #[.string (strOfNums (putV ls).1), .int .i64 (putV ls).2]) ∧ Below w.heap.size w w' := by
  have HC := Lib.hid (refCount_all _ 0 ls x len cap w (Nat.lt_succ_self _) (by decide) h)
  have hc := cntL_ok 0 0 ls (by decide)
  rw [show ((0 : Nat) : Int) = 0 from rfl] at hc
  rw [hc] at HC
  unfold cR at HC
  unfold putV cP
  by_cases hok : okL 0 ls = true ∧ 0 + sizL ls ≤ 8192
  · rw [if_pos hok, if_pos rfl]
    rw [if_pos hok] at HC
    have hlen := putL_len 0 ls hok.1
    have HT := Lib.hid (fun w' (hb : Below w.heap.size w w') => refText_all _ 0 ls x len cap w' (Nat.lt_succ_self _) hok.1 hwf (h.below hb) (by omega))
    have HB := Lib.hid (refByte1_any 11)
    have HR : strOfNums (putL ls ++ [11]) = strOfNums (putL ls) ++ strOfNums [11 % 256] := by rw [strOfNums_app]; rfl
    have hno : ¬ 9223372036854775807 < (strOfNums (putL ls)).size + (strOfNums [11 % 256]).size := by
      rw [strOfNums_size, strOfNums_size]
      show ¬ _ < _ + 1
      omega
    show Calls _ _ _ _ fun e w' => e = .returned (.tuple #[.string (strOfNums (putL ls ++ [11])), .int .i64 0]) ∧ _
    rw [HR]
    clear HR hlen hok hc hwf h
    revert HC HT HB hno
    generalize strOfNums (putL ls) = S0
    generalize strOfNums [11 % 256] = S1
    generalize 0 + sizL ls = k
    intro HC HT HB hno
    have hk : ¬ (k : Int) < 0 := by omega
    go_enter Tryz.func65, Tryz.ntmps65
    go_wp2_with (first
      | (go_at_call 111; refine HC.out.mono ?_; rintro e w1 ⟨rfl, hb1⟩)
      | (go_at_call 114; refine (HT.out _ hb1).mono ?_; rintro e w2 ⟨rfl, hb2⟩; have hb3 := hb1.trans (hb2.mono hb1.size))
      | (go_at_call 115; refine (HB.out _).mono ?_; rintro e w3 ⟨rfl, hb4⟩; have hb5 := hb3.trans (hb4.mono hb3.size)))
    go_ret2
    exact ⟨rfl, hb5⟩
  · rw [if_neg hok, if_neg (by decide)]
    rw [if_neg hok] at HC
    clear hok hc hwf h
    go_enter Tryz.func65, Tryz.ntmps65
    go_wp2_with (go_at_call 111; refine HC.out.mono ?_; rintro e w1 ⟨rfl, hb1⟩)
    go_ret2
    exact ⟨rfl, hb1⟩
end Go.Proofs.YtekonefnniaheaaGreat
namespace Go.Proofs.YtekonefnniaheaaGreat
open Go.RowKit Go.Deep
open Leb (putU putS)

set_option maxRecDepth 100000 in
set_option maxHeartbeats 2000000 in
theorem rmConst_any (c : Ins) (xn : Option Addr) (nc : Nat) (xl : Option Addr) (lc : Nat) (xe : Option Addr) (ec : Nat) (w : World) (hc : InsV w c xn nc xl lc xe ec) (hwf : wfI c) :
    Calls Tryz.prog 62 #[.agg #[.int .i64 c.op, .int .i64 c.a, .int .i64 c.b, .int .i64 c.m, .slice xn c.n.length nc, .slice xl c.l.length lc, .slice xe c.e.length ec]] w fun e w' => e = .returned (.string (strOfNums (putV [c]).1)) ∧ Below w.heap.size w w' := by
  have bk := BlkAt.new w #[.int .i64 c.op, .int .i64 c.a, .int .i64 c.b, .int .i64 c.m, .slice xn c.n.length nc, .slice xl c.l.length lc, .slice xe c.e.length ec] 50
  obtain ⟨c0, c1, c2, c3, c4, c5, c6⟩ := bk.seven'
  have hsz : (w.alloc (.cells #[.int .i64 c.op, .int .i64 c.a, .int .i64 c.b, .int .i64 c.m, .slice xn c.n.length nc, .slice xl c.l.length lc, .slice xe c.e.length ec] 50)).heap.size = w.heap.size + 1 := by simp
  have HB := Lib.hid (((Below.refl w.heap.size w).alloc (Nat.le_refl _) (.cells #[.int .i64 c.op, .int .i64 c.a, .int .i64 c.b, .int .i64 c.m, .slice xn c.n.length nc, .slice xl c.l.length lc, .slice xe c.e.length ec] 50)).alloc (by rw [hsz]; omega) (.cells #[.int .i64 c.op, .int .i64 c.a, .int .i64 c.b, .int .i64 c.m, .slice xn c.n.length nc, .slice xl c.l.length lc, .slice xe c.e.length ec] 50))
  have HI : InsIn ((w.alloc (.cells #[.int .i64 c.op, .int .i64 c.a, .int .i64 c.b, .int .i64 c.m, .slice xn c.n.length nc, .slice xl c.l.length lc, .slice xe c.e.length ec] 50)).alloc (.cells #[.int .i64 c.op, .int .i64 c.a, .int .i64 c.b, .int .i64 c.m, .slice xn c.n.length nc, .slice xl c.l.length lc, .slice xe c.e.length ec] 50)) (some ⟨w.heap.size + 1, 0, none⟩) 1 1 [c] := hc.lies HB.out (hsz ▸ BlkAt.new (w.alloc (.cells #[.int .i64 c.op, .int .i64 c.a, .int .i64 c.b, .int .i64 c.m, .slice xn c.n.length nc, .slice xl c.l.length lc, .slice xe c.e.length ec] 50)) #[.int .i64 c.op, .int .i64 c.a, .int .i64 c.b, .int .i64 c.m, .slice xn c.n.length nc, .slice xl c.l.length lc, .slice xe c.e.length ec] 50)
  have HR := Lib.hid (refPut_any [c] _ 1 1 _ HI (wfL_one hwf))
  revert HR
  generalize (putV [c]).2 = pe
  generalize strOfNums (putV [c]).1 = ps
  intro HR
  clear hc hwf HI hsz
  go_enter Tryz.func62, Tryz.ntmps62
  go_wp2_with (go_at_call 65; refine HR.out.mono ?_; rintro e w1 ⟨rfl, k1⟩)
  go_ret
  exact ⟨rfl, HB.out.trans (k1.mono HB.out.size)⟩
end Go.Proofs.YtekonefnniaheaaGreat
set_option linter.unusedVariables false
namespace Go.Proofs.YtekonefnniaheaaGreat
open Go.RowKit Go.Deep
open Leb (putU putS)

/-- May this import be, as the reference asks it. -/
def rmImp (n1 n2 : Bool) (x : Imp) : Bool :=
  if n1 = false then false else if n2 = false then false else
    if x.kind = 0 then rmIn x.t && (!x.mu && rmZero x.mn x.mx)
    else if x.kind = 1 ∨ x.kind = 2 then decide (x.t = 0) && (!x.mu && rmLim x.mn x.mx)
    else if x.kind = 3 then decide ((typeV x.t).2 = 0) && rmZero x.mn x.mx else false
theorem bLim_len (mn mx : Int) : (bLim mn mx).length ≤ 30 := by
  have h1 := Leb.putU_length mn
  have h2 := Leb.putU_length mx
  unfold bLim
  split
  · simp only [List.length_append, List.length_cons, List.length_nil]; omega
  · simp only [List.length_append, List.length_cons, List.length_nil]; omega
theorem rmLim_eq (mn mx : Int) : rmLim mn mx = oLim mn mx := by
  unfold rmLim oLim oIdx rmIn
  by_cases h : mx = -1
  · subst h
    simp
  · rw [if_neg h, decide_eq_false h, Bool.false_or]
theorem rmImp_eq (x : Imp) : rmImp (nameB x.mod) (nameB x.name) x = oImp x := by
  unfold rmImp oImp
  cases nameB x.mod with
  | false => simp
  | true =>
    cases nameB x.name with
    | false => simp
    | true =>
      rw [if_neg (by decide), if_neg (by decide), Bool.and_self, Bool.true_and]
      unfold oKind oImpK ownB
      rw [rmLim_eq]
      by_cases h0 : x.kind = 0
      · rw [if_pos h0, if_pos h0, if_pos h0, h0]
        unfold oIdx rmIn rmZero
        simp
      · rw [if_neg h0, if_neg h0, if_neg h0]
        by_cases h1 : x.kind = 1
        · rw [if_pos (.inl h1), if_pos h1, if_neg (by omega), decide_eq_true (p := 0 ≤ x.kind ∧ x.kind ≤ 3) (by omega), Bool.true_and]
          cases oLim x.mn x.mx <;> cases x.mu <;> simp
        · by_cases h2 : x.kind = 2
          · rw [if_pos (.inr h2), if_neg h1, if_pos h2, if_neg (by omega), decide_eq_true (p := 0 ≤ x.kind ∧ x.kind ≤ 3) (by omega), Bool.true_and]
            cases oLim x.mn x.mx <;> cases x.mu <;> simp
          · rw [if_neg (by omega), if_neg h1, if_neg h2]
            by_cases h3 : x.kind = 3
            · rw [if_pos h3, if_pos h3, if_pos h3, decide_eq_true (p := 0 ≤ x.kind ∧ x.kind ≤ 3) (by omega), Bool.true_and]
              unfold oTyp rmZero
              rfl
            · rw [if_neg h3, decide_eq_false (p := 0 ≤ x.kind ∧ x.kind ≤ 3) (by omega), Bool.false_and, Bool.false_and]
set_option maxRecDepth 100000 in
set_option maxHeartbeats 2000000 in
theorem rmImp_n1 (md nm : ByteArray) (k t : Int) (mu : Bool) (mn mx : Int) (w : World) (h1 : md.size ≤ 1048576) (h2 : nm.size ≤ 1048576) (e1 : nameB md = false) :
    Calls Tryz.prog 108 #[.agg #[.string md, .string nm, .int .i64 k, .int .i64 t, .bool mu, .int .i64 mn, .int .i64 mx]] w fun e w' => e = .returned (.bool false) ∧ Below w.heap.size w w' := by
  have bk := BlkAt.new w #[.string md, .string nm, .int .i64 k, .int .i64 t, .bool mu, .int .i64 mn, .int .i64 mx] 85
  have HB := Lib.hid ((Below.refl w.heap.size w).alloc (Nat.le_refl _) (.cells #[.string md, .string nm, .int .i64 k, .int .i64 t, .bool mu, .int .i64 mn, .int .i64 mx] 85))
  have q0 := Below.refl (w.alloc (.cells #[.string md, .string nm, .int .i64 k, .int .i64 t, .bool mu, .int .i64 mn, .int .i64 mx] 85)).heap.size (w.alloc (.cells #[.string md, .string nm, .int .i64 k, .int .i64 t, .bool mu, .int .i64 mn, .int .i64 mx] 85))
  have D0 := Lib.hid (fun (w2 : World) (h : Below (w.alloc (.cells #[.string md, .string nm, .int .i64 k, .int .i64 t, .bool mu, .int .i64 mn, .int .i64 mx] 85)).heap.size (w.alloc (.cells #[.string md, .string nm, .int .i64 k, .int .i64 t, .bool mu, .int .i64 mn, .int .i64 mx] 85)) w2) => (bk.below h).seven')
  obtain ⟨c00, c01, c02, c03, c04, c05, c06⟩ := D0.out _ q0
  have HN1 := Lib.hid (rmName_any md h1)
  have HN2 := Lib.hid (rmName_any nm h2)
  clear bk h1 h2
  rw [e1] at HN1
  clear e1 HN2
  go_enter Tryz.func108, Tryz.ntmps108
  go_wp2_with (first
    | (go_at_call 52; refine (HN1.out _).mono ?_; rintro e w1 ⟨rfl, k1⟩; replace q0 := q0.trans (k1.mono q0.size); obtain ⟨c10, c11, c12, c13, c14, c15, c16⟩ := D0.out _ q0; clear k1 HN1))
  all_goals go_ret
  all_goals exact ⟨rfl, HB.out.trans (q0.mono HB.out.size)⟩
set_option maxRecDepth 100000 in
set_option maxHeartbeats 2000000 in
theorem rmImp_n2 (md nm : ByteArray) (k t : Int) (mu : Bool) (mn mx : Int) (w : World) (h1 : md.size ≤ 1048576) (h2 : nm.size ≤ 1048576) (e1 : nameB md = true) (e2 : nameB nm = false) :
    Calls Tryz.prog 108 #[.agg #[.string md, .string nm, .int .i64 k, .int .i64 t, .bool mu, .int .i64 mn, .int .i64 mx]] w fun e w' => e = .returned (.bool false) ∧ Below w.heap.size w w' := by
  have bk := BlkAt.new w #[.string md, .string nm, .int .i64 k, .int .i64 t, .bool mu, .int .i64 mn, .int .i64 mx] 85
  have HB := Lib.hid ((Below.refl w.heap.size w).alloc (Nat.le_refl _) (.cells #[.string md, .string nm, .int .i64 k, .int .i64 t, .bool mu, .int .i64 mn, .int .i64 mx] 85))
  have q0 := Below.refl (w.alloc (.cells #[.string md, .string nm, .int .i64 k, .int .i64 t, .bool mu, .int .i64 mn, .int .i64 mx] 85)).heap.size (w.alloc (.cells #[.string md, .string nm, .int .i64 k, .int .i64 t, .bool mu, .int .i64 mn, .int .i64 mx] 85))
  have D0 := Lib.hid (fun (w2 : World) (h : Below (w.alloc (.cells #[.string md, .string nm, .int .i64 k, .int .i64 t, .bool mu, .int .i64 mn, .int .i64 mx] 85)).heap.size (w.alloc (.cells #[.string md, .string nm, .int .i64 k, .int .i64 t, .bool mu, .int .i64 mn, .int .i64 mx] 85)) w2) => (bk.below h).seven')
  obtain ⟨c00, c01, c02, c03, c04, c05, c06⟩ := D0.out _ q0
  have HN1 := Lib.hid (rmName_any md h1)
  have HN2 := Lib.hid (rmName_any nm h2)
  clear bk h1 h2
  rw [e1] at HN1
  rw [e2] at HN2
  clear e1 e2
  go_enter Tryz.func108, Tryz.ntmps108
  go_wp2_with (first
    | (go_at_call 52; refine (HN1.out _).mono ?_; rintro e w1 ⟨rfl, k1⟩; replace q0 := q0.trans (k1.mono q0.size); obtain ⟨c10, c11, c12, c13, c14, c15, c16⟩ := D0.out _ q0; clear k1 HN1)
    | (go_at_call 52; refine (HN2.out _).mono ?_; rintro e w2 ⟨rfl, k2⟩; replace q0 := q0.trans (k2.mono q0.size); obtain ⟨c20, c21, c22, c23, c24, c25, c26⟩ := D0.out _ q0; clear k2 HN2))
  all_goals go_ret
  all_goals exact ⟨rfl, HB.out.trans (q0.mono HB.out.size)⟩
set_option maxRecDepth 100000 in
set_option maxHeartbeats 2000000 in
theorem rmImp_k0 (md nm : ByteArray) (k t : Int) (mu : Bool) (mn mx : Int) (w : World) (h1 : md.size ≤ 1048576) (h2 : nm.size ≤ 1048576) (e1 : nameB md = true) (e2 : nameB nm = true) (hk : k = 0) :
    Calls Tryz.prog 108 #[.agg #[.string md, .string nm, .int .i64 k, .int .i64 t, .bool mu, .int .i64 mn, .int .i64 mx]] w fun e w' => e = .returned (.bool (rmIn t && (!mu && rmZero mn mx))) ∧ Below w.heap.size w w' := by
  have bk := BlkAt.new w #[.string md, .string nm, .int .i64 k, .int .i64 t, .bool mu, .int .i64 mn, .int .i64 mx] 85
  have HB := Lib.hid ((Below.refl w.heap.size w).alloc (Nat.le_refl _) (.cells #[.string md, .string nm, .int .i64 k, .int .i64 t, .bool mu, .int .i64 mn, .int .i64 mx] 85))
  have q0 := Below.refl (w.alloc (.cells #[.string md, .string nm, .int .i64 k, .int .i64 t, .bool mu, .int .i64 mn, .int .i64 mx] 85)).heap.size (w.alloc (.cells #[.string md, .string nm, .int .i64 k, .int .i64 t, .bool mu, .int .i64 mn, .int .i64 mx] 85))
  have D0 := Lib.hid (fun (w2 : World) (h : Below (w.alloc (.cells #[.string md, .string nm, .int .i64 k, .int .i64 t, .bool mu, .int .i64 mn, .int .i64 mx] 85)).heap.size (w.alloc (.cells #[.string md, .string nm, .int .i64 k, .int .i64 t, .bool mu, .int .i64 mn, .int .i64 mx] 85)) w2) => (bk.below h).seven')
  obtain ⟨c00, c01, c02, c03, c04, c05, c06⟩ := D0.out _ q0
  have HN1 := Lib.hid (rmName_any md h1)
  have HN2 := Lib.hid (rmName_any nm h2)
  clear bk h1 h2
  rw [e1] at HN1
  rw [e2] at HN2
  clear e1 e2
  subst hk
  have HI := Lib.hid (rmIn_any t)
  have HZ := Lib.hid (rmZero_any mn mx)
  revert HI HZ
  generalize rmIn t = r0
  generalize rmZero mn mx = z0
  intro HI HZ
  cases r0 <;> cases mu
  all_goals
    go_enter Tryz.func108, Tryz.ntmps108
    go_wp2_with (first
      | (go_at_call 52; refine (HN1.out _).mono ?_; rintro e w1 ⟨rfl, k1⟩; replace q0 := q0.trans (k1.mono q0.size); obtain ⟨c10, c11, c12, c13, c14, c15, c16⟩ := D0.out _ q0; clear k1 HN1)
      | (go_at_call 52; refine (HN2.out _).mono ?_; rintro e w2 ⟨rfl, k2⟩; replace q0 := q0.trans (k2.mono q0.size); obtain ⟨c20, c21, c22, c23, c24, c25, c26⟩ := D0.out _ q0; clear k2 HN2)
      | (go_at_call 53; refine (HI.out _).mono ?_; rintro e w9 ⟨rfl, rfl⟩)
      | (go_at_call 127; refine (HZ.out _).mono ?_; rintro e w3 ⟨rfl, k3⟩; replace q0 := q0.trans (k3.mono q0.size); obtain ⟨c30, c31, c32, c33, c34, c35, c36⟩ := D0.out _ q0; clear k3 HZ))
    all_goals go_ret
    all_goals exact ⟨rfl, HB.out.trans (q0.mono HB.out.size)⟩
set_option maxRecDepth 100000 in
set_option maxHeartbeats 2000000 in
theorem rmImp_k12 (md nm : ByteArray) (k t : Int) (mu : Bool) (mn mx : Int) (w : World) (h1 : md.size ≤ 1048576) (h2 : nm.size ≤ 1048576) (e1 : nameB md = true) (e2 : nameB nm = true) (hk : k = 1 ∨ k = 2) :
    Calls Tryz.prog 108 #[.agg #[.string md, .string nm, .int .i64 k, .int .i64 t, .bool mu, .int .i64 mn, .int .i64 mx]] w fun e w' => e = .returned (.bool (decide (t = 0) && (!mu && rmLim mn mx))) ∧ Below w.heap.size w w' := by
  have bk := BlkAt.new w #[.string md, .string nm, .int .i64 k, .int .i64 t, .bool mu, .int .i64 mn, .int .i64 mx] 85
  have HB := Lib.hid ((Below.refl w.heap.size w).alloc (Nat.le_refl _) (.cells #[.string md, .string nm, .int .i64 k, .int .i64 t, .bool mu, .int .i64 mn, .int .i64 mx] 85))
  have q0 := Below.refl (w.alloc (.cells #[.string md, .string nm, .int .i64 k, .int .i64 t, .bool mu, .int .i64 mn, .int .i64 mx] 85)).heap.size (w.alloc (.cells #[.string md, .string nm, .int .i64 k, .int .i64 t, .bool mu, .int .i64 mn, .int .i64 mx] 85))
  have D0 := Lib.hid (fun (w2 : World) (h : Below (w.alloc (.cells #[.string md, .string nm, .int .i64 k, .int .i64 t, .bool mu, .int .i64 mn, .int .i64 mx] 85)).heap.size (w.alloc (.cells #[.string md, .string nm, .int .i64 k, .int .i64 t, .bool mu, .int .i64 mn, .int .i64 mx] 85)) w2) => (bk.below h).seven')
  obtain ⟨c00, c01, c02, c03, c04, c05, c06⟩ := D0.out _ q0
  have HN1 := Lib.hid (rmName_any md h1)
  have HN2 := Lib.hid (rmName_any nm h2)
  clear bk h1 h2
  rw [e1] at HN1
  rw [e2] at HN2
  clear e1 e2
  have HL := Lib.hid (rmLim_any mn mx)
  revert HL
  generalize rmLim mn mx = z0
  intro HL
  by_cases ht : t = 0
  · rw [decide_eq_true ht]
    subst ht
    rcases hk with rfl | rfl <;> cases mu
    all_goals
      go_enter Tryz.func108, Tryz.ntmps108
      go_wp2_with (first
        | (go_at_call 52; refine (HN1.out _).mono ?_; rintro e w1 ⟨rfl, k1⟩; replace q0 := q0.trans (k1.mono q0.size); obtain ⟨c10, c11, c12, c13, c14, c15, c16⟩ := D0.out _ q0; clear k1 HN1)
        | (go_at_call 52; refine (HN2.out _).mono ?_; rintro e w2 ⟨rfl, k2⟩; replace q0 := q0.trans (k2.mono q0.size); obtain ⟨c20, c21, c22, c23, c24, c25, c26⟩ := D0.out _ q0; clear k2 HN2)
        | (go_at_call 109; refine (HL.out _).mono ?_; rintro e w3 ⟨rfl, k3⟩; replace q0 := q0.trans (k3.mono q0.size); obtain ⟨c30, c31, c32, c33, c34, c35, c36⟩ := D0.out _ q0; clear k3 HL))
      all_goals go_ret
      all_goals exact ⟨rfl, HB.out.trans (q0.mono HB.out.size)⟩
  · rw [decide_eq_false ht]
    have et := eq_no ht
    clear ht
    rcases hk with rfl | rfl <;> cases mu
    all_goals
      go_enter Tryz.func108, Tryz.ntmps108
      go_wp2_with (first
        | (go_at_call 52; refine (HN1.out _).mono ?_; rintro e w1 ⟨rfl, k1⟩; replace q0 := q0.trans (k1.mono q0.size); obtain ⟨c10, c11, c12, c13, c14, c15, c16⟩ := D0.out _ q0; clear k1 HN1)
        | (go_at_call 52; refine (HN2.out _).mono ?_; rintro e w2 ⟨rfl, k2⟩; replace q0 := q0.trans (k2.mono q0.size); obtain ⟨c20, c21, c22, c23, c24, c25, c26⟩ := D0.out _ q0; clear k2 HN2)
        | (go_at_call 109; refine (HL.out _).mono ?_; rintro e w3 ⟨rfl, k3⟩; replace q0 := q0.trans (k3.mono q0.size); obtain ⟨c30, c31, c32, c33, c34, c35, c36⟩ := D0.out _ q0; clear k3 HL))
      all_goals go_ret
      all_goals exact ⟨rfl, HB.out.trans (q0.mono HB.out.size)⟩
set_option maxRecDepth 100000 in
set_option maxHeartbeats 2000000 in
theorem rmImp_k3 (md nm : ByteArray) (k t : Int) (mu : Bool) (mn mx : Int) (w : World) (h1 : md.size ≤ 1048576) (h2 : nm.size ≤ 1048576) (e1 : nameB md = true) (e2 : nameB nm = true) (hk : k = 3) :
    Calls Tryz.prog 108 #[.agg #[.string md, .string nm, .int .i64 k, .int .i64 t, .bool mu, .int .i64 mn, .int .i64 mx]] w fun e w' => e = .returned (.bool (decide ((typeV t).2 = 0) && rmZero mn mx)) ∧ Below w.heap.size w w' := by
  have bk := BlkAt.new w #[.string md, .string nm, .int .i64 k, .int .i64 t, .bool mu, .int .i64 mn, .int .i64 mx] 85
  have HB := Lib.hid ((Below.refl w.heap.size w).alloc (Nat.le_refl _) (.cells #[.string md, .string nm, .int .i64 k, .int .i64 t, .bool mu, .int .i64 mn, .int .i64 mx] 85))
  have q0 := Below.refl (w.alloc (.cells #[.string md, .string nm, .int .i64 k, .int .i64 t, .bool mu, .int .i64 mn, .int .i64 mx] 85)).heap.size (w.alloc (.cells #[.string md, .string nm, .int .i64 k, .int .i64 t, .bool mu, .int .i64 mn, .int .i64 mx] 85))
  have D0 := Lib.hid (fun (w2 : World) (h : Below (w.alloc (.cells #[.string md, .string nm, .int .i64 k, .int .i64 t, .bool mu, .int .i64 mn, .int .i64 mx] 85)).heap.size (w.alloc (.cells #[.string md, .string nm, .int .i64 k, .int .i64 t, .bool mu, .int .i64 mn, .int .i64 mx] 85)) w2) => (bk.below h).seven')
  obtain ⟨c00, c01, c02, c03, c04, c05, c06⟩ := D0.out _ q0
  have HN1 := Lib.hid (rmName_any md h1)
  have HN2 := Lib.hid (rmName_any nm h2)
  clear bk h1 h2
  rw [e1] at HN1
  rw [e2] at HN2
  clear e1 e2
  subst hk
  have HZ := Lib.hid (rmZero_any mn mx)
  have HT := Lib.hid (fun (w2 : World) => rmSingle_any t 1 (w2.alloc (.cells #[.int .i64 t] 3)) w2.heap.size (World.cell?_alloc_mark w2 _ _ _ 0))
  rw [show decide ((1 : Int) ≤ 1) = true from rfl] at HT
  revert HZ HT
  generalize decide ((typeV t).2 = 0) = r0
  generalize rmZero mn mx = z0
  intro HZ HT
  cases r0
  all_goals
    go_enter Tryz.func108, Tryz.ntmps108
    go_wp2_with (first
      | (go_at_call 52; refine (HN1.out _).mono ?_; rintro e w1 ⟨rfl, k1⟩; replace q0 := q0.trans (k1.mono q0.size); obtain ⟨c10, c11, c12, c13, c14, c15, c16⟩ := D0.out _ q0; clear k1 HN1)
      | (go_at_call 52; refine (HN2.out _).mono ?_; rintro e w2 ⟨rfl, k2⟩; replace q0 := q0.trans (k2.mono q0.size); obtain ⟨c20, c21, c22, c23, c24, c25, c26⟩ := D0.out _ q0; clear k2 HN2)
      | (go_at_call 50; refine (HT.out _).mono ?_; rintro e w4 ⟨rfl, k4⟩; have q1 := q0.alloc q0.size (.cells #[.int .i64 t] 3); replace q0 := q1.trans (k4.mono q1.size); obtain ⟨c40, c41, c42, c43, c44, c45, c46⟩ := D0.out _ q0; clear k4 q1 HT)
      | (go_at_call 127; refine (HZ.out _).mono ?_; rintro e w3 ⟨rfl, k3⟩; replace q0 := q0.trans (k3.mono q0.size); obtain ⟨c30, c31, c32, c33, c34, c35, c36⟩ := D0.out _ q0; clear k3 HZ))
    all_goals go_ret
    all_goals exact ⟨rfl, HB.out.trans (q0.mono HB.out.size)⟩
set_option maxRecDepth 100000 in
set_option maxHeartbeats 2000000 in
theorem rmImp_k9 (md nm : ByteArray) (k t : Int) (mu : Bool) (mn mx : Int) (w : World) (h1 : md.size ≤ 1048576) (h2 : nm.size ≤ 1048576) (e1 : nameB md = true) (e2 : nameB nm = true) (hk : ¬ k = 0) (hk1 : ¬ k = 1) (hk2 : ¬ k = 2) (hk3 : ¬ k = 3) :
    Calls Tryz.prog 108 #[.agg #[.string md, .string nm, .int .i64 k, .int .i64 t, .bool mu, .int .i64 mn, .int .i64 mx]] w fun e w' => e = .returned (.bool false) ∧ Below w.heap.size w w' := by
  have bk := BlkAt.new w #[.string md, .string nm, .int .i64 k, .int .i64 t, .bool mu, .int .i64 mn, .int .i64 mx] 85
  have HB := Lib.hid ((Below.refl w.heap.size w).alloc (Nat.le_refl _) (.cells #[.string md, .string nm, .int .i64 k, .int .i64 t, .bool mu, .int .i64 mn, .int .i64 mx] 85))
  have q0 := Below.refl (w.alloc (.cells #[.string md, .string nm, .int .i64 k, .int .i64 t, .bool mu, .int .i64 mn, .int .i64 mx] 85)).heap.size (w.alloc (.cells #[.string md, .string nm, .int .i64 k, .int .i64 t, .bool mu, .int .i64 mn, .int .i64 mx] 85))
  have D0 := Lib.hid (fun (w2 : World) (h : Below (w.alloc (.cells #[.string md, .string nm, .int .i64 k, .int .i64 t, .bool mu, .int .i64 mn, .int .i64 mx] 85)).heap.size (w.alloc (.cells #[.string md, .string nm, .int .i64 k, .int .i64 t, .bool mu, .int .i64 mn, .int .i64 mx] 85)) w2) => (bk.below h).seven')
  obtain ⟨c00, c01, c02, c03, c04, c05, c06⟩ := D0.out _ q0
  have HN1 := Lib.hid (rmName_any md h1)
  have HN2 := Lib.hid (rmName_any nm h2)
  clear bk h1 h2
  rw [e1] at HN1
  rw [e2] at HN2
  clear e1 e2
  have ek := eq_no hk
  have ek1 := eq_no hk1
  have ek2 := eq_no hk2
  have ek3 := eq_no hk3
  clear hk hk1 hk2 hk3
  go_enter Tryz.func108, Tryz.ntmps108
  go_wp2_with (first
    | (go_at_call 52; refine (HN1.out _).mono ?_; rintro e w1 ⟨rfl, k1⟩; replace q0 := q0.trans (k1.mono q0.size); obtain ⟨c10, c11, c12, c13, c14, c15, c16⟩ := D0.out _ q0; clear k1 HN1)
    | (go_at_call 52; refine (HN2.out _).mono ?_; rintro e w2 ⟨rfl, k2⟩; replace q0 := q0.trans (k2.mono q0.size); obtain ⟨c20, c21, c22, c23, c24, c25, c26⟩ := D0.out _ q0; clear k2 HN2))
  all_goals go_ret
  all_goals exact ⟨rfl, HB.out.trans (q0.mono HB.out.size)⟩
theorem rmImp_any (x : Imp) (w : World) (h1 : x.mod.size ≤ 1048576) (h2 : x.name.size ≤ 1048576) :
    Calls Tryz.prog 108 #[.agg #[.string x.mod, .string x.name, .int .i64 x.kind, .int .i64 x.t, .bool x.mu, .int .i64 x.mn, .int .i64 x.mx]] w fun e w' => e = .returned (.bool (oImp x)) ∧ Below w.heap.size w w' := by
  rw [← rmImp_eq]
  unfold rmImp
  cases e1 : nameB x.mod with
  | false => exact rmImp_n1 _ _ _ _ _ _ _ w h1 h2 e1
  | true =>
    cases e2 : nameB x.name with
    | false => exact rmImp_n2 _ _ _ _ _ _ _ w h1 h2 e1 e2
    | true =>
      rw [if_neg (by decide), if_neg (by decide)]
      by_cases k0 : x.kind = 0
      · rw [if_pos k0]
        exact rmImp_k0 _ _ _ _ _ _ _ w h1 h2 e1 e2 k0
      · rw [if_neg k0]
        by_cases k12 : x.kind = 1 ∨ x.kind = 2
        · rw [if_pos k12]
          exact rmImp_k12 _ _ _ _ _ _ _ w h1 h2 e1 e2 k12
        · rw [if_neg k12]
          by_cases k3 : x.kind = 3
          · rw [if_pos k3]
            exact rmImp_k3 _ _ _ _ _ _ _ w h1 h2 e1 e2 k3
          · rw [if_neg k3]
            exact rmImp_k9 _ _ _ _ _ _ _ w h1 h2 e1 e2 k0 (fun q => k12 (.inl q)) (fun q => k12 (.inr q)) k3
end Go.Proofs.YtekonefnniaheaaGreat
