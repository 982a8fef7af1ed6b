/- Texts of the proof of ModulePutsUptoProof, part 7. -/
import Derived.Test.YtekonefnniaheaaGreatModulePutsUptoProofQ6
namespace Go.Proofs.YtekonefnniaheaaGreat
open Go.RowKit
open Leb (putU putS)

theorem InsAt.all {w w' : World} {bd : Nat} {op a b m : Int} {xn xl xe : Option Addr} {nl ll el nc lc ec : Nat} (h : InsAt w bd op a b m xn xl xe nl ll el nc lc ec) (hb : Below w.heap.size w w') : InsAt w' bd op a b m xn xl xe nl ll el nc lc ec := h.below hb
set_option maxRecDepth 100000 in
set_option maxHeartbeats 1000000 in
theorem fields_s1
    (op a b m : Int) (n : List Int) (xn xl xe : Option Addr) (nl ll el nc lc ec : Nat) (w : World) (_hn : nl = n.length) (_hv : View w xn nl n) (_ha0 : -9223372036854775808 ≤ a) (_ha1 : a ≤ 9223372036854775807) (_hm1 : m ≤ 9223372036854775807) (_hb0 : 0 ≤ b) (_hb1 : b ≤ 63) (_hnl : nl ≤ 1000) (_hr : ∀ i, i < n.length → n.getD i 0 ≤ 9223372036854775807) :
    Calls Tryz.prog 181 #[.agg #[.int .i64 op, .int .i64 a, .int .i64 b, .int .i64 m, .slice xn nl nc, .slice xl ll lc, .slice xe el ec], .int .i64 1] w fun e w' => e = .returned (.string (strOfNums (fldB 1 a b m n))) ∧ Below w.heap.size w w' := by
  have hn := _hn
  have hv := _hv
  have ha0 := _ha0
  have ha1 := _ha1
  have hm1 := _hm1
  have hb0 := _hb0
  have hb1 := _hb1
  have hnl := _hnl
  have hr := _hr
  have HB0 := Lib.hid ((Below.refl w.heap.size w).alloc (Nat.le_refl _) (.cells #[.int .i64 op, .int .i64 a, .int .i64 b, .int .i64 m, .slice xn nl nc, .slice xl ll lc, .slice xe el ec] 50))
  have D0 : Hid (InsAt (w.alloc (.cells #[.int .i64 op, .int .i64 a, .int .i64 b, .int .i64 m, .slice xn nl nc, .slice xl ll lc, .slice xe el ec] 50)) w.heap.size op a b m xn xl xe nl ll el nc lc ec) := Lib.hid ⟨World.cell?_alloc_mark w _ _ _ 0, World.cell?_alloc_mark w _ _ _ 1, World.cell?_alloc_mark w _ _ _ 2, World.cell?_alloc_mark w _ _ _ 3, World.cell?_alloc_mark w _ _ _ 4, World.cell?_alloc_mark w _ _ _ 5, World.cell?_alloc_mark w _ _ _ 6⟩
  obtain ⟨d0, d1, d2, d3, d4, d5, d6⟩ := D0.out
  have HF : Hid (fldB 1 a b m n = []) := Lib.hid (rfl)
  rw [HF.out]
  clear hn hv ha0 ha1 hm1 hb0 hb1 hnl hr HF _hn _hv _ha0 _ha1 _hm1 _hb0 _hb1 _hnl _hr
  go_enter Tryz.func181, Tryz.ntmps181
  go_wp2_with fail
  go_ret
  exact ⟨rfl, HB0.out⟩
set_option maxRecDepth 100000 in
set_option maxHeartbeats 1000000 in
theorem fields_s2
    (op a b m : Int) (n : List Int) (xn xl xe : Option Addr) (nl ll el nc lc ec : Nat) (w : World) (_hn : nl = n.length) (_hv : View w xn nl n) (_ha0 : -9223372036854775808 ≤ a) (_ha1 : a ≤ 9223372036854775807) (_hm1 : m ≤ 9223372036854775807) (_hb0 : 0 ≤ b) (_hb1 : b ≤ 63) (_hnl : nl ≤ 1000) (_hr : ∀ i, i < n.length → n.getD i 0 ≤ 9223372036854775807) :
    Calls Tryz.prog 181 #[.agg #[.int .i64 op, .int .i64 a, .int .i64 b, .int .i64 m, .slice xn nl nc, .slice xl ll lc, .slice xe el ec], .int .i64 2] w fun e w' => e = .returned (.string (strOfNums (fldB 2 a b m n))) ∧ Below w.heap.size w w' := by
  have hn := _hn
  have hv := _hv
  have ha0 := _ha0
  have ha1 := _ha1
  have hm1 := _hm1
  have hb0 := _hb0
  have hb1 := _hb1
  have hnl := _hnl
  have hr := _hr
  have HB0 := Lib.hid ((Below.refl w.heap.size w).alloc (Nat.le_refl _) (.cells #[.int .i64 op, .int .i64 a, .int .i64 b, .int .i64 m, .slice xn nl nc, .slice xl ll lc, .slice xe el ec] 50))
  have D0 : Hid (InsAt (w.alloc (.cells #[.int .i64 op, .int .i64 a, .int .i64 b, .int .i64 m, .slice xn nl nc, .slice xl ll lc, .slice xe el ec] 50)) w.heap.size op a b m xn xl xe nl ll el nc lc ec) := Lib.hid ⟨World.cell?_alloc_mark w _ _ _ 0, World.cell?_alloc_mark w _ _ _ 1, World.cell?_alloc_mark w _ _ _ 2, World.cell?_alloc_mark w _ _ _ 3, World.cell?_alloc_mark w _ _ _ 4, World.cell?_alloc_mark w _ _ _ 5, World.cell?_alloc_mark w _ _ _ 6⟩
  obtain ⟨d0, d1, d2, d3, d4, d5, d6⟩ := D0.out
  have HF : Hid (fldB 2 a b m n = putS a) := Lib.hid (rfl)
  have H0 := Lib.hid (fun w2 (_ : Below w.heap.size w w2) => PutS_any a w2 ha0 ha1)
  rw [HF.out]
  clear hn hv ha0 ha1 hm1 hb0 hb1 hnl hr HF _hn _hv _ha0 _ha1 _hm1 _hb0 _hb1 _hnl _hr
  go_enter Tryz.func181, Tryz.ntmps181
  go_wp2_with (go_at_call 195; refine (H0.out _ HB0.out).mono ?_; rintro e w2 ⟨rfl, hb2⟩)
  go_ret
  exact ⟨rfl, HB0.out.trans (hb2.mono (by simp))⟩
set_option maxRecDepth 100000 in
set_option maxHeartbeats 1000000 in
theorem fields_s3
    (op a b m : Int) (n : List Int) (xn xl xe : Option Addr) (nl ll el nc lc ec : Nat) (w : World) (_hn : nl = n.length) (_hv : View w xn nl n) (_ha0 : -9223372036854775808 ≤ a) (_ha1 : a ≤ 9223372036854775807) (_hm1 : m ≤ 9223372036854775807) (_hb0 : 0 ≤ b) (_hb1 : b ≤ 63) (_hnl : nl ≤ 1000) (_hr : ∀ i, i < n.length → n.getD i 0 ≤ 9223372036854775807) :
    Calls Tryz.prog 181 #[.agg #[.int .i64 op, .int .i64 a, .int .i64 b, .int .i64 m, .slice xn nl nc, .slice xl ll lc, .slice xe el ec], .int .i64 3] w fun e w' => e = .returned (.string (strOfNums (fldB 3 a b m n))) ∧ Below w.heap.size w w' := by
  have hn := _hn
  have hv := _hv
  have ha0 := _ha0
  have ha1 := _ha1
  have hm1 := _hm1
  have hb0 := _hb0
  have hb1 := _hb1
  have hnl := _hnl
  have hr := _hr
  have HB0 := Lib.hid ((Below.refl w.heap.size w).alloc (Nat.le_refl _) (.cells #[.int .i64 op, .int .i64 a, .int .i64 b, .int .i64 m, .slice xn nl nc, .slice xl ll lc, .slice xe el ec] 50))
  have D0 : Hid (InsAt (w.alloc (.cells #[.int .i64 op, .int .i64 a, .int .i64 b, .int .i64 m, .slice xn nl nc, .slice xl ll lc, .slice xe el ec] 50)) w.heap.size op a b m xn xl xe nl ll el nc lc ec) := Lib.hid ⟨World.cell?_alloc_mark w _ _ _ 0, World.cell?_alloc_mark w _ _ _ 1, World.cell?_alloc_mark w _ _ _ 2, World.cell?_alloc_mark w _ _ _ 3, World.cell?_alloc_mark w _ _ _ 4, World.cell?_alloc_mark w _ _ _ 5, World.cell?_alloc_mark w _ _ _ 6⟩
  obtain ⟨d0, d1, d2, d3, d4, d5, d6⟩ := D0.out
  have HF : Hid (fldB 3 a b m n = putU a) := Lib.hid (rfl)
  have H0 := Lib.hid (fun w2 (_ : Below w.heap.size w w2) => PutU_any a w2 (by omega))
  rw [HF.out]
  clear hn hv ha0 ha1 hm1 hb0 hb1 hnl hr HF _hn _hv _ha0 _ha1 _hm1 _hb0 _hb1 _hnl _hr
  go_enter Tryz.func181, Tryz.ntmps181
  go_wp2_with (go_at_call 86; refine (H0.out _ HB0.out).mono ?_; rintro e w2 ⟨rfl, hb2⟩)
  go_ret
  exact ⟨rfl, HB0.out.trans (hb2.mono (by simp))⟩
set_option maxRecDepth 100000 in
set_option maxHeartbeats 1000000 in
theorem fields_s4
    (op a b m : Int) (n : List Int) (xn xl xe : Option Addr) (nl ll el nc lc ec : Nat) (w : World) (_hn : nl = n.length) (_hv : View w xn nl n) (_ha0 : -9223372036854775808 ≤ a) (_ha1 : a ≤ 9223372036854775807) (_hm1 : m ≤ 9223372036854775807) (_hb0 : 0 ≤ b) (_hb1 : b ≤ 63) (_hnl : nl ≤ 1000) (_hr : ∀ i, i < n.length → n.getD i 0 ≤ 9223372036854775807) :
    Calls Tryz.prog 181 #[.agg #[.int .i64 op, .int .i64 a, .int .i64 b, .int .i64 m, .slice xn nl nc, .slice xl ll lc, .slice xe el ec], .int .i64 4] w fun e w' => e = .returned (.string (strOfNums (fldB 4 a b m n))) ∧ Below w.heap.size w w' := by
  have hn := _hn
  have hv := _hv
  have ha0 := _ha0
  have ha1 := _ha1
  have hm1 := _hm1
  have hb0 := _hb0
  have hb1 := _hb1
  have hnl := _hnl
  have hr := _hr
  have HB0 := Lib.hid ((Below.refl w.heap.size w).alloc (Nat.le_refl _) (.cells #[.int .i64 op, .int .i64 a, .int .i64 b, .int .i64 m, .slice xn nl nc, .slice xl ll lc, .slice xe el ec] 50))
  have D0 : Hid (InsAt (w.alloc (.cells #[.int .i64 op, .int .i64 a, .int .i64 b, .int .i64 m, .slice xn nl nc, .slice xl ll lc, .slice xe el ec] 50)) w.heap.size op a b m xn xl xe nl ll el nc lc ec) := Lib.hid ⟨World.cell?_alloc_mark w _ _ _ 0, World.cell?_alloc_mark w _ _ _ 1, World.cell?_alloc_mark w _ _ _ 2, World.cell?_alloc_mark w _ _ _ 3, World.cell?_alloc_mark w _ _ _ 4, World.cell?_alloc_mark w _ _ _ 5, World.cell?_alloc_mark w _ _ _ 6⟩
  obtain ⟨d0, d1, d2, d3, d4, d5, d6⟩ := D0.out
  have HF : Hid (fldB 4 a b m n = rowL nl n nl ++ putU a) := Lib.hid (by rw [show fldB 4 a b m n = allB n ++ putU a from rfl, ← rowL_all, ← hn])
  have H0 := Lib.hid (fun w2 (hb : Below w.heap.size w w2) => PutAll_any xn nl nc n w2 (hv.below hb) (by omega) (by omega) (fun i hi => hr i (by omega)))
  have H1 := Lib.hid (fun w2 (_ : Below w.heap.size w w2) => PutU_any a w2 (by omega))
  have hl0 := rowL_length nl n nl
  have hl1 := Leb.putU_length a
  have hns := strOfNums_size
  have hno : ¬ 9223372036854775807 < (rowL nl n nl).length + (putU a).length := by omega
  have HC := Lib.hid (strOfNums_app (rowL nl n nl) (putU a))
  have DS : Hid ((w.alloc (.cells #[.int .i64 op, .int .i64 a, .int .i64 b, .int .i64 m, .slice xn nl nc, .slice xl ll lc, .slice xe el ec] 50)).drew.cell? ⟨w.heap.size, 0, none⟩ = some (.int .i64 op) ∧ (w.alloc (.cells #[.int .i64 op, .int .i64 a, .int .i64 b, .int .i64 m, .slice xn nl nc, .slice xl ll lc, .slice xe el ec] 50)).drew.cell? ⟨w.heap.size, 1, none⟩ = some (.int .i64 a) ∧ (w.alloc (.cells #[.int .i64 op, .int .i64 a, .int .i64 b, .int .i64 m, .slice xn nl nc, .slice xl ll lc, .slice xe el ec] 50)).drew.cell? ⟨w.heap.size, 2, none⟩ = some (.int .i64 b) ∧ (w.alloc (.cells #[.int .i64 op, .int .i64 a, .int .i64 b, .int .i64 m, .slice xn nl nc, .slice xl ll lc, .slice xe el ec] 50)).drew.cell? ⟨w.heap.size, 3, none⟩ = some (.int .i64 m) ∧ (w.alloc (.cells #[.int .i64 op, .int .i64 a, .int .i64 b, .int .i64 m, .slice xn nl nc, .slice xl ll lc, .slice xe el ec] 50)).drew.cell? ⟨w.heap.size, 4, none⟩ = some (.slice xn nl nc) ∧ (w.alloc (.cells #[.int .i64 op, .int .i64 a, .int .i64 b, .int .i64 m, .slice xn nl nc, .slice xl ll lc, .slice xe el ec] 50)).drew.cell? ⟨w.heap.size, 5, none⟩ = some (.slice xl ll lc) ∧ (w.alloc (.cells #[.int .i64 op, .int .i64 a, .int .i64 b, .int .i64 m, .slice xn nl nc, .slice xl ll lc, .slice xe el ec] 50)).drew.cell? ⟨w.heap.size, 6, none⟩ = some (.slice xe el ec)) := Lib.hid ⟨d0, d1, d2, d3, d4, d5, d6⟩
  have hbz : Below w.heap.size w (w.alloc (.cells #[.int .i64 op, .int .i64 a, .int .i64 b, .int .i64 m, .slice xn nl nc, .slice xl ll lc, .slice xe el ec] 50)).drew := HB0.out.drew
  rw [HF.out]
  clear hn hv ha0 ha1 hm1 hb0 hb1 hnl hr HF _hn _hv _ha0 _ha1 _hm1 _hb0 _hb1 _hnl _hr
  go_enter Tryz.func181, Tryz.ntmps181
  go_wp2_with fail
  go_region_held3 (fun w' => w'.cell? ⟨w.heap.size, 0, none⟩ = some (.int .i64 op) ∧ w'.cell? ⟨w.heap.size, 1, none⟩ = some (.int .i64 a) ∧ w'.cell? ⟨w.heap.size, 2, none⟩ = some (.int .i64 b) ∧ w'.cell? ⟨w.heap.size, 3, none⟩ = some (.int .i64 m) ∧ w'.cell? ⟨w.heap.size, 4, none⟩ = some (.slice xn nl nc) ∧ w'.cell? ⟨w.heap.size, 5, none⟩ = some (.slice xl ll lc) ∧ w'.cell? ⟨w.heap.size, 6, none⟩ = some (.slice xe el ec))
    (first | exact DS.out | exact DS1.out | exact DS2.out)
    (first
      | (go_at_call 196; refine (H0.out _ hbz).mono ?_; rintro e w2 ⟨rfl, hb2⟩; have hb3 := hbz.trans (hb2.mono hbz.size); clear H0
         have DS1 := Lib.hid (InsAt.below (op := op) (a := a) (b := b) (m := m) DS.out hb2); unfold InsAt at DS1)
      | (go_at_call 86; refine (H1.out _ hb3).mono ?_; rintro e w3 ⟨rfl, hb4⟩; have hb5 := hb3.trans (hb4.mono hb3.size); clear H1
         have DS2 := Lib.hid (InsAt.below (op := op) (a := a) (b := b) (m := m) DS1.out hb4); unfold InsAt at DS2))
  all_goals
    go_wp2_with fail
    go_ret
    exact ⟨congrArg (fun s => Ending.returned (.string s)) HC.out, hb5⟩
set_option maxRecDepth 100000 in
set_option maxHeartbeats 1000000 in
theorem fields_s5
    (op a b m : Int) (n : List Int) (xn xl xe : Option Addr) (nl ll el nc lc ec : Nat) (w : World) (_hn : nl = n.length) (_hv : View w xn nl n) (_ha0 : -9223372036854775808 ≤ a) (_ha1 : a ≤ 9223372036854775807) (_hm1 : m ≤ 9223372036854775807) (_hb0 : 0 ≤ b) (_hb1 : b ≤ 63) (_hnl : nl ≤ 1000) (_hr : ∀ i, i < n.length → n.getD i 0 ≤ 9223372036854775807) :
    Calls Tryz.prog 181 #[.agg #[.int .i64 op, .int .i64 a, .int .i64 b, .int .i64 m, .slice xn nl nc, .slice xl ll lc, .slice xe el ec], .int .i64 5] w fun e w' => e = .returned (.string (strOfNums (fldB 5 a b m n))) ∧ Below w.heap.size w w' := by
  have hn := _hn
  have hv := _hv
  have ha0 := _ha0
  have ha1 := _ha1
  have hm1 := _hm1
  have hb0 := _hb0
  have hb1 := _hb1
  have hnl := _hnl
  have hr := _hr
  have HB0 := Lib.hid ((Below.refl w.heap.size w).alloc (Nat.le_refl _) (.cells #[.int .i64 op, .int .i64 a, .int .i64 b, .int .i64 m, .slice xn nl nc, .slice xl ll lc, .slice xe el ec] 50))
  have D0 : Hid (InsAt (w.alloc (.cells #[.int .i64 op, .int .i64 a, .int .i64 b, .int .i64 m, .slice xn nl nc, .slice xl ll lc, .slice xe el ec] 50)) w.heap.size op a b m xn xl xe nl ll el nc lc ec) := Lib.hid ⟨World.cell?_alloc_mark w _ _ _ 0, World.cell?_alloc_mark w _ _ _ 1, World.cell?_alloc_mark w _ _ _ 2, World.cell?_alloc_mark w _ _ _ 3, World.cell?_alloc_mark w _ _ _ 4, World.cell?_alloc_mark w _ _ _ 5, World.cell?_alloc_mark w _ _ _ 6⟩
  obtain ⟨d0, d1, d2, d3, d4, d5, d6⟩ := D0.out
  have HF : Hid (fldB 5 a b m n = putU a ++ putU m) := Lib.hid (rfl)
  have H0 := Lib.hid (fun w2 (_ : Below w.heap.size w w2) => PutU_any a w2 (by omega))
  have H1 := Lib.hid (fun w2 (_ : Below w.heap.size w w2) => PutU_any m w2 (by omega))
  have hl0 := Leb.putU_length a
  have hl1 := Leb.putU_length m
  have hns := strOfNums_size
  have hno : ¬ 9223372036854775807 < (putU a).length + (putU m).length := by omega
  have HC := Lib.hid (strOfNums_app (putU a) (putU m))
  have DS : Hid ((w.alloc (.cells #[.int .i64 op, .int .i64 a, .int .i64 b, .int .i64 m, .slice xn nl nc, .slice xl ll lc, .slice xe el ec] 50)).drew.cell? ⟨w.heap.size, 0, none⟩ = some (.int .i64 op) ∧ (w.alloc (.cells #[.int .i64 op, .int .i64 a, .int .i64 b, .int .i64 m, .slice xn nl nc, .slice xl ll lc, .slice xe el ec] 50)).drew.cell? ⟨w.heap.size, 1, none⟩ = some (.int .i64 a) ∧ (w.alloc (.cells #[.int .i64 op, .int .i64 a, .int .i64 b, .int .i64 m, .slice xn nl nc, .slice xl ll lc, .slice xe el ec] 50)).drew.cell? ⟨w.heap.size, 2, none⟩ = some (.int .i64 b) ∧ (w.alloc (.cells #[.int .i64 op, .int .i64 a, .int .i64 b, .int .i64 m, .slice xn nl nc, .slice xl ll lc, .slice xe el ec] 50)).drew.cell? ⟨w.heap.size, 3, none⟩ = some (.int .i64 m) ∧ (w.alloc (.cells #[.int .i64 op, .int .i64 a, .int .i64 b, .int .i64 m, .slice xn nl nc, .slice xl ll lc, .slice xe el ec] 50)).drew.cell? ⟨w.heap.size, 4, none⟩ = some (.slice xn nl nc) ∧ (w.alloc (.cells #[.int .i64 op, .int .i64 a, .int .i64 b, .int .i64 m, .slice xn nl nc, .slice xl ll lc, .slice xe el ec] 50)).drew.cell? ⟨w.heap.size, 5, none⟩ = some (.slice xl ll lc) ∧ (w.alloc (.cells #[.int .i64 op, .int .i64 a, .int .i64 b, .int .i64 m, .slice xn nl nc, .slice xl ll lc, .slice xe el ec] 50)).drew.cell? ⟨w.heap.size, 6, none⟩ = some (.slice xe el ec)) := Lib.hid ⟨d0, d1, d2, d3, d4, d5, d6⟩
  have hbz : Below w.heap.size w (w.alloc (.cells #[.int .i64 op, .int .i64 a, .int .i64 b, .int .i64 m, .slice xn nl nc, .slice xl ll lc, .slice xe el ec] 50)).drew := HB0.out.drew
  rw [HF.out]
  clear hn hv ha0 ha1 hm1 hb0 hb1 hnl hr HF _hn _hv _ha0 _ha1 _hm1 _hb0 _hb1 _hnl _hr
  go_enter Tryz.func181, Tryz.ntmps181
  go_wp2_with fail
  go_region_held3 (fun w' => w'.cell? ⟨w.heap.size, 0, none⟩ = some (.int .i64 op) ∧ w'.cell? ⟨w.heap.size, 1, none⟩ = some (.int .i64 a) ∧ w'.cell? ⟨w.heap.size, 2, none⟩ = some (.int .i64 b) ∧ w'.cell? ⟨w.heap.size, 3, none⟩ = some (.int .i64 m) ∧ w'.cell? ⟨w.heap.size, 4, none⟩ = some (.slice xn nl nc) ∧ w'.cell? ⟨w.heap.size, 5, none⟩ = some (.slice xl ll lc) ∧ w'.cell? ⟨w.heap.size, 6, none⟩ = some (.slice xe el ec))
    (first | exact DS.out | exact DS1.out | exact DS2.out)
    (first
      | (go_at_call 86; refine (H0.out _ hbz).mono ?_; rintro e w2 ⟨rfl, hb2⟩; have hb3 := hbz.trans (hb2.mono hbz.size); clear H0
         have DS1 := Lib.hid (InsAt.below (op := op) (a := a) (b := b) (m := m) DS.out hb2); unfold InsAt at DS1)
      | (go_at_call 86; refine (H1.out _ hb3).mono ?_; rintro e w3 ⟨rfl, hb4⟩; have hb5 := hb3.trans (hb4.mono hb3.size); clear H1
         have DS2 := Lib.hid (InsAt.below (op := op) (a := a) (b := b) (m := m) DS1.out hb4); unfold InsAt at DS2))
  all_goals
    go_wp2_with fail
    go_ret
    exact ⟨congrArg (fun s => Ending.returned (.string s)) HC.out, hb5⟩
set_option maxRecDepth 100000 in
set_option maxHeartbeats 1000000 in
theorem fields_s6
    (op a b m : Int) (n : List Int) (xn xl xe : Option Addr) (nl ll el nc lc ec : Nat) (w : World) (_hn : nl = n.length) (_hv : View w xn nl n) (_ha0 : -9223372036854775808 ≤ a) (_ha1 : a ≤ 9223372036854775807) (_hm1 : m ≤ 9223372036854775807) (_hb0 : 0 ≤ b) (_hb1 : b ≤ 63) (_hnl : nl ≤ 1000) (_hr : ∀ i, i < n.length → n.getD i 0 ≤ 9223372036854775807) :
    Calls Tryz.prog 181 #[.agg #[.int .i64 op, .int .i64 a, .int .i64 b, .int .i64 m, .slice xn nl nc, .slice xl ll lc, .slice xe el ec], .int .i64 6] w fun e w' => e = .returned (.string (strOfNums (fldB 6 a b m n))) ∧ Below w.heap.size w w' := by
  have hn := _hn
  have hv := _hv
  have ha0 := _ha0
  have ha1 := _ha1
  have hm1 := _hm1
  have hb0 := _hb0
  have hb1 := _hb1
  have hnl := _hnl
  have hr := _hr
  have HB0 := Lib.hid ((Below.refl w.heap.size w).alloc (Nat.le_refl _) (.cells #[.int .i64 op, .int .i64 a, .int .i64 b, .int .i64 m, .slice xn nl nc, .slice xl ll lc, .slice xe el ec] 50))
  have D0 : Hid (InsAt (w.alloc (.cells #[.int .i64 op, .int .i64 a, .int .i64 b, .int .i64 m, .slice xn nl nc, .slice xl ll lc, .slice xe el ec] 50)) w.heap.size op a b m xn xl xe nl ll el nc lc ec) := Lib.hid ⟨World.cell?_alloc_mark w _ _ _ 0, World.cell?_alloc_mark w _ _ _ 1, World.cell?_alloc_mark w _ _ _ 2, World.cell?_alloc_mark w _ _ _ 3, World.cell?_alloc_mark w _ _ _ 4, World.cell?_alloc_mark w _ _ _ 5, World.cell?_alloc_mark w _ _ _ 6⟩
  obtain ⟨d0, d1, d2, d3, d4, d5, d6⟩ := D0.out
  have HF : Hid (fldB 6 a b m n = putU 1 ++ [a % 256]) := Lib.hid (rfl)
  have H0 := Lib.hid (fun w2 (_ : Below w.heap.size w w2) => PutU_any 1 w2 (by omega))
  have H1 := Lib.hid (fun w2 (_ : Below w.heap.size w w2) => insOne_any a w2)
  have hl0 := Leb.putU_length 1
  have hns := strOfNums_size
  have hno : ¬ 9223372036854775807 < (putU 1).length + 1 := by omega
  have HC := Lib.hid (strOfNums_app (putU 1) ([a % 256]))
  have DS : Hid ((w.alloc (.cells #[.int .i64 op, .int .i64 a, .int .i64 b, .int .i64 m, .slice xn nl nc, .slice xl ll lc, .slice xe el ec] 50)).drew.cell? ⟨w.heap.size, 0, none⟩ = some (.int .i64 op) ∧ (w.alloc (.cells #[.int .i64 op, .int .i64 a, .int .i64 b, .int .i64 m, .slice xn nl nc, .slice xl ll lc, .slice xe el ec] 50)).drew.cell? ⟨w.heap.size, 1, none⟩ = some (.int .i64 a) ∧ (w.alloc (.cells #[.int .i64 op, .int .i64 a, .int .i64 b, .int .i64 m, .slice xn nl nc, .slice xl ll lc, .slice xe el ec] 50)).drew.cell? ⟨w.heap.size, 2, none⟩ = some (.int .i64 b) ∧ (w.alloc (.cells #[.int .i64 op, .int .i64 a, .int .i64 b, .int .i64 m, .slice xn nl nc, .slice xl ll lc, .slice xe el ec] 50)).drew.cell? ⟨w.heap.size, 3, none⟩ = some (.int .i64 m) ∧ (w.alloc (.cells #[.int .i64 op, .int .i64 a, .int .i64 b, .int .i64 m, .slice xn nl nc, .slice xl ll lc, .slice xe el ec] 50)).drew.cell? ⟨w.heap.size, 4, none⟩ = some (.slice xn nl nc) ∧ (w.alloc (.cells #[.int .i64 op, .int .i64 a, .int .i64 b, .int .i64 m, .slice xn nl nc, .slice xl ll lc, .slice xe el ec] 50)).drew.cell? ⟨w.heap.size, 5, none⟩ = some (.slice xl ll lc) ∧ (w.alloc (.cells #[.int .i64 op, .int .i64 a, .int .i64 b, .int .i64 m, .slice xn nl nc, .slice xl ll lc, .slice xe el ec] 50)).drew.cell? ⟨w.heap.size, 6, none⟩ = some (.slice xe el ec)) := Lib.hid ⟨d0, d1, d2, d3, d4, d5, d6⟩
  have hbz : Below w.heap.size w (w.alloc (.cells #[.int .i64 op, .int .i64 a, .int .i64 b, .int .i64 m, .slice xn nl nc, .slice xl ll lc, .slice xe el ec] 50)).drew := HB0.out.drew
  rw [HF.out]
  clear hn hv ha0 ha1 hm1 hb0 hb1 hnl hr HF _hn _hv _ha0 _ha1 _hm1 _hb0 _hb1 _hnl _hr
  go_enter Tryz.func181, Tryz.ntmps181
  go_wp2_with fail
  go_region_held3 (fun w' => w'.cell? ⟨w.heap.size, 0, none⟩ = some (.int .i64 op) ∧ w'.cell? ⟨w.heap.size, 1, none⟩ = some (.int .i64 a) ∧ w'.cell? ⟨w.heap.size, 2, none⟩ = some (.int .i64 b) ∧ w'.cell? ⟨w.heap.size, 3, none⟩ = some (.int .i64 m) ∧ w'.cell? ⟨w.heap.size, 4, none⟩ = some (.slice xn nl nc) ∧ w'.cell? ⟨w.heap.size, 5, none⟩ = some (.slice xl ll lc) ∧ w'.cell? ⟨w.heap.size, 6, none⟩ = some (.slice xe el ec))
    (first | exact DS.out | exact DS1.out | exact DS2.out)
    (first
      | (go_at_call 86; refine (H0.out _ hbz).mono ?_; rintro e w2 ⟨rfl, hb2⟩; have hb3 := hbz.trans (hb2.mono hbz.size); clear H0
         have DS1 := Lib.hid (InsAt.below (op := op) (a := a) (b := b) (m := m) DS.out hb2); unfold InsAt at DS1)
      | (go_at_call 194; refine (H1.out _ hb3).mono ?_; rintro e w3 ⟨rfl, hb4⟩; have hb5 := hb3.trans (hb4.mono hb3.size); clear H1
         have DS2 := Lib.hid (InsAt.below (op := op) (a := a) (b := b) (m := m) DS1.out hb4); unfold InsAt at DS2))
  all_goals
    go_wp2_with fail
    go_ret
    exact ⟨congrArg (fun s => Ending.returned (.string s)) HC.out, hb5⟩
set_option maxRecDepth 100000 in
set_option maxHeartbeats 1000000 in
theorem fields_s7
    (op a b m : Int) (n : List Int) (xn xl xe : Option Addr) (nl ll el nc lc ec : Nat) (w : World) (_hn : nl = n.length) (_hv : View w xn nl n) (_ha0 : -9223372036854775808 ≤ a) (_ha1 : a ≤ 9223372036854775807) (_hm1 : m ≤ 9223372036854775807) (_hb0 : 0 ≤ b) (_hb1 : b ≤ 63) (_hnl : nl ≤ 1000) (_hr : ∀ i, i < n.length → n.getD i 0 ≤ 9223372036854775807) :
    Calls Tryz.prog 181 #[.agg #[.int .i64 op, .int .i64 a, .int .i64 b, .int .i64 m, .slice xn nl nc, .slice xl ll lc, .slice xe el ec], .int .i64 7] w fun e w' => e = .returned (.string (strOfNums (fldB 7 a b m n))) ∧ Below w.heap.size w w' := by
  have hn := _hn
  have hv := _hv
  have ha0 := _ha0
  have ha1 := _ha1
  have hm1 := _hm1
  have hb0 := _hb0
  have hb1 := _hb1
  have hnl := _hnl
  have hr := _hr
  have HB0 := Lib.hid ((Below.refl w.heap.size w).alloc (Nat.le_refl _) (.cells #[.int .i64 op, .int .i64 a, .int .i64 b, .int .i64 m, .slice xn nl nc, .slice xl ll lc, .slice xe el ec] 50))
  have D0 : Hid (InsAt (w.alloc (.cells #[.int .i64 op, .int .i64 a, .int .i64 b, .int .i64 m, .slice xn nl nc, .slice xl ll lc, .slice xe el ec] 50)) w.heap.size op a b m xn xl xe nl ll el nc lc ec) := Lib.hid ⟨World.cell?_alloc_mark w _ _ _ 0, World.cell?_alloc_mark w _ _ _ 1, World.cell?_alloc_mark w _ _ _ 2, World.cell?_alloc_mark w _ _ _ 3, World.cell?_alloc_mark w _ _ _ 4, World.cell?_alloc_mark w _ _ _ 5, World.cell?_alloc_mark w _ _ _ 6⟩
  obtain ⟨d0, d1, d2, d3, d4, d5, d6⟩ := D0.out
  have HF : Hid (fldB 7 a b m n = placeB b m ++ putU a) := Lib.hid (rfl)
  have H0 := Lib.hid (fun w2 (_ : Below w.heap.size w w2) => place_any op a b m xn xl xe nl ll el nc lc ec w2 (by omega) (by omega) hm1)
  have H1 := Lib.hid (fun w2 (_ : Below w.heap.size w w2) => PutU_any a w2 (by omega))
  have hl0 := placeB_length b m
  have hl1 := Leb.putU_length a
  have hns := strOfNums_size
  have hno : ¬ 9223372036854775807 < (placeB b m).length + (putU a).length := by omega
  have HC := Lib.hid (strOfNums_app (placeB b m) (putU a))
  have DS : Hid ((w.alloc (.cells #[.int .i64 op, .int .i64 a, .int .i64 b, .int .i64 m, .slice xn nl nc, .slice xl ll lc, .slice xe el ec] 50)).drew.cell? ⟨w.heap.size, 0, none⟩ = some (.int .i64 op) ∧ (w.alloc (.cells #[.int .i64 op, .int .i64 a, .int .i64 b, .int .i64 m, .slice xn nl nc, .slice xl ll lc, .slice xe el ec] 50)).drew.cell? ⟨w.heap.size, 1, none⟩ = some (.int .i64 a) ∧ (w.alloc (.cells #[.int .i64 op, .int .i64 a, .int .i64 b, .int .i64 m, .slice xn nl nc, .slice xl ll lc, .slice xe el ec] 50)).drew.cell? ⟨w.heap.size, 2, none⟩ = some (.int .i64 b) ∧ (w.alloc (.cells #[.int .i64 op, .int .i64 a, .int .i64 b, .int .i64 m, .slice xn nl nc, .slice xl ll lc, .slice xe el ec] 50)).drew.cell? ⟨w.heap.size, 3, none⟩ = some (.int .i64 m) ∧ (w.alloc (.cells #[.int .i64 op, .int .i64 a, .int .i64 b, .int .i64 m, .slice xn nl nc, .slice xl ll lc, .slice xe el ec] 50)).drew.cell? ⟨w.heap.size, 4, none⟩ = some (.slice xn nl nc) ∧ (w.alloc (.cells #[.int .i64 op, .int .i64 a, .int .i64 b, .int .i64 m, .slice xn nl nc, .slice xl ll lc, .slice xe el ec] 50)).drew.cell? ⟨w.heap.size, 5, none⟩ = some (.slice xl ll lc) ∧ (w.alloc (.cells #[.int .i64 op, .int .i64 a, .int .i64 b, .int .i64 m, .slice xn nl nc, .slice xl ll lc, .slice xe el ec] 50)).drew.cell? ⟨w.heap.size, 6, none⟩ = some (.slice xe el ec)) := Lib.hid ⟨d0, d1, d2, d3, d4, d5, d6⟩
  have hbz : Below w.heap.size w (w.alloc (.cells #[.int .i64 op, .int .i64 a, .int .i64 b, .int .i64 m, .slice xn nl nc, .slice xl ll lc, .slice xe el ec] 50)).drew := HB0.out.drew
  rw [HF.out]
  clear hn hv ha0 ha1 hm1 hb0 hb1 hnl hr HF _hn _hv _ha0 _ha1 _hm1 _hb0 _hb1 _hnl _hr
  go_enter Tryz.func181, Tryz.ntmps181
  go_wp2_with fail
  go_region_held3 (fun w' => w'.cell? ⟨w.heap.size, 0, none⟩ = some (.int .i64 op) ∧ w'.cell? ⟨w.heap.size, 1, none⟩ = some (.int .i64 a) ∧ w'.cell? ⟨w.heap.size, 2, none⟩ = some (.int .i64 b) ∧ w'.cell? ⟨w.heap.size, 3, none⟩ = some (.int .i64 m) ∧ w'.cell? ⟨w.heap.size, 4, none⟩ = some (.slice xn nl nc) ∧ w'.cell? ⟨w.heap.size, 5, none⟩ = some (.slice xl ll lc) ∧ w'.cell? ⟨w.heap.size, 6, none⟩ = some (.slice xe el ec))
    (first | exact DS.out | exact DS1.out | exact DS2.out)
    (first
      | (go_at_call 197; refine (H0.out _ hbz).mono ?_; rintro e w2 ⟨rfl, hb2⟩; have hb3 := hbz.trans (hb2.mono hbz.size); clear H0
         have DS1 := Lib.hid (InsAt.below (op := op) (a := a) (b := b) (m := m) DS.out hb2); unfold InsAt at DS1)
      | (go_at_call 86; refine (H1.out _ hb3).mono ?_; rintro e w3 ⟨rfl, hb4⟩; have hb5 := hb3.trans (hb4.mono hb3.size); clear H1
         have DS2 := Lib.hid (InsAt.below (op := op) (a := a) (b := b) (m := m) DS1.out hb4); unfold InsAt at DS2))
  all_goals
    go_wp2_with fail
    go_ret
    exact ⟨congrArg (fun s => Ending.returned (.string s)) HC.out, hb5⟩
set_option maxRecDepth 100000 in
set_option maxHeartbeats 1000000 in
theorem fields_s8
    (op a b m : Int) (n : List Int) (xn xl xe : Option Addr) (nl ll el nc lc ec : Nat) (w : World) (_hn : nl = n.length) (_hv : View w xn nl n) (_ha0 : -9223372036854775808 ≤ a) (_ha1 : a ≤ 9223372036854775807) (_hm1 : m ≤ 9223372036854775807) (_hb0 : 0 ≤ b) (_hb1 : b ≤ 63) (_hnl : nl ≤ 1000) (_hr : ∀ i, i < n.length → n.getD i 0 ≤ 9223372036854775807) :
    Calls Tryz.prog 181 #[.agg #[.int .i64 op, .int .i64 a, .int .i64 b, .int .i64 m, .slice xn nl nc, .slice xl ll lc, .slice xe el ec], .int .i64 8] w fun e w' => e = .returned (.string (strOfNums (fldB 8 a b m n))) ∧ Below w.heap.size w w' := by
  have hn := _hn
  have hv := _hv
  have ha0 := _ha0
  have ha1 := _ha1
  have hm1 := _hm1
  have hb0 := _hb0
  have hb1 := _hb1
  have hnl := _hnl
  have hr := _hr
  have HB0 := Lib.hid ((Below.refl w.heap.size w).alloc (Nat.le_refl _) (.cells #[.int .i64 op, .int .i64 a, .int .i64 b, .int .i64 m, .slice xn nl nc, .slice xl ll lc, .slice xe el ec] 50))
  have D0 : Hid (InsAt (w.alloc (.cells #[.int .i64 op, .int .i64 a, .int .i64 b, .int .i64 m, .slice xn nl nc, .slice xl ll lc, .slice xe el ec] 50)) w.heap.size op a b m xn xl xe nl ll el nc lc ec) := Lib.hid ⟨World.cell?_alloc_mark w _ _ _ 0, World.cell?_alloc_mark w _ _ _ 1, World.cell?_alloc_mark w _ _ _ 2, World.cell?_alloc_mark w _ _ _ 3, World.cell?_alloc_mark w _ _ _ 4, World.cell?_alloc_mark w _ _ _ 5, World.cell?_alloc_mark w _ _ _ 6⟩
  obtain ⟨d0, d1, d2, d3, d4, d5, d6⟩ := D0.out
  have HF : Hid (fldB 8 a b m n = putU m) := Lib.hid (rfl)
  have H0 := Lib.hid (fun w2 (_ : Below w.heap.size w w2) => PutU_any m w2 (by omega))
  rw [HF.out]
  clear hn hv ha0 ha1 hm1 hb0 hb1 hnl hr HF _hn _hv _ha0 _ha1 _hm1 _hb0 _hb1 _hnl _hr
  go_enter Tryz.func181, Tryz.ntmps181
  go_wp2_with (go_at_call 86; refine (H0.out _ HB0.out).mono ?_; rintro e w2 ⟨rfl, hb2⟩)
  go_ret
  exact ⟨rfl, HB0.out.trans (hb2.mono (by simp))⟩
set_option maxRecDepth 100000 in
set_option maxHeartbeats 1000000 in
theorem fields_s9
    (op a b m : Int) (n : List Int) (xn xl xe : Option Addr) (nl ll el nc lc ec : Nat) (w : World) (_hn : nl = n.length) (_hv : View w xn nl n) (_ha0 : -9223372036854775808 ≤ a) (_ha1 : a ≤ 9223372036854775807) (_hm1 : m ≤ 9223372036854775807) (_hb0 : 0 ≤ b) (_hb1 : b ≤ 63) (_hnl : nl ≤ 1000) (_hr : ∀ i, i < n.length → n.getD i 0 ≤ 9223372036854775807) :
    Calls Tryz.prog 181 #[.agg #[.int .i64 op, .int .i64 a, .int .i64 b, .int .i64 m, .slice xn nl nc, .slice xl ll lc, .slice xe el ec], .int .i64 9] w fun e w' => e = .returned (.string (strOfNums (fldB 9 a b m n))) ∧ Below w.heap.size w w' := by
  have hn := _hn
  have hv := _hv
  have ha0 := _ha0
  have ha1 := _ha1
  have hm1 := _hm1
  have hb0 := _hb0
  have hb1 := _hb1
  have hnl := _hnl
  have hr := _hr
  have HB0 := Lib.hid ((Below.refl w.heap.size w).alloc (Nat.le_refl _) (.cells #[.int .i64 op, .int .i64 a, .int .i64 b, .int .i64 m, .slice xn nl nc, .slice xl ll lc, .slice xe el ec] 50))
  have D0 : Hid (InsAt (w.alloc (.cells #[.int .i64 op, .int .i64 a, .int .i64 b, .int .i64 m, .slice xn nl nc, .slice xl ll lc, .slice xe el ec] 50)) w.heap.size op a b m xn xl xe nl ll el nc lc ec) := Lib.hid ⟨World.cell?_alloc_mark w _ _ _ 0, World.cell?_alloc_mark w _ _ _ 1, World.cell?_alloc_mark w _ _ _ 2, World.cell?_alloc_mark w _ _ _ 3, World.cell?_alloc_mark w _ _ _ 4, World.cell?_alloc_mark w _ _ _ 5, World.cell?_alloc_mark w _ _ _ 6⟩
  obtain ⟨d0, d1, d2, d3, d4, d5, d6⟩ := D0.out
  have HF : Hid (fldB 9 a b m n = putU m ++ putU a) := Lib.hid (rfl)
  have H0 := Lib.hid (fun w2 (_ : Below w.heap.size w w2) => PutU_any m w2 (by omega))
  have H1 := Lib.hid (fun w2 (_ : Below w.heap.size w w2) => PutU_any a w2 (by omega))
  have hl0 := Leb.putU_length m
  have hl1 := Leb.putU_length a
  have hns := strOfNums_size
  have hno : ¬ 9223372036854775807 < (putU m).length + (putU a).length := by omega
  have HC := Lib.hid (strOfNums_app (putU m) (putU a))
  have DS : Hid ((w.alloc (.cells #[.int .i64 op, .int .i64 a, .int .i64 b, .int .i64 m, .slice xn nl nc, .slice xl ll lc, .slice xe el ec] 50)).drew.cell? ⟨w.heap.size, 0, none⟩ = some (.int .i64 op) ∧ (w.alloc (.cells #[.int .i64 op, .int .i64 a, .int .i64 b, .int .i64 m, .slice xn nl nc, .slice xl ll lc, .slice xe el ec] 50)).drew.cell? ⟨w.heap.size, 1, none⟩ = some (.int .i64 a) ∧ (w.alloc (.cells #[.int .i64 op, .int .i64 a, .int .i64 b, .int .i64 m, .slice xn nl nc, .slice xl ll lc, .slice xe el ec] 50)).drew.cell? ⟨w.heap.size, 2, none⟩ = some (.int .i64 b) ∧ (w.alloc (.cells #[.int .i64 op, .int .i64 a, .int .i64 b, .int .i64 m, .slice xn nl nc, .slice xl ll lc, .slice xe el ec] 50)).drew.cell? ⟨w.heap.size, 3, none⟩ = some (.int .i64 m) ∧ (w.alloc (.cells #[.int .i64 op, .int .i64 a, .int .i64 b, .int .i64 m, .slice xn nl nc, .slice xl ll lc, .slice xe el ec] 50)).drew.cell? ⟨w.heap.size, 4, none⟩ = some (.slice xn nl nc) ∧ (w.alloc (.cells #[.int .i64 op, .int .i64 a, .int .i64 b, .int .i64 m, .slice xn nl nc, .slice xl ll lc, .slice xe el ec] 50)).drew.cell? ⟨w.heap.size, 5, none⟩ = some (.slice xl ll lc) ∧ (w.alloc (.cells #[.int .i64 op, .int .i64 a, .int .i64 b, .int .i64 m, .slice xn nl nc, .slice xl ll lc, .slice xe el ec] 50)).drew.cell? ⟨w.heap.size, 6, none⟩ = some (.slice xe el ec)) := Lib.hid ⟨d0, d1, d2, d3, d4, d5, d6⟩
  have hbz : Below w.heap.size w (w.alloc (.cells #[.int .i64 op, .int .i64 a, .int .i64 b, .int .i64 m, .slice xn nl nc, .slice xl ll lc, .slice xe el ec] 50)).drew := HB0.out.drew
  rw [HF.out]
  clear hn hv ha0 ha1 hm1 hb0 hb1 hnl hr HF _hn _hv _ha0 _ha1 _hm1 _hb0 _hb1 _hnl _hr
  go_enter Tryz.func181, Tryz.ntmps181
  go_wp2_with fail
  go_region_held3 (fun w' => w'.cell? ⟨w.heap.size, 0, none⟩ = some (.int .i64 op) ∧ w'.cell? ⟨w.heap.size, 1, none⟩ = some (.int .i64 a) ∧ w'.cell? ⟨w.heap.size, 2, none⟩ = some (.int .i64 b) ∧ w'.cell? ⟨w.heap.size, 3, none⟩ = some (.int .i64 m) ∧ w'.cell? ⟨w.heap.size, 4, none⟩ = some (.slice xn nl nc) ∧ w'.cell? ⟨w.heap.size, 5, none⟩ = some (.slice xl ll lc) ∧ w'.cell? ⟨w.heap.size, 6, none⟩ = some (.slice xe el ec))
    (first | exact DS.out | exact DS1.out | exact DS2.out)
    (first
      | (go_at_call 86; refine (H0.out _ hbz).mono ?_; rintro e w2 ⟨rfl, hb2⟩; have hb3 := hbz.trans (hb2.mono hbz.size); clear H0
         have DS1 := Lib.hid (InsAt.below (op := op) (a := a) (b := b) (m := m) DS.out hb2); unfold InsAt at DS1)
      | (go_at_call 86; refine (H1.out _ hb3).mono ?_; rintro e w3 ⟨rfl, hb4⟩; have hb5 := hb3.trans (hb4.mono hb3.size); clear H1
         have DS2 := Lib.hid (InsAt.below (op := op) (a := a) (b := b) (m := m) DS1.out hb4); unfold InsAt at DS2))
  all_goals
    go_wp2_with fail
    go_ret
    exact ⟨congrArg (fun s => Ending.returned (.string s)) HC.out, hb5⟩
set_option maxRecDepth 100000 in
set_option maxHeartbeats 1000000 in
theorem fields_s10
    (op a b m : Int) (n : List Int) (xn xl xe : Option Addr) (nl ll el nc lc ec : Nat) (w : World) (_hn : nl = n.length) (_hv : View w xn nl n) (_ha0 : -9223372036854775808 ≤ a) (_ha1 : a ≤ 9223372036854775807) (_hm1 : m ≤ 9223372036854775807) (_hb0 : 0 ≤ b) (_hb1 : b ≤ 63) (_hnl : nl ≤ 1000) (_hr : ∀ i, i < n.length → n.getD i 0 ≤ 9223372036854775807) :
    Calls Tryz.prog 181 #[.agg #[.int .i64 op, .int .i64 a, .int .i64 b, .int .i64 m, .slice xn nl nc, .slice xl ll lc, .slice xe el ec], .int .i64 10] w fun e w' => e = .returned (.string (strOfNums (fldB 10 a b m n))) ∧ Below w.heap.size w w' := by
  have hn := _hn
  have hv := _hv
  have ha0 := _ha0
  have ha1 := _ha1
  have hm1 := _hm1
  have hb0 := _hb0
  have hb1 := _hb1
  have hnl := _hnl
  have hr := _hr
  have HB0 := Lib.hid ((Below.refl w.heap.size w).alloc (Nat.le_refl _) (.cells #[.int .i64 op, .int .i64 a, .int .i64 b, .int .i64 m, .slice xn nl nc, .slice xl ll lc, .slice xe el ec] 50))
  have D0 : Hid (InsAt (w.alloc (.cells #[.int .i64 op, .int .i64 a, .int .i64 b, .int .i64 m, .slice xn nl nc, .slice xl ll lc, .slice xe el ec] 50)) w.heap.size op a b m xn xl xe nl ll el nc lc ec) := Lib.hid ⟨World.cell?_alloc_mark w _ _ _ 0, World.cell?_alloc_mark w _ _ _ 1, World.cell?_alloc_mark w _ _ _ 2, World.cell?_alloc_mark w _ _ _ 3, World.cell?_alloc_mark w _ _ _ 4, World.cell?_alloc_mark w _ _ _ 5, World.cell?_alloc_mark w _ _ _ 6⟩
  obtain ⟨d0, d1, d2, d3, d4, d5, d6⟩ := D0.out
  have HF : Hid (fldB 10 a b m n = putS a) := Lib.hid (rfl)
  have H0 := Lib.hid (fun w2 (_ : Below w.heap.size w w2) => PutS_any a w2 ha0 ha1)
  rw [HF.out]
  clear hn hv ha0 ha1 hm1 hb0 hb1 hnl hr HF _hn _hv _ha0 _ha1 _hm1 _hb0 _hb1 _hnl _hr
  go_enter Tryz.func181, Tryz.ntmps181
  go_wp2_with (go_at_call 195; refine (H0.out _ HB0.out).mono ?_; rintro e w2 ⟨rfl, hb2⟩)
  go_ret
  exact ⟨rfl, HB0.out.trans (hb2.mono (by simp))⟩
set_option maxRecDepth 100000 in
set_option maxHeartbeats 1000000 in
theorem fields_s11
    (op a b m : Int) (n : List Int) (xn xl xe : Option Addr) (nl ll el nc lc ec : Nat) (w : World) (_hn : nl = n.length) (_hv : View w xn nl n) (_ha0 : -9223372036854775808 ≤ a) (_ha1 : a ≤ 9223372036854775807) (_hm1 : m ≤ 9223372036854775807) (_hb0 : 0 ≤ b) (_hb1 : b ≤ 63) (_hnl : nl ≤ 1000) (_hr : ∀ i, i < n.length → n.getD i 0 ≤ 9223372036854775807) :
    Calls Tryz.prog 181 #[.agg #[.int .i64 op, .int .i64 a, .int .i64 b, .int .i64 m, .slice xn nl nc, .slice xl ll lc, .slice xe el ec], .int .i64 11] w fun e w' => e = .returned (.string (strOfNums (fldB 11 a b m n))) ∧ Below w.heap.size w w' := by
  have hn := _hn
  have hv := _hv
  have ha0 := _ha0
  have ha1 := _ha1
  have hm1 := _hm1
  have hb0 := _hb0
  have hb1 := _hb1
  have hnl := _hnl
  have hr := _hr
  have HB0 := Lib.hid ((Below.refl w.heap.size w).alloc (Nat.le_refl _) (.cells #[.int .i64 op, .int .i64 a, .int .i64 b, .int .i64 m, .slice xn nl nc, .slice xl ll lc, .slice xe el ec] 50))
  have D0 : Hid (InsAt (w.alloc (.cells #[.int .i64 op, .int .i64 a, .int .i64 b, .int .i64 m, .slice xn nl nc, .slice xl ll lc, .slice xe el ec] 50)) w.heap.size op a b m xn xl xe nl ll el nc lc ec) := Lib.hid ⟨World.cell?_alloc_mark w _ _ _ 0, World.cell?_alloc_mark w _ _ _ 1, World.cell?_alloc_mark w _ _ _ 2, World.cell?_alloc_mark w _ _ _ 3, World.cell?_alloc_mark w _ _ _ 4, World.cell?_alloc_mark w _ _ _ 5, World.cell?_alloc_mark w _ _ _ 6⟩
  obtain ⟨d0, d1, d2, d3, d4, d5, d6⟩ := D0.out
  have HF : Hid (fldB 11 a b m n = [112 % 256]) := Lib.hid (rfl)
  have H0 := Lib.hid (fun w2 (_ : Below w.heap.size w w2) => insOne_any 112 w2)
  rw [HF.out]
  clear hn hv ha0 ha1 hm1 hb0 hb1 hnl hr HF _hn _hv _ha0 _ha1 _hm1 _hb0 _hb1 _hnl _hr
  go_enter Tryz.func181, Tryz.ntmps181
  go_wp2_with (go_at_call 194; refine (H0.out _ HB0.out).mono ?_; rintro e w2 ⟨rfl, hb2⟩)
  go_ret
  exact ⟨rfl, HB0.out.trans (hb2.mono (by simp))⟩
end Go.Proofs.YtekonefnniaheaaGreat
namespace Go.Proofs.YtekonefnniaheaaGreat
open Go.RowKit
open Leb (putU putS)

mutual
/-- An instruction's bytes. -/
def putI : Ins → List Int
  | .mk op a b m n l e => opB op ++ (fldB (shapeV op).1 a b m n ++ (if (shapeV op).1 = 2 then putL l ++ ((if e.length = 0 then [] else 5 :: putL e) ++ [11]) else []))
/-- Instructions' bytes, without an end. -/
def putL : List Ins → List Int
  | [] => []
  | i :: r => putI i ++ putL r
end
mutual
/-- The numbers of an int. -/
def wfI : Ins → Prop
  | .mk _ a _ _ _ l e => (-9223372036854775808 ≤ a ∧ a ≤ 9223372036854775807) ∧ wfL l ∧ wfL e
def wfL : List Ins → Prop
  | [] => True
  | i :: r => wfI i ∧ wfL r
end
theorem putI_eq (c : Ins) : putI c = opB c.op ++ (fldB (shapeV c.op).1 c.a c.b c.m c.n ++ (if (shapeV c.op).1 = 2 then putL c.l ++ ((if c.e.length = 0 then [] else 5 :: putL c.e) ++ [11]) else [])) := by
  cases c with
  | mk op a b m n l e =>
    rw [putI]
    rfl
theorem wfI_eq (c : Ins) : wfI c ↔ (-9223372036854775808 ≤ c.a ∧ c.a ≤ 9223372036854775807) ∧ wfL c.l ∧ wfL c.e := by
  cases c with
  | mk op a b m n l e =>
    rw [wfI]
    rfl
theorem putL_app (x y : List Ins) : putL (x ++ y) = putL x ++ putL y := by
  induction x with
  | nil => rw [putL]; rfl
  | cons i r ih => rw [List.cons_append, putL, putL, ih, List.append_assoc]
theorem take_getD {l : List Ins} {i : Nat} (h : i < l.length) : l.take (i + 1) = l.take i ++ [l.getD i default] := by
  rw [List.take_succ_eq_append_getElem h, List.getD_eq_getElem?_getD, List.getElem?_eq_getElem h]
  rfl
theorem putL_take {l : List Ins} {i : Nat} (h : i < l.length) : putL (l.take (i + 1)) = putL (l.take i) ++ putI (l.getD i default) := by
  rw [take_getD h, putL_app, putL, putL, List.append_nil]
theorem putL_split {l : List Ins} {i : Nat} (h : i < l.length) : (putL (l.take i)).length + (putI (l.getD i default)).length ≤ (putL l).length := by
  have e : putL l = putL (l.take (i + 1)) ++ putL (l.drop (i + 1)) := by rw [← putL_app, List.take_append_drop]
  rw [e, putL_take h, List.length_append, List.length_append]
  omega
theorem okL_at {d : Nat} {l : List Ins} (h : okL d l = true) {i : Nat} (hi : i < l.length) : okI d (l.getD i default) = true := by
  induction l generalizing i with
  | nil => exact absurd hi (by simp)
  | cons c r ih =>
    rw [okL, Bool.and_eq_true] at h
    cases i with
    | zero => simpa using h.1
    | succ k => simpa using ih h.2 (i := k) (by rw [List.length_cons] at hi; omega)
theorem wfL_at {l : List Ins} (h : wfL l) {i : Nat} (hi : i < l.length) : wfI (l.getD i default) := by
  induction l generalizing i with
  | nil => exact absurd hi (by simp)
  | cons c r ih =>
    rw [wfL] at h
    cases i with
    | zero => simpa using h.1
    | succ k => simpa using ih h.2 (i := k) (by rw [List.length_cons] at hi; omega)
theorem idxB_parts {n : Int} (h : idxB n = true) : 0 ≤ n ∧ n ≤ 4294967295 := of_decide_eq_true h
/-- What may be has numbers of these kinds. -/
theorem mayI_bounds {c : Ins} (h : mayI c = true) : (0 ≤ c.m ∧ c.m ≤ 4294967295) ∧ (0 ≤ c.b ∧ c.b ≤ 63) ∧ c.n.length ≤ 1000 ∧ (∀ i, i < c.n.length → 0 ≤ c.n.getD i 0 ∧ c.n.getD i 0 ≤ 4294967295) ∧ mayAV (shapeV c.op).1 c.op c.a = true := by
  have her := (mayI_parts h).1
  rw [← may_same c her] at h
  unfold mayPV at h
  simp only [Bool.and_eq_true] at h
  obtain ⟨⟨⟨⟨⟨hA, hB⟩, hM⟩, hN⟩, _⟩, _⟩ := h
  refine ⟨?_, ?_, ?_, ?_, hA⟩
  · unfold mayMV at hM
    split at hM
    · exact idxB_parts hM
    · have := of_decide_eq_true hM
      omega
  · unfold mayBV at hB
    split at hB
    · simp only [Bool.and_eq_true, decide_eq_true_eq] at hB
      exact hB
    · have := of_decide_eq_true hB
      omega
  · unfold mayNV at hN
    split at hN
    · simp only [Bool.and_eq_true, decide_eq_true_eq] at hN
      exact hN.1
    · have := of_decide_eq_true hN
      omega
  · unfold mayNV at hN
    split at hN
    · simp only [Bool.and_eq_true, decide_eq_true_eq, List.all_eq_true] at hN
      intro i hi
      refine idxB_parts (hN.2 _ ?_)
      rw [List.getD_eq_getElem?_getD, List.getElem?_eq_getElem hi]
      exact List.getElem_mem _
    · have := of_decide_eq_true hN
      intro i hi
      omega
mutual
theorem putI_len (d : Nat) : ∀ c : Ins, okI d c = true → (putI c).length ≤ 10100 * sizI c
  | .mk op a b m n l e, h => by
    have hm : mayI (.mk op a b m n l e) = true := by
      rw [okI, Bool.and_eq_true] at h
      exact h.1
    have h1 := opB_length op
    have h2 := fldB_length (shapeV op).1 a b m n
    have h3 : n.length ≤ 1000 := (mayI_bounds hm).2.2.1
    rw [putI, sizI, List.length_append, List.length_append]
    by_cases hs : (shapeV op).1 = 2
    · have hb := shapeV_two hs
      rw [okI, if_pos hb, Bool.and_eq_true, Bool.and_eq_true, Bool.and_eq_true] at h
      have h4 := putL_len (d + 1) l h.2.2.1
      have h5 := putL_len (d + 1) e h.2.2.2
      rw [if_pos hs, List.length_append, List.length_append, List.length_singleton]
      split
      · rw [List.length_nil]; omega
      · rw [List.length_cons]; omega
    · rw [if_neg hs, List.length_nil]
      omega
theorem putL_len (d : Nat) : ∀ l : List Ins, okL d l = true → (putL l).length ≤ 10100 * sizL l
  | [], _ => by rw [putL, sizL]; simp
  | c :: r, h => by
    rw [okL, Bool.and_eq_true] at h
    have h1 := putI_len d c h.1
    have h2 := putL_len d r h.2
    rw [putL, sizL, List.length_append]
    omega
end
/-- Blocks below B stay, and so does each instruction that stands in a block of its own. -/
structure KeepI (B : Nat) (w w' : World) : Prop where
  below : Below B w w'
  ins : ∀ (k : Nat) (cs : Array Value), w.heap[k]? = some (.cells cs 50 (0, 0)) → w'.heap[k]? = some (.cells cs 50 (0, 0))
theorem KeepI.refl (B : Nat) (w : World) : KeepI B w w := ⟨Below.refl _ _, fun _ _ h => h⟩
theorem KeepI.trans {B : Nat} {a b c : World} (h : KeepI B a b) (k : KeepI B b c) : KeepI B a c := ⟨h.below.trans k.below, fun i cs hi => k.ins i cs (h.ins i cs hi)⟩
theorem KeepI.of_below {B : Nat} {w w' : World} (hB : B ≤ w.heap.size) (h : Below w.heap.size w w') : KeepI B w w' := ⟨h.mono hB, fun k _ hk => (h.block k (Array.getElem?_eq_some_iff.1 hk).1).trans hk⟩
theorem Bytes.ne {B : Nat} {v : Value} {xs : List Int} {w : World} (h : Bytes B v xs w) {k : Nat} {cs : Array Value} (hk : w.heap[k]? = some (.cells cs 50 (0, 0))) : some k ≠ v.ownBlock := by
  rcases h.2 with ⟨rfl, _⟩ | ⟨g, cap, cur, rfl, _, hg, _⟩
  · exact fun h => by cases h
  · intro he
    cases he
    rw [hg] at hk
    simp only [Option.some.injEq, Obj.cells.injEq] at hk
    exact absurd hk.2.1 (by decide)
theorem Bytes.own {B : Nat} {v : Value} {xs : List Int} {w : World} (h : Bytes B v xs w) : ∀ k, v.ownBlock = some k → B ≤ k := fun k hk => (World.ownsRow.lt h k hk).1
theorem KeepI.grown {B : Nat} {v : Value} {xs : List Int} {w w' : World} (hby : Bytes B v xs w) (hB : B ≤ w.heap.size) (hg : w.grownBy w' v.ownBlock) : KeepI B w w' :=
  ⟨(Below.refl B w).grown hg hB hby.own, fun k _ hk => (hg.block k (Array.getElem?_eq_some_iff.1 hk).1 (hby.ne hk)).trans hk⟩
theorem Bytes.below {base : Nat} {v : Value} {xs : List Int} {w w' : World} (h : Bytes base v xs w) (hb : Below w.heap.size w w') : Bytes base v xs w' := by
  refine ⟨h.1, ?_⟩
  rcases h.2 with hn | ⟨g, cap, cur, rfl, hg, hgg, rest⟩
  · exact .inl hn
  · exact .inr ⟨g, cap, cur, rfl, hg, (hb.block g (Array.getElem?_eq_some_iff.1 hgg).1).trans hgg, rest⟩
theorem strCells_nums {l : List Int} (h : ∀ z ∈ l, 0 ≤ z ∧ z < 256) : Lib.strCells (strOfNums l) = l.map (Value.int .u8) := by
  unfold Lib.strCells
  rw [strOfNums_data, List.map_map]
  refine List.map_congr_left fun z hz => ?_
  have := h z hz
  show Value.int .u8 ((UInt8.ofNat z.toNat).toNat : Nat) = _
  rw [UInt8.toNat_ofNat', Nat.mod_eq_of_lt (by omega)]
  congr 1
  omega
/-- A buffer, an instruction in a block of its own beside it, and what stays. -/
structure StI (B : Nat) (w0 w : World) (q : Nat) (cs : Array Value) (v : Value) (ys : List Int) (wx : World) : Prop where
  by' : Bytes B v ys wx
  keep : KeepI B w wx
  lies : Below B w0 wx
  ins : wx.heap[q]? = some (.cells cs 50 (0, 0))
  size : B ≤ wx.heap.size
theorem StI.below {B : Nat} {w0 w : World} {q : Nat} {cs : Array Value} {v : Value} {ys : List Int} {wx wy : World} (h : StI B w0 w q cs v ys wx) (hb : Below wx.heap.size wx wy) : StI B w0 w q cs v ys wy :=
  ⟨h.by'.below hb, h.keep.trans (.of_below h.size hb), h.lies.trans (hb.mono h.size), (hb.block q (Array.getElem?_eq_some_iff.1 h.ins).1).trans h.ins, Nat.le_trans h.size hb.size⟩
theorem StI.start {B : Nat} {w0 w wr : World} {v : Value} {ys : List Int} (cs : Array Value) (hby : Bytes B v ys wr) (hk : KeepI B w wr) (hb : Below B w0 wr) (hz : B ≤ wr.heap.size) : StI B w0 w wr.heap.size cs v ys (wr.alloc (.cells cs 50)) :=
  ⟨hby.below ((Below.refl _ _).alloc (Nat.le_refl _) _), hk.trans (.of_below hz ((Below.refl _ _).alloc (Nat.le_refl _) _)), hb.alloc hz _, heap_alloc_new wr _, le_alloc hz⟩
theorem StI.grown {B : Nat} {w0 w : World} {q : Nat} {cs : Array Value} {v v' : Value} {ys zs : List Int} {wx wy : World} (h : StI B w0 w q cs v ys wx) (hg : wx.grownBy wy v.ownBlock) (hby : Bytes B v' zs wy) : StI B w0 w q cs v' zs wy := by
  have hk := KeepI.grown h.by' h.size hg
  exact ⟨hby, h.keep.trans hk, h.lies.trans hk.below, hk.ins _ _ h.ins, Nat.le_trans h.size hg.size⟩
theorem StI.str {B : Nat} {w0 w : World} {q : Nat} {cs : Array Value} {v v' : Value} {ys l : List Int} {wx wy : World} (h : StI B w0 w q cs v ys wx) (hl : ∀ z ∈ l, 0 ≤ z ∧ z < 256)
    (hown : wy.ownsRow B 5 1 v' (ys.length + (strOfNums l).size) (ys.map (Value.int .u8) ++ Lib.strCells (strOfNums l))) (hg : wx.grownBy wy v.ownBlock) : StI B w0 w q cs v' (ys ++ l) wy :=
  h.grown hg (by
    rw [strCells_nums hl, strOfNums_size] at hown
    unfold Bytes
    rwa [List.map_append, List.length_append])
theorem StI.one {B : Nat} {w0 w : World} {q : Nat} {cs : Array Value} {v v' : Value} {ys : List Int} {d : Int} {wx wy : World} (h : StI B w0 w q cs v ys wx)
    (hown : wy.ownsRow B 5 1 v' (ys.length + 1) (ys.map (Value.int .u8) ++ [.int .u8 d])) (hg : wx.grownBy wy v.ownBlock) : StI B w0 w q cs v' (ys ++ [d]) wy :=
  h.grown hg (Bytes.snoc hown)
theorem StI.sub {B : Nat} {w0 w : World} {q : Nat} {cs : Array Value} {v v' : Value} {ys zs : List Int} {wx wy : World} (h : StI B w0 w q cs v ys wx) (hby : Bytes B v' zs wy) (hk : KeepI B wx wy) : StI B w0 w q cs v' zs wy :=
  ⟨hby, h.keep.trans hk, h.lies.trans hk.below, hk.ins _ _ h.ins, Nat.le_trans h.size hk.below.size⟩
theorem StI.at {B : Nat} {w0 w : World} {q : Nat} {op a b m : Int} {xn xl xe : Option Addr} {nl ll el nc lc ec : Nat} {v : Value} {ys : List Int} {wx : World} (h : StI B w0 w q #[.int .i64 op, .int .i64 a, .int .i64 b, .int .i64 m, .slice xn nl nc, .slice xl ll lc, .slice xe el ec] v ys wx) : InsAt wx q op a b m xn xl xe nl ll el nc lc ec := by
  have h1 := h.ins
  refine ⟨?_, ?_, ?_, ?_, ?_, ?_, ?_⟩ <;> (unfold World.cell?; rw [h1]; rfl)
theorem shapeV_top {op : Int} (h : (shapeV op).2 = 0) : op ≤ 9223372036854775807 := by
  by_cases hm : op ∈ nameOps
  · have key : ∀ op ∈ nameOps, op ≤ 9223372036854775807 := by decide
    exact key op hm
  · rw [shapeV_other hm] at h
    by_cases hs : 0 < (Num.sig op).1
    · by_cases hbig : 197 ≤ op
      · rcases Num.sig_cases op with ⟨h, k⟩ | ⟨h, h', k⟩ | ⟨h, k⟩ | ⟨h, k⟩ | ⟨h, k⟩ | ⟨h, k⟩ | ⟨h, h', k⟩ | ⟨h, h', k⟩ | ⟨h, k⟩ | ⟨h, k⟩ | ⟨h, h', k⟩ | ⟨h, h', k⟩ | ⟨h, h', k⟩ | ⟨h, h', k⟩ | ⟨h, k⟩
        all_goals first
          | omega
          | (exfalso
             unfold Num.sigTup Num.tup3 at k
             simp only [Value.tuple.injEq, Array.mk.injEq, List.cons.injEq, Value.int.injEq, true_and] at k
             omega)
      · omega
    rw [if_neg hs] at h
    by_cases hw : 0 < (Mem.width op).1
    · have hm2 : op ∈ Mem.wOps := by
        by_cases q : op ∈ Mem.wOps
        · exact q
        · unfold Mem.width at hw
          rw [if_neg q] at hw
          exact absurd hw (by decide)
      have key : ∀ op ∈ Mem.wOps, op ≤ 9223372036854775807 := by decide
      exact key op hm2
    rw [if_neg hw] at h
    split at h
    · cases h
    split at h
    · cases h
    · cases h
theorem fields_any (c : Ins) (xn xl xe : Option Addr) (nl ll el nc lc ec : Nat) (w : World) (her : (shapeV c.op).2 = 0) (hn : nl = c.n.length) (hv : View w xn nl c.n) (ha0 : -9223372036854775808 ≤ c.a) (ha1 : c.a ≤ 9223372036854775807) (hm1 : c.m ≤ 9223372036854775807) (hb0 : 0 ≤ c.b) (hb1 : c.b ≤ 63) (hnl : c.n.length ≤ 1000) (hr : ∀ i, i < c.n.length → c.n.getD i 0 ≤ 9223372036854775807) :
    Calls Tryz.prog 181 #[.agg #[.int .i64 c.op, .int .i64 c.a, .int .i64 c.b, .int .i64 c.m, .slice xn nl nc, .slice xl ll lc, .slice xe el ec], .int .i64 (shapeV c.op).1] w fun e w' => e = .returned (.string (strOfNums (fldB (shapeV c.op).1 c.a c.b c.m c.n))) ∧ Below w.heap.size w w' := by
  have hnl2 : nl ≤ 1000 := by omega
  rcases shapeV_in c.op her with s | s | s | s | s | s | s | s | s | s | s
  all_goals rw [s]
  · exact fields_s1 c.op c.a c.b c.m c.n xn xl xe nl ll el nc lc ec w hn hv ha0 ha1 hm1 hb0 hb1 hnl2 hr
  · exact fields_s2 c.op c.a c.b c.m c.n xn xl xe nl ll el nc lc ec w hn hv ha0 ha1 hm1 hb0 hb1 hnl2 hr
  · exact fields_s3 c.op c.a c.b c.m c.n xn xl xe nl ll el nc lc ec w hn hv ha0 ha1 hm1 hb0 hb1 hnl2 hr
  · exact fields_s4 c.op c.a c.b c.m c.n xn xl xe nl ll el nc lc ec w hn hv ha0 ha1 hm1 hb0 hb1 hnl2 hr
  · exact fields_s5 c.op c.a c.b c.m c.n xn xl xe nl ll el nc lc ec w hn hv ha0 ha1 hm1 hb0 hb1 hnl2 hr
  · exact fields_s6 c.op c.a c.b c.m c.n xn xl xe nl ll el nc lc ec w hn hv ha0 ha1 hm1 hb0 hb1 hnl2 hr
  · exact fields_s7 c.op c.a c.b c.m c.n xn xl xe nl ll el nc lc ec w hn hv ha0 ha1 hm1 hb0 hb1 hnl2 hr
  · exact fields_s8 c.op c.a c.b c.m c.n xn xl xe nl ll el nc lc ec w hn hv ha0 ha1 hm1 hb0 hb1 hnl2 hr
  · exact fields_s9 c.op c.a c.b c.m c.n xn xl xe nl ll el nc lc ec w hn hv ha0 ha1 hm1 hb0 hb1 hnl2 hr
  · exact fields_s10 c.op c.a c.b c.m c.n xn xl xe nl ll el nc lc ec w hn hv ha0 ha1 hm1 hb0 hb1 hnl2 hr
  · exact fields_s11 c.op c.a c.b c.m c.n xn xl xe nl ll el nc lc ec w hn hv ha0 ha1 hm1 hb0 hb1 hnl2 hr
/-- What laying behind a buffer leaves. -/
def GivesI (B : Nat) (xs : List Int) (w : World) (e : Ending) (w' : World) : Prop := ∃ v, e = .returned v ∧ Bytes B v xs w' ∧ KeepI B w w'
end Go.Proofs.YtekonefnniaheaaGreat
