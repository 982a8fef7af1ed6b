/- The project's laying of an instruction's numbers. -/
import Derived.Test.YtfhifnkekegkkaaInsP6
namespace Go.Proofs.Ytfhifnkekegkkaa
open Go.RowKit
open Leb (putU putS)

theorem InsAt.all {w w' : World} {bd : Nat} {op a b m : Int} {xn xl xe : Option Addr} {nl ll el nc lc ec : Nat} (h : InsAt w bd op a b m xn xl xe nl ll el nc lc ec) (hb : Below w.heap.size w w') : InsAt w' bd op a b m xn xl xe nl ll el nc lc ec := h.below hb
set_option maxRecDepth 100000 in
set_option maxHeartbeats 1000000 in
theorem fields_s1
    (op a b m : Int) (n : List Int) (xn xl xe : Option Addr) (nl ll el nc lc ec : Nat) (w : World) (_hn : nl = n.length) (_hv : View w xn nl n) (_ha0 : -9223372036854775808 ≤ a) (_ha1 : a ≤ 9223372036854775807) (_hm1 : m ≤ 9223372036854775807) (_hb0 : 0 ≤ b) (_hb1 : b ≤ 63) (_hnl : nl ≤ 1000) (_hr : ∀ i, i < n.length → n.getD i 0 ≤ 9223372036854775807) :
    Calls Try.prog 24 #[.agg #[.int .i64 op, .int .i64 a, .int .i64 b, .int .i64 m, .slice xn nl nc, .slice xl ll lc, .slice xe el ec], .int .i64 1] w fun e w' => e = .returned (.string (strOfNums (fldB 1 a b m n))) ∧ Below w.heap.size w w' := by
  have hn := _hn
  have hv := _hv
  have ha0 := _ha0
  have ha1 := _ha1
  have hm1 := _hm1
  have hb0 := _hb0
  have hb1 := _hb1
  have hnl := _hnl
  have hr := _hr
  have HB0 := Lib.hid ((Below.refl w.heap.size w).alloc (Nat.le_refl _) (.cells #[.int .i64 op, .int .i64 a, .int .i64 b, .int .i64 m, .slice xn nl nc, .slice xl ll lc, .slice xe el ec] 47))
  have D0 : Hid (InsAt (w.alloc (.cells #[.int .i64 op, .int .i64 a, .int .i64 b, .int .i64 m, .slice xn nl nc, .slice xl ll lc, .slice xe el ec] 47)) w.heap.size op a b m xn xl xe nl ll el nc lc ec) := Lib.hid ⟨World.cell?_alloc_mark w _ _ _ 0, World.cell?_alloc_mark w _ _ _ 1, World.cell?_alloc_mark w _ _ _ 2, World.cell?_alloc_mark w _ _ _ 3, World.cell?_alloc_mark w _ _ _ 4, World.cell?_alloc_mark w _ _ _ 5, World.cell?_alloc_mark w _ _ _ 6⟩
  obtain ⟨d0, d1, d2, d3, d4, d5, d6⟩ := D0.out
  have HF : Hid (fldB 1 a b m n = []) := Lib.hid (rfl)
  rw [HF.out]
  clear hn hv ha0 ha1 hm1 hb0 hb1 hnl hr HF _hn _hv _ha0 _ha1 _hm1 _hb0 _hb1 _hnl _hr
  go_enter Try.func24, Try.ntmps24
  go_wp2_with fail
  go_ret
  exact ⟨rfl, HB0.out⟩
set_option maxRecDepth 100000 in
set_option maxHeartbeats 1000000 in
theorem fields_s2
    (op a b m : Int) (n : List Int) (xn xl xe : Option Addr) (nl ll el nc lc ec : Nat) (w : World) (_hn : nl = n.length) (_hv : View w xn nl n) (_ha0 : -9223372036854775808 ≤ a) (_ha1 : a ≤ 9223372036854775807) (_hm1 : m ≤ 9223372036854775807) (_hb0 : 0 ≤ b) (_hb1 : b ≤ 63) (_hnl : nl ≤ 1000) (_hr : ∀ i, i < n.length → n.getD i 0 ≤ 9223372036854775807) :
    Calls Try.prog 24 #[.agg #[.int .i64 op, .int .i64 a, .int .i64 b, .int .i64 m, .slice xn nl nc, .slice xl ll lc, .slice xe el ec], .int .i64 2] w fun e w' => e = .returned (.string (strOfNums (fldB 2 a b m n))) ∧ Below w.heap.size w w' := by
  have hn := _hn
  have hv := _hv
  have ha0 := _ha0
  have ha1 := _ha1
  have hm1 := _hm1
  have hb0 := _hb0
  have hb1 := _hb1
  have hnl := _hnl
  have hr := _hr
  have HB0 := Lib.hid ((Below.refl w.heap.size w).alloc (Nat.le_refl _) (.cells #[.int .i64 op, .int .i64 a, .int .i64 b, .int .i64 m, .slice xn nl nc, .slice xl ll lc, .slice xe el ec] 47))
  have D0 : Hid (InsAt (w.alloc (.cells #[.int .i64 op, .int .i64 a, .int .i64 b, .int .i64 m, .slice xn nl nc, .slice xl ll lc, .slice xe el ec] 47)) w.heap.size op a b m xn xl xe nl ll el nc lc ec) := Lib.hid ⟨World.cell?_alloc_mark w _ _ _ 0, World.cell?_alloc_mark w _ _ _ 1, World.cell?_alloc_mark w _ _ _ 2, World.cell?_alloc_mark w _ _ _ 3, World.cell?_alloc_mark w _ _ _ 4, World.cell?_alloc_mark w _ _ _ 5, World.cell?_alloc_mark w _ _ _ 6⟩
  obtain ⟨d0, d1, d2, d3, d4, d5, d6⟩ := D0.out
  have HF : Hid (fldB 2 a b m n = putS a) := Lib.hid (rfl)
  have H0 := Lib.hid (fun w2 (_ : Below w.heap.size w w2) => PutS_any a w2 ha0 ha1)
  rw [HF.out]
  clear hn hv ha0 ha1 hm1 hb0 hb1 hnl hr HF _hn _hv _ha0 _ha1 _hm1 _hb0 _hb1 _hnl _hr
  go_enter Try.func24, Try.ntmps24
  go_wp2_with (go_at_call 43; refine (H0.out _ HB0.out).mono ?_; rintro e w2 ⟨rfl, hb2⟩)
  go_ret
  exact ⟨rfl, HB0.out.trans (hb2.mono (by simp))⟩
set_option maxRecDepth 100000 in
set_option maxHeartbeats 1000000 in
theorem fields_s3
    (op a b m : Int) (n : List Int) (xn xl xe : Option Addr) (nl ll el nc lc ec : Nat) (w : World) (_hn : nl = n.length) (_hv : View w xn nl n) (_ha0 : -9223372036854775808 ≤ a) (_ha1 : a ≤ 9223372036854775807) (_hm1 : m ≤ 9223372036854775807) (_hb0 : 0 ≤ b) (_hb1 : b ≤ 63) (_hnl : nl ≤ 1000) (_hr : ∀ i, i < n.length → n.getD i 0 ≤ 9223372036854775807) :
    Calls Try.prog 24 #[.agg #[.int .i64 op, .int .i64 a, .int .i64 b, .int .i64 m, .slice xn nl nc, .slice xl ll lc, .slice xe el ec], .int .i64 3] w fun e w' => e = .returned (.string (strOfNums (fldB 3 a b m n))) ∧ Below w.heap.size w w' := by
  have hn := _hn
  have hv := _hv
  have ha0 := _ha0
  have ha1 := _ha1
  have hm1 := _hm1
  have hb0 := _hb0
  have hb1 := _hb1
  have hnl := _hnl
  have hr := _hr
  have HB0 := Lib.hid ((Below.refl w.heap.size w).alloc (Nat.le_refl _) (.cells #[.int .i64 op, .int .i64 a, .int .i64 b, .int .i64 m, .slice xn nl nc, .slice xl ll lc, .slice xe el ec] 47))
  have D0 : Hid (InsAt (w.alloc (.cells #[.int .i64 op, .int .i64 a, .int .i64 b, .int .i64 m, .slice xn nl nc, .slice xl ll lc, .slice xe el ec] 47)) w.heap.size op a b m xn xl xe nl ll el nc lc ec) := Lib.hid ⟨World.cell?_alloc_mark w _ _ _ 0, World.cell?_alloc_mark w _ _ _ 1, World.cell?_alloc_mark w _ _ _ 2, World.cell?_alloc_mark w _ _ _ 3, World.cell?_alloc_mark w _ _ _ 4, World.cell?_alloc_mark w _ _ _ 5, World.cell?_alloc_mark w _ _ _ 6⟩
  obtain ⟨d0, d1, d2, d3, d4, d5, d6⟩ := D0.out
  have HF : Hid (fldB 3 a b m n = putU a) := Lib.hid (rfl)
  have H0 := Lib.hid (fun w2 (_ : Below w.heap.size w w2) => PutU_any a w2 (by omega))
  rw [HF.out]
  clear hn hv ha0 ha1 hm1 hb0 hb1 hnl hr HF _hn _hv _ha0 _ha1 _hm1 _hb0 _hb1 _hnl _hr
  go_enter Try.func24, Try.ntmps24
  go_wp2_with (go_at_call 42; refine (H0.out _ HB0.out).mono ?_; rintro e w2 ⟨rfl, hb2⟩)
  go_ret
  exact ⟨rfl, HB0.out.trans (hb2.mono (by simp))⟩
set_option maxRecDepth 100000 in
set_option maxHeartbeats 1000000 in
theorem fields_s4
    (op a b m : Int) (n : List Int) (xn xl xe : Option Addr) (nl ll el nc lc ec : Nat) (w : World) (_hn : nl = n.length) (_hv : View w xn nl n) (_ha0 : -9223372036854775808 ≤ a) (_ha1 : a ≤ 9223372036854775807) (_hm1 : m ≤ 9223372036854775807) (_hb0 : 0 ≤ b) (_hb1 : b ≤ 63) (_hnl : nl ≤ 1000) (_hr : ∀ i, i < n.length → n.getD i 0 ≤ 9223372036854775807) :
    Calls Try.prog 24 #[.agg #[.int .i64 op, .int .i64 a, .int .i64 b, .int .i64 m, .slice xn nl nc, .slice xl ll lc, .slice xe el ec], .int .i64 4] w fun e w' => e = .returned (.string (strOfNums (fldB 4 a b m n))) ∧ Below w.heap.size w w' := by
  have hn := _hn
  have hv := _hv
  have ha0 := _ha0
  have ha1 := _ha1
  have hm1 := _hm1
  have hb0 := _hb0
  have hb1 := _hb1
  have hnl := _hnl
  have hr := _hr
  have HB0 := Lib.hid ((Below.refl w.heap.size w).alloc (Nat.le_refl _) (.cells #[.int .i64 op, .int .i64 a, .int .i64 b, .int .i64 m, .slice xn nl nc, .slice xl ll lc, .slice xe el ec] 47))
  have D0 : Hid (InsAt (w.alloc (.cells #[.int .i64 op, .int .i64 a, .int .i64 b, .int .i64 m, .slice xn nl nc, .slice xl ll lc, .slice xe el ec] 47)) w.heap.size op a b m xn xl xe nl ll el nc lc ec) := Lib.hid ⟨World.cell?_alloc_mark w _ _ _ 0, World.cell?_alloc_mark w _ _ _ 1, World.cell?_alloc_mark w _ _ _ 2, World.cell?_alloc_mark w _ _ _ 3, World.cell?_alloc_mark w _ _ _ 4, World.cell?_alloc_mark w _ _ _ 5, World.cell?_alloc_mark w _ _ _ 6⟩
  obtain ⟨d0, d1, d2, d3, d4, d5, d6⟩ := D0.out
  have HF : Hid (fldB 4 a b m n = rowL nl n nl ++ putU a) := Lib.hid (by rw [show fldB 4 a b m n = allB n ++ putU a from rfl, ← rowL_all, ← hn])
  have H0 := Lib.hid (fun w2 (hb : Below w.heap.size w w2) => PutAll_any xn nl nc n w2 (hv.below hb) (by omega) (by omega) (fun i hi => hr i (by omega)))
  have H1 := Lib.hid (fun w2 (_ : Below w.heap.size w w2) => PutU_any a w2 (by omega))
  have hl0 := rowL_length nl n nl
  have hl1 := Leb.putU_length a
  have hns := strOfNums_size
  have hno : ¬ 9223372036854775807 < (rowL nl n nl).length + (putU a).length := by omega
  have HC := Lib.hid (strOfNums_app (rowL nl n nl) (putU a))
  have DS : Hid ((w.alloc (.cells #[.int .i64 op, .int .i64 a, .int .i64 b, .int .i64 m, .slice xn nl nc, .slice xl ll lc, .slice xe el ec] 47)).drew.cell? ⟨w.heap.size, 0, none⟩ = some (.int .i64 op) ∧ (w.alloc (.cells #[.int .i64 op, .int .i64 a, .int .i64 b, .int .i64 m, .slice xn nl nc, .slice xl ll lc, .slice xe el ec] 47)).drew.cell? ⟨w.heap.size, 1, none⟩ = some (.int .i64 a) ∧ (w.alloc (.cells #[.int .i64 op, .int .i64 a, .int .i64 b, .int .i64 m, .slice xn nl nc, .slice xl ll lc, .slice xe el ec] 47)).drew.cell? ⟨w.heap.size, 2, none⟩ = some (.int .i64 b) ∧ (w.alloc (.cells #[.int .i64 op, .int .i64 a, .int .i64 b, .int .i64 m, .slice xn nl nc, .slice xl ll lc, .slice xe el ec] 47)).drew.cell? ⟨w.heap.size, 3, none⟩ = some (.int .i64 m) ∧ (w.alloc (.cells #[.int .i64 op, .int .i64 a, .int .i64 b, .int .i64 m, .slice xn nl nc, .slice xl ll lc, .slice xe el ec] 47)).drew.cell? ⟨w.heap.size, 4, none⟩ = some (.slice xn nl nc) ∧ (w.alloc (.cells #[.int .i64 op, .int .i64 a, .int .i64 b, .int .i64 m, .slice xn nl nc, .slice xl ll lc, .slice xe el ec] 47)).drew.cell? ⟨w.heap.size, 5, none⟩ = some (.slice xl ll lc) ∧ (w.alloc (.cells #[.int .i64 op, .int .i64 a, .int .i64 b, .int .i64 m, .slice xn nl nc, .slice xl ll lc, .slice xe el ec] 47)).drew.cell? ⟨w.heap.size, 6, none⟩ = some (.slice xe el ec)) := Lib.hid ⟨d0, d1, d2, d3, d4, d5, d6⟩
  have hbz : Below w.heap.size w (w.alloc (.cells #[.int .i64 op, .int .i64 a, .int .i64 b, .int .i64 m, .slice xn nl nc, .slice xl ll lc, .slice xe el ec] 47)).drew := HB0.out.drew
  rw [HF.out]
  clear hn hv ha0 ha1 hm1 hb0 hb1 hnl hr HF _hn _hv _ha0 _ha1 _hm1 _hb0 _hb1 _hnl _hr
  go_enter Try.func24, Try.ntmps24
  go_wp2_with fail
  go_region_held3 (fun w' => w'.cell? ⟨w.heap.size, 0, none⟩ = some (.int .i64 op) ∧ w'.cell? ⟨w.heap.size, 1, none⟩ = some (.int .i64 a) ∧ w'.cell? ⟨w.heap.size, 2, none⟩ = some (.int .i64 b) ∧ w'.cell? ⟨w.heap.size, 3, none⟩ = some (.int .i64 m) ∧ w'.cell? ⟨w.heap.size, 4, none⟩ = some (.slice xn nl nc) ∧ w'.cell? ⟨w.heap.size, 5, none⟩ = some (.slice xl ll lc) ∧ w'.cell? ⟨w.heap.size, 6, none⟩ = some (.slice xe el ec))
    (first | exact DS.out | exact DS1.out | exact DS2.out)
    (first
      | (go_at_call 44; refine (H0.out _ hbz).mono ?_; rintro e w2 ⟨rfl, hb2⟩; have hb3 := hbz.trans (hb2.mono hbz.size); clear H0
         have DS1 := Lib.hid (InsAt.below (op := op) (a := a) (b := b) (m := m) DS.out hb2); unfold InsAt at DS1)
      | (go_at_call 42; refine (H1.out _ hb3).mono ?_; rintro e w3 ⟨rfl, hb4⟩; have hb5 := hb3.trans (hb4.mono hb3.size); clear H1
         have DS2 := Lib.hid (InsAt.below (op := op) (a := a) (b := b) (m := m) DS1.out hb4); unfold InsAt at DS2))
  all_goals
    go_wp2_with fail
    go_ret
    exact ⟨congrArg (fun s => Ending.returned (.string s)) HC.out, hb5⟩
set_option maxRecDepth 100000 in
set_option maxHeartbeats 1000000 in
theorem fields_s5
    (op a b m : Int) (n : List Int) (xn xl xe : Option Addr) (nl ll el nc lc ec : Nat) (w : World) (_hn : nl = n.length) (_hv : View w xn nl n) (_ha0 : -9223372036854775808 ≤ a) (_ha1 : a ≤ 9223372036854775807) (_hm1 : m ≤ 9223372036854775807) (_hb0 : 0 ≤ b) (_hb1 : b ≤ 63) (_hnl : nl ≤ 1000) (_hr : ∀ i, i < n.length → n.getD i 0 ≤ 9223372036854775807) :
    Calls Try.prog 24 #[.agg #[.int .i64 op, .int .i64 a, .int .i64 b, .int .i64 m, .slice xn nl nc, .slice xl ll lc, .slice xe el ec], .int .i64 5] w fun e w' => e = .returned (.string (strOfNums (fldB 5 a b m n))) ∧ Below w.heap.size w w' := by
  have hn := _hn
  have hv := _hv
  have ha0 := _ha0
  have ha1 := _ha1
  have hm1 := _hm1
  have hb0 := _hb0
  have hb1 := _hb1
  have hnl := _hnl
  have hr := _hr
  have HB0 := Lib.hid ((Below.refl w.heap.size w).alloc (Nat.le_refl _) (.cells #[.int .i64 op, .int .i64 a, .int .i64 b, .int .i64 m, .slice xn nl nc, .slice xl ll lc, .slice xe el ec] 47))
  have D0 : Hid (InsAt (w.alloc (.cells #[.int .i64 op, .int .i64 a, .int .i64 b, .int .i64 m, .slice xn nl nc, .slice xl ll lc, .slice xe el ec] 47)) w.heap.size op a b m xn xl xe nl ll el nc lc ec) := Lib.hid ⟨World.cell?_alloc_mark w _ _ _ 0, World.cell?_alloc_mark w _ _ _ 1, World.cell?_alloc_mark w _ _ _ 2, World.cell?_alloc_mark w _ _ _ 3, World.cell?_alloc_mark w _ _ _ 4, World.cell?_alloc_mark w _ _ _ 5, World.cell?_alloc_mark w _ _ _ 6⟩
  obtain ⟨d0, d1, d2, d3, d4, d5, d6⟩ := D0.out
  have HF : Hid (fldB 5 a b m n = putU a ++ putU m) := Lib.hid (rfl)
  have H0 := Lib.hid (fun w2 (_ : Below w.heap.size w w2) => PutU_any a w2 (by omega))
  have H1 := Lib.hid (fun w2 (_ : Below w.heap.size w w2) => PutU_any m w2 (by omega))
  have hl0 := Leb.putU_length a
  have hl1 := Leb.putU_length m
  have hns := strOfNums_size
  have hno : ¬ 9223372036854775807 < (putU a).length + (putU m).length := by omega
  have HC := Lib.hid (strOfNums_app (putU a) (putU m))
  have DS : Hid ((w.alloc (.cells #[.int .i64 op, .int .i64 a, .int .i64 b, .int .i64 m, .slice xn nl nc, .slice xl ll lc, .slice xe el ec] 47)).drew.cell? ⟨w.heap.size, 0, none⟩ = some (.int .i64 op) ∧ (w.alloc (.cells #[.int .i64 op, .int .i64 a, .int .i64 b, .int .i64 m, .slice xn nl nc, .slice xl ll lc, .slice xe el ec] 47)).drew.cell? ⟨w.heap.size, 1, none⟩ = some (.int .i64 a) ∧ (w.alloc (.cells #[.int .i64 op, .int .i64 a, .int .i64 b, .int .i64 m, .slice xn nl nc, .slice xl ll lc, .slice xe el ec] 47)).drew.cell? ⟨w.heap.size, 2, none⟩ = some (.int .i64 b) ∧ (w.alloc (.cells #[.int .i64 op, .int .i64 a, .int .i64 b, .int .i64 m, .slice xn nl nc, .slice xl ll lc, .slice xe el ec] 47)).drew.cell? ⟨w.heap.size, 3, none⟩ = some (.int .i64 m) ∧ (w.alloc (.cells #[.int .i64 op, .int .i64 a, .int .i64 b, .int .i64 m, .slice xn nl nc, .slice xl ll lc, .slice xe el ec] 47)).drew.cell? ⟨w.heap.size, 4, none⟩ = some (.slice xn nl nc) ∧ (w.alloc (.cells #[.int .i64 op, .int .i64 a, .int .i64 b, .int .i64 m, .slice xn nl nc, .slice xl ll lc, .slice xe el ec] 47)).drew.cell? ⟨w.heap.size, 5, none⟩ = some (.slice xl ll lc) ∧ (w.alloc (.cells #[.int .i64 op, .int .i64 a, .int .i64 b, .int .i64 m, .slice xn nl nc, .slice xl ll lc, .slice xe el ec] 47)).drew.cell? ⟨w.heap.size, 6, none⟩ = some (.slice xe el ec)) := Lib.hid ⟨d0, d1, d2, d3, d4, d5, d6⟩
  have hbz : Below w.heap.size w (w.alloc (.cells #[.int .i64 op, .int .i64 a, .int .i64 b, .int .i64 m, .slice xn nl nc, .slice xl ll lc, .slice xe el ec] 47)).drew := HB0.out.drew
  rw [HF.out]
  clear hn hv ha0 ha1 hm1 hb0 hb1 hnl hr HF _hn _hv _ha0 _ha1 _hm1 _hb0 _hb1 _hnl _hr
  go_enter Try.func24, Try.ntmps24
  go_wp2_with fail
  go_region_held3 (fun w' => w'.cell? ⟨w.heap.size, 0, none⟩ = some (.int .i64 op) ∧ w'.cell? ⟨w.heap.size, 1, none⟩ = some (.int .i64 a) ∧ w'.cell? ⟨w.heap.size, 2, none⟩ = some (.int .i64 b) ∧ w'.cell? ⟨w.heap.size, 3, none⟩ = some (.int .i64 m) ∧ w'.cell? ⟨w.heap.size, 4, none⟩ = some (.slice xn nl nc) ∧ w'.cell? ⟨w.heap.size, 5, none⟩ = some (.slice xl ll lc) ∧ w'.cell? ⟨w.heap.size, 6, none⟩ = some (.slice xe el ec))
    (first | exact DS.out | exact DS1.out | exact DS2.out)
    (first
      | (go_at_call 42; refine (H0.out _ hbz).mono ?_; rintro e w2 ⟨rfl, hb2⟩; have hb3 := hbz.trans (hb2.mono hbz.size); clear H0
         have DS1 := Lib.hid (InsAt.below (op := op) (a := a) (b := b) (m := m) DS.out hb2); unfold InsAt at DS1)
      | (go_at_call 42; refine (H1.out _ hb3).mono ?_; rintro e w3 ⟨rfl, hb4⟩; have hb5 := hb3.trans (hb4.mono hb3.size); clear H1
         have DS2 := Lib.hid (InsAt.below (op := op) (a := a) (b := b) (m := m) DS1.out hb4); unfold InsAt at DS2))
  all_goals
    go_wp2_with fail
    go_ret
    exact ⟨congrArg (fun s => Ending.returned (.string s)) HC.out, hb5⟩
set_option maxRecDepth 100000 in
set_option maxHeartbeats 1000000 in
theorem fields_s6
    (op a b m : Int) (n : List Int) (xn xl xe : Option Addr) (nl ll el nc lc ec : Nat) (w : World) (_hn : nl = n.length) (_hv : View w xn nl n) (_ha0 : -9223372036854775808 ≤ a) (_ha1 : a ≤ 9223372036854775807) (_hm1 : m ≤ 9223372036854775807) (_hb0 : 0 ≤ b) (_hb1 : b ≤ 63) (_hnl : nl ≤ 1000) (_hr : ∀ i, i < n.length → n.getD i 0 ≤ 9223372036854775807) :
    Calls Try.prog 24 #[.agg #[.int .i64 op, .int .i64 a, .int .i64 b, .int .i64 m, .slice xn nl nc, .slice xl ll lc, .slice xe el ec], .int .i64 6] w fun e w' => e = .returned (.string (strOfNums (fldB 6 a b m n))) ∧ Below w.heap.size w w' := by
  have hn := _hn
  have hv := _hv
  have ha0 := _ha0
  have ha1 := _ha1
  have hm1 := _hm1
  have hb0 := _hb0
  have hb1 := _hb1
  have hnl := _hnl
  have hr := _hr
  have HB0 := Lib.hid ((Below.refl w.heap.size w).alloc (Nat.le_refl _) (.cells #[.int .i64 op, .int .i64 a, .int .i64 b, .int .i64 m, .slice xn nl nc, .slice xl ll lc, .slice xe el ec] 47))
  have D0 : Hid (InsAt (w.alloc (.cells #[.int .i64 op, .int .i64 a, .int .i64 b, .int .i64 m, .slice xn nl nc, .slice xl ll lc, .slice xe el ec] 47)) w.heap.size op a b m xn xl xe nl ll el nc lc ec) := Lib.hid ⟨World.cell?_alloc_mark w _ _ _ 0, World.cell?_alloc_mark w _ _ _ 1, World.cell?_alloc_mark w _ _ _ 2, World.cell?_alloc_mark w _ _ _ 3, World.cell?_alloc_mark w _ _ _ 4, World.cell?_alloc_mark w _ _ _ 5, World.cell?_alloc_mark w _ _ _ 6⟩
  obtain ⟨d0, d1, d2, d3, d4, d5, d6⟩ := D0.out
  have HF : Hid (fldB 6 a b m n = putU 1 ++ [a % 256]) := Lib.hid (rfl)
  have H0 := Lib.hid (fun w2 (_ : Below w.heap.size w w2) => PutU_any 1 w2 (by omega))
  have H1 := Lib.hid (fun w2 (_ : Below w.heap.size w w2) => insOne_any a w2)
  have hl0 := Leb.putU_length 1
  have hns := strOfNums_size
  have hno : ¬ 9223372036854775807 < (putU 1).length + 1 := by omega
  have HC := Lib.hid (strOfNums_app (putU 1) ([a % 256]))
  have DS : Hid ((w.alloc (.cells #[.int .i64 op, .int .i64 a, .int .i64 b, .int .i64 m, .slice xn nl nc, .slice xl ll lc, .slice xe el ec] 47)).drew.cell? ⟨w.heap.size, 0, none⟩ = some (.int .i64 op) ∧ (w.alloc (.cells #[.int .i64 op, .int .i64 a, .int .i64 b, .int .i64 m, .slice xn nl nc, .slice xl ll lc, .slice xe el ec] 47)).drew.cell? ⟨w.heap.size, 1, none⟩ = some (.int .i64 a) ∧ (w.alloc (.cells #[.int .i64 op, .int .i64 a, .int .i64 b, .int .i64 m, .slice xn nl nc, .slice xl ll lc, .slice xe el ec] 47)).drew.cell? ⟨w.heap.size, 2, none⟩ = some (.int .i64 b) ∧ (w.alloc (.cells #[.int .i64 op, .int .i64 a, .int .i64 b, .int .i64 m, .slice xn nl nc, .slice xl ll lc, .slice xe el ec] 47)).drew.cell? ⟨w.heap.size, 3, none⟩ = some (.int .i64 m) ∧ (w.alloc (.cells #[.int .i64 op, .int .i64 a, .int .i64 b, .int .i64 m, .slice xn nl nc, .slice xl ll lc, .slice xe el ec] 47)).drew.cell? ⟨w.heap.size, 4, none⟩ = some (.slice xn nl nc) ∧ (w.alloc (.cells #[.int .i64 op, .int .i64 a, .int .i64 b, .int .i64 m, .slice xn nl nc, .slice xl ll lc, .slice xe el ec] 47)).drew.cell? ⟨w.heap.size, 5, none⟩ = some (.slice xl ll lc) ∧ (w.alloc (.cells #[.int .i64 op, .int .i64 a, .int .i64 b, .int .i64 m, .slice xn nl nc, .slice xl ll lc, .slice xe el ec] 47)).drew.cell? ⟨w.heap.size, 6, none⟩ = some (.slice xe el ec)) := Lib.hid ⟨d0, d1, d2, d3, d4, d5, d6⟩
  have hbz : Below w.heap.size w (w.alloc (.cells #[.int .i64 op, .int .i64 a, .int .i64 b, .int .i64 m, .slice xn nl nc, .slice xl ll lc, .slice xe el ec] 47)).drew := HB0.out.drew
  rw [HF.out]
  clear hn hv ha0 ha1 hm1 hb0 hb1 hnl hr HF _hn _hv _ha0 _ha1 _hm1 _hb0 _hb1 _hnl _hr
  go_enter Try.func24, Try.ntmps24
  go_wp2_with fail
  go_region_held3 (fun w' => w'.cell? ⟨w.heap.size, 0, none⟩ = some (.int .i64 op) ∧ w'.cell? ⟨w.heap.size, 1, none⟩ = some (.int .i64 a) ∧ w'.cell? ⟨w.heap.size, 2, none⟩ = some (.int .i64 b) ∧ w'.cell? ⟨w.heap.size, 3, none⟩ = some (.int .i64 m) ∧ w'.cell? ⟨w.heap.size, 4, none⟩ = some (.slice xn nl nc) ∧ w'.cell? ⟨w.heap.size, 5, none⟩ = some (.slice xl ll lc) ∧ w'.cell? ⟨w.heap.size, 6, none⟩ = some (.slice xe el ec))
    (first | exact DS.out | exact DS1.out | exact DS2.out)
    (first
      | (go_at_call 42; refine (H0.out _ hbz).mono ?_; rintro e w2 ⟨rfl, hb2⟩; have hb3 := hbz.trans (hb2.mono hbz.size); clear H0
         have DS1 := Lib.hid (InsAt.below (op := op) (a := a) (b := b) (m := m) DS.out hb2); unfold InsAt at DS1)
      | (go_at_call 41; refine (H1.out _ hb3).mono ?_; rintro e w3 ⟨rfl, hb4⟩; have hb5 := hb3.trans (hb4.mono hb3.size); clear H1
         have DS2 := Lib.hid (InsAt.below (op := op) (a := a) (b := b) (m := m) DS1.out hb4); unfold InsAt at DS2))
  all_goals
    go_wp2_with fail
    go_ret
    exact ⟨congrArg (fun s => Ending.returned (.string s)) HC.out, hb5⟩
set_option maxRecDepth 100000 in
set_option maxHeartbeats 1000000 in
theorem fields_s7
    (op a b m : Int) (n : List Int) (xn xl xe : Option Addr) (nl ll el nc lc ec : Nat) (w : World) (_hn : nl = n.length) (_hv : View w xn nl n) (_ha0 : -9223372036854775808 ≤ a) (_ha1 : a ≤ 9223372036854775807) (_hm1 : m ≤ 9223372036854775807) (_hb0 : 0 ≤ b) (_hb1 : b ≤ 63) (_hnl : nl ≤ 1000) (_hr : ∀ i, i < n.length → n.getD i 0 ≤ 9223372036854775807) :
    Calls Try.prog 24 #[.agg #[.int .i64 op, .int .i64 a, .int .i64 b, .int .i64 m, .slice xn nl nc, .slice xl ll lc, .slice xe el ec], .int .i64 7] w fun e w' => e = .returned (.string (strOfNums (fldB 7 a b m n))) ∧ Below w.heap.size w w' := by
  have hn := _hn
  have hv := _hv
  have ha0 := _ha0
  have ha1 := _ha1
  have hm1 := _hm1
  have hb0 := _hb0
  have hb1 := _hb1
  have hnl := _hnl
  have hr := _hr
  have HB0 := Lib.hid ((Below.refl w.heap.size w).alloc (Nat.le_refl _) (.cells #[.int .i64 op, .int .i64 a, .int .i64 b, .int .i64 m, .slice xn nl nc, .slice xl ll lc, .slice xe el ec] 47))
  have D0 : Hid (InsAt (w.alloc (.cells #[.int .i64 op, .int .i64 a, .int .i64 b, .int .i64 m, .slice xn nl nc, .slice xl ll lc, .slice xe el ec] 47)) w.heap.size op a b m xn xl xe nl ll el nc lc ec) := Lib.hid ⟨World.cell?_alloc_mark w _ _ _ 0, World.cell?_alloc_mark w _ _ _ 1, World.cell?_alloc_mark w _ _ _ 2, World.cell?_alloc_mark w _ _ _ 3, World.cell?_alloc_mark w _ _ _ 4, World.cell?_alloc_mark w _ _ _ 5, World.cell?_alloc_mark w _ _ _ 6⟩
  obtain ⟨d0, d1, d2, d3, d4, d5, d6⟩ := D0.out
  have HF : Hid (fldB 7 a b m n = placeB b m ++ putU a) := Lib.hid (rfl)
  have H0 := Lib.hid (fun w2 (_ : Below w.heap.size w w2) => place_any op a b m xn xl xe nl ll el nc lc ec w2 (by omega) (by omega) hm1)
  have H1 := Lib.hid (fun w2 (_ : Below w.heap.size w w2) => PutU_any a w2 (by omega))
  have hl0 := placeB_length b m
  have hl1 := Leb.putU_length a
  have hns := strOfNums_size
  have hno : ¬ 9223372036854775807 < (placeB b m).length + (putU a).length := by omega
  have HC := Lib.hid (strOfNums_app (placeB b m) (putU a))
  have DS : Hid ((w.alloc (.cells #[.int .i64 op, .int .i64 a, .int .i64 b, .int .i64 m, .slice xn nl nc, .slice xl ll lc, .slice xe el ec] 47)).drew.cell? ⟨w.heap.size, 0, none⟩ = some (.int .i64 op) ∧ (w.alloc (.cells #[.int .i64 op, .int .i64 a, .int .i64 b, .int .i64 m, .slice xn nl nc, .slice xl ll lc, .slice xe el ec] 47)).drew.cell? ⟨w.heap.size, 1, none⟩ = some (.int .i64 a) ∧ (w.alloc (.cells #[.int .i64 op, .int .i64 a, .int .i64 b, .int .i64 m, .slice xn nl nc, .slice xl ll lc, .slice xe el ec] 47)).drew.cell? ⟨w.heap.size, 2, none⟩ = some (.int .i64 b) ∧ (w.alloc (.cells #[.int .i64 op, .int .i64 a, .int .i64 b, .int .i64 m, .slice xn nl nc, .slice xl ll lc, .slice xe el ec] 47)).drew.cell? ⟨w.heap.size, 3, none⟩ = some (.int .i64 m) ∧ (w.alloc (.cells #[.int .i64 op, .int .i64 a, .int .i64 b, .int .i64 m, .slice xn nl nc, .slice xl ll lc, .slice xe el ec] 47)).drew.cell? ⟨w.heap.size, 4, none⟩ = some (.slice xn nl nc) ∧ (w.alloc (.cells #[.int .i64 op, .int .i64 a, .int .i64 b, .int .i64 m, .slice xn nl nc, .slice xl ll lc, .slice xe el ec] 47)).drew.cell? ⟨w.heap.size, 5, none⟩ = some (.slice xl ll lc) ∧ (w.alloc (.cells #[.int .i64 op, .int .i64 a, .int .i64 b, .int .i64 m, .slice xn nl nc, .slice xl ll lc, .slice xe el ec] 47)).drew.cell? ⟨w.heap.size, 6, none⟩ = some (.slice xe el ec)) := Lib.hid ⟨d0, d1, d2, d3, d4, d5, d6⟩
  have hbz : Below w.heap.size w (w.alloc (.cells #[.int .i64 op, .int .i64 a, .int .i64 b, .int .i64 m, .slice xn nl nc, .slice xl ll lc, .slice xe el ec] 47)).drew := HB0.out.drew
  rw [HF.out]
  clear hn hv ha0 ha1 hm1 hb0 hb1 hnl hr HF _hn _hv _ha0 _ha1 _hm1 _hb0 _hb1 _hnl _hr
  go_enter Try.func24, Try.ntmps24
  go_wp2_with fail
  go_region_held3 (fun w' => w'.cell? ⟨w.heap.size, 0, none⟩ = some (.int .i64 op) ∧ w'.cell? ⟨w.heap.size, 1, none⟩ = some (.int .i64 a) ∧ w'.cell? ⟨w.heap.size, 2, none⟩ = some (.int .i64 b) ∧ w'.cell? ⟨w.heap.size, 3, none⟩ = some (.int .i64 m) ∧ w'.cell? ⟨w.heap.size, 4, none⟩ = some (.slice xn nl nc) ∧ w'.cell? ⟨w.heap.size, 5, none⟩ = some (.slice xl ll lc) ∧ w'.cell? ⟨w.heap.size, 6, none⟩ = some (.slice xe el ec))
    (first | exact DS.out | exact DS1.out | exact DS2.out)
    (first
      | (go_at_call 45; refine (H0.out _ hbz).mono ?_; rintro e w2 ⟨rfl, hb2⟩; have hb3 := hbz.trans (hb2.mono hbz.size); clear H0
         have DS1 := Lib.hid (InsAt.below (op := op) (a := a) (b := b) (m := m) DS.out hb2); unfold InsAt at DS1)
      | (go_at_call 42; refine (H1.out _ hb3).mono ?_; rintro e w3 ⟨rfl, hb4⟩; have hb5 := hb3.trans (hb4.mono hb3.size); clear H1
         have DS2 := Lib.hid (InsAt.below (op := op) (a := a) (b := b) (m := m) DS1.out hb4); unfold InsAt at DS2))
  all_goals
    go_wp2_with fail
    go_ret
    exact ⟨congrArg (fun s => Ending.returned (.string s)) HC.out, hb5⟩
set_option maxRecDepth 100000 in
set_option maxHeartbeats 1000000 in
theorem fields_s8
    (op a b m : Int) (n : List Int) (xn xl xe : Option Addr) (nl ll el nc lc ec : Nat) (w : World) (_hn : nl = n.length) (_hv : View w xn nl n) (_ha0 : -9223372036854775808 ≤ a) (_ha1 : a ≤ 9223372036854775807) (_hm1 : m ≤ 9223372036854775807) (_hb0 : 0 ≤ b) (_hb1 : b ≤ 63) (_hnl : nl ≤ 1000) (_hr : ∀ i, i < n.length → n.getD i 0 ≤ 9223372036854775807) :
    Calls Try.prog 24 #[.agg #[.int .i64 op, .int .i64 a, .int .i64 b, .int .i64 m, .slice xn nl nc, .slice xl ll lc, .slice xe el ec], .int .i64 8] w fun e w' => e = .returned (.string (strOfNums (fldB 8 a b m n))) ∧ Below w.heap.size w w' := by
  have hn := _hn
  have hv := _hv
  have ha0 := _ha0
  have ha1 := _ha1
  have hm1 := _hm1
  have hb0 := _hb0
  have hb1 := _hb1
  have hnl := _hnl
  have hr := _hr
  have HB0 := Lib.hid ((Below.refl w.heap.size w).alloc (Nat.le_refl _) (.cells #[.int .i64 op, .int .i64 a, .int .i64 b, .int .i64 m, .slice xn nl nc, .slice xl ll lc, .slice xe el ec] 47))
  have D0 : Hid (InsAt (w.alloc (.cells #[.int .i64 op, .int .i64 a, .int .i64 b, .int .i64 m, .slice xn nl nc, .slice xl ll lc, .slice xe el ec] 47)) w.heap.size op a b m xn xl xe nl ll el nc lc ec) := Lib.hid ⟨World.cell?_alloc_mark w _ _ _ 0, World.cell?_alloc_mark w _ _ _ 1, World.cell?_alloc_mark w _ _ _ 2, World.cell?_alloc_mark w _ _ _ 3, World.cell?_alloc_mark w _ _ _ 4, World.cell?_alloc_mark w _ _ _ 5, World.cell?_alloc_mark w _ _ _ 6⟩
  obtain ⟨d0, d1, d2, d3, d4, d5, d6⟩ := D0.out
  have HF : Hid (fldB 8 a b m n = putU m) := Lib.hid (rfl)
  have H0 := Lib.hid (fun w2 (_ : Below w.heap.size w w2) => PutU_any m w2 (by omega))
  rw [HF.out]
  clear hn hv ha0 ha1 hm1 hb0 hb1 hnl hr HF _hn _hv _ha0 _ha1 _hm1 _hb0 _hb1 _hnl _hr
  go_enter Try.func24, Try.ntmps24
  go_wp2_with (go_at_call 42; refine (H0.out _ HB0.out).mono ?_; rintro e w2 ⟨rfl, hb2⟩)
  go_ret
  exact ⟨rfl, HB0.out.trans (hb2.mono (by simp))⟩
set_option maxRecDepth 100000 in
set_option maxHeartbeats 1000000 in
theorem fields_s9
    (op a b m : Int) (n : List Int) (xn xl xe : Option Addr) (nl ll el nc lc ec : Nat) (w : World) (_hn : nl = n.length) (_hv : View w xn nl n) (_ha0 : -9223372036854775808 ≤ a) (_ha1 : a ≤ 9223372036854775807) (_hm1 : m ≤ 9223372036854775807) (_hb0 : 0 ≤ b) (_hb1 : b ≤ 63) (_hnl : nl ≤ 1000) (_hr : ∀ i, i < n.length → n.getD i 0 ≤ 9223372036854775807) :
    Calls Try.prog 24 #[.agg #[.int .i64 op, .int .i64 a, .int .i64 b, .int .i64 m, .slice xn nl nc, .slice xl ll lc, .slice xe el ec], .int .i64 9] w fun e w' => e = .returned (.string (strOfNums (fldB 9 a b m n))) ∧ Below w.heap.size w w' := by
  have hn := _hn
  have hv := _hv
  have ha0 := _ha0
  have ha1 := _ha1
  have hm1 := _hm1
  have hb0 := _hb0
  have hb1 := _hb1
  have hnl := _hnl
  have hr := _hr
  have HB0 := Lib.hid ((Below.refl w.heap.size w).alloc (Nat.le_refl _) (.cells #[.int .i64 op, .int .i64 a, .int .i64 b, .int .i64 m, .slice xn nl nc, .slice xl ll lc, .slice xe el ec] 47))
  have D0 : Hid (InsAt (w.alloc (.cells #[.int .i64 op, .int .i64 a, .int .i64 b, .int .i64 m, .slice xn nl nc, .slice xl ll lc, .slice xe el ec] 47)) w.heap.size op a b m xn xl xe nl ll el nc lc ec) := Lib.hid ⟨World.cell?_alloc_mark w _ _ _ 0, World.cell?_alloc_mark w _ _ _ 1, World.cell?_alloc_mark w _ _ _ 2, World.cell?_alloc_mark w _ _ _ 3, World.cell?_alloc_mark w _ _ _ 4, World.cell?_alloc_mark w _ _ _ 5, World.cell?_alloc_mark w _ _ _ 6⟩
  obtain ⟨d0, d1, d2, d3, d4, d5, d6⟩ := D0.out
  have HF : Hid (fldB 9 a b m n = putU m ++ putU a) := Lib.hid (rfl)
  have H0 := Lib.hid (fun w2 (_ : Below w.heap.size w w2) => PutU_any m w2 (by omega))
  have H1 := Lib.hid (fun w2 (_ : Below w.heap.size w w2) => PutU_any a w2 (by omega))
  have hl0 := Leb.putU_length m
  have hl1 := Leb.putU_length a
  have hns := strOfNums_size
  have hno : ¬ 9223372036854775807 < (putU m).length + (putU a).length := by omega
  have HC := Lib.hid (strOfNums_app (putU m) (putU a))
  have DS : Hid ((w.alloc (.cells #[.int .i64 op, .int .i64 a, .int .i64 b, .int .i64 m, .slice xn nl nc, .slice xl ll lc, .slice xe el ec] 47)).drew.cell? ⟨w.heap.size, 0, none⟩ = some (.int .i64 op) ∧ (w.alloc (.cells #[.int .i64 op, .int .i64 a, .int .i64 b, .int .i64 m, .slice xn nl nc, .slice xl ll lc, .slice xe el ec] 47)).drew.cell? ⟨w.heap.size, 1, none⟩ = some (.int .i64 a) ∧ (w.alloc (.cells #[.int .i64 op, .int .i64 a, .int .i64 b, .int .i64 m, .slice xn nl nc, .slice xl ll lc, .slice xe el ec] 47)).drew.cell? ⟨w.heap.size, 2, none⟩ = some (.int .i64 b) ∧ (w.alloc (.cells #[.int .i64 op, .int .i64 a, .int .i64 b, .int .i64 m, .slice xn nl nc, .slice xl ll lc, .slice xe el ec] 47)).drew.cell? ⟨w.heap.size, 3, none⟩ = some (.int .i64 m) ∧ (w.alloc (.cells #[.int .i64 op, .int .i64 a, .int .i64 b, .int .i64 m, .slice xn nl nc, .slice xl ll lc, .slice xe el ec] 47)).drew.cell? ⟨w.heap.size, 4, none⟩ = some (.slice xn nl nc) ∧ (w.alloc (.cells #[.int .i64 op, .int .i64 a, .int .i64 b, .int .i64 m, .slice xn nl nc, .slice xl ll lc, .slice xe el ec] 47)).drew.cell? ⟨w.heap.size, 5, none⟩ = some (.slice xl ll lc) ∧ (w.alloc (.cells #[.int .i64 op, .int .i64 a, .int .i64 b, .int .i64 m, .slice xn nl nc, .slice xl ll lc, .slice xe el ec] 47)).drew.cell? ⟨w.heap.size, 6, none⟩ = some (.slice xe el ec)) := Lib.hid ⟨d0, d1, d2, d3, d4, d5, d6⟩
  have hbz : Below w.heap.size w (w.alloc (.cells #[.int .i64 op, .int .i64 a, .int .i64 b, .int .i64 m, .slice xn nl nc, .slice xl ll lc, .slice xe el ec] 47)).drew := HB0.out.drew
  rw [HF.out]
  clear hn hv ha0 ha1 hm1 hb0 hb1 hnl hr HF _hn _hv _ha0 _ha1 _hm1 _hb0 _hb1 _hnl _hr
  go_enter Try.func24, Try.ntmps24
  go_wp2_with fail
  go_region_held3 (fun w' => w'.cell? ⟨w.heap.size, 0, none⟩ = some (.int .i64 op) ∧ w'.cell? ⟨w.heap.size, 1, none⟩ = some (.int .i64 a) ∧ w'.cell? ⟨w.heap.size, 2, none⟩ = some (.int .i64 b) ∧ w'.cell? ⟨w.heap.size, 3, none⟩ = some (.int .i64 m) ∧ w'.cell? ⟨w.heap.size, 4, none⟩ = some (.slice xn nl nc) ∧ w'.cell? ⟨w.heap.size, 5, none⟩ = some (.slice xl ll lc) ∧ w'.cell? ⟨w.heap.size, 6, none⟩ = some (.slice xe el ec))
    (first | exact DS.out | exact DS1.out | exact DS2.out)
    (first
      | (go_at_call 42; refine (H0.out _ hbz).mono ?_; rintro e w2 ⟨rfl, hb2⟩; have hb3 := hbz.trans (hb2.mono hbz.size); clear H0
         have DS1 := Lib.hid (InsAt.below (op := op) (a := a) (b := b) (m := m) DS.out hb2); unfold InsAt at DS1)
      | (go_at_call 42; refine (H1.out _ hb3).mono ?_; rintro e w3 ⟨rfl, hb4⟩; have hb5 := hb3.trans (hb4.mono hb3.size); clear H1
         have DS2 := Lib.hid (InsAt.below (op := op) (a := a) (b := b) (m := m) DS1.out hb4); unfold InsAt at DS2))
  all_goals
    go_wp2_with fail
    go_ret
    exact ⟨congrArg (fun s => Ending.returned (.string s)) HC.out, hb5⟩
set_option maxRecDepth 100000 in
set_option maxHeartbeats 1000000 in
theorem fields_s10
    (op a b m : Int) (n : List Int) (xn xl xe : Option Addr) (nl ll el nc lc ec : Nat) (w : World) (_hn : nl = n.length) (_hv : View w xn nl n) (_ha0 : -9223372036854775808 ≤ a) (_ha1 : a ≤ 9223372036854775807) (_hm1 : m ≤ 9223372036854775807) (_hb0 : 0 ≤ b) (_hb1 : b ≤ 63) (_hnl : nl ≤ 1000) (_hr : ∀ i, i < n.length → n.getD i 0 ≤ 9223372036854775807) :
    Calls Try.prog 24 #[.agg #[.int .i64 op, .int .i64 a, .int .i64 b, .int .i64 m, .slice xn nl nc, .slice xl ll lc, .slice xe el ec], .int .i64 10] w fun e w' => e = .returned (.string (strOfNums (fldB 10 a b m n))) ∧ Below w.heap.size w w' := by
  have hn := _hn
  have hv := _hv
  have ha0 := _ha0
  have ha1 := _ha1
  have hm1 := _hm1
  have hb0 := _hb0
  have hb1 := _hb1
  have hnl := _hnl
  have hr := _hr
  have HB0 := Lib.hid ((Below.refl w.heap.size w).alloc (Nat.le_refl _) (.cells #[.int .i64 op, .int .i64 a, .int .i64 b, .int .i64 m, .slice xn nl nc, .slice xl ll lc, .slice xe el ec] 47))
  have D0 : Hid (InsAt (w.alloc (.cells #[.int .i64 op, .int .i64 a, .int .i64 b, .int .i64 m, .slice xn nl nc, .slice xl ll lc, .slice xe el ec] 47)) w.heap.size op a b m xn xl xe nl ll el nc lc ec) := Lib.hid ⟨World.cell?_alloc_mark w _ _ _ 0, World.cell?_alloc_mark w _ _ _ 1, World.cell?_alloc_mark w _ _ _ 2, World.cell?_alloc_mark w _ _ _ 3, World.cell?_alloc_mark w _ _ _ 4, World.cell?_alloc_mark w _ _ _ 5, World.cell?_alloc_mark w _ _ _ 6⟩
  obtain ⟨d0, d1, d2, d3, d4, d5, d6⟩ := D0.out
  have HF : Hid (fldB 10 a b m n = putS a) := Lib.hid (rfl)
  have H0 := Lib.hid (fun w2 (_ : Below w.heap.size w w2) => PutS_any a w2 ha0 ha1)
  rw [HF.out]
  clear hn hv ha0 ha1 hm1 hb0 hb1 hnl hr HF _hn _hv _ha0 _ha1 _hm1 _hb0 _hb1 _hnl _hr
  go_enter Try.func24, Try.ntmps24
  go_wp2_with (go_at_call 43; refine (H0.out _ HB0.out).mono ?_; rintro e w2 ⟨rfl, hb2⟩)
  go_ret
  exact ⟨rfl, HB0.out.trans (hb2.mono (by simp))⟩
set_option maxRecDepth 100000 in
set_option maxHeartbeats 1000000 in
theorem fields_s11
    (op a b m : Int) (n : List Int) (xn xl xe : Option Addr) (nl ll el nc lc ec : Nat) (w : World) (_hn : nl = n.length) (_hv : View w xn nl n) (_ha0 : -9223372036854775808 ≤ a) (_ha1 : a ≤ 9223372036854775807) (_hm1 : m ≤ 9223372036854775807) (_hb0 : 0 ≤ b) (_hb1 : b ≤ 63) (_hnl : nl ≤ 1000) (_hr : ∀ i, i < n.length → n.getD i 0 ≤ 9223372036854775807) :
    Calls Try.prog 24 #[.agg #[.int .i64 op, .int .i64 a, .int .i64 b, .int .i64 m, .slice xn nl nc, .slice xl ll lc, .slice xe el ec], .int .i64 11] w fun e w' => e = .returned (.string (strOfNums (fldB 11 a b m n))) ∧ Below w.heap.size w w' := by
  have hn := _hn
  have hv := _hv
  have ha0 := _ha0
  have ha1 := _ha1
  have hm1 := _hm1
  have hb0 := _hb0
  have hb1 := _hb1
  have hnl := _hnl
  have hr := _hr
  have HB0 := Lib.hid ((Below.refl w.heap.size w).alloc (Nat.le_refl _) (.cells #[.int .i64 op, .int .i64 a, .int .i64 b, .int .i64 m, .slice xn nl nc, .slice xl ll lc, .slice xe el ec] 47))
  have D0 : Hid (InsAt (w.alloc (.cells #[.int .i64 op, .int .i64 a, .int .i64 b, .int .i64 m, .slice xn nl nc, .slice xl ll lc, .slice xe el ec] 47)) w.heap.size op a b m xn xl xe nl ll el nc lc ec) := Lib.hid ⟨World.cell?_alloc_mark w _ _ _ 0, World.cell?_alloc_mark w _ _ _ 1, World.cell?_alloc_mark w _ _ _ 2, World.cell?_alloc_mark w _ _ _ 3, World.cell?_alloc_mark w _ _ _ 4, World.cell?_alloc_mark w _ _ _ 5, World.cell?_alloc_mark w _ _ _ 6⟩
  obtain ⟨d0, d1, d2, d3, d4, d5, d6⟩ := D0.out
  have HF : Hid (fldB 11 a b m n = [112 % 256]) := Lib.hid (rfl)
  have H0 := Lib.hid (fun w2 (_ : Below w.heap.size w w2) => insOne_any 112 w2)
  rw [HF.out]
  clear hn hv ha0 ha1 hm1 hb0 hb1 hnl hr HF _hn _hv _ha0 _ha1 _hm1 _hb0 _hb1 _hnl _hr
  go_enter Try.func24, Try.ntmps24
  go_wp2_with (go_at_call 41; refine (H0.out _ HB0.out).mono ?_; rintro e w2 ⟨rfl, hb2⟩)
  go_ret
  exact ⟨rfl, HB0.out.trans (hb2.mono (by simp))⟩
end Go.Proofs.Ytfhifnkekegkkaa
