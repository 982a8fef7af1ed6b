/- ctype: a function's core type: the reference's Core. -/
import Derived.Test.YtcfakaglmlfkpaaDoorCtCp
set_option linter.unusedVariables false
set_option linter.unusedSimpArgs false
namespace Go.Proofs.YtcfakaglmlfkpaaDoor
open Go.RowKit
open Lex Ct

set_option maxRecDepth 100000 in
set_option maxHeartbeats 8000000 in
theorem rcore_no (s : Sg) (lower : Bool) (ap : Option Addr) (cp : Nat) (aq : Option Addr) (cq : Nat) (an : Option Addr) (cn : Nat) (al : Option Addr) (cl : Nat) (w : World)
    (HC : Hid (∀ w', Kept (fun _ => False) w w' → Calls Tryd.prog 11 #[sgV s ap cp aq cq an cn al cl] w' fun y w'' => y = .returned (.bool false) ∧ Kept (fun _ => False) w' w'')) :
    Calls Tryd.prog 26 #[sgV s ap cp aq cq an cn al cl, .bool lower] w (CoreFR 1 [] [] w) := by
  have k0 : Kept (fun _ => False) w ((w.alloc (.cells (sgC s ap cp aq cq an cn al cl) 27)).alloc (.cells #[.slice none 0 0, .slice none 0 0] 44)) := ((Kept.refl _ _).new _).new _
  have F0 := BlkAt.new (w.alloc (.cells (sgC s ap cp aq cq an cn al cl) 27)) #[.slice none 0 0, .slice none 0 0] 44
  rw [World.size_alloc] at F0
  have HK := Lib.hid k0
  have HF := Lib.hid F0
  clear k0 F0
  unfold CoreFR
  go_enter Tryd.func26, Tryd.ntmps26
  go_wp2_with (first
    | (go_at_call 11; refine (HC.out _ HK.out).mono ?_; rintro y w1 ⟨rfl, k1⟩; have F1 := HF.out.kept (F := fun _ => False) k1 id; have f0 := F1.cell 0; have f1 := F1.cell 1; have z0 := F1.frozen 0; have z1 := F1.frozen 1; simp at f0 f1; have HF1 := Lib.hid F1; have HK1 := Lib.hid k1; clear F1 k1))
  have G2 := (HF1.out.put 0 (.slice none 0 0)).put 1 (.slice none 0 0)
  have g0 := G2.cell 0
  have g1 := G2.cell 1
  simp at g0 g1
  refine bodyPost_ret (v := .tuple #[.agg #[.slice none 0 0, .slice none 0 0], .int .i64 1]) (by simp [results, Tryd.results26, go_sem, g0, g1]) rfl ⟨none, 0, none, 0, rfl, World.ownsRow_nil _ _ _ _, World.ownsRow_nil _ _ _ _, ?_⟩
  exact ((((HK.out.trans HK1.out).any (F := fun k => k = w.heap.size + 1)).set (p := ⟨w.heap.size + 1, 0, none⟩) rfl _).set (p := ⟨w.heap.size + 1, 1, none⟩) rfl _).clear (fun i hi e => by omega)
set_option maxRecDepth 100000 in
set_option maxHeartbeats 8000000 in
theorem rcore_go (s : Sg) (lower : Bool) (ap : Option Addr) (cp : Nat) (aq : Option Addr) (cq : Nat) (an : Option Addr) (cn : Nat) (al : Option Addr) (cl : Nat) (w : World) (p0 r0 : List Int) (hp : p0.length ≤ 80000) (hr : r0.length ≤ 1000)
    (HC : Hid (∀ w', Kept (fun _ => False) w w' → Calls Tryd.prog 11 #[sgV s ap cp aq cq an cn al cl] w' fun y w'' => y = .returned (.bool true) ∧ Kept (fun _ => False) w' w''))
    (HB : Hid (∀ w', Kept (fun _ => False) w w' → Calls Tryd.prog 29 #[.slice aq s.t.length cq] w' (CoreR p0 w')))
    (HR : Hid (∀ w', Kept (fun _ => False) w w' → Calls Tryd.prog 17 #[tyV s.r an cn al cl] w' (CoreR r0 w'))) :
    Calls Tryd.prog 26 #[sgV s ap cp aq cq an cn al cl, .bool lower] w (CoreFR 0 (ctP p0 r0 lower) (ctR r0 lower) w) := by
  obtain ⟨i0, hi, hz0, hz1, hz2⟩ := info_int2
  have k0 : Kept (fun _ => False) w ((w.alloc (.cells (sgC s ap cp aq cq an cn al cl) 27)).alloc (.cells #[.slice none 0 0, .slice none 0 0] 44)) := ((Kept.refl _ _).new _).new _
  have S0 := (BlkAt.new w (sgC s ap cp aq cq an cn al cl) 27).up (.cells #[.slice none 0 0, .slice none 0 0] 44)
  have F0 := BlkAt.new (w.alloc (.cells (sgC s ap cp aq cq an cn al cl) 27)) #[.slice none 0 0, .slice none 0 0] 44
  rw [World.size_alloc] at F0
  have HK := Lib.hid k0
  have HF := Lib.hid F0
  have HS := Lib.hid S0
  clear k0 F0 S0
  unfold CoreR at HB HR
  go_enter Tryd.func26, Tryd.ntmps26
  go_wp2_with (first
    | (go_at_call 11; refine (HC.out _ HK.out).mono ?_; rintro y w1 ⟨rfl, k1⟩; have HK1 := Lib.hid (HK.out.trans k1); have HF1 := Lib.hid (HF.out.kept (F := fun _ => False) k1 id); have HS1 := Lib.hid (HS.out.kept (F := fun _ => False) k1 id); clear k1 HC))
  have q0 : Kept (fun _ => False) w1 w1.drew := (Kept.refl _ _).drew
  have HW : Hid (∀ w', Kept (fun _ => False) w1 w' → w'.cell? ⟨w.heap.size, 2, none⟩ = some (.slice aq s.t.length cq) ∧ w'.cell? ⟨w.heap.size, 3, none⟩ = some (.int .i64 s.r.kind) ∧ w'.cell? ⟨w.heap.size, 4, none⟩ = some (.slice an s.r.names.length cn) ∧ w'.cell? ⟨w.heap.size, 5, none⟩ = some (.slice al s.r.l.length cl) ∧ w'.cell? ⟨w.heap.size, 6, none⟩ = some (.int .i64 s.r.r)) := Lib.hid fun w' k => (boxS_cells (HS1.out.kept k id)).2
  go_region_held3 (fun w' => w'.cell? ⟨w.heap.size, 2, none⟩ = some (.slice aq s.t.length cq) ∧ w'.cell? ⟨w.heap.size, 3, none⟩ = some (.int .i64 s.r.kind) ∧ w'.cell? ⟨w.heap.size, 4, none⟩ = some (.slice an s.r.names.length cn) ∧ w'.cell? ⟨w.heap.size, 5, none⟩ = some (.slice al s.r.l.length cl) ∧ w'.cell? ⟨w.heap.size, 6, none⟩ = some (.int .i64 s.r.r))
    (first | exact HW.out _ q0)
    (first
      | (go_at_call 29; refine (HB.out _ (HK1.out.trans q0)).mono ?_; rintro y w2 ⟨av, cp2, rfl, i1, i2, k2⟩
         have HP : Hid (Ints w1.heap.size (.slice av p0.length cp2) p0 w2) := Lib.hid (Ints.mono i1 q0.size)
         replace q0 : Kept (fun _ => False) w1 w2 := q0.trans k2
         clear i1 i2 k2 HB)
      | (go_at_call 17; refine (HR.out _ (HK1.out.trans q0)).mono ?_; rintro y w3 ⟨ar, cr, rfl, i1, i2, k2⟩
         have HQ : Hid (Ints w1.heap.size (.slice ar r0.length cr) r0 w3) := Lib.hid (Ints.mono i1 q0.size)
         have HP3 : Hid (Ints w1.heap.size (.slice av p0.length cp2) p0 w3) := Lib.hid (HP.out.kept (F := fun _ => False) k2 (fun _ _ => id))
         replace q0 : Kept (fun _ => False) w1 w3 := q0.trans k2
         clear i1 i2 k2 HR))
  all_goals
    have HF4 := Lib.hid (HF1.out.kept q0 id)
    have HK4 : Hid (Kept (w.heap.size ≤ ·) w w3) := Lib.hid (HK1.out.trans q0).any
    have HPr : Hid (Ints w.heap.size (.slice av p0.length cp2) p0 w3) := Lib.hid (Ints.mono HP3.out HK1.out.size)
    have HRr : Hid (Ints w.heap.size (.slice ar r0.length cr) r0 w3) := Lib.hid (Ints.mono HQ.out HK1.out.size)
    clear HP HQ HP3 q0 HW
    by_cases h1 : r0.length ≤ 1
    · have br : decide ((r0.length : Int) > 1) = false := by simp; omega
      have e2 : ctR r0 lower = r0 := by unfold ctR; rw [if_pos h1]
      by_cases h16 : 16 < p0.length
      · have bp : decide ((p0.length : Int) > 16) = true := by simp; omega
        have e1 : ctP p0 r0 lower = [127] := by unfold ctP; rw [if_pos h1, if_pos h16]
        have HE1 := Lib.hid e1
        have HE2 := Lib.hid e2
        clear h16 h1 e1 e2
        have a0cb0 := HF4.out.cell 0
        have a0cb1 := HF4.out.cell 1
        simp at a0cb0 a0cb1
        have a0zb0 := HF4.out.frozen 0
        have a0zb1 := HF4.out.frozen 1
        have a1nr := Ints.lit127 w3 HK4.out.size
        have a1pr := Ints.up HPr.out (.cells #[.int .i64 127] 3)
        have a1rr := Ints.up HRr.out (.cells #[.int .i64 127] 3)
        have a1B := HF4.out.up (.cells #[.int .i64 127] 3)
        have a1K := HK4.out.new (.cells #[.int .i64 127] 3)
        have a1cb0 := a1B.cell 0
        have a1cb1 := a1B.cell 1
        simp at a1cb0 a1cb1
        have a1zb0 := a1B.frozen 0
        have a1zb1 := a1B.frozen 1
        have a2pr := Ints.past a1pr a1B 0 (.slice (some ⟨w3.heap.size, 0, none⟩) 1 1)
        have a2rr := Ints.past a1rr a1B 0 (.slice (some ⟨w3.heap.size, 0, none⟩) 1 1)
        have a2nr := Ints.past a1nr a1B 0 (.slice (some ⟨w3.heap.size, 0, none⟩) 1 1)
        have a2B := a1B.put 0 (.slice (some ⟨w3.heap.size, 0, none⟩) 1 1)
        have a2K := a1K.set (p := ⟨w.heap.size + 1, 0, none⟩) (by show w.heap.size ≤ w.heap.size + 1; omega) (.slice (some ⟨w3.heap.size, 0, none⟩) 1 1)
        have a2cb0 := a2B.cell 0
        have a2cb1 := a2B.cell 1
        simp at a2cb0 a2cb1
        have a2zb0 := a2B.frozen 0
        have a2zb1 := a2B.frozen 1
        have a3pr := Ints.past a2pr a2B 1 (.slice ar r0.length cr)
        have a3rr := Ints.past a2rr a2B 1 (.slice ar r0.length cr)
        have a3nr := Ints.past a2nr a2B 1 (.slice ar r0.length cr)
        have a3B := a2B.put 1 (.slice ar r0.length cr)
        have a3K := a2K.set (p := ⟨w.heap.size + 1, 1, none⟩) (by show w.heap.size ≤ w.heap.size + 1; omega) (.slice ar r0.length cr)
        have a3cb0 := a3B.cell 0
        have a3cb1 := a3B.cell 1
        simp at a3cb0 a3cb1
        have a3zb0 := a3B.frozen 0
        have a3zb1 := a3B.frozen 1
        have HKf := Lib.hid a3K
        have HP5 := Lib.hid a3nr
        have HR5 := Lib.hid a3rr
        clear a1nr a1pr a1rr a1B a1K a2pr a2rr a2nr a2B a2K a3pr a3rr a3nr a3B a3K
        go_wp2_with fail
        refine bodyPost_ret (v := .tuple #[.agg #[.slice (some ⟨w3.heap.size, 0, none⟩) 1 1, .slice ar r0.length cr], .int .i64 0]) (by simp [results, Tryd.results26, go_sem, a3cb0, a3cb1]) rfl ?_
        rw [HE1.out, HE2.out]
        exact ⟨_, _, _, _, rfl, HP5.out, HR5.out, HKf.out.clear (fun i hi e => by have e : w.heap.size ≤ i := e; omega)⟩
      · have bp : decide ((p0.length : Int) > 16) = false := by simp; omega
        have e1 : ctP p0 r0 lower = p0 := by unfold ctP; rw [if_pos h1, if_neg h16]
        have HE1 := Lib.hid e1
        have HE2 := Lib.hid e2
        clear h16 h1 e1 e2
        have a0cb0 := HF4.out.cell 0
        have a0cb1 := HF4.out.cell 1
        simp at a0cb0 a0cb1
        have a0zb0 := HF4.out.frozen 0
        have a0zb1 := HF4.out.frozen 1
        have a1pr := Ints.past HPr.out HF4.out 0 (.slice av p0.length cp2)
        have a1rr := Ints.past HRr.out HF4.out 0 (.slice av p0.length cp2)
        have a1B := HF4.out.put 0 (.slice av p0.length cp2)
        have a1K := HK4.out.set (p := ⟨w.heap.size + 1, 0, none⟩) (by show w.heap.size ≤ w.heap.size + 1; omega) (.slice av p0.length cp2)
        have a1cb0 := a1B.cell 0
        have a1cb1 := a1B.cell 1
        simp at a1cb0 a1cb1
        have a1zb0 := a1B.frozen 0
        have a1zb1 := a1B.frozen 1
        have a2pr := Ints.past a1pr a1B 1 (.slice ar r0.length cr)
        have a2rr := Ints.past a1rr a1B 1 (.slice ar r0.length cr)
        have a2B := a1B.put 1 (.slice ar r0.length cr)
        have a2K := a1K.set (p := ⟨w.heap.size + 1, 1, none⟩) (by show w.heap.size ≤ w.heap.size + 1; omega) (.slice ar r0.length cr)
        have a2cb0 := a2B.cell 0
        have a2cb1 := a2B.cell 1
        simp at a2cb0 a2cb1
        have a2zb0 := a2B.frozen 0
        have a2zb1 := a2B.frozen 1
        have HKf := Lib.hid a2K
        have HP5 := Lib.hid a2pr
        have HR5 := Lib.hid a2rr
        clear a1pr a1rr a1B a1K a2pr a2rr a2B a2K
        go_wp2_with fail
        refine bodyPost_ret (v := .tuple #[.agg #[.slice av p0.length cp2, .slice ar r0.length cr], .int .i64 0]) (by simp [results, Tryd.results26, go_sem, a2cb0, a2cb1]) rfl ?_
        rw [HE1.out, HE2.out]
        exact ⟨_, _, _, _, rfl, HP5.out, HR5.out, HKf.out.clear (fun i hi e => by have e : w.heap.size ≤ i := e; omega)⟩
    · have br : decide ((r0.length : Int) > 1) = true := by simp; omega
      cases lower
      · have e2 : ctR r0 false = [127] := by unfold ctR; rw [if_neg h1]; rfl
        by_cases h16 : 16 < p0.length
        · have bp : decide ((p0.length : Int) > 16) = true := by simp; omega
          have e1 : ctP p0 r0 false = [127] := by unfold ctP; rw [if_neg h1, if_pos h16]; rfl
          have HE1 := Lib.hid e1
          have HE2 := Lib.hid e2
          clear h16 h1 e1 e2
          have a0cb0 := HF4.out.cell 0
          have a0cb1 := HF4.out.cell 1
          simp at a0cb0 a0cb1
          have a0zb0 := HF4.out.frozen 0
          have a0zb1 := HF4.out.frozen 1
          have a1nr := Ints.lit127 w3 HK4.out.size
          have a1pr := Ints.up HPr.out (.cells #[.int .i64 127] 3)
          have a1rr := Ints.up HRr.out (.cells #[.int .i64 127] 3)
          have a1B := HF4.out.up (.cells #[.int .i64 127] 3)
          have a1K := HK4.out.new (.cells #[.int .i64 127] 3)
          have a1cb0 := a1B.cell 0
          have a1cb1 := a1B.cell 1
          simp at a1cb0 a1cb1
          have a1zb0 := a1B.frozen 0
          have a1zb1 := a1B.frozen 1
          have a2mr := Ints.lit127 (w3.alloc (.cells #[.int .i64 127] 3)) a1K.size
          rw [show (w3.alloc (.cells #[.int .i64 127] 3)).heap.size = w3.heap.size + 1 by simp] at a2mr
          have a2pr := Ints.up a1pr (.cells #[.int .i64 127] 3)
          have a2rr := Ints.up a1rr (.cells #[.int .i64 127] 3)
          have a2nr := Ints.up a1nr (.cells #[.int .i64 127] 3)
          have a2B := a1B.up (.cells #[.int .i64 127] 3)
          have a2K := a1K.new (.cells #[.int .i64 127] 3)
          have a2cb0 := a2B.cell 0
          have a2cb1 := a2B.cell 1
          simp at a2cb0 a2cb1
          have a2zb0 := a2B.frozen 0
          have a2zb1 := a2B.frozen 1
          have a3pr := Ints.past a2pr a2B 0 (.slice (some ⟨w3.heap.size, 0, none⟩) 1 1)
          have a3rr := Ints.past a2rr a2B 0 (.slice (some ⟨w3.heap.size, 0, none⟩) 1 1)
          have a3nr := Ints.past a2nr a2B 0 (.slice (some ⟨w3.heap.size, 0, none⟩) 1 1)
          have a3mr := Ints.past a2mr a2B 0 (.slice (some ⟨w3.heap.size, 0, none⟩) 1 1)
          have a3B := a2B.put 0 (.slice (some ⟨w3.heap.size, 0, none⟩) 1 1)
          have a3K := a2K.set (p := ⟨w.heap.size + 1, 0, none⟩) (by show w.heap.size ≤ w.heap.size + 1; omega) (.slice (some ⟨w3.heap.size, 0, none⟩) 1 1)
          have a3cb0 := a3B.cell 0
          have a3cb1 := a3B.cell 1
          simp at a3cb0 a3cb1
          have a3zb0 := a3B.frozen 0
          have a3zb1 := a3B.frozen 1
          have a4pr := Ints.past a3pr a3B 1 (.slice (some ⟨w3.heap.size + 1, 0, none⟩) 1 1)
          have a4rr := Ints.past a3rr a3B 1 (.slice (some ⟨w3.heap.size + 1, 0, none⟩) 1 1)
          have a4nr := Ints.past a3nr a3B 1 (.slice (some ⟨w3.heap.size + 1, 0, none⟩) 1 1)
          have a4mr := Ints.past a3mr a3B 1 (.slice (some ⟨w3.heap.size + 1, 0, none⟩) 1 1)
          have a4B := a3B.put 1 (.slice (some ⟨w3.heap.size + 1, 0, none⟩) 1 1)
          have a4K := a3K.set (p := ⟨w.heap.size + 1, 1, none⟩) (by show w.heap.size ≤ w.heap.size + 1; omega) (.slice (some ⟨w3.heap.size + 1, 0, none⟩) 1 1)
          have a4cb0 := a4B.cell 0
          have a4cb1 := a4B.cell 1
          simp at a4cb0 a4cb1
          have a4zb0 := a4B.frozen 0
          have a4zb1 := a4B.frozen 1
          have HKf := Lib.hid a4K
          have HP5 := Lib.hid a4nr
          have HR5 := Lib.hid a4mr
          clear a1nr a1pr a1rr a1B a1K a2mr a2pr a2rr a2nr a2B a2K a3pr a3rr a3nr a3mr a3B a3K a4pr a4rr a4nr a4mr a4B a4K
          go_wp2_with fail
          refine bodyPost_ret (v := .tuple #[.agg #[.slice (some ⟨w3.heap.size, 0, none⟩) 1 1, .slice (some ⟨w3.heap.size + 1, 0, none⟩) 1 1], .int .i64 0]) (by simp [results, Tryd.results26, go_sem, a4cb0, a4cb1]) rfl ?_
          rw [HE1.out, HE2.out]
          exact ⟨_, _, _, _, rfl, HP5.out, HR5.out, HKf.out.clear (fun i hi e => by have e : w.heap.size ≤ i := e; omega)⟩
        · have bp : decide ((p0.length : Int) > 16) = false := by simp; omega
          have e1 : ctP p0 r0 false = p0 := by unfold ctP; rw [if_neg h1, if_neg h16]; rfl
          have HE1 := Lib.hid e1
          have HE2 := Lib.hid e2
          clear h16 h1 e1 e2
          have a0cb0 := HF4.out.cell 0
          have a0cb1 := HF4.out.cell 1
          simp at a0cb0 a0cb1
          have a0zb0 := HF4.out.frozen 0
          have a0zb1 := HF4.out.frozen 1
          have a1nr := Ints.lit127 w3 HK4.out.size
          have a1pr := Ints.up HPr.out (.cells #[.int .i64 127] 3)
          have a1rr := Ints.up HRr.out (.cells #[.int .i64 127] 3)
          have a1B := HF4.out.up (.cells #[.int .i64 127] 3)
          have a1K := HK4.out.new (.cells #[.int .i64 127] 3)
          have a1cb0 := a1B.cell 0
          have a1cb1 := a1B.cell 1
          simp at a1cb0 a1cb1
          have a1zb0 := a1B.frozen 0
          have a1zb1 := a1B.frozen 1
          have a2pr := Ints.past a1pr a1B 0 (.slice av p0.length cp2)
          have a2rr := Ints.past a1rr a1B 0 (.slice av p0.length cp2)
          have a2nr := Ints.past a1nr a1B 0 (.slice av p0.length cp2)
          have a2B := a1B.put 0 (.slice av p0.length cp2)
          have a2K := a1K.set (p := ⟨w.heap.size + 1, 0, none⟩) (by show w.heap.size ≤ w.heap.size + 1; omega) (.slice av p0.length cp2)
          have a2cb0 := a2B.cell 0
          have a2cb1 := a2B.cell 1
          simp at a2cb0 a2cb1
          have a2zb0 := a2B.frozen 0
          have a2zb1 := a2B.frozen 1
          have a3pr := Ints.past a2pr a2B 1 (.slice (some ⟨w3.heap.size, 0, none⟩) 1 1)
          have a3rr := Ints.past a2rr a2B 1 (.slice (some ⟨w3.heap.size, 0, none⟩) 1 1)
          have a3nr := Ints.past a2nr a2B 1 (.slice (some ⟨w3.heap.size, 0, none⟩) 1 1)
          have a3B := a2B.put 1 (.slice (some ⟨w3.heap.size, 0, none⟩) 1 1)
          have a3K := a2K.set (p := ⟨w.heap.size + 1, 1, none⟩) (by show w.heap.size ≤ w.heap.size + 1; omega) (.slice (some ⟨w3.heap.size, 0, none⟩) 1 1)
          have a3cb0 := a3B.cell 0
          have a3cb1 := a3B.cell 1
          simp at a3cb0 a3cb1
          have a3zb0 := a3B.frozen 0
          have a3zb1 := a3B.frozen 1
          have HKf := Lib.hid a3K
          have HP5 := Lib.hid a3pr
          have HR5 := Lib.hid a3nr
          clear a1nr a1pr a1rr a1B a1K a2pr a2rr a2nr a2B a2K a3pr a3rr a3nr a3B a3K
          go_wp2_with fail
          refine bodyPost_ret (v := .tuple #[.agg #[.slice av p0.length cp2, .slice (some ⟨w3.heap.size, 0, none⟩) 1 1], .int .i64 0]) (by simp [results, Tryd.results26, go_sem, a3cb0, a3cb1]) rfl ?_
          rw [HE1.out, HE2.out]
          exact ⟨_, _, _, _, rfl, HP5.out, HR5.out, HKf.out.clear (fun i hi e => by have e : w.heap.size ≤ i := e; omega)⟩
      · have e2 : ctR r0 true = [] := by unfold ctR; rw [if_neg h1]; rfl
        by_cases h16 : 16 < p0.length
        · have bp : decide ((p0.length : Int) > 16) = true := by simp; omega
          have e1 : ctP p0 r0 true = [127] ++ [127] := by unfold ctP; rw [if_neg h1, if_pos h16]; rfl
          have HE1 := Lib.hid e1
          have HE2 := Lib.hid e2
          clear h16 h1 e1 e2
          have a0cb0 := HF4.out.cell 0
          have a0cb1 := HF4.out.cell 1
          simp at a0cb0 a0cb1
          have a0zb0 := HF4.out.frozen 0
          have a0zb1 := HF4.out.frozen 1
          have a1nr := Ints.lit127 w3 HK4.out.size
          have a1pr := Ints.up HPr.out (.cells #[.int .i64 127] 3)
          have a1rr := Ints.up HRr.out (.cells #[.int .i64 127] 3)
          have a1B := HF4.out.up (.cells #[.int .i64 127] 3)
          have a1K := HK4.out.new (.cells #[.int .i64 127] 3)
          have a1cb0 := a1B.cell 0
          have a1cb1 := a1B.cell 1
          simp at a1cb0 a1cb1
          have a1zb0 := a1B.frozen 0
          have a1zb1 := a1B.frozen 1
          have a2pr := Ints.up a1pr (.cells #[.int .i64 127] 3)
          have a2rr := Ints.up a1rr (.cells #[.int .i64 127] 3)
          have a2nr := Ints.up a1nr (.cells #[.int .i64 127] 3)
          have a2B := a1B.up (.cells #[.int .i64 127] 3)
          have a2K := a1K.new (.cells #[.int .i64 127] 3)
          have a2cb0 := a2B.cell 0
          have a2cb1 := a2B.cell 1
          simp at a2cb0 a2cb1
          have a2zb0 := a2B.frozen 0
          have a2zb1 := a2B.frozen 1
          have hnw := cell_one_new (w3.alloc (.cells #[.int .i64 127] 3)) (.int .i64 127) 3
          rw [show (w3.alloc (.cells #[.int .i64 127] 3)).heap.size = w3.heap.size + 1 by simp] at hnw
          have HNEW := Lib.hid hnw
          have HRow := Lib.hid a2nr
          have HBB := Lib.hid a2B
          have HKK := Lib.hid a2K
          have hrow : World.ownsRow _ w.heap.size 3 1 (.slice (some ⟨w3.heap.size, 0, none⟩) 1 1) 1 (([127] : List Int).map (Value.int .i64)) := HRow.out
          have q3 : 1 + 1 ≤ maxLen := by unfold maxLen; omega
          have q4 : (1 + 1) * 8 ≤ 140737488355328 := by omega
          have hsz := a2K.size
          clear hnw a1nr a1pr a1rr a1B a1K a2pr a2rr a2nr a2B a2K
          go_wp2_with (first
            | (at_builtin
               refine wpList_append_lies _ rfl _ _ 38 rfl w.heap.size 3 i0 (.int .i64 0) 1 8 Tryd.underlying38 hi hz0 hz1 hz2 rfl (by decide) _ 1 (([127] : List Int).map (Value.int .i64)) rfl hrow ⟨w3.heap.size + 1, 0, none⟩ 1 1 [.int .i64 127] rfl rfl HNEW.out (one_i64 _) (by decide) q3 q4 hsz _ rfl ?_
               intro g3 cap3 W6 hown3 hg3 hat hgl
               have GB := BlkAt.grown HBB.out hg3 (ints_ne HRow.out HBB.out)
               have GK := HKK.out.grown hg3 (fun q hq e => (World.ownsRow.lt hrow q e.symm).1)
               have GR : Ints w.heap.size (.slice (some ⟨g3, 0, none⟩) (1 + 1) cap3) ([127] ++ [127]) W6 := by
                 unfold Ints
                 rw [List.length_append, List.map_append]
                 exact hown3
               have g0cb0 := GB.cell 0
               have g0cb1 := GB.cell 1
               simp at g0cb0 g0cb1
               have g0zb0 := GB.frozen 0
               have g0zb1 := GB.frozen 1
               have g1pr := Ints.past GR GB 0 (.slice (some ⟨g3, 0, none⟩) (1 + 1) cap3)
               have g1B := GB.put 0 (.slice (some ⟨g3, 0, none⟩) (1 + 1) cap3)
               have g1K := GK.set (p := ⟨w.heap.size + 1, 0, none⟩) (by show w.heap.size ≤ w.heap.size + 1; omega) (.slice (some ⟨g3, 0, none⟩) (1 + 1) cap3)
               have g1cb0 := g1B.cell 0
               have g1cb1 := g1B.cell 1
               simp at g1cb0 g1cb1
               have g1zb0 := g1B.frozen 0
               have g1zb1 := g1B.frozen 1
               have g2pr := Ints.past g1pr g1B 1 (.slice none 0 0)
               have g2B := g1B.put 1 (.slice none 0 0)
               have g2K := g1K.set (p := ⟨w.heap.size + 1, 1, none⟩) (by show w.heap.size ≤ w.heap.size + 1; omega) (.slice none 0 0)
               have g2cb0 := g2B.cell 0
               have g2cb1 := g2B.cell 1
               simp at g2cb0 g2cb1
               have g2zb0 := g2B.frozen 0
               have g2zb1 := g2B.frozen 1
               have HKf := Lib.hid g2K
               have HP5 := Lib.hid g2pr
               clear hown3 hg3 hat hgl GB GK GR g1pr g1B g1K g2pr g2B g2K))
          refine bodyPost_ret (v := .tuple #[.agg #[.slice (some ⟨g3, 0, none⟩) (1 + 1) cap3, .slice none 0 0], .int .i64 0]) (by simp [results, Tryd.results26, go_sem, g2cb0, g2cb1]) rfl ?_
          rw [HE1.out, HE2.out]
          exact ⟨_, cap3, none, 0, by rw [List.length_append]; rfl, by rw [List.length_append]; exact HP5.out, World.ownsRow_nil _ _ _ _, HKf.out.clear (fun i hi e => by have e : w.heap.size ≤ i := e; omega)⟩
        · have bp : decide ((p0.length : Int) > 16) = false := by simp; omega
          have e1 : ctP p0 r0 true = p0 ++ [127] := by unfold ctP; rw [if_neg h1, if_neg h16]; rfl
          have HE1 := Lib.hid e1
          have HE2 := Lib.hid e2
          clear h16 h1 e1 e2
          have a0cb0 := HF4.out.cell 0
          have a0cb1 := HF4.out.cell 1
          simp at a0cb0 a0cb1
          have a0zb0 := HF4.out.frozen 0
          have a0zb1 := HF4.out.frozen 1
          have a1pr := Ints.up HPr.out (.cells #[.int .i64 127] 3)
          have a1rr := Ints.up HRr.out (.cells #[.int .i64 127] 3)
          have a1B := HF4.out.up (.cells #[.int .i64 127] 3)
          have a1K := HK4.out.new (.cells #[.int .i64 127] 3)
          have a1cb0 := a1B.cell 0
          have a1cb1 := a1B.cell 1
          simp at a1cb0 a1cb1
          have a1zb0 := a1B.frozen 0
          have a1zb1 := a1B.frozen 1
          have hnw := cell_one_new w3 (.int .i64 127) 3
          have HNEW := Lib.hid hnw
          have HRow := Lib.hid a1pr
          have HBB := Lib.hid a1B
          have HKK := Lib.hid a1K
          have hrow : World.ownsRow _ w.heap.size 3 1 (.slice av p0.length cp2) p0.length ((p0 : List Int).map (Value.int .i64)) := HRow.out
          have q3 : p0.length + 1 ≤ maxLen := by unfold maxLen; omega
          have q4 : (p0.length + 1) * 8 ≤ 140737488355328 := by omega
          have hsz := a1K.size
          clear hnw a1pr a1rr a1B a1K
          go_wp2_with (first
            | (at_builtin
               refine wpList_append_lies _ rfl _ _ 38 rfl w.heap.size 3 i0 (.int .i64 0) 1 8 Tryd.underlying38 hi hz0 hz1 hz2 rfl (by decide) _ p0.length ((p0 : List Int).map (Value.int .i64)) rfl hrow ⟨w3.heap.size, 0, none⟩ 1 1 [.int .i64 127] rfl rfl HNEW.out (one_i64 _) (by decide) q3 q4 hsz _ rfl ?_
               intro g3 cap3 W6 hown3 hg3 hat hgl
               have GB := BlkAt.grown HBB.out hg3 (ints_ne HRow.out HBB.out)
               have GK := HKK.out.grown hg3 (fun q hq e => (World.ownsRow.lt hrow q e.symm).1)
               have GR : Ints w.heap.size (.slice (some ⟨g3, 0, none⟩) (p0.length + 1) cap3) (p0 ++ [127]) W6 := by
                 unfold Ints
                 rw [List.length_append, List.map_append]
                 exact hown3
               have g0cb0 := GB.cell 0
               have g0cb1 := GB.cell 1
               simp at g0cb0 g0cb1
               have g0zb0 := GB.frozen 0
               have g0zb1 := GB.frozen 1
               have g1pr := Ints.past GR GB 0 (.slice (some ⟨g3, 0, none⟩) (p0.length + 1) cap3)
               have g1B := GB.put 0 (.slice (some ⟨g3, 0, none⟩) (p0.length + 1) cap3)
               have g1K := GK.set (p := ⟨w.heap.size + 1, 0, none⟩) (by show w.heap.size ≤ w.heap.size + 1; omega) (.slice (some ⟨g3, 0, none⟩) (p0.length + 1) cap3)
               have g1cb0 := g1B.cell 0
               have g1cb1 := g1B.cell 1
               simp at g1cb0 g1cb1
               have g1zb0 := g1B.frozen 0
               have g1zb1 := g1B.frozen 1
               have g2pr := Ints.past g1pr g1B 1 (.slice none 0 0)
               have g2B := g1B.put 1 (.slice none 0 0)
               have g2K := g1K.set (p := ⟨w.heap.size + 1, 1, none⟩) (by show w.heap.size ≤ w.heap.size + 1; omega) (.slice none 0 0)
               have g2cb0 := g2B.cell 0
               have g2cb1 := g2B.cell 1
               simp at g2cb0 g2cb1
               have g2zb0 := g2B.frozen 0
               have g2zb1 := g2B.frozen 1
               have HKf := Lib.hid g2K
               have HP5 := Lib.hid g2pr
               clear hown3 hg3 hat hgl GB GK GR g1pr g1B g1K g2pr g2B g2K))
          refine bodyPost_ret (v := .tuple #[.agg #[.slice (some ⟨g3, 0, none⟩) (p0.length + 1) cap3, .slice none 0 0], .int .i64 0]) (by simp [results, Tryd.results26, go_sem, g2cb0, g2cb1]) rfl ?_
          rw [HE1.out, HE2.out]
          exact ⟨_, cap3, none, 0, by rw [List.length_append]; rfl, by rw [List.length_append]; exact HP5.out, World.ownsRow_nil _ _ _ _, HKf.out.clear (fun i hi e => by have e : w.heap.size ≤ i := e; omega)⟩
end Go.Proofs.YtcfakaglmlfkpaaDoor
