/- ctype: a function's core type: the project's Core. -/
import Derived.Test.YtcfakaglmlfkpaaDoorCtCo
set_option linter.unusedVariables false
set_option linter.unusedSimpArgs false
namespace Go.Proofs.YtcfakaglmlfkpaaDoor
open Go.RowKit
open Lex Ct

set_option maxRecDepth 100000 in
set_option maxHeartbeats 8000000 in
theorem core_no (s : Sg) (lower : Bool) (ap : Option Addr) (cp : Nat) (aq : Option Addr) (cq : Nat) (an : Option Addr) (cn : Nat) (al : Option Addr) (cl : Nat) (w : World)
    (HC : Hid (∀ w', Kept (fun _ => False) w w' → Calls Tryd.prog 10 #[sgV s ap cp aq cq an cn al cl] w' fun y w'' => y = .returned (.int .i64 1) ∧ Kept (fun _ => False) w' w'')) :
    Calls Tryd.prog 25 #[sgV s ap cp aq cq an cn al cl, .bool lower] w (CoreFR 1 [] [] w) := by
  have k0 : Kept (fun _ => False) w ((w.alloc (.cells (sgC s ap cp aq cq an cn al cl) 27)).alloc (.cells #[.slice none 0 0, .slice none 0 0] 44)) := ((Kept.refl _ _).new _).new _
  have F0 := BlkAt.new (w.alloc (.cells (sgC s ap cp aq cq an cn al cl) 27)) #[.slice none 0 0, .slice none 0 0] 44
  rw [World.size_alloc] at F0
  have HK := Lib.hid k0
  have HF := Lib.hid F0
  clear k0 F0
  unfold CoreFR
  go_enter Tryd.func25, Tryd.ntmps25
  go_wp2_with (first
    | (go_at_call 10; refine (HC.out _ HK.out).mono ?_; rintro y w1 ⟨rfl, k1⟩; have F1 := HF.out.kept (F := fun _ => False) k1 id; have f0 := F1.cell 0; have f1 := F1.cell 1; have z0 := F1.frozen 0; have z1 := F1.frozen 1; simp at f0 f1; have HF1 := Lib.hid F1; have HK1 := Lib.hid k1; clear F1 k1))
  have G2 := (HF1.out.put 0 (.slice none 0 0)).put 1 (.slice none 0 0)
  have g0 := G2.cell 0
  have g1 := G2.cell 1
  simp at g0 g1
  refine bodyPost_ret (v := .tuple #[.agg #[.slice none 0 0, .slice none 0 0], .int .i64 1]) (by simp [results, Tryd.results25, go_sem, g0, g1]) rfl ⟨none, 0, none, 0, rfl, World.ownsRow_nil _ _ _ _, World.ownsRow_nil _ _ _ _, ?_⟩
  exact ((((HK.out.trans HK1.out).any (F := fun k => k = w.heap.size + 1)).set (p := ⟨w.heap.size + 1, 0, none⟩) rfl _).set (p := ⟨w.heap.size + 1, 1, none⟩) rfl _).clear (fun i hi e => by omega)
def ctP (p r : List Int) (lower : Bool) : List Int := if r.length ≤ 1 then (if 16 < p.length then [127] else p) else if lower then (if 16 < p.length then [127] else p) ++ [127] else (if 16 < p.length then [127] else p)
def ctR (r : List Int) (lower : Bool) : List Int := if r.length ≤ 1 then r else if lower then [] else [127]
theorem ints_ne {b fb : Nat} {v : Value} {xs : List Int} {w : World} {cs : Array Value} (h : Ints b v xs w) (hb : BlkAt w fb cs 44) : v.ownBlock ≠ some fb := by
  rcases h.2 with ⟨rfl, _⟩ | ⟨g, cap, cur, rfl, _, hg, _⟩
  · exact fun e => by cases e
  · intro e
    have e : g = fb := Option.some.inj e
    subst e
    have h2 := hb.symm.trans hg
    simp at h2
theorem Ints.lit127 {b : Nat} (w : World) (h : b ≤ w.heap.size) : Ints b (.slice (some ⟨w.heap.size, 0, none⟩) 1 1) [127] (w.alloc (.cells #[.int .i64 127] 3)) := World.ownsRow_lit (e := 3) (size := 1) w #[.int .i64 127] 1 h (by decide) rfl
theorem Ints.up {b : Nat} {v : Value} {xs : List Int} {w : World} (h : Ints b v xs w) (o : Obj) : Ints b v xs (w.alloc o) := World.ownsRow.alloc h o
theorem Ints.past {b fb : Nat} {v : Value} {xs : List Int} {w : World} {cs : Array Value} (h : Ints b v xs w) (hb : BlkAt w fb cs 44) (i : Nat) (u : Value) : Ints b v xs (w.setCell ⟨fb, i, none⟩ u) := ownsRow_setCell_other h (a := ⟨fb, i, none⟩) (ints_ne h hb) u
/-- Where the function's type in the making lies. -/
structure FinAt (w1 W4 : World) (fb : Nat) (ap : Option Addr) (cp : Nat) (ar : Option Addr) (cr : Nat) (p r : List Int) : Prop where
  blk : BlkAt W4 fb #[.slice ap p.length cp, .slice ar r.length cr] 44
  kept : Kept (fun _ => False) w1 W4
  le : w1.heap.size ≤ fb
  p : Ints w1.heap.size (.slice ap p.length cp) p W4
  r : Ints w1.heap.size (.slice ar r.length cr) r W4
theorem FinAt.new {w1 w3 : World} {ap ar : Option Addr} {cp cr : Nat} {p r : List Int} (q : Kept (fun _ => False) w1 w3) (hp : Ints w1.heap.size (.slice ap p.length cp) p w3) (hr : Ints w1.heap.size (.slice ar r.length cr) r w3) :
    FinAt w1 (w3.alloc (.cells #[.slice ap p.length cp, .slice ar r.length cr] 44)) w3.heap.size ap cp ar cr p r :=
  ⟨BlkAt.new _ _ _, q.new _, q.size, hp.kept (F := fun _ => False) ((Kept.refl _ _).new _) (fun _ _ => id), hr.kept (F := fun _ => False) ((Kept.refl _ _).new _) (fun _ _ => id)⟩
theorem FinAt.of {w1 w3 : World} {fb : Nat} {ap ar : Option Addr} {cp cr : Nat} {p r : List Int} (hb : BlkAt w3 fb #[.slice none 0 0, .slice none 0 0] 44) (hle : w1.heap.size ≤ fb) (q : Kept (fun _ => False) w1 w3) (hp : Ints w1.heap.size (.slice ap p.length cp) p w3) (hr : Ints w1.heap.size (.slice ar r.length cr) r w3) :
    FinAt w1 ((w3.setCell ⟨fb, 0, none⟩ (.slice ap p.length cp)).setCell ⟨fb, 1, none⟩ (.slice ar r.length cr)) fb ap cp ar cr p r := by
  have n1 := ints_ne hp hb
  have n2 := ints_ne hr hb
  refine ⟨(hb.put 0 _).put 1 _, (((q.any (F := (w1.heap.size ≤ ·))).set (p := ⟨fb, 0, none⟩) hle _).set (p := ⟨fb, 1, none⟩) hle _).clear (fun i hi e => by have e : w1.heap.size ≤ i := e; omega), hle, ?_, ?_⟩
  · exact ownsRow_setCell_other (ownsRow_setCell_other hp (a := ⟨fb, 0, none⟩) n1 _) (a := ⟨fb, 1, none⟩) n1 _
  · exact ownsRow_setCell_other (ownsRow_setCell_other hr (a := ⟨fb, 0, none⟩) n2 _) (a := ⟨fb, 1, none⟩) n2 _
set_option maxRecDepth 100000 in
set_option maxHeartbeats 8000000 in
theorem core_go (s : Sg) (lower : Bool) (ap : Option Addr) (cp : Nat) (aq : Option Addr) (cq : Nat) (an : Option Addr) (cn : Nat) (al : Option Addr) (cl : Nat) (w : World) (p0 r0 : List Int) (hp : p0.length ≤ 80000) (hr : r0.length ≤ 1000)
    (HC : Hid (∀ w', Kept (fun _ => False) w w' → Calls Tryd.prog 10 #[sgV s ap cp aq cq an cn al cl] w' fun y w'' => y = .returned (.int .i64 0) ∧ Kept (fun _ => False) w' w''))
    (HB : Hid (∀ w', Kept (fun _ => False) w w' → Calls Tryd.prog 50 #[.slice aq s.t.length cq] w' (CoreR p0 w')))
    (HR : Hid (∀ w', Kept (fun _ => False) w w' → Calls Tryd.prog 43 #[tyV s.r an cn al cl] w' (CoreR r0 w'))) :
    Calls Tryd.prog 25 #[sgV s ap cp aq cq an cn al cl, .bool lower] w (CoreFR 0 (ctP p0 r0 lower) (ctR r0 lower) w) := by
  obtain ⟨i0, hi, hz0, hz1, hz2⟩ := info_int2
  have k0 : Kept (fun _ => False) w ((w.alloc (.cells (sgC s ap cp aq cq an cn al cl) 27)).alloc (.cells #[.slice none 0 0, .slice none 0 0] 44)) := ((Kept.refl _ _).new _).new _
  have S0 := (BlkAt.new w (sgC s ap cp aq cq an cn al cl) 27).up (.cells #[.slice none 0 0, .slice none 0 0] 44)
  have F0 := BlkAt.new (w.alloc (.cells (sgC s ap cp aq cq an cn al cl) 27)) #[.slice none 0 0, .slice none 0 0] 44
  rw [World.size_alloc] at F0
  have HK := Lib.hid k0
  have HF := Lib.hid F0
  have HS := Lib.hid S0
  clear k0 F0 S0
  unfold CoreR at HB HR
  go_enter Tryd.func25, Tryd.ntmps25
  go_wp2_with (first
    | (go_at_call 10; refine (HC.out _ HK.out).mono ?_; rintro y w1 ⟨rfl, k1⟩; have HK1 := Lib.hid (HK.out.trans k1); have HF1 := Lib.hid (HF.out.kept (F := fun _ => False) k1 id); have HS1 := Lib.hid (HS.out.kept (F := fun _ => False) k1 id); clear k1 HC))
  have q0 : Kept (fun _ => False) w1 w1.drew := (Kept.refl _ _).drew
  have HW : Hid (∀ w', Kept (fun _ => False) w1 w' → w'.cell? ⟨w.heap.size, 2, none⟩ = some (.slice aq s.t.length cq) ∧ w'.cell? ⟨w.heap.size, 3, none⟩ = some (.int .i64 s.r.kind) ∧ w'.cell? ⟨w.heap.size, 4, none⟩ = some (.slice an s.r.names.length cn) ∧ w'.cell? ⟨w.heap.size, 5, none⟩ = some (.slice al s.r.l.length cl) ∧ w'.cell? ⟨w.heap.size, 6, none⟩ = some (.int .i64 s.r.r)) := Lib.hid fun w' k => (boxS_cells (HS1.out.kept k id)).2
  go_region_held3 (fun w' => w'.cell? ⟨w.heap.size, 2, none⟩ = some (.slice aq s.t.length cq) ∧ w'.cell? ⟨w.heap.size, 3, none⟩ = some (.int .i64 s.r.kind) ∧ w'.cell? ⟨w.heap.size, 4, none⟩ = some (.slice an s.r.names.length cn) ∧ w'.cell? ⟨w.heap.size, 5, none⟩ = some (.slice al s.r.l.length cl) ∧ w'.cell? ⟨w.heap.size, 6, none⟩ = some (.int .i64 s.r.r))
    (first | exact HW.out _ q0 | exact HW.out _ (q0.new _) | exact HW.out _ ((((q0.any (F := (w1.heap.size ≤ ·))).set (p := ⟨_, 0, none⟩) HLE.out _).set (p := ⟨_, 1, none⟩) HLE.out _).clear (fun i hi e => by have e : w1.heap.size ≤ i := e; omega)))
    (first
      | (go_at_call 50; refine (HB.out _ (HK1.out.trans (by first | exact q0 | exact q0.new _))).mono ?_; rintro y w2 ⟨av, cp2, rfl, i1, i2, k2⟩
         have HP : Hid (Ints w1.heap.size (.slice av p0.length cp2) p0 w2) := Lib.hid (Ints.mono i1 (by first | exact q0.size | exact (q0.new _).size))
         try (have FB := (BlkAt.new w1.drew #[.slice none 0 0, .slice none 0 0] 44).kept (F := fun _ => False) k2 id)
         replace q0 : Kept (fun _ => False) w1 w2 := by first | exact q0.trans k2 | exact (q0.new _).trans k2
         clear i1 i2 k2 HB)
      | (go_at_call 43; refine (HR.out _ (HK1.out.trans (by first | exact q0 | exact q0.new _))).mono ?_; rintro y w3 ⟨ar, cr, rfl, i1, i2, k2⟩
         have HQ : Hid (Ints w1.heap.size (.slice ar r0.length cr) r0 w3) := Lib.hid (Ints.mono i1 (by first | exact q0.size | exact (q0.new _).size))
         have HP3 : Hid (Ints w1.heap.size (.slice av p0.length cp2) p0 w3) := Lib.hid (HP.out.kept (F := fun _ => False) (by first | exact k2 | exact ((Kept.refl _ _).new _).trans k2) (fun _ _ => id))
         first
         | (have FB2 := FB.kept (F := fun _ => False) k2 id; have g0 := FB2.cell 0; have g1 := FB2.cell 1; have y0 := FB2.frozen 0; have y1 := FB2.frozen 1; simp at g0 g1 y0 y1; have HFB := Lib.hid FB2; have HLE : Hid (w1.heap.size ≤ w1.heap.size) := Lib.hid (Nat.le_refl _); clear FB FB2)
         | (have FB2 := (BlkAt.new w2 #[.slice none 0 0, .slice none 0 0] 44).kept (F := fun _ => False) k2 id; have g0 := FB2.cell 0; have g1 := FB2.cell 1; have y0 := FB2.frozen 0; have y1 := FB2.frozen 1; simp at g0 g1; have HFB := Lib.hid FB2; have HLE : Hid (w1.heap.size ≤ w2.heap.size) := Lib.hid q0.size; clear FB2)
         | skip
         replace q0 : Kept (fun _ => False) w1 w3 := by first | exact q0.trans k2 | exact (q0.new _).trans k2
         clear i1 i2 k2 HR))
  all_goals
    first
    | (have hz : FinAt w1 _ w1.heap.size av cp2 ar cr p0 r0 := FinAt.of HFB.out HLE.out q0 HP3.out HQ.out
       revert hz
       generalize ((w3.setCell ⟨w1.heap.size, 0, none⟩ (.slice av p0.length cp2)).setCell ⟨w1.heap.size, 1, none⟩ (.slice ar r0.length cr)) = W4
       obtain ⟨fb, hfb⟩ : ∃ x, x = w1.heap.size := ⟨_, rfl⟩
       intro hz
       have HZ : Hid (FinAt w1 W4 fb av cp2 ar cr p0 r0) := Lib.hid (by rw [hfb]; exact hz)
       rw [← hfb])
    | (have hz : FinAt w1 _ w2.heap.size av cp2 ar cr p0 r0 := FinAt.of HFB.out HLE.out q0 HP3.out HQ.out
       revert hz
       generalize ((w3.setCell ⟨w2.heap.size, 0, none⟩ (.slice av p0.length cp2)).setCell ⟨w2.heap.size, 1, none⟩ (.slice ar r0.length cr)) = W4
       obtain ⟨fb, hfb⟩ : ∃ x, x = w2.heap.size := ⟨_, rfl⟩
       intro hz
       have HZ : Hid (FinAt w1 W4 fb av cp2 ar cr p0 r0) := Lib.hid (by rw [hfb]; exact hz)
       rw [← hfb])
    | (have hz : FinAt w1 _ w3.heap.size av cp2 ar cr p0 r0 := FinAt.new q0 HP3.out HQ.out
       revert hz
       generalize (w3.alloc (.cells #[.slice av p0.length cp2, .slice ar r0.length cr] 44)) = W4
       obtain ⟨fb, hfb⟩ : ∃ x, x = w3.heap.size := ⟨_, rfl⟩
       intro hz
       have HZ : Hid (FinAt w1 W4 fb av cp2 ar cr p0 r0) := Lib.hid (by rw [hfb]; exact hz)
       rw [← hfb])
    try clear g0 g1 y0 y1
    try clear HFB HLE
    clear hz hfb HP HP3 HQ q0 HW
    have HF4 := Lib.hid (HF1.out.kept HZ.out.kept id)
    have HNE : Hid (w.heap.size + 1 < fb) := Lib.hid (Nat.lt_of_lt_of_le HF1.out.lt HZ.out.le)
    have HK4 : Hid (Kept (w.heap.size ≤ ·) w W4) := Lib.hid (HK1.out.trans HZ.out.kept).any
    have HPr : Hid (Ints w.heap.size (.slice av p0.length cp2) p0 W4) := Lib.hid (Ints.mono HZ.out.p HK1.out.size)
    have HRr : Hid (Ints w.heap.size (.slice ar r0.length cr) r0 W4) := Lib.hid (Ints.mono HZ.out.r HK1.out.size)
    by_cases h1 : r0.length ≤ 1
    · have br : decide ((r0.length : Int) ≤ 1) = true := by simp; omega
      have e2 : ctR r0 lower = r0 := by unfold ctR; rw [if_pos h1]
      by_cases h16 : 16 < p0.length
      · have bp : decide ((p0.length : Int) > 16) = true := by simp; omega
        have e1 : ctP p0 r0 lower = [127] := by unfold ctP; rw [if_pos h1, if_pos h16]
        have HE1 := Lib.hid e1
        have HE2 := Lib.hid e2
        clear h16 h1 e1 e2
        have a0cf0 := HZ.out.blk.cell 0
        have a0cf1 := HZ.out.blk.cell 1
        simp at a0cf0 a0cf1
        have a0zf0 := HZ.out.blk.frozen 0
        have a0zf1 := HZ.out.blk.frozen 1
        have a0cb0 := HF4.out.cell 0
        have a0cb1 := HF4.out.cell 1
        simp at a0cb0 a0cb1
        have a0zb0 := HF4.out.frozen 0
        have a0zb1 := HF4.out.frozen 1
        have a1nr := Ints.lit127 W4 HK4.out.size
        have a1pr := Ints.up HPr.out (.cells #[.int .i64 127] 3)
        have a1rr := Ints.up HRr.out (.cells #[.int .i64 127] 3)
        have a1F := HZ.out.blk.up (.cells #[.int .i64 127] 3)
        have a1B := HF4.out.up (.cells #[.int .i64 127] 3)
        have a1K := HK4.out.new (.cells #[.int .i64 127] 3)
        have a1cf0 := a1F.cell 0
        have a1cf1 := a1F.cell 1
        simp at a1cf0 a1cf1
        have a1zf0 := a1F.frozen 0
        have a1zf1 := a1F.frozen 1
        have a1cb0 := a1B.cell 0
        have a1cb1 := a1B.cell 1
        simp at a1cb0 a1cb1
        have a1zb0 := a1B.frozen 0
        have a1zb1 := a1B.frozen 1
        have a2pr := Ints.past a1pr a1F 0 (.slice (some ⟨W4.heap.size, 0, none⟩) 1 1)
        have a2rr := Ints.past a1rr a1F 0 (.slice (some ⟨W4.heap.size, 0, none⟩) 1 1)
        have a2nr := Ints.past a1nr a1F 0 (.slice (some ⟨W4.heap.size, 0, none⟩) 1 1)
        have a2B := a1B.other (b' := fb) (Nat.ne_of_lt HNE.out) 0 (.slice (some ⟨W4.heap.size, 0, none⟩) 1 1)
        have a2F := a1F.put 0 (.slice (some ⟨W4.heap.size, 0, none⟩) 1 1)
        have a2K := a1K.set (p := ⟨fb, 0, none⟩) (by have := HNE.out; show w.heap.size ≤ fb; omega) (.slice (some ⟨W4.heap.size, 0, none⟩) 1 1)
        have a2cf0 := a2F.cell 0
        have a2cf1 := a2F.cell 1
        simp at a2cf0 a2cf1
        have a2zf0 := a2F.frozen 0
        have a2zf1 := a2F.frozen 1
        have a2cb0 := a2B.cell 0
        have a2cb1 := a2B.cell 1
        simp at a2cb0 a2cb1
        have a2zb0 := a2B.frozen 0
        have a2zb1 := a2B.frozen 1
        have a3pr := Ints.past a2pr a2B 0 (.slice (some ⟨W4.heap.size, 0, none⟩) 1 1)
        have a3rr := Ints.past a2rr a2B 0 (.slice (some ⟨W4.heap.size, 0, none⟩) 1 1)
        have a3nr := Ints.past a2nr a2B 0 (.slice (some ⟨W4.heap.size, 0, none⟩) 1 1)
        have a3F := a2F.other (b' := w.heap.size + 1) (Ne.symm (Nat.ne_of_lt HNE.out)) 0 (.slice (some ⟨W4.heap.size, 0, none⟩) 1 1)
        have a3B := a2B.put 0 (.slice (some ⟨W4.heap.size, 0, none⟩) 1 1)
        have a3K := a2K.set (p := ⟨w.heap.size + 1, 0, none⟩) (by show w.heap.size ≤ w.heap.size + 1; omega) (.slice (some ⟨W4.heap.size, 0, none⟩) 1 1)
        have a3cf0 := a3F.cell 0
        have a3cf1 := a3F.cell 1
        simp at a3cf0 a3cf1
        have a3zf0 := a3F.frozen 0
        have a3zf1 := a3F.frozen 1
        have a3cb0 := a3B.cell 0
        have a3cb1 := a3B.cell 1
        simp at a3cb0 a3cb1
        have a3zb0 := a3B.frozen 0
        have a3zb1 := a3B.frozen 1
        have a4pr := Ints.past a3pr a3B 1 (.slice ar r0.length cr)
        have a4rr := Ints.past a3rr a3B 1 (.slice ar r0.length cr)
        have a4nr := Ints.past a3nr a3B 1 (.slice ar r0.length cr)
        have a4F := a3F.other (b' := w.heap.size + 1) (Ne.symm (Nat.ne_of_lt HNE.out)) 1 (.slice ar r0.length cr)
        have a4B := a3B.put 1 (.slice ar r0.length cr)
        have a4K := a3K.set (p := ⟨w.heap.size + 1, 1, none⟩) (by show w.heap.size ≤ w.heap.size + 1; omega) (.slice ar r0.length cr)
        have a4cf0 := a4F.cell 0
        have a4cf1 := a4F.cell 1
        simp at a4cf0 a4cf1
        have a4zf0 := a4F.frozen 0
        have a4zf1 := a4F.frozen 1
        have a4cb0 := a4B.cell 0
        have a4cb1 := a4B.cell 1
        simp at a4cb0 a4cb1
        have a4zb0 := a4B.frozen 0
        have a4zb1 := a4B.frozen 1
        have HKf := Lib.hid a4K
        have HP5 := Lib.hid a4nr
        have HR5 := Lib.hid a4rr
        clear a1nr a1pr a1rr a1F a1B a1K a2pr a2rr a2nr a2B a2F a2K a3pr a3rr a3nr a3F a3B a3K a4pr a4rr a4nr a4F a4B a4K
        go_wp2_with fail
        refine bodyPost_ret (v := .tuple #[.agg #[.slice (some ⟨W4.heap.size, 0, none⟩) 1 1, .slice ar r0.length cr], .int .i64 0]) (by simp [results, Tryd.results25, go_sem, a4cb0, a4cb1]) rfl ?_
        rw [HE1.out, HE2.out]
        exact ⟨_, _, _, _, rfl, HP5.out, HR5.out, HKf.out.clear (fun i hi e => by have e : w.heap.size ≤ i := e; omega)⟩
      · have bp : decide ((p0.length : Int) > 16) = false := by simp; omega
        have e1 : ctP p0 r0 lower = p0 := by unfold ctP; rw [if_pos h1, if_neg h16]
        have HE1 := Lib.hid e1
        have HE2 := Lib.hid e2
        clear h16 h1 e1 e2
        have a0cf0 := HZ.out.blk.cell 0
        have a0cf1 := HZ.out.blk.cell 1
        simp at a0cf0 a0cf1
        have a0zf0 := HZ.out.blk.frozen 0
        have a0zf1 := HZ.out.blk.frozen 1
        have a0cb0 := HF4.out.cell 0
        have a0cb1 := HF4.out.cell 1
        simp at a0cb0 a0cb1
        have a0zb0 := HF4.out.frozen 0
        have a0zb1 := HF4.out.frozen 1
        have a1pr := Ints.past HPr.out HF4.out 0 (.slice av p0.length cp2)
        have a1rr := Ints.past HRr.out HF4.out 0 (.slice av p0.length cp2)
        have a1F := HZ.out.blk.other (b' := w.heap.size + 1) (Ne.symm (Nat.ne_of_lt HNE.out)) 0 (.slice av p0.length cp2)
        have a1B := HF4.out.put 0 (.slice av p0.length cp2)
        have a1K := HK4.out.set (p := ⟨w.heap.size + 1, 0, none⟩) (by show w.heap.size ≤ w.heap.size + 1; omega) (.slice av p0.length cp2)
        have a1cf0 := a1F.cell 0
        have a1cf1 := a1F.cell 1
        simp at a1cf0 a1cf1
        have a1zf0 := a1F.frozen 0
        have a1zf1 := a1F.frozen 1
        have a1cb0 := a1B.cell 0
        have a1cb1 := a1B.cell 1
        simp at a1cb0 a1cb1
        have a1zb0 := a1B.frozen 0
        have a1zb1 := a1B.frozen 1
        have a2pr := Ints.past a1pr a1B 1 (.slice ar r0.length cr)
        have a2rr := Ints.past a1rr a1B 1 (.slice ar r0.length cr)
        have a2F := a1F.other (b' := w.heap.size + 1) (Ne.symm (Nat.ne_of_lt HNE.out)) 1 (.slice ar r0.length cr)
        have a2B := a1B.put 1 (.slice ar r0.length cr)
        have a2K := a1K.set (p := ⟨w.heap.size + 1, 1, none⟩) (by show w.heap.size ≤ w.heap.size + 1; omega) (.slice ar r0.length cr)
        have a2cf0 := a2F.cell 0
        have a2cf1 := a2F.cell 1
        simp at a2cf0 a2cf1
        have a2zf0 := a2F.frozen 0
        have a2zf1 := a2F.frozen 1
        have a2cb0 := a2B.cell 0
        have a2cb1 := a2B.cell 1
        simp at a2cb0 a2cb1
        have a2zb0 := a2B.frozen 0
        have a2zb1 := a2B.frozen 1
        have HKf := Lib.hid a2K
        have HP5 := Lib.hid a2pr
        have HR5 := Lib.hid a2rr
        clear a1pr a1rr a1F a1B a1K a2pr a2rr a2F a2B a2K
        go_wp2_with fail
        refine bodyPost_ret (v := .tuple #[.agg #[.slice av p0.length cp2, .slice ar r0.length cr], .int .i64 0]) (by simp [results, Tryd.results25, go_sem, a2cb0, a2cb1]) rfl ?_
        rw [HE1.out, HE2.out]
        exact ⟨_, _, _, _, rfl, HP5.out, HR5.out, HKf.out.clear (fun i hi e => by have e : w.heap.size ≤ i := e; omega)⟩
    · have br : decide ((r0.length : Int) ≤ 1) = false := by simp; omega
      cases lower
      · have e2 : ctR r0 false = [127] := by unfold ctR; rw [if_neg h1]; rfl
        by_cases h16 : 16 < p0.length
        · have bp : decide ((p0.length : Int) > 16) = true := by simp; omega
          have e1 : ctP p0 r0 false = [127] := by unfold ctP; rw [if_neg h1, if_pos h16]; rfl
          have HE1 := Lib.hid e1
          have HE2 := Lib.hid e2
          clear h16 h1 e1 e2
          have a0cf0 := HZ.out.blk.cell 0
          have a0cf1 := HZ.out.blk.cell 1
          simp at a0cf0 a0cf1
          have a0zf0 := HZ.out.blk.frozen 0
          have a0zf1 := HZ.out.blk.frozen 1
          have a0cb0 := HF4.out.cell 0
          have a0cb1 := HF4.out.cell 1
          simp at a0cb0 a0cb1
          have a0zb0 := HF4.out.frozen 0
          have a0zb1 := HF4.out.frozen 1
          have a1nr := Ints.lit127 W4 HK4.out.size
          have a1pr := Ints.up HPr.out (.cells #[.int .i64 127] 3)
          have a1rr := Ints.up HRr.out (.cells #[.int .i64 127] 3)
          have a1F := HZ.out.blk.up (.cells #[.int .i64 127] 3)
          have a1B := HF4.out.up (.cells #[.int .i64 127] 3)
          have a1K := HK4.out.new (.cells #[.int .i64 127] 3)
          have a1cf0 := a1F.cell 0
          have a1cf1 := a1F.cell 1
          simp at a1cf0 a1cf1
          have a1zf0 := a1F.frozen 0
          have a1zf1 := a1F.frozen 1
          have a1cb0 := a1B.cell 0
          have a1cb1 := a1B.cell 1
          simp at a1cb0 a1cb1
          have a1zb0 := a1B.frozen 0
          have a1zb1 := a1B.frozen 1
          have a2pr := Ints.past a1pr a1F 0 (.slice (some ⟨W4.heap.size, 0, none⟩) 1 1)
          have a2rr := Ints.past a1rr a1F 0 (.slice (some ⟨W4.heap.size, 0, none⟩) 1 1)
          have a2nr := Ints.past a1nr a1F 0 (.slice (some ⟨W4.heap.size, 0, none⟩) 1 1)
          have a2B := a1B.other (b' := fb) (Nat.ne_of_lt HNE.out) 0 (.slice (some ⟨W4.heap.size, 0, none⟩) 1 1)
          have a2F := a1F.put 0 (.slice (some ⟨W4.heap.size, 0, none⟩) 1 1)
          have a2K := a1K.set (p := ⟨fb, 0, none⟩) (by have := HNE.out; show w.heap.size ≤ fb; omega) (.slice (some ⟨W4.heap.size, 0, none⟩) 1 1)
          have a2cf0 := a2F.cell 0
          have a2cf1 := a2F.cell 1
          simp at a2cf0 a2cf1
          have a2zf0 := a2F.frozen 0
          have a2zf1 := a2F.frozen 1
          have a2cb0 := a2B.cell 0
          have a2cb1 := a2B.cell 1
          simp at a2cb0 a2cb1
          have a2zb0 := a2B.frozen 0
          have a2zb1 := a2B.frozen 1
          have a3mr := Ints.lit127 ((W4.alloc (.cells #[.int .i64 127] 3)).setCell ⟨fb, 0, none⟩ (.slice (some ⟨W4.heap.size, 0, none⟩) 1 1)) a2K.size
          rw [show ((W4.alloc (.cells #[.int .i64 127] 3)).setCell ⟨fb, 0, none⟩ (.slice (some ⟨W4.heap.size, 0, none⟩) 1 1)).heap.size = W4.heap.size + 1 by simp] at a3mr
          have a3pr := Ints.up a2pr (.cells #[.int .i64 127] 3)
          have a3rr := Ints.up a2rr (.cells #[.int .i64 127] 3)
          have a3nr := Ints.up a2nr (.cells #[.int .i64 127] 3)
          have a3F := a2F.up (.cells #[.int .i64 127] 3)
          have a3B := a2B.up (.cells #[.int .i64 127] 3)
          have a3K := a2K.new (.cells #[.int .i64 127] 3)
          have a3cf0 := a3F.cell 0
          have a3cf1 := a3F.cell 1
          simp at a3cf0 a3cf1
          have a3zf0 := a3F.frozen 0
          have a3zf1 := a3F.frozen 1
          have a3cb0 := a3B.cell 0
          have a3cb1 := a3B.cell 1
          simp at a3cb0 a3cb1
          have a3zb0 := a3B.frozen 0
          have a3zb1 := a3B.frozen 1
          have a4pr := Ints.past a3pr a3F 1 (.slice (some ⟨W4.heap.size + 1, 0, none⟩) 1 1)
          have a4rr := Ints.past a3rr a3F 1 (.slice (some ⟨W4.heap.size + 1, 0, none⟩) 1 1)
          have a4nr := Ints.past a3nr a3F 1 (.slice (some ⟨W4.heap.size + 1, 0, none⟩) 1 1)
          have a4mr := Ints.past a3mr a3F 1 (.slice (some ⟨W4.heap.size + 1, 0, none⟩) 1 1)
          have a4B := a3B.other (b' := fb) (Nat.ne_of_lt HNE.out) 1 (.slice (some ⟨W4.heap.size + 1, 0, none⟩) 1 1)
          have a4F := a3F.put 1 (.slice (some ⟨W4.heap.size + 1, 0, none⟩) 1 1)
          have a4K := a3K.set (p := ⟨fb, 1, none⟩) (by have := HNE.out; show w.heap.size ≤ fb; omega) (.slice (some ⟨W4.heap.size + 1, 0, none⟩) 1 1)
          have a4cf0 := a4F.cell 0
          have a4cf1 := a4F.cell 1
          simp at a4cf0 a4cf1
          have a4zf0 := a4F.frozen 0
          have a4zf1 := a4F.frozen 1
          have a4cb0 := a4B.cell 0
          have a4cb1 := a4B.cell 1
          simp at a4cb0 a4cb1
          have a4zb0 := a4B.frozen 0
          have a4zb1 := a4B.frozen 1
          have a5pr := Ints.past a4pr a4B 0 (.slice (some ⟨W4.heap.size, 0, none⟩) 1 1)
          have a5rr := Ints.past a4rr a4B 0 (.slice (some ⟨W4.heap.size, 0, none⟩) 1 1)
          have a5nr := Ints.past a4nr a4B 0 (.slice (some ⟨W4.heap.size, 0, none⟩) 1 1)
          have a5mr := Ints.past a4mr a4B 0 (.slice (some ⟨W4.heap.size, 0, none⟩) 1 1)
          have a5F := a4F.other (b' := w.heap.size + 1) (Ne.symm (Nat.ne_of_lt HNE.out)) 0 (.slice (some ⟨W4.heap.size, 0, none⟩) 1 1)
          have a5B := a4B.put 0 (.slice (some ⟨W4.heap.size, 0, none⟩) 1 1)
          have a5K := a4K.set (p := ⟨w.heap.size + 1, 0, none⟩) (by show w.heap.size ≤ w.heap.size + 1; omega) (.slice (some ⟨W4.heap.size, 0, none⟩) 1 1)
          have a5cf0 := a5F.cell 0
          have a5cf1 := a5F.cell 1
          simp at a5cf0 a5cf1
          have a5zf0 := a5F.frozen 0
          have a5zf1 := a5F.frozen 1
          have a5cb0 := a5B.cell 0
          have a5cb1 := a5B.cell 1
          simp at a5cb0 a5cb1
          have a5zb0 := a5B.frozen 0
          have a5zb1 := a5B.frozen 1
          have a6pr := Ints.past a5pr a5B 1 (.slice (some ⟨W4.heap.size + 1, 0, none⟩) 1 1)
          have a6rr := Ints.past a5rr a5B 1 (.slice (some ⟨W4.heap.size + 1, 0, none⟩) 1 1)
          have a6nr := Ints.past a5nr a5B 1 (.slice (some ⟨W4.heap.size + 1, 0, none⟩) 1 1)
          have a6mr := Ints.past a5mr a5B 1 (.slice (some ⟨W4.heap.size + 1, 0, none⟩) 1 1)
          have a6F := a5F.other (b' := w.heap.size + 1) (Ne.symm (Nat.ne_of_lt HNE.out)) 1 (.slice (some ⟨W4.heap.size + 1, 0, none⟩) 1 1)
          have a6B := a5B.put 1 (.slice (some ⟨W4.heap.size + 1, 0, none⟩) 1 1)
          have a6K := a5K.set (p := ⟨w.heap.size + 1, 1, none⟩) (by show w.heap.size ≤ w.heap.size + 1; omega) (.slice (some ⟨W4.heap.size + 1, 0, none⟩) 1 1)
          have a6cf0 := a6F.cell 0
          have a6cf1 := a6F.cell 1
          simp at a6cf0 a6cf1
          have a6zf0 := a6F.frozen 0
          have a6zf1 := a6F.frozen 1
          have a6cb0 := a6B.cell 0
          have a6cb1 := a6B.cell 1
          simp at a6cb0 a6cb1
          have a6zb0 := a6B.frozen 0
          have a6zb1 := a6B.frozen 1
          have HKf := Lib.hid a6K
          have HP5 := Lib.hid a6nr
          have HR5 := Lib.hid a6mr
          clear a1nr a1pr a1rr a1F a1B a1K a2pr a2rr a2nr a2B a2F a2K a3mr a3pr a3rr a3nr a3F a3B a3K a4pr a4rr a4nr a4mr a4B a4F a4K a5pr a5rr a5nr a5mr a5F a5B a5K a6pr a6rr a6nr a6mr a6F a6B a6K
          go_wp2_with fail
          refine bodyPost_ret (v := .tuple #[.agg #[.slice (some ⟨W4.heap.size, 0, none⟩) 1 1, .slice (some ⟨W4.heap.size + 1, 0, none⟩) 1 1], .int .i64 0]) (by simp [results, Tryd.results25, go_sem, a6cb0, a6cb1]) rfl ?_
          rw [HE1.out, HE2.out]
          exact ⟨_, _, _, _, rfl, HP5.out, HR5.out, HKf.out.clear (fun i hi e => by have e : w.heap.size ≤ i := e; omega)⟩
        · have bp : decide ((p0.length : Int) > 16) = false := by simp; omega
          have e1 : ctP p0 r0 false = p0 := by unfold ctP; rw [if_neg h1, if_neg h16]; rfl
          have HE1 := Lib.hid e1
          have HE2 := Lib.hid e2
          clear h16 h1 e1 e2
          have a0cf0 := HZ.out.blk.cell 0
          have a0cf1 := HZ.out.blk.cell 1
          simp at a0cf0 a0cf1
          have a0zf0 := HZ.out.blk.frozen 0
          have a0zf1 := HZ.out.blk.frozen 1
          have a0cb0 := HF4.out.cell 0
          have a0cb1 := HF4.out.cell 1
          simp at a0cb0 a0cb1
          have a0zb0 := HF4.out.frozen 0
          have a0zb1 := HF4.out.frozen 1
          have a1nr := Ints.lit127 W4 HK4.out.size
          have a1pr := Ints.up HPr.out (.cells #[.int .i64 127] 3)
          have a1rr := Ints.up HRr.out (.cells #[.int .i64 127] 3)
          have a1F := HZ.out.blk.up (.cells #[.int .i64 127] 3)
          have a1B := HF4.out.up (.cells #[.int .i64 127] 3)
          have a1K := HK4.out.new (.cells #[.int .i64 127] 3)
          have a1cf0 := a1F.cell 0
          have a1cf1 := a1F.cell 1
          simp at a1cf0 a1cf1
          have a1zf0 := a1F.frozen 0
          have a1zf1 := a1F.frozen 1
          have a1cb0 := a1B.cell 0
          have a1cb1 := a1B.cell 1
          simp at a1cb0 a1cb1
          have a1zb0 := a1B.frozen 0
          have a1zb1 := a1B.frozen 1
          have a2pr := Ints.past a1pr a1F 1 (.slice (some ⟨W4.heap.size, 0, none⟩) 1 1)
          have a2rr := Ints.past a1rr a1F 1 (.slice (some ⟨W4.heap.size, 0, none⟩) 1 1)
          have a2nr := Ints.past a1nr a1F 1 (.slice (some ⟨W4.heap.size, 0, none⟩) 1 1)
          have a2B := a1B.other (b' := fb) (Nat.ne_of_lt HNE.out) 1 (.slice (some ⟨W4.heap.size, 0, none⟩) 1 1)
          have a2F := a1F.put 1 (.slice (some ⟨W4.heap.size, 0, none⟩) 1 1)
          have a2K := a1K.set (p := ⟨fb, 1, none⟩) (by have := HNE.out; show w.heap.size ≤ fb; omega) (.slice (some ⟨W4.heap.size, 0, none⟩) 1 1)
          have a2cf0 := a2F.cell 0
          have a2cf1 := a2F.cell 1
          simp at a2cf0 a2cf1
          have a2zf0 := a2F.frozen 0
          have a2zf1 := a2F.frozen 1
          have a2cb0 := a2B.cell 0
          have a2cb1 := a2B.cell 1
          simp at a2cb0 a2cb1
          have a2zb0 := a2B.frozen 0
          have a2zb1 := a2B.frozen 1
          have a3pr := Ints.past a2pr a2B 0 (.slice av p0.length cp2)
          have a3rr := Ints.past a2rr a2B 0 (.slice av p0.length cp2)
          have a3nr := Ints.past a2nr a2B 0 (.slice av p0.length cp2)
          have a3F := a2F.other (b' := w.heap.size + 1) (Ne.symm (Nat.ne_of_lt HNE.out)) 0 (.slice av p0.length cp2)
          have a3B := a2B.put 0 (.slice av p0.length cp2)
          have a3K := a2K.set (p := ⟨w.heap.size + 1, 0, none⟩) (by show w.heap.size ≤ w.heap.size + 1; omega) (.slice av p0.length cp2)
          have a3cf0 := a3F.cell 0
          have a3cf1 := a3F.cell 1
          simp at a3cf0 a3cf1
          have a3zf0 := a3F.frozen 0
          have a3zf1 := a3F.frozen 1
          have a3cb0 := a3B.cell 0
          have a3cb1 := a3B.cell 1
          simp at a3cb0 a3cb1
          have a3zb0 := a3B.frozen 0
          have a3zb1 := a3B.frozen 1
          have a4pr := Ints.past a3pr a3B 1 (.slice (some ⟨W4.heap.size, 0, none⟩) 1 1)
          have a4rr := Ints.past a3rr a3B 1 (.slice (some ⟨W4.heap.size, 0, none⟩) 1 1)
          have a4nr := Ints.past a3nr a3B 1 (.slice (some ⟨W4.heap.size, 0, none⟩) 1 1)
          have a4F := a3F.other (b' := w.heap.size + 1) (Ne.symm (Nat.ne_of_lt HNE.out)) 1 (.slice (some ⟨W4.heap.size, 0, none⟩) 1 1)
          have a4B := a3B.put 1 (.slice (some ⟨W4.heap.size, 0, none⟩) 1 1)
          have a4K := a3K.set (p := ⟨w.heap.size + 1, 1, none⟩) (by show w.heap.size ≤ w.heap.size + 1; omega) (.slice (some ⟨W4.heap.size, 0, none⟩) 1 1)
          have a4cf0 := a4F.cell 0
          have a4cf1 := a4F.cell 1
          simp at a4cf0 a4cf1
          have a4zf0 := a4F.frozen 0
          have a4zf1 := a4F.frozen 1
          have a4cb0 := a4B.cell 0
          have a4cb1 := a4B.cell 1
          simp at a4cb0 a4cb1
          have a4zb0 := a4B.frozen 0
          have a4zb1 := a4B.frozen 1
          have HKf := Lib.hid a4K
          have HP5 := Lib.hid a4pr
          have HR5 := Lib.hid a4nr
          clear a1nr a1pr a1rr a1F a1B a1K a2pr a2rr a2nr a2B a2F a2K a3pr a3rr a3nr a3F a3B a3K a4pr a4rr a4nr a4F a4B a4K
          go_wp2_with fail
          refine bodyPost_ret (v := .tuple #[.agg #[.slice av p0.length cp2, .slice (some ⟨W4.heap.size, 0, none⟩) 1 1], .int .i64 0]) (by simp [results, Tryd.results25, go_sem, a4cb0, a4cb1]) rfl ?_
          rw [HE1.out, HE2.out]
          exact ⟨_, _, _, _, rfl, HP5.out, HR5.out, HKf.out.clear (fun i hi e => by have e : w.heap.size ≤ i := e; omega)⟩
      · have e2 : ctR r0 true = [] := by unfold ctR; rw [if_neg h1]; rfl
        by_cases h16 : 16 < p0.length
        · have bp : decide ((p0.length : Int) > 16) = true := by simp; omega
          have e1 : ctP p0 r0 true = [127] ++ [127] := by unfold ctP; rw [if_neg h1, if_pos h16]; rfl
          have HE1 := Lib.hid e1
          have HE2 := Lib.hid e2
          clear h16 h1 e1 e2
          have a0cf0 := HZ.out.blk.cell 0
          have a0cf1 := HZ.out.blk.cell 1
          simp at a0cf0 a0cf1
          have a0zf0 := HZ.out.blk.frozen 0
          have a0zf1 := HZ.out.blk.frozen 1
          have a0cb0 := HF4.out.cell 0
          have a0cb1 := HF4.out.cell 1
          simp at a0cb0 a0cb1
          have a0zb0 := HF4.out.frozen 0
          have a0zb1 := HF4.out.frozen 1
          have a1nr := Ints.lit127 W4 HK4.out.size
          have a1pr := Ints.up HPr.out (.cells #[.int .i64 127] 3)
          have a1rr := Ints.up HRr.out (.cells #[.int .i64 127] 3)
          have a1F := HZ.out.blk.up (.cells #[.int .i64 127] 3)
          have a1B := HF4.out.up (.cells #[.int .i64 127] 3)
          have a1K := HK4.out.new (.cells #[.int .i64 127] 3)
          have a1cf0 := a1F.cell 0
          have a1cf1 := a1F.cell 1
          simp at a1cf0 a1cf1
          have a1zf0 := a1F.frozen 0
          have a1zf1 := a1F.frozen 1
          have a1cb0 := a1B.cell 0
          have a1cb1 := a1B.cell 1
          simp at a1cb0 a1cb1
          have a1zb0 := a1B.frozen 0
          have a1zb1 := a1B.frozen 1
          have a2pr := Ints.past a1pr a1F 0 (.slice (some ⟨W4.heap.size, 0, none⟩) 1 1)
          have a2rr := Ints.past a1rr a1F 0 (.slice (some ⟨W4.heap.size, 0, none⟩) 1 1)
          have a2nr := Ints.past a1nr a1F 0 (.slice (some ⟨W4.heap.size, 0, none⟩) 1 1)
          have a2B := a1B.other (b' := fb) (Nat.ne_of_lt HNE.out) 0 (.slice (some ⟨W4.heap.size, 0, none⟩) 1 1)
          have a2F := a1F.put 0 (.slice (some ⟨W4.heap.size, 0, none⟩) 1 1)
          have a2K := a1K.set (p := ⟨fb, 0, none⟩) (by have := HNE.out; show w.heap.size ≤ fb; omega) (.slice (some ⟨W4.heap.size, 0, none⟩) 1 1)
          have a2cf0 := a2F.cell 0
          have a2cf1 := a2F.cell 1
          simp at a2cf0 a2cf1
          have a2zf0 := a2F.frozen 0
          have a2zf1 := a2F.frozen 1
          have a2cb0 := a2B.cell 0
          have a2cb1 := a2B.cell 1
          simp at a2cb0 a2cb1
          have a2zb0 := a2B.frozen 0
          have a2zb1 := a2B.frozen 1
          have a3pr := Ints.up a2pr (.cells #[.int .i64 127] 3)
          have a3rr := Ints.up a2rr (.cells #[.int .i64 127] 3)
          have a3nr := Ints.up a2nr (.cells #[.int .i64 127] 3)
          have a3F := a2F.up (.cells #[.int .i64 127] 3)
          have a3B := a2B.up (.cells #[.int .i64 127] 3)
          have a3K := a2K.new (.cells #[.int .i64 127] 3)
          have a3cf0 := a3F.cell 0
          have a3cf1 := a3F.cell 1
          simp at a3cf0 a3cf1
          have a3zf0 := a3F.frozen 0
          have a3zf1 := a3F.frozen 1
          have a3cb0 := a3B.cell 0
          have a3cb1 := a3B.cell 1
          simp at a3cb0 a3cb1
          have a3zb0 := a3B.frozen 0
          have a3zb1 := a3B.frozen 1
          have hnw := cell_one_new ((W4.alloc (.cells #[.int .i64 127] 3)).setCell ⟨fb, 0, none⟩ (.slice (some ⟨W4.heap.size, 0, none⟩) 1 1)) (.int .i64 127) 3
          rw [show ((W4.alloc (.cells #[.int .i64 127] 3)).setCell ⟨fb, 0, none⟩ (.slice (some ⟨W4.heap.size, 0, none⟩) 1 1)).heap.size = W4.heap.size + 1 by simp] at hnw
          have HNEW := Lib.hid hnw
          have HRow := Lib.hid a3nr
          have HBB := Lib.hid a3B
          have HKK := Lib.hid a3K
          have hrow : World.ownsRow _ w.heap.size 3 1 (.slice (some ⟨W4.heap.size, 0, none⟩) 1 1) 1 (([127] : List Int).map (Value.int .i64)) := HRow.out
          have q3 : 1 + 1 ≤ maxLen := by unfold maxLen; omega
          have q4 : (1 + 1) * 8 ≤ 140737488355328 := by omega
          have hsz := a3K.size
          clear hnw a1nr a1pr a1rr a1F a1B a1K a2pr a2rr a2nr a2B a2F a2K a3pr a3rr a3nr a3F a3B a3K
          go_wp2_with (first
            | (at_builtin
               refine wpList_append_lies _ rfl _ _ 38 rfl w.heap.size 3 i0 (.int .i64 0) 1 8 Tryd.underlying38 hi hz0 hz1 hz2 rfl (by decide) _ 1 (([127] : List Int).map (Value.int .i64)) rfl hrow ⟨W4.heap.size + 1, 0, none⟩ 1 1 [.int .i64 127] rfl rfl HNEW.out (one_i64 _) (by decide) q3 q4 hsz _ rfl ?_
               intro g3 cap3 W6 hown3 hg3 hat hgl
               have GB := BlkAt.grown HBB.out hg3 (ints_ne HRow.out HBB.out)
               have GK := HKK.out.grown hg3 (fun q hq e => (World.ownsRow.lt hrow q e.symm).1)
               have GR : Ints w.heap.size (.slice (some ⟨g3, 0, none⟩) (1 + 1) cap3) ([127] ++ [127]) W6 := by
                 unfold Ints
                 rw [List.length_append, List.map_append]
                 exact hown3
               have g0cb0 := GB.cell 0
               have g0cb1 := GB.cell 1
               simp at g0cb0 g0cb1
               have g0zb0 := GB.frozen 0
               have g0zb1 := GB.frozen 1
               have g1pr := Ints.past GR GB 0 (.slice (some ⟨g3, 0, none⟩) (1 + 1) cap3)
               have g1B := GB.put 0 (.slice (some ⟨g3, 0, none⟩) (1 + 1) cap3)
               have g1K := GK.set (p := ⟨w.heap.size + 1, 0, none⟩) (by show w.heap.size ≤ w.heap.size + 1; omega) (.slice (some ⟨g3, 0, none⟩) (1 + 1) cap3)
               have g1cb0 := g1B.cell 0
               have g1cb1 := g1B.cell 1
               simp at g1cb0 g1cb1
               have g1zb0 := g1B.frozen 0
               have g1zb1 := g1B.frozen 1
               have g2pr := Ints.past g1pr g1B 1 (.slice none 0 0)
               have g2B := g1B.put 1 (.slice none 0 0)
               have g2K := g1K.set (p := ⟨w.heap.size + 1, 1, none⟩) (by show w.heap.size ≤ w.heap.size + 1; omega) (.slice none 0 0)
               have g2cb0 := g2B.cell 0
               have g2cb1 := g2B.cell 1
               simp at g2cb0 g2cb1
               have g2zb0 := g2B.frozen 0
               have g2zb1 := g2B.frozen 1
               have HKf := Lib.hid g2K
               have HP5 := Lib.hid g2pr
               clear hown3 hg3 hat hgl GB GK GR g1pr g1B g1K g2pr g2B g2K))
          refine bodyPost_ret (v := .tuple #[.agg #[.slice (some ⟨g3, 0, none⟩) (1 + 1) cap3, .slice none 0 0], .int .i64 0]) (by simp [results, Tryd.results25, go_sem, g2cb0, g2cb1]) rfl ?_
          rw [HE1.out, HE2.out]
          exact ⟨_, cap3, none, 0, by rw [List.length_append]; rfl, by rw [List.length_append]; exact HP5.out, World.ownsRow_nil _ _ _ _, HKf.out.clear (fun i hi e => by have e : w.heap.size ≤ i := e; omega)⟩
        · have bp : decide ((p0.length : Int) > 16) = false := by simp; omega
          have e1 : ctP p0 r0 true = p0 ++ [127] := by unfold ctP; rw [if_neg h1, if_neg h16]; rfl
          have HE1 := Lib.hid e1
          have HE2 := Lib.hid e2
          clear h16 h1 e1 e2
          have a0cf0 := HZ.out.blk.cell 0
          have a0cf1 := HZ.out.blk.cell 1
          simp at a0cf0 a0cf1
          have a0zf0 := HZ.out.blk.frozen 0
          have a0zf1 := HZ.out.blk.frozen 1
          have a0cb0 := HF4.out.cell 0
          have a0cb1 := HF4.out.cell 1
          simp at a0cb0 a0cb1
          have a0zb0 := HF4.out.frozen 0
          have a0zb1 := HF4.out.frozen 1
          have a1pr := Ints.up HPr.out (.cells #[.int .i64 127] 3)
          have a1rr := Ints.up HRr.out (.cells #[.int .i64 127] 3)
          have a1F := HZ.out.blk.up (.cells #[.int .i64 127] 3)
          have a1B := HF4.out.up (.cells #[.int .i64 127] 3)
          have a1K := HK4.out.new (.cells #[.int .i64 127] 3)
          have a1cf0 := a1F.cell 0
          have a1cf1 := a1F.cell 1
          simp at a1cf0 a1cf1
          have a1zf0 := a1F.frozen 0
          have a1zf1 := a1F.frozen 1
          have a1cb0 := a1B.cell 0
          have a1cb1 := a1B.cell 1
          simp at a1cb0 a1cb1
          have a1zb0 := a1B.frozen 0
          have a1zb1 := a1B.frozen 1
          have hnw := cell_one_new W4 (.int .i64 127) 3
          have HNEW := Lib.hid hnw
          have HRow := Lib.hid a1pr
          have HBB := Lib.hid a1B
          have HKK := Lib.hid a1K
          have hrow : World.ownsRow _ w.heap.size 3 1 (.slice av p0.length cp2) p0.length ((p0 : List Int).map (Value.int .i64)) := HRow.out
          have q3 : p0.length + 1 ≤ maxLen := by unfold maxLen; omega
          have q4 : (p0.length + 1) * 8 ≤ 140737488355328 := by omega
          have hsz := a1K.size
          clear hnw a1pr a1rr a1F a1B a1K
          go_wp2_with (first
            | (at_builtin
               refine wpList_append_lies _ rfl _ _ 38 rfl w.heap.size 3 i0 (.int .i64 0) 1 8 Tryd.underlying38 hi hz0 hz1 hz2 rfl (by decide) _ p0.length ((p0 : List Int).map (Value.int .i64)) rfl hrow ⟨W4.heap.size, 0, none⟩ 1 1 [.int .i64 127] rfl rfl HNEW.out (one_i64 _) (by decide) q3 q4 hsz _ rfl ?_
               intro g3 cap3 W6 hown3 hg3 hat hgl
               have GB := BlkAt.grown HBB.out hg3 (ints_ne HRow.out HBB.out)
               have GK := HKK.out.grown hg3 (fun q hq e => (World.ownsRow.lt hrow q e.symm).1)
               have GR : Ints w.heap.size (.slice (some ⟨g3, 0, none⟩) (p0.length + 1) cap3) (p0 ++ [127]) W6 := by
                 unfold Ints
                 rw [List.length_append, List.map_append]
                 exact hown3
               have g0cb0 := GB.cell 0
               have g0cb1 := GB.cell 1
               simp at g0cb0 g0cb1
               have g0zb0 := GB.frozen 0
               have g0zb1 := GB.frozen 1
               have g1pr := Ints.past GR GB 0 (.slice (some ⟨g3, 0, none⟩) (p0.length + 1) cap3)
               have g1B := GB.put 0 (.slice (some ⟨g3, 0, none⟩) (p0.length + 1) cap3)
               have g1K := GK.set (p := ⟨w.heap.size + 1, 0, none⟩) (by show w.heap.size ≤ w.heap.size + 1; omega) (.slice (some ⟨g3, 0, none⟩) (p0.length + 1) cap3)
               have g1cb0 := g1B.cell 0
               have g1cb1 := g1B.cell 1
               simp at g1cb0 g1cb1
               have g1zb0 := g1B.frozen 0
               have g1zb1 := g1B.frozen 1
               have g2pr := Ints.past g1pr g1B 1 (.slice none 0 0)
               have g2B := g1B.put 1 (.slice none 0 0)
               have g2K := g1K.set (p := ⟨w.heap.size + 1, 1, none⟩) (by show w.heap.size ≤ w.heap.size + 1; omega) (.slice none 0 0)
               have g2cb0 := g2B.cell 0
               have g2cb1 := g2B.cell 1
               simp at g2cb0 g2cb1
               have g2zb0 := g2B.frozen 0
               have g2zb1 := g2B.frozen 1
               have HKf := Lib.hid g2K
               have HP5 := Lib.hid g2pr
               clear hown3 hg3 hat hgl GB GK GR g1pr g1B g1K g2pr g2B g2K))
          refine bodyPost_ret (v := .tuple #[.agg #[.slice (some ⟨g3, 0, none⟩) (p0.length + 1) cap3, .slice none 0 0], .int .i64 0]) (by simp [results, Tryd.results25, go_sem, g2cb0, g2cb1]) rfl ?_
          rw [HE1.out, HE2.out]
          exact ⟨_, cap3, none, 0, by rw [List.length_append]; rfl, by rw [List.length_append]; exact HP5.out, World.ownsRow_nil _ _ _ _, HKf.out.clear (fun i hi e => by have e : w.heap.size ≤ i := e; omega)⟩
end Go.Proofs.YtcfakaglmlfkpaaDoor
