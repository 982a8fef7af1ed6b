/- ctype: Plain. -/
import Derived.Test.YtlkbgdhlbdjbiaaDoorCtCf
set_option linter.unusedVariables false
set_option linter.unusedSimpArgs false
namespace Go.Proofs.YtlkbgdhlbdjbiaaDoor
open Go.RowKit
open Lex Ct

theorem clo_all : ∀ k, CloAt k
  | 0 => fun _ _ _ _ _ _ _ hf => hf.elim
  | k + 1 => fun t an cn al cl w h hf => clone_step k (clo_all k) t an cn al cl w h hf
theorem clo_none {k : Nat} {x : Ty} (h : isNone x = true) : cloK (k + 1) x := by
  unfold isNone at h
  simp only [Bool.and_eq_true, beq_iff_eq, decide_eq_true_eq, List.isEmpty_iff] at h
  refine ⟨?_, ?_, fun y hy => ?_⟩
  all_goals simp_all
theorem clo_deep : ∀ (k : Nat) (t : Ty), deepK k t = true → cloK (k + 1) t
  | 0, t, h => by cases h
  | k + 1, t, h => by
    have hfit := deepK_fit h
    unfold deepK at h
    simp only [Bool.and_eq_true, List.all_eq_true, Bool.or_eq_true] at h
    have h0 : t.kind ≠ 0 := by
      intro e
      have h1 := h.1.1
      unfold shapedB at h1
      rw [e] at h1
      simp [okW] at h1
    have hl := hfit.resolve_left h0
    refine ⟨by omega, by omega, fun x hx => ?_⟩
    rcases h.2 x hx with h2 | h2
    · exact clo_none h2.2
    · exact clo_deep k x h2
theorem clo_plain {k : Nat} {t : Ty} (h : cloK (k + 2) t) : cloK (k + 2) (plainT t) := by
  obtain ⟨h1, h2, h3⟩ := h
  unfold plainT
  have hz : cloK (k + 1) Ty.zero := clo_none rfl
  split
  · exact ⟨by simpa [Ty.names] using h2, h2, h3⟩
  · split
    · refine ⟨h1, by simpa [Ty.l] using h1, fun x hx => ?_⟩
      have hx : x ∈ List.replicate t.names.length Ty.zero := hx
      rw [List.eq_of_mem_replicate hx]
      exact hz
    · split
      · rename_i h17
        refine ⟨by simp [Ty.names], by have := h17.2; show (Ty.zero :: t.l).length ≤ 100; rw [List.length_cons]; omega, fun x hx => ?_⟩
        rcases List.mem_cons.1 (show x ∈ Ty.zero :: t.l from hx) with rfl | hx
        · exact hz
        · exact h3 x hx
      · split
        · exact ⟨by simp [Ty.names], h2, h3⟩
        · exact ⟨h1, h2, h3⟩
set_option maxRecDepth 100000 in
set_option maxHeartbeats 8000000 in
/-- PLAIN, the project's. -/
theorem rdPlainC (t : Ty) (an : Option Addr) (cn : Nat) (al : Option Addr) (cl : Nat) (w : World) (h : TyAt w t an cn al cl) (ho : okT t = true) :
    Calls Tryd.prog 7 #[tyV t an cn al cl] w (PlainR (plainT t) w) := by
  have k0 : Kept (fun _ => False) w ((w.alloc (.cells #[.int .i64 t.kind, .slice an t.names.length cn, .slice al t.l.length cl, .int .i64 t.r] 25)).alloc (.cells #[.int .i64 0, .slice none 0 0, .slice none 0 0, .int .i64 0] 25)) := ((Kept.refl _ _).new _).new _
  have F0 := BlkAt.new (w.alloc (.cells #[.int .i64 t.kind, .slice an t.names.length cn, .slice al t.l.length cl, .int .i64 t.r] 25)) #[.int .i64 0, .slice none 0 0, .slice none 0 0, .int .i64 0] 25
  rw [World.size_alloc] at F0
  have HK := Lib.hid k0
  have HF := Lib.hid F0
  have HP := Lib.hid (fun w' (k' : Kept (fun _ => False) w w') => rdPlain_ok t an cn al cl w' (h.kept k') ho)
  have hc : cloK 17 (plainT t) := clo_plain (k := 15) (clo_deep 16 t (okT_deep ho).1)
  clear h ho k0 F0
  revert HP hc
  generalize plainT t = x
  intro HP hc
  go_enter Tryd.func7, Tryd.ntmps7
  go_wp2_with (first
    | (go_at_call 23; refine (HP.out _ HK.out).mono ?_; rintro y w1 ⟨ap, cp, aq, cq, rfl, ht, k1⟩
       have HK1 := Lib.hid (HK.out.trans k1)
       have HT1 := Lib.hid ht
       have HF1 := Lib.hid (HF.out.kept (F := fun _ => False) k1 id)
       clear k1 ht)
    | (go_at_call 22; refine (clo_all 17 x ap cp aq cq _ HT1.out hc).mono ?_; rintro y w2 ⟨bp, dp, bq, dq, rfl, n1, n2, k2⟩
       have HF2 := Lib.hid (HF1.out.kept (F := fun _ => False) k2 id)
       have r0 := HF2.out.cell 0
       have r1 := HF2.out.cell 1
       have r2 := HF2.out.cell 2
       have r3 := HF2.out.cell 3
       simp at r0 r1 r2 r3
       have y0 := HF2.out.frozen 0
       have y1 := HF2.out.frozen 1
       have y2 := HF2.out.frozen 2
       have y3 := HF2.out.frozen 3
       have HK2 := Lib.hid (HK1.out.trans k2)
       have HN := Lib.hid (And.intro n1 n2)
       clear k2 n1 n2))
  have G := (((HF2.out.put 0 (.int .i64 x.kind)).put 1 (.slice bp x.names.length dp)).put 2 (.slice bq x.l.length dq)).put 3 (.int .i64 x.r)
  have q0 := G.cell 0
  have q1 := G.cell 1
  have q2 := G.cell 2
  have q3 := G.cell 3
  simp at q0 q1 q2 q3
  have k4 : Kept (fun b => b = w.heap.size + 1) w2 ((((w2.setCell ⟨w.heap.size + 1, 0, none⟩ (.int .i64 x.kind)).setCell ⟨w.heap.size + 1, 1, none⟩ (.slice bp x.names.length dp)).setCell ⟨w.heap.size + 1, 2, none⟩ (.slice bq x.l.length dq)).setCell ⟨w.heap.size + 1, 3, none⟩ (.int .i64 x.r)) :=
    ((((Kept.refl (fun b => b = w.heap.size + 1) w2).set (p := ⟨w.heap.size + 1, 0, none⟩) rfl _).set (p := ⟨w.heap.size + 1, 1, none⟩) rfl _).set (p := ⟨w.heap.size + 1, 2, none⟩) rfl _).set (p := ⟨w.heap.size + 1, 3, none⟩) rfl _
  have hs1 : w.heap.size + 1 < w1.heap.size := HF1.out.lt
  refine bodyPost_ret (v := tyV x bp dp bq dq) (by simp [results, Tryd.results7, go_sem, q0, q1, q2, q3]) rfl ⟨bp, dp, bq, dq, rfl, ⟨?_, ?_⟩, ?_⟩
  · exact LiesU.next (k4.agree fun b hb _ e => by have hb : w1.heap.size ≤ b := hb; omega) k4.size (fun _ _ _ => trivial) HN.out.1
  · exact LiesU.next (k4.agree fun b hb _ e => by have hb : w1.heap.size ≤ b := hb; omega) k4.size (fun _ _ _ => trivial) HN.out.2
  · exact ((HK2.out.any (F := (w.heap.size ≤ ·))).trans (k4.mono fun b e => by show w.heap.size ≤ b; omega)).clear (fun i hi e => by have e : w.heap.size ≤ i := e; omega)
end Go.Proofs.YtlkbgdhlbdjbiaaDoor
