/- ctype: clone: the walk. -/
import Derived.Test.YtlkbgdhlbdjbiaaDoorCtCe
set_option linter.unusedVariables false
set_option linter.unusedSimpArgs false
namespace Go.Proofs.YtlkbgdhlbdjbiaaDoor
open Go.RowKit
open Lex Ct

/-- What stands behind the loop: put together. -/
theorem CloR.of {t : Ty} {w w1 w2 wr : World} {g : Nat} {a1 a2 : Option Addr} {c1 c2 : Nat} (hk1 : Kept (fun _ => False) w w1) (hs1 : w.heap.size + 2 ≤ w1.heap.size)
    (hn : LiesU (w.heap.size + 2 ≤ ·) w1 (strsU t.names) (.slice a1 t.names.length c1))
    (k2 : Kept (fun _ => False) (w1.setCell ⟨w.heap.size, 1, none⟩ (.slice a1 t.names.length c1)) w2) (hg : w1.heap.size ≤ g)
    (kr : Kept (g = ·) (w2.setCell ⟨w.heap.size, 2, none⟩ (.slice a2 t.l.length c2)) wr)
    (hl : LiesU (g ≤ ·) wr (tysU t.l) (.slice a2 t.l.length c2)) :
    CloR t w (.returned (tyV t a1 c1 a2 c2)) ((((wr.setCell ⟨w.heap.size + 1, 0, none⟩ (.int .i64 t.kind)).setCell ⟨w.heap.size + 1, 1, none⟩ (.slice a1 t.names.length c1)).setCell ⟨w.heap.size + 1, 2, none⟩ (.slice a2 t.l.length c2)).setCell ⟨w.heap.size + 1, 3, none⟩ (.int .i64 t.r)) := by
  have k4 : Kept (fun b => b = w.heap.size + 1) wr ((((wr.setCell ⟨w.heap.size + 1, 0, none⟩ (.int .i64 t.kind)).setCell ⟨w.heap.size + 1, 1, none⟩ (.slice a1 t.names.length c1)).setCell ⟨w.heap.size + 1, 2, none⟩ (.slice a2 t.l.length c2)).setCell ⟨w.heap.size + 1, 3, none⟩ (.int .i64 t.r)) :=
    ((((Kept.refl (fun b => b = w.heap.size + 1) wr).set (p := ⟨w.heap.size + 1, 0, none⟩) rfl _).set (p := ⟨w.heap.size + 1, 1, none⟩) rfl _).set (p := ⟨w.heap.size + 1, 2, none⟩) rfl _).set (p := ⟨w.heap.size + 1, 3, none⟩) rfl _
  have ka : Kept (fun b => b = w.heap.size ∨ b = w.heap.size + 1 ∨ g = b) w1 (w1.setCell ⟨w.heap.size, 1, none⟩ (.slice a1 t.names.length c1)) := (Kept.refl _ w1).set (p := ⟨w.heap.size, 1, none⟩) (.inl rfl) _
  have kb : Kept (fun b => b = w.heap.size ∨ b = w.heap.size + 1 ∨ g = b) w2 (w2.setCell ⟨w.heap.size, 2, none⟩ (.slice a2 t.l.length c2)) := (Kept.refl _ w2).set (p := ⟨w.heap.size, 2, none⟩) (.inl rfl) _
  have kall := (((ka.trans k2.any).trans kb).trans (kr.mono fun _ e => .inr (.inr e))).trans (k4.mono fun _ e => .inr (.inl e))
  refine ⟨a1, c1, a2, c2, rfl, ?_, ?_, ?_⟩
  · have h1 : LiesU (fun b => w.heap.size + 2 ≤ b ∧ b < w1.heap.size) w1 (strsU t.names) (.slice a1 t.names.length c1) := LiesU.next (fun _ _ _ => rfl) (Nat.le_refl _) (fun b q hb => ⟨q, hb⟩) hn
    refine LiesU.next (kall.agree fun b hb _ e => ?_) kall.size (fun b q _ => ?_) h1
    · have hb : w.heap.size + 2 ≤ b ∧ b < w1.heap.size := hb
      rcases e with e | e | e <;> omega
    · have q : w.heap.size + 2 ≤ b ∧ b < w1.heap.size := q
      show w.heap.size ≤ b
      omega
  · refine LiesU.next (k4.agree fun b hb _ e => ?_) k4.size (fun b q _ => ?_) hl
    · have hb : g ≤ b := hb
      omega
    · have q : g ≤ b := q
      show w.heap.size ≤ b
      omega
  · exact ((hk1.any (F := (w.heap.size ≤ ·))).trans (kall.mono fun b e => by show w.heap.size ≤ b; rcases e with e | e | e <;> omega)).clear (fun i hi e => by have e : w.heap.size ≤ i := e; omega)
theorem CloI.done {g n c : Nat} {l : List Ty} {W2 wr : World} (h : CloI g n l W2 wr n) (hn : l.length = n) (h1 : n ≤ c) (h2 : c ≤ maxLen) : LiesU (g ≤ ·) wr (tysU l) (.slice (some ⟨g, 0, none⟩) l.length c) := by
  obtain ⟨cur, us, vs, hb, ht, hl, hv⟩ := h.ex
  subst hn
  rw [List.drop_length] at hv
  have e := hv.inv_nil
  subst e
  rw [List.append_nil] at ht
  rw [List.take_length] at hl
  unfold LiesU
  refine ⟨_, c, us, rfl, h1, h2, encTys_length l, hl.next (fun _ _ _ => rfl) (Nat.le_refl _) (fun b q _ => Nat.le_of_lt q), .inr ⟨g, 0, rfl, Nat.le_refl _, hb.lt, fun j v hj => ?_⟩⟩
  have hjl : j < l.length * 4 := by
    have := (List.getElem?_eq_some_iff.1 hj).1
    rw [hl.length, encTys_length] at this
    exact this
  rw [hb.cell, Nat.zero_add, ← Array.getElem?_toList, ← List.getElem?_take_of_lt hjl, ht]
  exact hj
theorem lies_more {m N : Nat} {w : World} {u : U} {v : Value} (h : LiesU (N ≤ ·) w u v) (e : m ≤ N) : LiesU (m ≤ ·) w u v := LiesU.next (fun _ _ _ => rfl) (Nat.le_refl _) (fun b q _ => Nat.le_trans e q) h
set_option maxRecDepth 100000 in
set_option maxHeartbeats 8000000 in
theorem clone_step (k : Nat) (IH : CloAt k) (t : Ty) (an : Option Addr) (cn : Nat) (al : Option Addr) (cl : Nat) (w : World) (h : TyAt w t an cn al cl) (hf : cloK (k + 1) t) :
    Calls Tryd.prog 22 #[tyV t an cn al cl] w (CloR t w) := by
  have hf1 : t.names.length ≤ 100 := hf.1
  have hf2 : t.l.length ≤ 100 := hf.2.1
  have hf3 : ∀ x ∈ t.l, cloK k x := hf.2.2
  have k0 : Kept (fun _ => False) w ((w.alloc (.cells #[.int .i64 t.kind, .slice an t.names.length cn, .slice al t.l.length cl, .int .i64 t.r] 25)).alloc (.cells #[.int .i64 0, .slice none 0 0, .slice none 0 0, .int .i64 0] 25)) := ((Kept.refl _ _).new _).new _
  have S0 := (BlkAt.new w #[.int .i64 t.kind, .slice an t.names.length cn, .slice al t.l.length cl, .int .i64 t.r] 25).kept (F := fun _ => False) ((Kept.refl _ _).new (.cells #[.int .i64 0, .slice none 0 0, .slice none 0 0, .int .i64 0] 25)) id
  have F0 := BlkAt.new (w.alloc (.cells #[.int .i64 t.kind, .slice an t.names.length cn, .slice al t.l.length cl, .int .i64 t.r] 25)) #[.int .i64 0, .slice none 0 0, .slice none 0 0, .int .i64 0] 25
  rw [World.size_alloc] at F0
  have HN := Lib.hid (fun w' (k' : Kept (fun _ => False) w w') => rdCloneN t.names an cn w' (h.kept k').n hf1)
  have HT := Lib.hid (fun w' (k' : Kept (fun _ => False) w w') => rdCloneT w.heap.size t.l al cl w' (h.l.now.past k' (fun _ e => e.elim)) hf2)
  have HK := Lib.hid k0
  have HF := Lib.hid F0
  have HS := Lib.hid S0
  have HI := Lib.hid IH
  have H3 := Lib.hid hf3
  have hlen : (t.l.length : Int) ≤ 9223372036854775807 := by omega
  clear h hf hf1 hf2 hf3 k0 S0 F0 IH
  go_enter Tryd.func22, Tryd.ntmps22
  go_wp2_with (first
    | (go_at_call 38; refine (HN.out _ HK.out).mono ?_; rintro y w1 ⟨a1, c1, rfl, i1, k1⟩
       have HB1 := Lib.hid (HS.out.kept (F := fun _ => False) k1 id)
       have HR1 := Lib.hid (HF.out.kept (F := fun _ => False) k1 id)
       have b1 := HB1.out.cell 1
       have z1 := HB1.out.frozen 1
       simp at b1
       have HL1 := Lib.hid i1
       have HK1 := Lib.hid (HK.out.trans k1)
       have B2 := HB1.out.put 1 (.slice a1 t.names.length c1)
       simp at B2
       have HB2 := Lib.hid B2
       obtain ⟨u0, u1, u2, u3⟩ := boxT_cells B2
       have v2 := B2.frozen 2
       have HK2 : Hid (Kept (fun _ => False) w (w1.setCell ⟨w.heap.size, 1, none⟩ (.slice a1 t.names.length c1))) := Lib.hid (((HK1.out.any (F := (w.heap.size ≤ ·))).set (p := ⟨w.heap.size, 1, none⟩) (Nat.le_refl _) _).clear (fun i hi e => by have e : w.heap.size ≤ i := e; omega))
       clear i1 k1 B2)
    | (go_at_call 39; refine (HT.out _ HK2.out).mono ?_; rintro y w2 ⟨a2, c2, rfl, j1, j2, j3, k2⟩
       have HB3 := Lib.hid (HB2.out.kept (F := fun _ => False) k2 id)
       have b2 := HB3.out.cell 2
       have z2 := HB3.out.frozen 2
       simp at b2
       have B4 := HB3.out.put 2 (.slice a2 t.l.length c2)
       simp at B4
       have HB4 := Lib.hid B4
       obtain ⟨x0, x1, x2, x3⟩ := boxT_cells B4
       have HJ := Lib.hid (And.intro j1 (And.intro j2 j3))
       have HQ2 := Lib.hid k2
       clear j1 j2 j3 k2 B4 u0 u1 u2 u3 v2 b1 z1))
  have HR2 : Hid (BlkAt (w2.setCell ⟨w.heap.size, 2, none⟩ (.slice a2 t.l.length c2)) (w.heap.size + 1) #[.int .i64 0, .slice none 0 0, .slice none 0 0, .int .i64 0] 25) := Lib.hid (((HR1.out.other (b' := w.heap.size) (by omega) 1 _).kept (F := fun _ => False) HQ2.out id).other (b' := w.heap.size) (by omega) 2 _)
  have hs1 : w.heap.size + 2 ≤ w1.heap.size := by have := HR1.out.lt; omega
  clear b2 z2
  have HL2 : Hid (LiesU (w.heap.size + 2 ≤ ·) w1 (strsU t.names) (.slice a1 t.names.length c1)) := Lib.hid (by have := HL1.out; rw [World.size_alloc, World.size_alloc] at this; exact this)
  rcases HJ.out.2.2 with h0 | ⟨g, cur, rfl, hg, hb, hl, hsz⟩
  · have e0 : decide (0 < t.l.length) = false := by rw [h0]; rfl
    have e1 : decide ((0 : Int) < (t.l.length : Int)) = false := by rw [h0]; rfl
    have H0 := Lib.hid h0
    clear h0
    have r0 := HR2.out.cell 0
    have r1 := HR2.out.cell 1
    have r2 := HR2.out.cell 2
    have r3 := HR2.out.cell 3
    simp at r0 r1 r2 r3
    have y0 := HR2.out.frozen 0
    have y1 := HR2.out.frozen 1
    have y2 := HR2.out.frozen 2
    have y3 := HR2.out.frozen 3
    go_loopw [16] (fun v wr => v = .int .i64 0 ∧ wr = (w2.setCell ⟨w.heap.size, 2, none⟩ (.slice a2 t.l.length c2))) (fun _ _ => 0)
    case atStart => exact ⟨rfl, rfl⟩
    case round =>
      obtain ⟨rfl, rfl⟩ := hrel
      go_wp2_with fail
      have G := (((HR2.out.put 0 (.int .i64 t.kind)).put 1 (.slice a1 t.names.length c1)).put 2 (.slice a2 t.l.length c2)).put 3 (.int .i64 t.r)
      have q0 := G.cell 0
      have q1 := G.cell 1
      have q2 := G.cell 2
      have q3 := G.cell 3
      simp at q0 q1 q2 q3
      refine bodyPost_ret (v := tyV t a1 c1 a2 c2) (by simp [results, Tryd.results22, go_sem, q0, q1, q2, q3]) rfl ?_
      refine CloR.of HK1.out hs1 HL2.out HQ2.out (Nat.le_refl _) (Kept.refl _ _) ?_
      obtain e := List.length_eq_zero_iff.1 H0.out
      have j1 := HJ.out.1
      have j2 := HJ.out.2.1
      rw [e] at j1 ⊢
      unfold LiesU
      exact ⟨_, _, [], rfl, j1, j2, rfl, .nil, .inl rfl⟩
  · have hgw : w1.heap.size ≤ g := by have := hg; simpa using this
    have hgB : g ≠ w.heap.size := by omega
    have HG0 : Hid (CloI g t.l.length t.l (w2.setCell ⟨w.heap.size, 2, none⟩ (.slice (some ⟨g, 0, none⟩) t.l.length c2)) (w2.setCell ⟨w.heap.size, 2, none⟩ (.slice (some ⟨g, 0, none⟩) t.l.length c2)) 0) := Lib.hid ⟨⟨cur, [], _, hb.other hgB 2 _, rfl, by rw [List.take_zero]; exact .nil, by
      have h5 : LiesL (· < w.heap.size) (w2.setCell ⟨w.heap.size, 2, none⟩ (.slice (some ⟨g, 0, none⟩) t.l.length c2)) (encTys t.l) (cur.toList.take (t.l.length * 4)) := hl.past ((Kept.refl (fun b => b = w.heap.size) w2).set (p := ⟨w.heap.size, 2, none⟩) rfl _) (fun b e => by have e : b = w.heap.size := e; omega)
      rw [List.drop_zero]
      exact h5.next (fun _ _ _ => rfl) (Nat.le_refl _) (fun b q _ => by have q : b < w.heap.size := q; show b < g; omega)⟩, Kept.refl _ _⟩
    have HCP := Lib.hid (And.intro HJ.out.1 HJ.out.2.1)
    clear hb hl hsz hg HJ
    go_loopw [16] (fun v wr => ∃ i : Nat, v = .int .i64 i ∧ i ≤ t.l.length ∧ Hid (CloI g t.l.length t.l (w2.setCell ⟨w.heap.size, 2, none⟩ (.slice (some ⟨g, 0, none⟩) t.l.length c2)) wr i)) (fun v _ => t.l.length - (intOf v).toNat)
    case atStart => exact ⟨0, rfl, Nat.zero_le _, HG0⟩
    case round =>
      obtain ⟨i, rfl, hi, hst⟩ := hrel
      clear x0 x1 x2 x3 HG0
      have HB5 : Hid (BlkAt wr w.heap.size #[.int .i64 t.kind, .slice a1 t.names.length c1, .slice (some ⟨g, 0, none⟩) t.l.length c2, .int .i64 t.r] 25) := Lib.hid (HB4.out.kept hst.out.kept hgB)
      have hgR : g ≠ w.heap.size + 1 := by omega
      by_cases hlt : i < t.l.length
      · obtain ⟨x, hx⟩ : ∃ x, t.l[i]? = some x := ⟨_, List.getElem?_eq_getElem hlt⟩
        obtain ⟨cu, us, rest, ax, cx, ay, cy, hb, hul, hct, hl1, hl2, htx, e0, e1, e2, e3⟩ := hst.out.at hx hlt
        have hix := ix_type g t.l.length c2 i hlt
        have HE := Lib.hid (And.intro hb (And.intro hul (And.intro hct (And.intro hl1 hl2))))
        have HX := Lib.hid htx
        clear hb hul hct hl1 hl2 htx
        have hgl : g < wr.heap.size := HE.out.1.lt
        have q0 : Kept (fun _ => False) (wr.alloc (.cells #[.int .i64 x.kind, .slice ax x.names.length cx, .slice ay x.l.length cy, .int .i64 x.r] 25)) (wr.alloc (.cells #[.int .i64 x.kind, .slice ax x.names.length cx, .slice ay x.l.length cy, .int .i64 x.r] 25)).drew := (Kept.refl _ _).drew
        have HCB := Lib.hid (BlkAt.new wr #[.int .i64 x.kind, .slice ax x.names.length cx, .slice ay x.l.length cy, .int .i64 x.r] 25)
        have HB6 := Lib.hid (HB5.out.kept (F := fun _ => False) ((Kept.refl _ _).new (.cells #[.int .i64 x.kind, .slice ax x.names.length cx, .slice ay x.l.length cy, .int .i64 x.r] 25)) id)
        have hgc : wr.heap.size ≠ g := by omega
        have HW : Hid (∀ w', Kept (fun _ => False) (wr.alloc (.cells #[.int .i64 x.kind, .slice ax x.names.length cx, .slice ay x.l.length cy, .int .i64 x.r] 25)) w' → w'.cell? ⟨w.heap.size, 2, none⟩ = some (.slice (some ⟨g, 0, none⟩) t.l.length c2) ∧ w'.cell? ⟨wr.heap.size, 0, none⟩ = some (.int .i64 x.kind) ∧ w'.cell? ⟨wr.heap.size, 1, none⟩ = some (.slice ax x.names.length cx) ∧ w'.cell? ⟨wr.heap.size, 2, none⟩ = some (.slice ay x.l.length cy) ∧ w'.cell? ⟨wr.heap.size, 3, none⟩ = some (.int .i64 x.r)) := Lib.hid (fun w' k' => by
          have B := HB6.out.kept (F := fun _ => False) k' id
          have C := HCB.out.kept (F := fun _ => False) k' id
          exact ⟨B.cell 2, C.cell 0, C.cell 1, C.cell 2, C.cell 3⟩)
        have HWS : Hid (∀ w' v0 v1 v2 v3, Kept (fun _ => False) (wr.alloc (.cells #[.int .i64 x.kind, .slice ax x.names.length cx, .slice ay x.l.length cy, .int .i64 x.r] 25)) w' → (fun w' : World => w'.cell? ⟨w.heap.size, 2, none⟩ = some (.slice (some ⟨g, 0, none⟩) t.l.length c2) ∧ w'.cell? ⟨wr.heap.size, 0, none⟩ = some (.int .i64 x.kind) ∧ w'.cell? ⟨wr.heap.size, 1, none⟩ = some (.slice ax x.names.length cx) ∧ w'.cell? ⟨wr.heap.size, 2, none⟩ = some (.slice ay x.l.length cy) ∧ w'.cell? ⟨wr.heap.size, 3, none⟩ = some (.int .i64 x.r)) ((((w'.setCell ⟨g, i * 4, none⟩ v0).setCell ⟨g, i * 4 + 1, none⟩ v1).setCell ⟨g, i * 4 + 2, none⟩ v2).setCell ⟨g, i * 4 + 3, none⟩ v3)) := Lib.hid (fun w' v0 v1 v2 v3 k' => by
          have B := ((((HB6.out.kept (F := fun _ => False) k' id).other hgB.symm (i * 4) v0).other hgB.symm (i * 4 + 1) v1).other hgB.symm (i * 4 + 2) v2).other hgB.symm (i * 4 + 3) v3
          have C := ((((HCB.out.kept (F := fun _ => False) k' id).other hgc (i * 4) v0).other hgc (i * 4 + 1) v1).other hgc (i * 4 + 2) v2).other hgc (i * 4 + 3) v3
          exact ⟨B.cell 2, C.cell 0, C.cell 1, C.cell 2, C.cell 3⟩)
        have HE0 := Lib.hid (And.intro e0 (And.intro e1 (And.intro e2 e3)))
        have E0 := Lib.hid (HW.out _ q0)
        have hck : cloK k x := H3.out x (List.mem_of_getElem? hx)
        go_wp2_with fail
        clear e0 e1 e2 e3
        go_region_held3 (fun w' => w'.cell? ⟨w.heap.size, 2, none⟩ = some (.slice (some ⟨g, 0, none⟩) t.l.length c2) ∧ w'.cell? ⟨wr.heap.size, 0, none⟩ = some (.int .i64 x.kind) ∧ w'.cell? ⟨wr.heap.size, 1, none⟩ = some (.slice ax x.names.length cx) ∧ w'.cell? ⟨wr.heap.size, 2, none⟩ = some (.slice ay x.l.length cy) ∧ w'.cell? ⟨wr.heap.size, 3, none⟩ = some (.int .i64 x.r))
          (first | exact E0.out | exact HW.out _ q0 | exact HWS.out _ _ _ _ _ q0)
          (first
            | (go_at_call 22; refine (HI.out x ax cx ay cy _ (HX.out.kept (((Kept.refl _ _).new (.cells #[.int .i64 x.kind, .slice ax x.names.length cx, .slice ay x.l.length cy, .int .i64 x.r] 25)).trans q0)) hck).mono ?_; rintro y w3 ⟨ap, cp, aq, cq, rfl, n1, n2, k3⟩
               have HN3 : Hid (LiesU (wr.heap.size ≤ ·) w3 (strsU x.names) (.slice ap x.names.length cp)) := Lib.hid (lies_more n1 (by simp))
               have HT3 : Hid (LiesU (wr.heap.size ≤ ·) w3 (tysU x.l) (.slice aq x.l.length cq)) := Lib.hid (lies_more n2 (by simp))
               replace q0 : Kept (fun _ => False) (wr.alloc (.cells #[.int .i64 x.kind, .slice ax x.names.length cx, .slice ay x.l.length cy, .int .i64 x.r] 25)) w3 := q0.trans k3
               have K3 : Kept (fun _ => False) wr w3 := ((Kept.refl _ _).new (.cells #[.int .i64 x.kind, .slice ax x.names.length cx, .slice ay x.l.length cy, .int .i64 x.r] 25)).trans q0
               have f0 := (K3.cell1 (World.block_lt_of_cell? wr _ HE0.out.1)).trans HE0.out.1
               have f1 := (K3.cell1 (World.block_lt_of_cell? wr _ HE0.out.2.1)).trans HE0.out.2.1
               have f2 := (K3.cell1 (World.block_lt_of_cell? wr _ HE0.out.2.2.1)).trans HE0.out.2.2.1
               have f3 := (K3.cell1 (World.block_lt_of_cell? wr _ HE0.out.2.2.2)).trans HE0.out.2.2.2
               have HG3 := Lib.hid (HE.out.1.kept (F := fun _ => False) K3 id)
               have z0 := HG3.out.frozen (i * 4)
               have z1 := HG3.out.frozen (i * 4 + 1)
               have z2 := HG3.out.frozen (i * 4 + 2)
               have z3 := HG3.out.frozen (i * 4 + 3)
               have HK3 := Lib.hid K3
               clear n1 n2 k3 K3 E0))
        all_goals go_wp2_with fail
        all_goals exact ⟨⟨i + 1, by go_num, by omega, Lib.hid (CloI.step hx hst.out.kept HK3.out hgl HE.out.1 HE.out.2.1 HE.out.2.2.1 HE.out.2.2.2.1 HE.out.2.2.2.2 HN3.out HT3.out)⟩, by simp [intOf]; omega⟩
      · have hke : i = t.l.length := by omega
        subst hke
        have HR5 : Hid (BlkAt wr (w.heap.size + 1) #[.int .i64 0, .slice none 0 0, .slice none 0 0, .int .i64 0] 25) := Lib.hid (HR2.out.kept hst.out.kept hgR)
        obtain ⟨x0, x1, x2, x3⟩ := boxT_cells HB5.out
        have r0 := HR5.out.cell 0
        have r1 := HR5.out.cell 1
        have r2 := HR5.out.cell 2
        have r3 := HR5.out.cell 3
        simp at r0 r1 r2 r3
        have y0 := HR5.out.frozen 0
        have y1 := HR5.out.frozen 1
        have y2 := HR5.out.frozen 2
        have y3 := HR5.out.frozen 3
        go_wp2_with fail
        have G := (((HR5.out.put 0 (.int .i64 t.kind)).put 1 (.slice a1 t.names.length c1)).put 2 (.slice (some ⟨g, 0, none⟩) t.l.length c2)).put 3 (.int .i64 t.r)
        have q0 := G.cell 0
        have q1 := G.cell 1
        have q2 := G.cell 2
        have q3 := G.cell 3
        simp at q0 q1 q2 q3
        refine bodyPost_ret (v := tyV t a1 c1 (some ⟨g, 0, none⟩) c2) (by simp [results, Tryd.results22, go_sem, q0, q1, q2, q3]) rfl ?_
        exact CloR.of HK1.out hs1 HL2.out HQ2.out hgw hst.out.kept (hst.out.done rfl HCP.out.1 HCP.out.2)
end Go.Proofs.YtlkbgdhlbdjbiaaDoor
