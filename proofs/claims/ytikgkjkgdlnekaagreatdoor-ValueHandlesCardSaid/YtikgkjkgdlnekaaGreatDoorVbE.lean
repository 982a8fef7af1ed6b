/- value: plain: the walk. -/
import Derived.Test.YtikgkjkgdlnekaaGreatDoorVbD
import Derived.Deep.RegionHeld3
set_option linter.unusedVariables false
set_option linter.unusedSimpArgs false
namespace Go.Proofs.YtikgkjkgdlnekaaGreatDoor
open Go.RowKit
open Lex Ct

theorem box4_cells {w : World} {b : Nat} {c0 c1 c2 c3 : Value} {T : TypeId} (h : BlkAt w b #[c0, c1, c2, c3] T) : w.cell? ⟨b, 0, none⟩ = some c0 ∧ w.cell? ⟨b, 1, none⟩ = some c1 ∧ w.cell? ⟨b, 2, none⟩ = some c2 ∧ w.cell? ⟨b, 3, none⟩ = some c3 := ⟨h.cell 0, h.cell 1, h.cell 2, h.cell 3⟩
theorem pl_open {P : Nat → Prop} {B S : Nat} (hP : ∀ b, B ≤ b → P b) (b : Nat) (q : B + 1 + 1 ≤ b) (hb : b < S) : P b ∧ b ≠ B ∧ b ≠ B + 1 ∧ b < S := ⟨hP b (by omega), by omega, by omega, hb⟩
/-- What stands behind the loop: put together. -/
theorem PlR.of {P : Nat → Prop} {p : Ty} {l' : List Ty} {w w1 wr : World} {S : Nat} {ap aq : Option Addr} {cp cq : Nat} {G : Nat → Prop}
    (hP : ∀ b, w.heap.size ≤ b → P b) (hS : S ≤ w1.heap.size) (hS2 : w.heap.size ≤ S)
    (hn : LiesU (fun b => P b ∧ b ≠ w.heap.size ∧ b ≠ w.heap.size + 1 ∧ b < S) w1 (strsU p.names) (.slice ap p.names.length cp))
    (k0 : Kept (fun _ => False) w w1) (hG : ∀ b, G b → b = w.heap.size ∨ b = w.heap.size + 1 ∨ S ≤ b) (kr : Kept G w1 wr)
    (hl : LiesU (fun b => P b ∧ b ≠ w.heap.size + 1) wr (tysU l') (.slice aq l'.length cq)) (hr : w.heap.size + 1 < wr.heap.size) :
    PlR P (.mk p.kind p.names l' p.r) w (.returned (tyV (.mk p.kind p.names l' p.r) ap cp aq cq)) ((((wr.setCell ⟨w.heap.size + 1, 0, none⟩ (.int .i64 p.kind)).setCell ⟨w.heap.size + 1, 1, none⟩ (.slice ap p.names.length cp)).setCell ⟨w.heap.size + 1, 2, none⟩ (.slice aq l'.length cq)).setCell ⟨w.heap.size + 1, 3, none⟩ (.int .i64 p.r)) := by
  have k4 : Kept (fun b => b = w.heap.size + 1) wr ((((wr.setCell ⟨w.heap.size + 1, 0, none⟩ (.int .i64 p.kind)).setCell ⟨w.heap.size + 1, 1, none⟩ (.slice ap p.names.length cp)).setCell ⟨w.heap.size + 1, 2, none⟩ (.slice aq l'.length cq)).setCell ⟨w.heap.size + 1, 3, none⟩ (.int .i64 p.r)) :=
    ((((Kept.refl (fun b => b = w.heap.size + 1) wr).set (p := ⟨w.heap.size + 1, 0, none⟩) rfl _).set (p := ⟨w.heap.size + 1, 1, none⟩) rfl _).set (p := ⟨w.heap.size + 1, 2, none⟩) rfl _).set (p := ⟨w.heap.size + 1, 3, none⟩) rfl _
  have kall : Kept (fun b => b = w.heap.size ∨ b = w.heap.size + 1 ∨ S ≤ b) w1 _ := (kr.mono hG).trans (k4.mono fun b e => .inr (.inl e))
  refine ⟨ap, cp, aq, cq, rfl, ?_, ?_, ?_⟩
  · exact hn.thru kall (fun b q _ e => by have q2 := q.2; rcases e with e | e | e <;> omega) (fun b q _ => q.1)
  · exact hl.thru k4 (fun b q _ e => q.2 e) (fun b q _ => q.1)
  · exact ((k0.any (F := (w.heap.size ≤ ·))).trans (kall.mono fun b e => by show w.heap.size ≤ b; rcases e with e | e | e <;> omega)).clear (fun i hi e => by have e : w.heap.size ≤ i := e; omega)
set_option maxRecDepth 100000 in
set_option maxHeartbeats 8000000 in
theorem plv_n (k : Int) (n : List Nm) (l : List Ty) (r : Int) (F : Ty → Ty) (hln : l.length ≤ 100) (b16 : (k == 16) = false) (b17 : (k == 17) = false) (b18 : (k == 18) = false) (IH : Hid (∀ y ∈ l, PlvAt y (F y))) : PlvAt (.mk k n l r) (.mk k n (l.map F) r) := by
  intro P an cn al cl w hP hn0 hl0
  show Calls Tryz.prog 27 #[.agg #[.int .i64 k, .slice an n.length cn, .slice al l.length cl, .int .i64 r]] w _
  have k0 : Kept (fun _ => False) w ((w.alloc (.cells #[.int .i64 k, .slice an n.length cn, .slice al l.length cl, .int .i64 r] 25)).alloc (.cells #[.int .i64 0, .slice none 0 0, .slice none 0 0, .int .i64 0] 25)) := ((Kept.refl _ _).new _).new _
  have S0 := (BlkAt.new w #[.int .i64 k, .slice an n.length cn, .slice al l.length cl, .int .i64 r] 25).kept (F := fun _ => False) ((Kept.refl _ _).new (.cells #[.int .i64 0, .slice none 0 0, .slice none 0 0, .int .i64 0] 25)) id
  have F0 := BlkAt.new (w.alloc (.cells #[.int .i64 k, .slice an n.length cn, .slice al l.length cl, .int .i64 r] 25)) #[.int .i64 0, .slice none 0 0, .slice none 0 0, .int .i64 0] 25
  rw [World.size_alloc] at F0
  have HK := Lib.hid k0
  have HF := Lib.hid F0
  have HS := Lib.hid S0
  have HI := IH
  have HP := Lib.hid hP
  have HLN := Lib.hid hln
  have hlen : (l.length : Int) ≤ 9223372036854775807 := by omega
  have HN1 : Hid (LiesU (fun b => P b ∧ b ≠ w.heap.size ∧ b ≠ w.heap.size + 1 ∧ b < ((w.alloc (.cells #[.int .i64 k, .slice an n.length cn, .slice al l.length cl, .int .i64 r] 25)).alloc (.cells #[.int .i64 0, .slice none 0 0, .slice none 0 0, .int .i64 0] 25)).heap.size) ((w.alloc (.cells #[.int .i64 k, .slice an n.length cn, .slice al l.length cl, .int .i64 r] 25)).alloc (.cells #[.int .i64 0, .slice none 0 0, .slice none 0 0, .int .i64 0] 25)) (strsU n) (.slice an n.length cn)) := Lib.hid (hn0.thru k0 (fun _ _ _ e => e) (fun b q hb => ⟨q, by omega, by omega, by simp; omega⟩))
  have HT1 : Hid (LiesU (fun b => P b ∧ b ≠ w.heap.size ∧ b ≠ w.heap.size + 1 ∧ b < ((w.alloc (.cells #[.int .i64 k, .slice an n.length cn, .slice al l.length cl, .int .i64 r] 25)).alloc (.cells #[.int .i64 0, .slice none 0 0, .slice none 0 0, .int .i64 0] 25)).heap.size) ((w.alloc (.cells #[.int .i64 k, .slice an n.length cn, .slice al l.length cl, .int .i64 r] 25)).alloc (.cells #[.int .i64 0, .slice none 0 0, .slice none 0 0, .int .i64 0] 25)) (tysU l) (.slice al l.length cl)) := Lib.hid (hl0.thru k0 (fun _ _ _ e => e) (fun b q hb => ⟨q, by omega, by omega, by simp; omega⟩))
  have HQ1 : Hid (Kept (fun _ => False) w ((w.alloc (.cells #[.int .i64 k, .slice an n.length cn, .slice al l.length cl, .int .i64 r] 25)).alloc (.cells #[.int .i64 0, .slice none 0 0, .slice none 0 0, .int .i64 0] 25))) := Lib.hid k0
  have HKS : Hid (Kept (fun b => b = w.heap.size) ((w.alloc (.cells #[.int .i64 k, .slice an n.length cn, .slice al l.length cl, .int .i64 r] 25)).alloc (.cells #[.int .i64 0, .slice none 0 0, .slice none 0 0, .int .i64 0] 25)) ((w.alloc (.cells #[.int .i64 k, .slice an n.length cn, .slice al l.length cl, .int .i64 r] 25)).alloc (.cells #[.int .i64 0, .slice none 0 0, .slice none 0 0, .int .i64 0] 25))) := Lib.hid (Kept.refl _ _)
  have HB2 := Lib.hid S0
  have HR2 := Lib.hid F0
  have HTC := Lib.hid (rdCloneP _ l al cl _ HT1.out hln)
  clear hn0 hl0 hP hln k0 S0 F0 IH
  go_enter Tryz.func27, Tryz.ntmps27
  go_wp2_with (first
    | (go_at_call 45
       (
       refine HTC.out.mono ?_
       rintro y w2 ⟨a2, c2, rfl, j1, j2, j3, k2⟩
       have HB3 := Lib.hid (HB2.out.kept (F := fun _ => False) k2 id)
       have b2 := HB3.out.cell 2
       have z2 := HB3.out.frozen 2
       simp at b2
       have B4 := HB3.out.put 2 (.slice a2 l.length c2)
       simp at B4
       have HB4 : Hid (BlkAt (w2.setCell ⟨w.heap.size, 2, none⟩ (.slice a2 l.length c2)) w.heap.size #[.int .i64 k, .slice an n.length cn, .slice a2 l.length c2, .int .i64 r] 25) := Lib.hid B4
       obtain ⟨x0, x1, x2, x3⟩ := box4_cells HB4.out
       have HJ := Lib.hid (And.intro j1 (And.intro j2 j3))
       have HQ2 := Lib.hid k2
       clear j1 j2 j3 k2 B4)))
  have HR3 : Hid (BlkAt (w2.setCell ⟨w.heap.size, 2, none⟩ (.slice a2 l.length c2)) (w.heap.size + 1) #[.int .i64 0, .slice none 0 0, .slice none 0 0, .int .i64 0] 25) := Lib.hid ((HR2.out.kept (F := fun _ => False) HQ2.out id).other (b' := w.heap.size) (by omega) 2 _)
  have hsz2 : ((w.alloc (.cells #[.int .i64 k, .slice an n.length cn, .slice al l.length cl, .int .i64 r] 25)).alloc (.cells #[.int .i64 0, .slice none 0 0, .slice none 0 0, .int .i64 0] 25)).heap.size ≤ w2.heap.size := Nat.le_trans HKS.out.size HQ2.out.size
  have hs1 : w.heap.size + 2 ≤ ((w.alloc (.cells #[.int .i64 k, .slice an n.length cn, .slice al l.length cl, .int .i64 r] 25)).alloc (.cells #[.int .i64 0, .slice none 0 0, .slice none 0 0, .int .i64 0] 25)).heap.size := by have := HR2.out.lt; have := HKS.out.size; first | (simp; done) | (simp; omega) | omega | (have h := HR1.out.lt; omega)
  have HSZ := Lib.hid (And.intro hsz2 hs1)
  clear b2 z2 hsz2 hs1
  rcases HJ.out.2.2 with h0 | ⟨g, cur, rfl, hg, hb, hl, hsz⟩
  · have e0 : decide (0 < l.length) = false := by rw [h0]; rfl
    have e1 : decide ((0 : Int) < (l.length : Int)) = false := by rw [h0]; rfl
    have H0 := Lib.hid h0
    clear h0
    have r0 := HR3.out.cell 0
    have r1 := HR3.out.cell 1
    have r2 := HR3.out.cell 2
    have r3 := HR3.out.cell 3
    simp at r0 r1 r2 r3
    have y0 := HR3.out.frozen 0
    have y1 := HR3.out.frozen 1
    have y2 := HR3.out.frozen 2
    have y3 := HR3.out.frozen 3
    go_loopw [20] (fun v wr => v = .int .i64 0 ∧ wr = (w2.setCell ⟨w.heap.size, 2, none⟩ (.slice a2 l.length c2))) (fun _ _ => 0)
    case atStart => exact ⟨rfl, rfl⟩
    case round =>
      obtain ⟨rfl, rfl⟩ := hrel
      go_wp2_with fail
      have G := (((HR3.out.put 0 (.int .i64 k)).put 1 (.slice an n.length cn)).put 2 (.slice a2 l.length c2)).put 3 (.int .i64 r)
      have q0 := G.cell 0
      have q1 := G.cell 1
      have q2 := G.cell 2
      have q3 := G.cell 3
      simp at q0 q1 q2 q3
      refine bodyPost_ret (v := .agg #[.int .i64 k, (.slice an n.length cn), .slice a2 l.length c2, .int .i64 r]) (by simp [results, Tryz.results27, go_sem, q0, q1, q2, q3]) rfl ?_
      have e := List.length_eq_zero_iff.1 H0.out
      have em : l.map F = [] := by rw [e]; rfl
      have el : l.length = (l.map F).length := by rw [List.length_map]
      rw [el]
      have j1 := HJ.out.1
      have j2 := HJ.out.2.1
      refine PlR.of (p := (Ty.mk k n l r)) (S := ((w.alloc (.cells #[.int .i64 k, .slice an n.length cn, .slice al l.length cl, .int .i64 r] 25)).alloc (.cells #[.int .i64 0, .slice none 0 0, .slice none 0 0, .int .i64 0] 25)).heap.size) (w1 := ((w.alloc (.cells #[.int .i64 k, .slice an n.length cn, .slice al l.length cl, .int .i64 r] 25)).alloc (.cells #[.int .i64 0, .slice none 0 0, .slice none 0 0, .int .i64 0] 25))) (G := fun b => b = w.heap.size) HP.out (Nat.le_refl _) (by have := HSZ.out.2; omega) HN1.out HQ1.out (fun b e => .inl e) ?_ ?_ ?_
      · rw [← el]
        exact (HKS.out.trans HQ2.out.any).set (p := ⟨w.heap.size, 2, none⟩) rfl _
      · rw [em]
        unfold LiesU
        refine ⟨_, _, [], rfl, Nat.zero_le _, j2, rfl, .nil, .inl rfl⟩
      · rw [← el]
        exact HR3.out.lt
  · have hgw : ((w.alloc (.cells #[.int .i64 k, .slice an n.length cn, .slice al l.length cl, .int .i64 r] 25)).alloc (.cells #[.int .i64 0, .slice none 0 0, .slice none 0 0, .int .i64 0] 25)).heap.size ≤ g := by have := HKS.out.size; have hg' := hg; omega
    have hgB : g ≠ w.heap.size := by have := HSZ.out.2; omega
    have HQD : Hid (∀ b, (P b ∧ b ≠ w.heap.size ∧ b ≠ w.heap.size + 1 ∧ b ≠ g) → b ≠ g) := Lib.hid (fun b q => q.2.2.2)
    have HG0 : Hid (PlI (fun b => P b ∧ b ≠ w.heap.size ∧ b ≠ w.heap.size + 1 ∧ b ≠ g) F g l.length l (w2.setCell ⟨w.heap.size, 2, none⟩ (.slice (some ⟨g, 0, none⟩) l.length c2)) (w2.setCell ⟨w.heap.size, 2, none⟩ (.slice (some ⟨g, 0, none⟩) l.length c2)) 0) := Lib.hid ⟨⟨cur, [], _, hb.other hgB 2 _, rfl, by rw [List.take_zero]; exact .nil, by
      rw [List.drop_zero]
      exact hl.thru ((Kept.refl (fun b => b = w.heap.size) w2).set (p := ⟨w.heap.size, 2, none⟩) rfl _) (fun b q _ e => q.2.1 e) (fun b q _ => ⟨q.1, q.2.1, q.2.2.1, by have := q.2.2.2; omega⟩)⟩, Kept.refl _ _⟩
    have HCP := Lib.hid (And.intro HJ.out.1 HJ.out.2.1)
    clear hb hl hsz hg HJ
    go_loopw [20] (fun v wr => ∃ i : Nat, v = .int .i64 i ∧ i ≤ l.length ∧ Hid (PlI (fun b => P b ∧ b ≠ w.heap.size ∧ b ≠ w.heap.size + 1 ∧ b ≠ g) F g l.length l (w2.setCell ⟨w.heap.size, 2, none⟩ (.slice (some ⟨g, 0, none⟩) l.length c2)) wr i)) (fun v _ => l.length - (intOf v).toNat)
    case atStart => exact ⟨0, rfl, Nat.zero_le _, HG0⟩
    case round =>
      obtain ⟨i, rfl, hi, hst⟩ := hrel
      clear x0 x1 x2 x3 HG0
      have HB5 : Hid (BlkAt wr w.heap.size #[.int .i64 k, (.slice an n.length cn), .slice (some ⟨g, 0, none⟩) l.length c2, .int .i64 r] 25) := Lib.hid (HB4.out.kept hst.out.kept hgB)
      have hgR : g ≠ w.heap.size + 1 := by have := HSZ.out.2; omega
      by_cases hlt : i < l.length
      · obtain ⟨e, he⟩ : ∃ e, l[i]? = some e := ⟨_, List.getElem?_eq_getElem hlt⟩
        obtain ⟨cu, us, rest, ax, cx, ay, cy, hb, hul, hct, hl1, hl2, ht1, ht2, e0, e1, e2, e3⟩ := hst.out.at he hlt
        have hix := ix_type g l.length c2 i hlt
        have HE := Lib.hid (And.intro hb (And.intro hul (And.intro hct (And.intro hl1 hl2))))
        have HX := Lib.hid (And.intro ht1 ht2)
        clear hb hul hct hl1 hl2 ht1 ht2
        have hgl : g < wr.heap.size := HE.out.1.lt
        have q0 : Kept (fun _ => False) (wr.alloc (.cells #[.int .i64 e.kind, .slice ax e.names.length cx, .slice ay e.l.length cy, .int .i64 e.r] 25)) (wr.alloc (.cells #[.int .i64 e.kind, .slice ax e.names.length cx, .slice ay e.l.length cy, .int .i64 e.r] 25)).drew := (Kept.refl _ _).drew
        have HCB := Lib.hid (BlkAt.new wr #[.int .i64 e.kind, .slice ax e.names.length cx, .slice ay e.l.length cy, .int .i64 e.r] 25)
        have HB6 := Lib.hid (HB5.out.kept (F := fun _ => False) ((Kept.refl _ _).new (.cells #[.int .i64 e.kind, .slice ax e.names.length cx, .slice ay e.l.length cy, .int .i64 e.r] 25)) id)
        have hgc : wr.heap.size ≠ g := by omega
        have HW : Hid (∀ w', Kept (fun _ => False) (wr.alloc (.cells #[.int .i64 e.kind, .slice ax e.names.length cx, .slice ay e.l.length cy, .int .i64 e.r] 25)) w' → w'.cell? ⟨w.heap.size, 2, none⟩ = some (.slice (some ⟨g, 0, none⟩) l.length c2) ∧ w'.cell? ⟨wr.heap.size, 0, none⟩ = some (.int .i64 e.kind) ∧ w'.cell? ⟨wr.heap.size, 1, none⟩ = some (.slice ax e.names.length cx) ∧ w'.cell? ⟨wr.heap.size, 2, none⟩ = some (.slice ay e.l.length cy) ∧ w'.cell? ⟨wr.heap.size, 3, none⟩ = some (.int .i64 e.r)) := Lib.hid (fun w' k' => by
          have B := HB6.out.kept (F := fun _ => False) k' id
          have C := HCB.out.kept (F := fun _ => False) k' id
          exact ⟨B.cell 2, C.cell 0, C.cell 1, C.cell 2, C.cell 3⟩)
        have HWS : Hid (∀ w' v0 v1 v2 v3, Kept (fun _ => False) (wr.alloc (.cells #[.int .i64 e.kind, .slice ax e.names.length cx, .slice ay e.l.length cy, .int .i64 e.r] 25)) w' → (fun w' : World => w'.cell? ⟨w.heap.size, 2, none⟩ = some (.slice (some ⟨g, 0, none⟩) l.length c2) ∧ w'.cell? ⟨wr.heap.size, 0, none⟩ = some (.int .i64 e.kind) ∧ w'.cell? ⟨wr.heap.size, 1, none⟩ = some (.slice ax e.names.length cx) ∧ w'.cell? ⟨wr.heap.size, 2, none⟩ = some (.slice ay e.l.length cy) ∧ w'.cell? ⟨wr.heap.size, 3, none⟩ = some (.int .i64 e.r)) ((((w'.setCell ⟨g, i * 4, none⟩ v0).setCell ⟨g, i * 4 + 1, none⟩ v1).setCell ⟨g, i * 4 + 2, none⟩ v2).setCell ⟨g, i * 4 + 3, none⟩ v3)) := Lib.hid (fun w' v0 v1 v2 v3 k' => by
          have B := ((((HB6.out.kept (F := fun _ => False) k' id).other hgB.symm (i * 4) v0).other hgB.symm (i * 4 + 1) v1).other hgB.symm (i * 4 + 2) v2).other hgB.symm (i * 4 + 3) v3
          have C := ((((HCB.out.kept (F := fun _ => False) k' id).other hgc (i * 4) v0).other hgc (i * 4 + 1) v1).other hgc (i * 4 + 2) v2).other hgc (i * 4 + 3) v3
          exact ⟨B.cell 2, C.cell 0, C.cell 1, C.cell 2, C.cell 3⟩)
        have HE0 := Lib.hid (And.intro e0 (And.intro e1 (And.intro e2 e3)))
        have E0 := Lib.hid (HW.out _ q0)
        have hck : PlvAt e (F e) := HI.out e (List.mem_of_getElem? he)
        obtain ⟨f, hf⟩ : ∃ f, f = F e := ⟨_, rfl⟩
        rw [← hf] at hck
        have HCK := Lib.hid hck
        have HFF := Lib.hid hf
        have hwz : w.heap.size ≤ wr.heap.size := by have := HB5.out.lt; omega
        have HWZ := Lib.hid hwz
        have HLT : Hid (i + 1 ≤ l.length) := Lib.hid hlt
        clear hck hf hwz
        go_wp2_with fail
        clear e0 e1 e2 e3
        go_region_held3 (fun w' => w'.cell? ⟨w.heap.size, 2, none⟩ = some (.slice (some ⟨g, 0, none⟩) l.length c2) ∧ w'.cell? ⟨wr.heap.size, 0, none⟩ = some (.int .i64 e.kind) ∧ w'.cell? ⟨wr.heap.size, 1, none⟩ = some (.slice ax e.names.length cx) ∧ w'.cell? ⟨wr.heap.size, 2, none⟩ = some (.slice ay e.l.length cy) ∧ w'.cell? ⟨wr.heap.size, 3, none⟩ = some (.int .i64 e.r))
          (first | exact E0.out | exact HW.out _ q0 | exact HWS.out _ _ _ _ _ q0)
          (first
            | (go_at_call 27
               have QZ := q0.size
               rw [World.size_alloc] at QZ
               have K0 : Kept (fun _ => False) wr _ := ((Kept.refl _ _).new (.cells #[.int .i64 e.kind, .slice ax e.names.length cx, .slice ay e.l.length cy, .int .i64 e.r] 25)).trans q0
               refine (HCK.out (fun b => P b ∧ b ≠ w.heap.size ∧ b ≠ w.heap.size + 1 ∧ b ≠ g) ax cx ay cy _ (fun b hb => ⟨HP.out b (by have := HWZ.out; omega), by have := HWZ.out; omega, by have := HB5.out.lt; have := HSZ.out.2; have := HSZ.out.1; have := hgl; omega, by omega⟩) (HX.out.1.thru K0 (fun _ _ _ e => e) (fun _ q _ => q)) (HX.out.2.thru K0 (fun _ _ _ e => e) (fun _ q _ => q))).mono ?_; rintro y w3 ⟨ap2, cp2, aq2, cq2, rfl, n1, n2, k3⟩
               have HN3 := Lib.hid n1
               have HT3 := Lib.hid n2
               replace q0 : Kept (fun _ => False) (wr.alloc (.cells #[.int .i64 e.kind, .slice ax e.names.length cx, .slice ay e.l.length cy, .int .i64 e.r] 25)) w3 := q0.trans k3
               have K3 : Kept (fun _ => False) wr w3 := ((Kept.refl _ _).new (.cells #[.int .i64 e.kind, .slice ax e.names.length cx, .slice ay e.l.length cy, .int .i64 e.r] 25)).trans q0
               have f0 := (K3.cell1 (World.block_lt_of_cell? wr _ HE0.out.1)).trans HE0.out.1
               have f1 := (K3.cell1 (World.block_lt_of_cell? wr _ HE0.out.2.1)).trans HE0.out.2.1
               have f2 := (K3.cell1 (World.block_lt_of_cell? wr _ HE0.out.2.2.1)).trans HE0.out.2.2.1
               have f3 := (K3.cell1 (World.block_lt_of_cell? wr _ HE0.out.2.2.2)).trans HE0.out.2.2.2
               have HG3 := Lib.hid (HE.out.1.kept (F := fun _ => False) K3 id)
               have z0 := HG3.out.frozen (i * 4)
               have z1 := HG3.out.frozen (i * 4 + 1)
               have z2 := HG3.out.frozen (i * 4 + 2)
               have z3 := HG3.out.frozen (i * 4 + 3)
               have HK3 := Lib.hid K3
               clear n1 n2 k3 K3 K0 QZ E0))
        all_goals go_wp2_with fail
        all_goals exact ⟨⟨i + 1, by go_num, HLT.out, Lib.hid (PlI.step he HFF.out.symm HQD.out hst.out.kept HK3.out hgl HE.out.1 HE.out.2.1 HE.out.2.2.1 HE.out.2.2.2.1 HE.out.2.2.2.2 HN3.out HT3.out)⟩, by have hlt := HLT.out; simp [intOf]; omega⟩
      · have hke : i = l.length := by omega
        subst hke
        have HR5 : Hid (BlkAt wr (w.heap.size + 1) #[.int .i64 0, .slice none 0 0, .slice none 0 0, .int .i64 0] 25) := Lib.hid (HR3.out.kept hst.out.kept hgR)
        obtain ⟨x0, x1, x2, x3⟩ := box4_cells HB5.out
        have r0 := HR5.out.cell 0
        have r1 := HR5.out.cell 1
        have r2 := HR5.out.cell 2
        have r3 := HR5.out.cell 3
        simp at r0 r1 r2 r3
        have y0 := HR5.out.frozen 0
        have y1 := HR5.out.frozen 1
        have y2 := HR5.out.frozen 2
        have y3 := HR5.out.frozen 3
        go_wp2_with fail
        have G := (((HR5.out.put 0 (.int .i64 k)).put 1 (.slice an n.length cn)).put 2 (.slice (some ⟨g, 0, none⟩) l.length c2)).put 3 (.int .i64 r)
        have q0 := G.cell 0
        have q1 := G.cell 1
        have q2 := G.cell 2
        have q3 := G.cell 3
        simp at q0 q1 q2 q3
        refine bodyPost_ret (v := .agg #[.int .i64 k, (.slice an n.length cn), .slice (some ⟨g, 0, none⟩) l.length c2, .int .i64 r]) (by simp [results, Tryz.results27, go_sem, q0, q1, q2, q3]) rfl ?_
        have el : l.length = (l.map F).length := by rw [List.length_map]
        have hdone := hst.out.done (P := fun b => P b ∧ b ≠ w.heap.size + 1) rfl HCP.out.1 HCP.out.2 ⟨HP.out g (by have := HSZ.out.2; omega), hgR⟩ (fun b q => ⟨q.1, q.2.2.1⟩)
        have hkr : Kept (fun b => b = w.heap.size ∨ g = b) ((w.alloc (.cells #[.int .i64 k, .slice an n.length cn, .slice al l.length cl, .int .i64 r] 25)).alloc (.cells #[.int .i64 0, .slice none 0 0, .slice none 0 0, .int .i64 0] 25)) wr := (((HKS.out.trans HQ2.out.any).set (p := ⟨w.heap.size, 2, none⟩) rfl (.slice (some ⟨g, 0, none⟩) l.length c2)).mono (fun b e => .inl e)).trans (hst.out.kept.mono (fun b e => .inr e))
        have hfin := PlR.of (p := (Ty.mk k n l r)) (S := ((w.alloc (.cells #[.int .i64 k, .slice an n.length cn, .slice al l.length cl, .int .i64 r] 25)).alloc (.cells #[.int .i64 0, .slice none 0 0, .slice none 0 0, .int .i64 0] 25)).heap.size) (w1 := ((w.alloc (.cells #[.int .i64 k, .slice an n.length cn, .slice al l.length cl, .int .i64 r] 25)).alloc (.cells #[.int .i64 0, .slice none 0 0, .slice none 0 0, .int .i64 0] 25))) (G := fun b => b = w.heap.size ∨ g = b) HP.out (Nat.le_refl _) (by have := HSZ.out.2; omega) HN1.out HQ1.out (fun b e => by rcases e with e | e; exact .inl e; exact .inr (.inr (by omega))) hkr hdone HR5.out.lt
        rw [el]
        exact hfin
set_option maxRecDepth 100000 in
set_option maxHeartbeats 8000000 in
theorem plv_16 (n : List Nm) (l : List Ty) (r : Int) (j : Nat) (x : Ty) (hx : x = plainT (.mk 16 n l r)) (hd : deepK (j + 1) (.mk 16 n l r) = true) (F : Ty → Ty) (hln : x.l.length ≤ 100) (IH : Hid (∀ y ∈ x.l, PlvAt y (F y))) : PlvAt (.mk 16 n l r) (.mk x.kind x.names (x.l.map F) x.r) := by
  intro P an cn al cl w hP hn0 hl0
  show Calls Tryz.prog 27 #[.agg #[.int .i64 16, .slice an n.length cn, .slice al l.length cl, .int .i64 r]] w _
  have k0 : Kept (fun _ => False) w ((w.alloc (.cells #[.int .i64 16, .slice an n.length cn, .slice al l.length cl, .int .i64 r] 25)).alloc (.cells #[.int .i64 0, .slice none 0 0, .slice none 0 0, .int .i64 0] 25)) := ((Kept.refl _ _).new _).new _
  have S0 := (BlkAt.new w #[.int .i64 16, .slice an n.length cn, .slice al l.length cl, .int .i64 r] 25).kept (F := fun _ => False) ((Kept.refl _ _).new (.cells #[.int .i64 0, .slice none 0 0, .slice none 0 0, .int .i64 0] 25)) id
  have F0 := BlkAt.new (w.alloc (.cells #[.int .i64 16, .slice an n.length cn, .slice al l.length cl, .int .i64 r] 25)) #[.int .i64 0, .slice none 0 0, .slice none 0 0, .int .i64 0] 25
  rw [World.size_alloc] at F0
  have HK := Lib.hid k0
  have HF := Lib.hid F0
  have HS := Lib.hid S0
  have HI := IH
  have HP := Lib.hid hP
  have HLN := Lib.hid hln
  have hlen : (x.l.length : Int) ≤ 9223372036854775807 := by omega
  have HPL : Hid (Calls Tryz.prog 44 #[.agg #[.int .i64 16, .slice an n.length cn, .slice al l.length cl, .int .i64 r]] ((w.alloc (.cells #[.int .i64 16, .slice an n.length cn, .slice al l.length cl, .int .i64 r] 25)).alloc (.cells #[.int .i64 0, .slice none 0 0, .slice none 0 0, .int .i64 0] 25)) (PlnR x ((w.alloc (.cells #[.int .i64 16, .slice an n.length cn, .slice al l.length cl, .int .i64 r] 25)).alloc (.cells #[.int .i64 0, .slice none 0 0, .slice none 0 0, .int .i64 0] 25)))) := Lib.hid (by rw [hx]; exact rdPlainN j (.mk 16 n l r) an cn al cl _ ⟨(hn0.kept k0).wide, (hl0.kept k0).wide⟩ hd)
  clear hn0 hl0 hP hln k0 S0 F0 IH hd hx
  go_enter Tryz.func27, Tryz.ntmps27
  go_wp2_with (first
    | (go_at_call 44
       (
       refine HPL.out.mono ?_
       rintro y w1 ⟨ap, cp, aq, cq, rfl, n1, n2, k1⟩
       have HB1 := Lib.hid (HS.out.kept (F := fun _ => False) k1 id)
       have HR1 := Lib.hid (HF.out.kept (F := fun _ => False) k1 id)
       have HQ1 := Lib.hid (HK.out.trans k1)
       have HN1 : Hid (LiesU (fun b => P b ∧ b ≠ w.heap.size ∧ b ≠ w.heap.size + 1 ∧ b < w1.heap.size) w1 (strsU x.names) (.slice ap x.names.length cp)) := Lib.hid (n1.thru (Kept.refl (fun _ => False) w1) (fun _ _ _ e => e) (fun b q hb => pl_open HP.out b (by simpa using q) hb))
       have HT1 : Hid (LiesU (fun b => P b ∧ b ≠ w.heap.size ∧ b ≠ w.heap.size + 1 ∧ b < w1.heap.size) w1 (tysU x.l) (.slice aq x.l.length cq)) := Lib.hid (n2.thru (Kept.refl (fun _ => False) w1) (fun _ _ _ e => e) (fun b q hb => pl_open HP.out b (by simpa using q) hb))
       obtain ⟨t0, t1, t2, t3⟩ := box4_cells HB1.out
       have z0 := HB1.out.frozen 0
       have z1 := HB1.out.frozen 1
       have z2 := HB1.out.frozen 2
       have z3 := HB1.out.frozen 3
       have G := (((HB1.out.put 0 (.int .i64 x.kind)).put 1 (.slice ap x.names.length cp)).put 2 (.slice aq x.l.length cq)).put 3 (.int .i64 x.r)
       simp at G
       have HB2 : Hid (BlkAt ((((w1.setCell ⟨w.heap.size, 0, none⟩ (.int .i64 x.kind)).setCell ⟨w.heap.size, 1, none⟩ (.slice ap x.names.length cp)).setCell ⟨w.heap.size, 2, none⟩ (.slice aq x.l.length cq)).setCell ⟨w.heap.size, 3, none⟩ (.int .i64 x.r)) w.heap.size #[.int .i64 x.kind, .slice ap x.names.length cp, .slice aq x.l.length cq, .int .i64 x.r] 25) := Lib.hid G
       have hs1 : w.heap.size + 1 < w1.heap.size := HR1.out.lt
       have HR2 : Hid (BlkAt ((((w1.setCell ⟨w.heap.size, 0, none⟩ (.int .i64 x.kind)).setCell ⟨w.heap.size, 1, none⟩ (.slice ap x.names.length cp)).setCell ⟨w.heap.size, 2, none⟩ (.slice aq x.l.length cq)).setCell ⟨w.heap.size, 3, none⟩ (.int .i64 x.r)) (w.heap.size + 1) #[.int .i64 0, .slice none 0 0, .slice none 0 0, .int .i64 0] 25) := Lib.hid ((((HR1.out.other (b' := w.heap.size) (by omega) 0 _).other (b' := w.heap.size) (by omega) 1 _).other (b' := w.heap.size) (by omega) 2 _).other (b' := w.heap.size) (by omega) 3 _)
       have HKS : Hid (Kept (fun b => b = w.heap.size) w1 ((((w1.setCell ⟨w.heap.size, 0, none⟩ (.int .i64 x.kind)).setCell ⟨w.heap.size, 1, none⟩ (.slice ap x.names.length cp)).setCell ⟨w.heap.size, 2, none⟩ (.slice aq x.l.length cq)).setCell ⟨w.heap.size, 3, none⟩ (.int .i64 x.r))) := Lib.hid (((((Kept.refl (fun b => b = w.heap.size) w1).set (p := ⟨w.heap.size, 0, none⟩) rfl _).set (p := ⟨w.heap.size, 1, none⟩) rfl _).set (p := ⟨w.heap.size, 2, none⟩) rfl _).set (p := ⟨w.heap.size, 3, none⟩) rfl _)
       obtain ⟨u0, u1, u2, u3⟩ := box4_cells G
       have v2 := G.frozen 2
       have HTC := Lib.hid (rdCloneP _ x.l aq cq _ (HT1.out.thru HKS.out (fun b q _ e => q.2.1 e) (fun _ q _ => q)) HLN.out)
       clear n1 n2 k1 G))
    | (go_at_call 45
       (
       refine HTC.out.mono ?_
       rintro y w2 ⟨a2, c2, rfl, j1, j2, j3, k2⟩
       have HB3 := Lib.hid (HB2.out.kept (F := fun _ => False) k2 id)
       have b2 := HB3.out.cell 2
       have z2 := HB3.out.frozen 2
       simp at b2
       have B4 := HB3.out.put 2 (.slice a2 x.l.length c2)
       simp at B4
       have HB4 : Hid (BlkAt (w2.setCell ⟨w.heap.size, 2, none⟩ (.slice a2 x.l.length c2)) w.heap.size #[.int .i64 x.kind, .slice ap x.names.length cp, .slice a2 x.l.length c2, .int .i64 x.r] 25) := Lib.hid B4
       obtain ⟨x0, x1, x2, x3⟩ := box4_cells HB4.out
       have HJ := Lib.hid (And.intro j1 (And.intro j2 j3))
       have HQ2 := Lib.hid k2
       clear j1 j2 j3 k2 B4 u0 u1 u2 u3 v2 z0 z1 z3 t0 t1 t2 t3)))
  have HR3 : Hid (BlkAt (w2.setCell ⟨w.heap.size, 2, none⟩ (.slice a2 x.l.length c2)) (w.heap.size + 1) #[.int .i64 0, .slice none 0 0, .slice none 0 0, .int .i64 0] 25) := Lib.hid ((HR2.out.kept (F := fun _ => False) HQ2.out id).other (b' := w.heap.size) (by omega) 2 _)
  have hsz2 : w1.heap.size ≤ w2.heap.size := Nat.le_trans HKS.out.size HQ2.out.size
  have hs1 : w.heap.size + 2 ≤ w1.heap.size := by have := HR2.out.lt; have := HKS.out.size; first | (simp; done) | (simp; omega) | omega | (have h := HR1.out.lt; omega)
  have HSZ := Lib.hid (And.intro hsz2 hs1)
  clear b2 z2 hsz2 hs1
  rcases HJ.out.2.2 with h0 | ⟨g, cur, rfl, hg, hb, hl, hsz⟩
  · have e0 : decide (0 < x.l.length) = false := by rw [h0]; rfl
    have e1 : decide ((0 : Int) < (x.l.length : Int)) = false := by rw [h0]; rfl
    have H0 := Lib.hid h0
    clear h0
    have r0 := HR3.out.cell 0
    have r1 := HR3.out.cell 1
    have r2 := HR3.out.cell 2
    have r3 := HR3.out.cell 3
    simp at r0 r1 r2 r3
    have y0 := HR3.out.frozen 0
    have y1 := HR3.out.frozen 1
    have y2 := HR3.out.frozen 2
    have y3 := HR3.out.frozen 3
    go_loopw [20] (fun v wr => v = .int .i64 0 ∧ wr = (w2.setCell ⟨w.heap.size, 2, none⟩ (.slice a2 x.l.length c2))) (fun _ _ => 0)
    case atStart => exact ⟨rfl, rfl⟩
    case round =>
      obtain ⟨rfl, rfl⟩ := hrel
      go_wp2_with fail
      have G := (((HR3.out.put 0 (.int .i64 x.kind)).put 1 (.slice ap x.names.length cp)).put 2 (.slice a2 x.l.length c2)).put 3 (.int .i64 x.r)
      have q0 := G.cell 0
      have q1 := G.cell 1
      have q2 := G.cell 2
      have q3 := G.cell 3
      simp at q0 q1 q2 q3
      refine bodyPost_ret (v := .agg #[.int .i64 x.kind, (.slice ap x.names.length cp), .slice a2 x.l.length c2, .int .i64 x.r]) (by simp [results, Tryz.results27, go_sem, q0, q1, q2, q3]) rfl ?_
      have e := List.length_eq_zero_iff.1 H0.out
      have em : x.l.map F = [] := by rw [e]; rfl
      have el : x.l.length = (x.l.map F).length := by rw [List.length_map]
      rw [el]
      have j1 := HJ.out.1
      have j2 := HJ.out.2.1
      refine PlR.of (p := x) (S := w1.heap.size) (w1 := w1) (G := fun b => b = w.heap.size) HP.out (Nat.le_refl _) (by have := HSZ.out.2; omega) HN1.out HQ1.out (fun b e => .inl e) ?_ ?_ ?_
      · rw [← el]
        exact (HKS.out.trans HQ2.out.any).set (p := ⟨w.heap.size, 2, none⟩) rfl _
      · rw [em]
        unfold LiesU
        refine ⟨_, _, [], rfl, Nat.zero_le _, j2, rfl, .nil, .inl rfl⟩
      · rw [← el]
        exact HR3.out.lt
  · have hgw : w1.heap.size ≤ g := by have := HKS.out.size; have hg' := hg; omega
    have hgB : g ≠ w.heap.size := by have := HSZ.out.2; omega
    have HQD : Hid (∀ b, (P b ∧ b ≠ w.heap.size ∧ b ≠ w.heap.size + 1 ∧ b ≠ g) → b ≠ g) := Lib.hid (fun b q => q.2.2.2)
    have HG0 : Hid (PlI (fun b => P b ∧ b ≠ w.heap.size ∧ b ≠ w.heap.size + 1 ∧ b ≠ g) F g x.l.length x.l (w2.setCell ⟨w.heap.size, 2, none⟩ (.slice (some ⟨g, 0, none⟩) x.l.length c2)) (w2.setCell ⟨w.heap.size, 2, none⟩ (.slice (some ⟨g, 0, none⟩) x.l.length c2)) 0) := Lib.hid ⟨⟨cur, [], _, hb.other hgB 2 _, rfl, by rw [List.take_zero]; exact .nil, by
      rw [List.drop_zero]
      exact hl.thru ((Kept.refl (fun b => b = w.heap.size) w2).set (p := ⟨w.heap.size, 2, none⟩) rfl _) (fun b q _ e => q.2.1 e) (fun b q _ => ⟨q.1, q.2.1, q.2.2.1, by have := q.2.2.2; omega⟩)⟩, Kept.refl _ _⟩
    have HCP := Lib.hid (And.intro HJ.out.1 HJ.out.2.1)
    clear hb hl hsz hg HJ
    go_loopw [20] (fun v wr => ∃ i : Nat, v = .int .i64 i ∧ i ≤ x.l.length ∧ Hid (PlI (fun b => P b ∧ b ≠ w.heap.size ∧ b ≠ w.heap.size + 1 ∧ b ≠ g) F g x.l.length x.l (w2.setCell ⟨w.heap.size, 2, none⟩ (.slice (some ⟨g, 0, none⟩) x.l.length c2)) wr i)) (fun v _ => x.l.length - (intOf v).toNat)
    case atStart => exact ⟨0, rfl, Nat.zero_le _, HG0⟩
    case round =>
      obtain ⟨i, rfl, hi, hst⟩ := hrel
      clear x0 x1 x2 x3 HG0
      have HB5 : Hid (BlkAt wr w.heap.size #[.int .i64 x.kind, (.slice ap x.names.length cp), .slice (some ⟨g, 0, none⟩) x.l.length c2, .int .i64 x.r] 25) := Lib.hid (HB4.out.kept hst.out.kept hgB)
      have hgR : g ≠ w.heap.size + 1 := by have := HSZ.out.2; omega
      by_cases hlt : i < x.l.length
      · obtain ⟨e, he⟩ : ∃ e, x.l[i]? = some e := ⟨_, List.getElem?_eq_getElem hlt⟩
        obtain ⟨cu, us, rest, ax, cx, ay, cy, hb, hul, hct, hl1, hl2, ht1, ht2, e0, e1, e2, e3⟩ := hst.out.at he hlt
        have hix := ix_type g x.l.length c2 i hlt
        have HE := Lib.hid (And.intro hb (And.intro hul (And.intro hct (And.intro hl1 hl2))))
        have HX := Lib.hid (And.intro ht1 ht2)
        clear hb hul hct hl1 hl2 ht1 ht2
        have hgl : g < wr.heap.size := HE.out.1.lt
        have q0 : Kept (fun _ => False) (wr.alloc (.cells #[.int .i64 e.kind, .slice ax e.names.length cx, .slice ay e.l.length cy, .int .i64 e.r] 25)) (wr.alloc (.cells #[.int .i64 e.kind, .slice ax e.names.length cx, .slice ay e.l.length cy, .int .i64 e.r] 25)).drew := (Kept.refl _ _).drew
        have HCB := Lib.hid (BlkAt.new wr #[.int .i64 e.kind, .slice ax e.names.length cx, .slice ay e.l.length cy, .int .i64 e.r] 25)
        have HB6 := Lib.hid (HB5.out.kept (F := fun _ => False) ((Kept.refl _ _).new (.cells #[.int .i64 e.kind, .slice ax e.names.length cx, .slice ay e.l.length cy, .int .i64 e.r] 25)) id)
        have hgc : wr.heap.size ≠ g := by omega
        have HW : Hid (∀ w', Kept (fun _ => False) (wr.alloc (.cells #[.int .i64 e.kind, .slice ax e.names.length cx, .slice ay e.l.length cy, .int .i64 e.r] 25)) w' → w'.cell? ⟨w.heap.size, 2, none⟩ = some (.slice (some ⟨g, 0, none⟩) x.l.length c2) ∧ w'.cell? ⟨wr.heap.size, 0, none⟩ = some (.int .i64 e.kind) ∧ w'.cell? ⟨wr.heap.size, 1, none⟩ = some (.slice ax e.names.length cx) ∧ w'.cell? ⟨wr.heap.size, 2, none⟩ = some (.slice ay e.l.length cy) ∧ w'.cell? ⟨wr.heap.size, 3, none⟩ = some (.int .i64 e.r)) := Lib.hid (fun w' k' => by
          have B := HB6.out.kept (F := fun _ => False) k' id
          have C := HCB.out.kept (F := fun _ => False) k' id
          exact ⟨B.cell 2, C.cell 0, C.cell 1, C.cell 2, C.cell 3⟩)
        have HWS : Hid (∀ w' v0 v1 v2 v3, Kept (fun _ => False) (wr.alloc (.cells #[.int .i64 e.kind, .slice ax e.names.length cx, .slice ay e.l.length cy, .int .i64 e.r] 25)) w' → (fun w' : World => w'.cell? ⟨w.heap.size, 2, none⟩ = some (.slice (some ⟨g, 0, none⟩) x.l.length c2) ∧ w'.cell? ⟨wr.heap.size, 0, none⟩ = some (.int .i64 e.kind) ∧ w'.cell? ⟨wr.heap.size, 1, none⟩ = some (.slice ax e.names.length cx) ∧ w'.cell? ⟨wr.heap.size, 2, none⟩ = some (.slice ay e.l.length cy) ∧ w'.cell? ⟨wr.heap.size, 3, none⟩ = some (.int .i64 e.r)) ((((w'.setCell ⟨g, i * 4, none⟩ v0).setCell ⟨g, i * 4 + 1, none⟩ v1).setCell ⟨g, i * 4 + 2, none⟩ v2).setCell ⟨g, i * 4 + 3, none⟩ v3)) := Lib.hid (fun w' v0 v1 v2 v3 k' => by
          have B := ((((HB6.out.kept (F := fun _ => False) k' id).other hgB.symm (i * 4) v0).other hgB.symm (i * 4 + 1) v1).other hgB.symm (i * 4 + 2) v2).other hgB.symm (i * 4 + 3) v3
          have C := ((((HCB.out.kept (F := fun _ => False) k' id).other hgc (i * 4) v0).other hgc (i * 4 + 1) v1).other hgc (i * 4 + 2) v2).other hgc (i * 4 + 3) v3
          exact ⟨B.cell 2, C.cell 0, C.cell 1, C.cell 2, C.cell 3⟩)
        have HE0 := Lib.hid (And.intro e0 (And.intro e1 (And.intro e2 e3)))
        have E0 := Lib.hid (HW.out _ q0)
        have hck : PlvAt e (F e) := HI.out e (List.mem_of_getElem? he)
        obtain ⟨f, hf⟩ : ∃ f, f = F e := ⟨_, rfl⟩
        rw [← hf] at hck
        have HCK := Lib.hid hck
        have HFF := Lib.hid hf
        have hwz : w.heap.size ≤ wr.heap.size := by have := HB5.out.lt; omega
        have HWZ := Lib.hid hwz
        have HLT : Hid (i + 1 ≤ x.l.length) := Lib.hid hlt
        clear hck hf hwz
        go_wp2_with fail
        clear e0 e1 e2 e3
        go_region_held3 (fun w' => w'.cell? ⟨w.heap.size, 2, none⟩ = some (.slice (some ⟨g, 0, none⟩) x.l.length c2) ∧ w'.cell? ⟨wr.heap.size, 0, none⟩ = some (.int .i64 e.kind) ∧ w'.cell? ⟨wr.heap.size, 1, none⟩ = some (.slice ax e.names.length cx) ∧ w'.cell? ⟨wr.heap.size, 2, none⟩ = some (.slice ay e.l.length cy) ∧ w'.cell? ⟨wr.heap.size, 3, none⟩ = some (.int .i64 e.r))
          (first | exact E0.out | exact HW.out _ q0 | exact HWS.out _ _ _ _ _ q0)
          (first
            | (go_at_call 27
               have QZ := q0.size
               rw [World.size_alloc] at QZ
               have K0 : Kept (fun _ => False) wr _ := ((Kept.refl _ _).new (.cells #[.int .i64 e.kind, .slice ax e.names.length cx, .slice ay e.l.length cy, .int .i64 e.r] 25)).trans q0
               refine (HCK.out (fun b => P b ∧ b ≠ w.heap.size ∧ b ≠ w.heap.size + 1 ∧ b ≠ g) ax cx ay cy _ (fun b hb => ⟨HP.out b (by have := HWZ.out; omega), by have := HWZ.out; omega, by have := HB5.out.lt; have := HSZ.out.2; have := HSZ.out.1; have := hgl; omega, by omega⟩) (HX.out.1.thru K0 (fun _ _ _ e => e) (fun _ q _ => q)) (HX.out.2.thru K0 (fun _ _ _ e => e) (fun _ q _ => q))).mono ?_; rintro y w3 ⟨ap2, cp2, aq2, cq2, rfl, n1, n2, k3⟩
               have HN3 := Lib.hid n1
               have HT3 := Lib.hid n2
               replace q0 : Kept (fun _ => False) (wr.alloc (.cells #[.int .i64 e.kind, .slice ax e.names.length cx, .slice ay e.l.length cy, .int .i64 e.r] 25)) w3 := q0.trans k3
               have K3 : Kept (fun _ => False) wr w3 := ((Kept.refl _ _).new (.cells #[.int .i64 e.kind, .slice ax e.names.length cx, .slice ay e.l.length cy, .int .i64 e.r] 25)).trans q0
               have f0 := (K3.cell1 (World.block_lt_of_cell? wr _ HE0.out.1)).trans HE0.out.1
               have f1 := (K3.cell1 (World.block_lt_of_cell? wr _ HE0.out.2.1)).trans HE0.out.2.1
               have f2 := (K3.cell1 (World.block_lt_of_cell? wr _ HE0.out.2.2.1)).trans HE0.out.2.2.1
               have f3 := (K3.cell1 (World.block_lt_of_cell? wr _ HE0.out.2.2.2)).trans HE0.out.2.2.2
               have HG3 := Lib.hid (HE.out.1.kept (F := fun _ => False) K3 id)
               have z0 := HG3.out.frozen (i * 4)
               have z1 := HG3.out.frozen (i * 4 + 1)
               have z2 := HG3.out.frozen (i * 4 + 2)
               have z3 := HG3.out.frozen (i * 4 + 3)
               have HK3 := Lib.hid K3
               clear n1 n2 k3 K3 K0 QZ E0))
        all_goals go_wp2_with fail
        all_goals exact ⟨⟨i + 1, by go_num, HLT.out, Lib.hid (PlI.step he HFF.out.symm HQD.out hst.out.kept HK3.out hgl HE.out.1 HE.out.2.1 HE.out.2.2.1 HE.out.2.2.2.1 HE.out.2.2.2.2 HN3.out HT3.out)⟩, by have hlt := HLT.out; simp [intOf]; omega⟩
      · have hke : i = x.l.length := by omega
        subst hke
        have HR5 : Hid (BlkAt wr (w.heap.size + 1) #[.int .i64 0, .slice none 0 0, .slice none 0 0, .int .i64 0] 25) := Lib.hid (HR3.out.kept hst.out.kept hgR)
        obtain ⟨x0, x1, x2, x3⟩ := box4_cells HB5.out
        have r0 := HR5.out.cell 0
        have r1 := HR5.out.cell 1
        have r2 := HR5.out.cell 2
        have r3 := HR5.out.cell 3
        simp at r0 r1 r2 r3
        have y0 := HR5.out.frozen 0
        have y1 := HR5.out.frozen 1
        have y2 := HR5.out.frozen 2
        have y3 := HR5.out.frozen 3
        go_wp2_with fail
        have G := (((HR5.out.put 0 (.int .i64 x.kind)).put 1 (.slice ap x.names.length cp)).put 2 (.slice (some ⟨g, 0, none⟩) x.l.length c2)).put 3 (.int .i64 x.r)
        have q0 := G.cell 0
        have q1 := G.cell 1
        have q2 := G.cell 2
        have q3 := G.cell 3
        simp at q0 q1 q2 q3
        refine bodyPost_ret (v := .agg #[.int .i64 x.kind, (.slice ap x.names.length cp), .slice (some ⟨g, 0, none⟩) x.l.length c2, .int .i64 x.r]) (by simp [results, Tryz.results27, go_sem, q0, q1, q2, q3]) rfl ?_
        have el : x.l.length = (x.l.map F).length := by rw [List.length_map]
        have hdone := hst.out.done (P := fun b => P b ∧ b ≠ w.heap.size + 1) rfl HCP.out.1 HCP.out.2 ⟨HP.out g (by have := HSZ.out.2; omega), hgR⟩ (fun b q => ⟨q.1, q.2.2.1⟩)
        have hkr : Kept (fun b => b = w.heap.size ∨ g = b) w1 wr := (((HKS.out.trans HQ2.out.any).set (p := ⟨w.heap.size, 2, none⟩) rfl (.slice (some ⟨g, 0, none⟩) x.l.length c2)).mono (fun b e => .inl e)).trans (hst.out.kept.mono (fun b e => .inr e))
        have hfin := PlR.of (p := x) (S := w1.heap.size) (w1 := w1) (G := fun b => b = w.heap.size ∨ g = b) HP.out (Nat.le_refl _) (by have := HSZ.out.2; omega) HN1.out HQ1.out (fun b e => by rcases e with e | e; exact .inl e; exact .inr (.inr (by omega))) hkr hdone HR5.out.lt
        rw [el]
        exact hfin
set_option maxRecDepth 100000 in
set_option maxHeartbeats 8000000 in
theorem plv_17 (n : List Nm) (l : List Ty) (r : Int) (j : Nat) (x : Ty) (hx : x = plainT (.mk 17 n l r)) (hd : deepK (j + 1) (.mk 17 n l r) = true) (F : Ty → Ty) (hln : x.l.length ≤ 100) (IH : Hid (∀ y ∈ x.l, PlvAt y (F y))) : PlvAt (.mk 17 n l r) (.mk x.kind x.names (x.l.map F) x.r) := by
  intro P an cn al cl w hP hn0 hl0
  show Calls Tryz.prog 27 #[.agg #[.int .i64 17, .slice an n.length cn, .slice al l.length cl, .int .i64 r]] w _
  have k0 : Kept (fun _ => False) w ((w.alloc (.cells #[.int .i64 17, .slice an n.length cn, .slice al l.length cl, .int .i64 r] 25)).alloc (.cells #[.int .i64 0, .slice none 0 0, .slice none 0 0, .int .i64 0] 25)) := ((Kept.refl _ _).new _).new _
  have S0 := (BlkAt.new w #[.int .i64 17, .slice an n.length cn, .slice al l.length cl, .int .i64 r] 25).kept (F := fun _ => False) ((Kept.refl _ _).new (.cells #[.int .i64 0, .slice none 0 0, .slice none 0 0, .int .i64 0] 25)) id
  have F0 := BlkAt.new (w.alloc (.cells #[.int .i64 17, .slice an n.length cn, .slice al l.length cl, .int .i64 r] 25)) #[.int .i64 0, .slice none 0 0, .slice none 0 0, .int .i64 0] 25
  rw [World.size_alloc] at F0
  have HK := Lib.hid k0
  have HF := Lib.hid F0
  have HS := Lib.hid S0
  have HI := IH
  have HP := Lib.hid hP
  have HLN := Lib.hid hln
  have hlen : (x.l.length : Int) ≤ 9223372036854775807 := by omega
  have HPL : Hid (Calls Tryz.prog 44 #[.agg #[.int .i64 17, .slice an n.length cn, .slice al l.length cl, .int .i64 r]] ((w.alloc (.cells #[.int .i64 17, .slice an n.length cn, .slice al l.length cl, .int .i64 r] 25)).alloc (.cells #[.int .i64 0, .slice none 0 0, .slice none 0 0, .int .i64 0] 25)) (PlnR x ((w.alloc (.cells #[.int .i64 17, .slice an n.length cn, .slice al l.length cl, .int .i64 r] 25)).alloc (.cells #[.int .i64 0, .slice none 0 0, .slice none 0 0, .int .i64 0] 25)))) := Lib.hid (by rw [hx]; exact rdPlainN j (.mk 17 n l r) an cn al cl _ ⟨(hn0.kept k0).wide, (hl0.kept k0).wide⟩ hd)
  clear hn0 hl0 hP hln k0 S0 F0 IH hd hx
  go_enter Tryz.func27, Tryz.ntmps27
  go_wp2_with (first
    | (go_at_call 44
       (
       refine HPL.out.mono ?_
       rintro y w1 ⟨ap, cp, aq, cq, rfl, n1, n2, k1⟩
       have HB1 := Lib.hid (HS.out.kept (F := fun _ => False) k1 id)
       have HR1 := Lib.hid (HF.out.kept (F := fun _ => False) k1 id)
       have HQ1 := Lib.hid (HK.out.trans k1)
       have HN1 : Hid (LiesU (fun b => P b ∧ b ≠ w.heap.size ∧ b ≠ w.heap.size + 1 ∧ b < w1.heap.size) w1 (strsU x.names) (.slice ap x.names.length cp)) := Lib.hid (n1.thru (Kept.refl (fun _ => False) w1) (fun _ _ _ e => e) (fun b q hb => pl_open HP.out b (by simpa using q) hb))
       have HT1 : Hid (LiesU (fun b => P b ∧ b ≠ w.heap.size ∧ b ≠ w.heap.size + 1 ∧ b < w1.heap.size) w1 (tysU x.l) (.slice aq x.l.length cq)) := Lib.hid (n2.thru (Kept.refl (fun _ => False) w1) (fun _ _ _ e => e) (fun b q hb => pl_open HP.out b (by simpa using q) hb))
       obtain ⟨t0, t1, t2, t3⟩ := box4_cells HB1.out
       have z0 := HB1.out.frozen 0
       have z1 := HB1.out.frozen 1
       have z2 := HB1.out.frozen 2
       have z3 := HB1.out.frozen 3
       have G := (((HB1.out.put 0 (.int .i64 x.kind)).put 1 (.slice ap x.names.length cp)).put 2 (.slice aq x.l.length cq)).put 3 (.int .i64 x.r)
       simp at G
       have HB2 : Hid (BlkAt ((((w1.setCell ⟨w.heap.size, 0, none⟩ (.int .i64 x.kind)).setCell ⟨w.heap.size, 1, none⟩ (.slice ap x.names.length cp)).setCell ⟨w.heap.size, 2, none⟩ (.slice aq x.l.length cq)).setCell ⟨w.heap.size, 3, none⟩ (.int .i64 x.r)) w.heap.size #[.int .i64 x.kind, .slice ap x.names.length cp, .slice aq x.l.length cq, .int .i64 x.r] 25) := Lib.hid G
       have hs1 : w.heap.size + 1 < w1.heap.size := HR1.out.lt
       have HR2 : Hid (BlkAt ((((w1.setCell ⟨w.heap.size, 0, none⟩ (.int .i64 x.kind)).setCell ⟨w.heap.size, 1, none⟩ (.slice ap x.names.length cp)).setCell ⟨w.heap.size, 2, none⟩ (.slice aq x.l.length cq)).setCell ⟨w.heap.size, 3, none⟩ (.int .i64 x.r)) (w.heap.size + 1) #[.int .i64 0, .slice none 0 0, .slice none 0 0, .int .i64 0] 25) := Lib.hid ((((HR1.out.other (b' := w.heap.size) (by omega) 0 _).other (b' := w.heap.size) (by omega) 1 _).other (b' := w.heap.size) (by omega) 2 _).other (b' := w.heap.size) (by omega) 3 _)
       have HKS : Hid (Kept (fun b => b = w.heap.size) w1 ((((w1.setCell ⟨w.heap.size, 0, none⟩ (.int .i64 x.kind)).setCell ⟨w.heap.size, 1, none⟩ (.slice ap x.names.length cp)).setCell ⟨w.heap.size, 2, none⟩ (.slice aq x.l.length cq)).setCell ⟨w.heap.size, 3, none⟩ (.int .i64 x.r))) := Lib.hid (((((Kept.refl (fun b => b = w.heap.size) w1).set (p := ⟨w.heap.size, 0, none⟩) rfl _).set (p := ⟨w.heap.size, 1, none⟩) rfl _).set (p := ⟨w.heap.size, 2, none⟩) rfl _).set (p := ⟨w.heap.size, 3, none⟩) rfl _)
       obtain ⟨u0, u1, u2, u3⟩ := box4_cells G
       have v2 := G.frozen 2
       have HTC := Lib.hid (rdCloneP _ x.l aq cq _ (HT1.out.thru HKS.out (fun b q _ e => q.2.1 e) (fun _ q _ => q)) HLN.out)
       clear n1 n2 k1 G))
    | (go_at_call 45
       (
       refine HTC.out.mono ?_
       rintro y w2 ⟨a2, c2, rfl, j1, j2, j3, k2⟩
       have HB3 := Lib.hid (HB2.out.kept (F := fun _ => False) k2 id)
       have b2 := HB3.out.cell 2
       have z2 := HB3.out.frozen 2
       simp at b2
       have B4 := HB3.out.put 2 (.slice a2 x.l.length c2)
       simp at B4
       have HB4 : Hid (BlkAt (w2.setCell ⟨w.heap.size, 2, none⟩ (.slice a2 x.l.length c2)) w.heap.size #[.int .i64 x.kind, .slice ap x.names.length cp, .slice a2 x.l.length c2, .int .i64 x.r] 25) := Lib.hid B4
       obtain ⟨x0, x1, x2, x3⟩ := box4_cells HB4.out
       have HJ := Lib.hid (And.intro j1 (And.intro j2 j3))
       have HQ2 := Lib.hid k2
       clear j1 j2 j3 k2 B4 u0 u1 u2 u3 v2 z0 z1 z3 t0 t1 t2 t3)))
  have HR3 : Hid (BlkAt (w2.setCell ⟨w.heap.size, 2, none⟩ (.slice a2 x.l.length c2)) (w.heap.size + 1) #[.int .i64 0, .slice none 0 0, .slice none 0 0, .int .i64 0] 25) := Lib.hid ((HR2.out.kept (F := fun _ => False) HQ2.out id).other (b' := w.heap.size) (by omega) 2 _)
  have hsz2 : w1.heap.size ≤ w2.heap.size := Nat.le_trans HKS.out.size HQ2.out.size
  have hs1 : w.heap.size + 2 ≤ w1.heap.size := by have := HR2.out.lt; have := HKS.out.size; first | (simp; done) | (simp; omega) | omega | (have h := HR1.out.lt; omega)
  have HSZ := Lib.hid (And.intro hsz2 hs1)
  clear b2 z2 hsz2 hs1
  rcases HJ.out.2.2 with h0 | ⟨g, cur, rfl, hg, hb, hl, hsz⟩
  · have e0 : decide (0 < x.l.length) = false := by rw [h0]; rfl
    have e1 : decide ((0 : Int) < (x.l.length : Int)) = false := by rw [h0]; rfl
    have H0 := Lib.hid h0
    clear h0
    have r0 := HR3.out.cell 0
    have r1 := HR3.out.cell 1
    have r2 := HR3.out.cell 2
    have r3 := HR3.out.cell 3
    simp at r0 r1 r2 r3
    have y0 := HR3.out.frozen 0
    have y1 := HR3.out.frozen 1
    have y2 := HR3.out.frozen 2
    have y3 := HR3.out.frozen 3
    go_loopw [20] (fun v wr => v = .int .i64 0 ∧ wr = (w2.setCell ⟨w.heap.size, 2, none⟩ (.slice a2 x.l.length c2))) (fun _ _ => 0)
    case atStart => exact ⟨rfl, rfl⟩
    case round =>
      obtain ⟨rfl, rfl⟩ := hrel
      go_wp2_with fail
      have G := (((HR3.out.put 0 (.int .i64 x.kind)).put 1 (.slice ap x.names.length cp)).put 2 (.slice a2 x.l.length c2)).put 3 (.int .i64 x.r)
      have q0 := G.cell 0
      have q1 := G.cell 1
      have q2 := G.cell 2
      have q3 := G.cell 3
      simp at q0 q1 q2 q3
      refine bodyPost_ret (v := .agg #[.int .i64 x.kind, (.slice ap x.names.length cp), .slice a2 x.l.length c2, .int .i64 x.r]) (by simp [results, Tryz.results27, go_sem, q0, q1, q2, q3]) rfl ?_
      have e := List.length_eq_zero_iff.1 H0.out
      have em : x.l.map F = [] := by rw [e]; rfl
      have el : x.l.length = (x.l.map F).length := by rw [List.length_map]
      rw [el]
      have j1 := HJ.out.1
      have j2 := HJ.out.2.1
      refine PlR.of (p := x) (S := w1.heap.size) (w1 := w1) (G := fun b => b = w.heap.size) HP.out (Nat.le_refl _) (by have := HSZ.out.2; omega) HN1.out HQ1.out (fun b e => .inl e) ?_ ?_ ?_
      · rw [← el]
        exact (HKS.out.trans HQ2.out.any).set (p := ⟨w.heap.size, 2, none⟩) rfl _
      · rw [em]
        unfold LiesU
        refine ⟨_, _, [], rfl, Nat.zero_le _, j2, rfl, .nil, .inl rfl⟩
      · rw [← el]
        exact HR3.out.lt
  · have hgw : w1.heap.size ≤ g := by have := HKS.out.size; have hg' := hg; omega
    have hgB : g ≠ w.heap.size := by have := HSZ.out.2; omega
    have HQD : Hid (∀ b, (P b ∧ b ≠ w.heap.size ∧ b ≠ w.heap.size + 1 ∧ b ≠ g) → b ≠ g) := Lib.hid (fun b q => q.2.2.2)
    have HG0 : Hid (PlI (fun b => P b ∧ b ≠ w.heap.size ∧ b ≠ w.heap.size + 1 ∧ b ≠ g) F g x.l.length x.l (w2.setCell ⟨w.heap.size, 2, none⟩ (.slice (some ⟨g, 0, none⟩) x.l.length c2)) (w2.setCell ⟨w.heap.size, 2, none⟩ (.slice (some ⟨g, 0, none⟩) x.l.length c2)) 0) := Lib.hid ⟨⟨cur, [], _, hb.other hgB 2 _, rfl, by rw [List.take_zero]; exact .nil, by
      rw [List.drop_zero]
      exact hl.thru ((Kept.refl (fun b => b = w.heap.size) w2).set (p := ⟨w.heap.size, 2, none⟩) rfl _) (fun b q _ e => q.2.1 e) (fun b q _ => ⟨q.1, q.2.1, q.2.2.1, by have := q.2.2.2; omega⟩)⟩, Kept.refl _ _⟩
    have HCP := Lib.hid (And.intro HJ.out.1 HJ.out.2.1)
    clear hb hl hsz hg HJ
    go_loopw [20] (fun v wr => ∃ i : Nat, v = .int .i64 i ∧ i ≤ x.l.length ∧ Hid (PlI (fun b => P b ∧ b ≠ w.heap.size ∧ b ≠ w.heap.size + 1 ∧ b ≠ g) F g x.l.length x.l (w2.setCell ⟨w.heap.size, 2, none⟩ (.slice (some ⟨g, 0, none⟩) x.l.length c2)) wr i)) (fun v _ => x.l.length - (intOf v).toNat)
    case atStart => exact ⟨0, rfl, Nat.zero_le _, HG0⟩
    case round =>
      obtain ⟨i, rfl, hi, hst⟩ := hrel
      clear x0 x1 x2 x3 HG0
      have HB5 : Hid (BlkAt wr w.heap.size #[.int .i64 x.kind, (.slice ap x.names.length cp), .slice (some ⟨g, 0, none⟩) x.l.length c2, .int .i64 x.r] 25) := Lib.hid (HB4.out.kept hst.out.kept hgB)
      have hgR : g ≠ w.heap.size + 1 := by have := HSZ.out.2; omega
      by_cases hlt : i < x.l.length
      · obtain ⟨e, he⟩ : ∃ e, x.l[i]? = some e := ⟨_, List.getElem?_eq_getElem hlt⟩
        obtain ⟨cu, us, rest, ax, cx, ay, cy, hb, hul, hct, hl1, hl2, ht1, ht2, e0, e1, e2, e3⟩ := hst.out.at he hlt
        have hix := ix_type g x.l.length c2 i hlt
        have HE := Lib.hid (And.intro hb (And.intro hul (And.intro hct (And.intro hl1 hl2))))
        have HX := Lib.hid (And.intro ht1 ht2)
        clear hb hul hct hl1 hl2 ht1 ht2
        have hgl : g < wr.heap.size := HE.out.1.lt
        have q0 : Kept (fun _ => False) (wr.alloc (.cells #[.int .i64 e.kind, .slice ax e.names.length cx, .slice ay e.l.length cy, .int .i64 e.r] 25)) (wr.alloc (.cells #[.int .i64 e.kind, .slice ax e.names.length cx, .slice ay e.l.length cy, .int .i64 e.r] 25)).drew := (Kept.refl _ _).drew
        have HCB := Lib.hid (BlkAt.new wr #[.int .i64 e.kind, .slice ax e.names.length cx, .slice ay e.l.length cy, .int .i64 e.r] 25)
        have HB6 := Lib.hid (HB5.out.kept (F := fun _ => False) ((Kept.refl _ _).new (.cells #[.int .i64 e.kind, .slice ax e.names.length cx, .slice ay e.l.length cy, .int .i64 e.r] 25)) id)
        have hgc : wr.heap.size ≠ g := by omega
        have HW : Hid (∀ w', Kept (fun _ => False) (wr.alloc (.cells #[.int .i64 e.kind, .slice ax e.names.length cx, .slice ay e.l.length cy, .int .i64 e.r] 25)) w' → w'.cell? ⟨w.heap.size, 2, none⟩ = some (.slice (some ⟨g, 0, none⟩) x.l.length c2) ∧ w'.cell? ⟨wr.heap.size, 0, none⟩ = some (.int .i64 e.kind) ∧ w'.cell? ⟨wr.heap.size, 1, none⟩ = some (.slice ax e.names.length cx) ∧ w'.cell? ⟨wr.heap.size, 2, none⟩ = some (.slice ay e.l.length cy) ∧ w'.cell? ⟨wr.heap.size, 3, none⟩ = some (.int .i64 e.r)) := Lib.hid (fun w' k' => by
          have B := HB6.out.kept (F := fun _ => False) k' id
          have C := HCB.out.kept (F := fun _ => False) k' id
          exact ⟨B.cell 2, C.cell 0, C.cell 1, C.cell 2, C.cell 3⟩)
        have HWS : Hid (∀ w' v0 v1 v2 v3, Kept (fun _ => False) (wr.alloc (.cells #[.int .i64 e.kind, .slice ax e.names.length cx, .slice ay e.l.length cy, .int .i64 e.r] 25)) w' → (fun w' : World => w'.cell? ⟨w.heap.size, 2, none⟩ = some (.slice (some ⟨g, 0, none⟩) x.l.length c2) ∧ w'.cell? ⟨wr.heap.size, 0, none⟩ = some (.int .i64 e.kind) ∧ w'.cell? ⟨wr.heap.size, 1, none⟩ = some (.slice ax e.names.length cx) ∧ w'.cell? ⟨wr.heap.size, 2, none⟩ = some (.slice ay e.l.length cy) ∧ w'.cell? ⟨wr.heap.size, 3, none⟩ = some (.int .i64 e.r)) ((((w'.setCell ⟨g, i * 4, none⟩ v0).setCell ⟨g, i * 4 + 1, none⟩ v1).setCell ⟨g, i * 4 + 2, none⟩ v2).setCell ⟨g, i * 4 + 3, none⟩ v3)) := Lib.hid (fun w' v0 v1 v2 v3 k' => by
          have B := ((((HB6.out.kept (F := fun _ => False) k' id).other hgB.symm (i * 4) v0).other hgB.symm (i * 4 + 1) v1).other hgB.symm (i * 4 + 2) v2).other hgB.symm (i * 4 + 3) v3
          have C := ((((HCB.out.kept (F := fun _ => False) k' id).other hgc (i * 4) v0).other hgc (i * 4 + 1) v1).other hgc (i * 4 + 2) v2).other hgc (i * 4 + 3) v3
          exact ⟨B.cell 2, C.cell 0, C.cell 1, C.cell 2, C.cell 3⟩)
        have HE0 := Lib.hid (And.intro e0 (And.intro e1 (And.intro e2 e3)))
        have E0 := Lib.hid (HW.out _ q0)
        have hck : PlvAt e (F e) := HI.out e (List.mem_of_getElem? he)
        obtain ⟨f, hf⟩ : ∃ f, f = F e := ⟨_, rfl⟩
        rw [← hf] at hck
        have HCK := Lib.hid hck
        have HFF := Lib.hid hf
        have hwz : w.heap.size ≤ wr.heap.size := by have := HB5.out.lt; omega
        have HWZ := Lib.hid hwz
        have HLT : Hid (i + 1 ≤ x.l.length) := Lib.hid hlt
        clear hck hf hwz
        go_wp2_with fail
        clear e0 e1 e2 e3
        go_region_held3 (fun w' => w'.cell? ⟨w.heap.size, 2, none⟩ = some (.slice (some ⟨g, 0, none⟩) x.l.length c2) ∧ w'.cell? ⟨wr.heap.size, 0, none⟩ = some (.int .i64 e.kind) ∧ w'.cell? ⟨wr.heap.size, 1, none⟩ = some (.slice ax e.names.length cx) ∧ w'.cell? ⟨wr.heap.size, 2, none⟩ = some (.slice ay e.l.length cy) ∧ w'.cell? ⟨wr.heap.size, 3, none⟩ = some (.int .i64 e.r))
          (first | exact E0.out | exact HW.out _ q0 | exact HWS.out _ _ _ _ _ q0)
          (first
            | (go_at_call 27
               have QZ := q0.size
               rw [World.size_alloc] at QZ
               have K0 : Kept (fun _ => False) wr _ := ((Kept.refl _ _).new (.cells #[.int .i64 e.kind, .slice ax e.names.length cx, .slice ay e.l.length cy, .int .i64 e.r] 25)).trans q0
               refine (HCK.out (fun b => P b ∧ b ≠ w.heap.size ∧ b ≠ w.heap.size + 1 ∧ b ≠ g) ax cx ay cy _ (fun b hb => ⟨HP.out b (by have := HWZ.out; omega), by have := HWZ.out; omega, by have := HB5.out.lt; have := HSZ.out.2; have := HSZ.out.1; have := hgl; omega, by omega⟩) (HX.out.1.thru K0 (fun _ _ _ e => e) (fun _ q _ => q)) (HX.out.2.thru K0 (fun _ _ _ e => e) (fun _ q _ => q))).mono ?_; rintro y w3 ⟨ap2, cp2, aq2, cq2, rfl, n1, n2, k3⟩
               have HN3 := Lib.hid n1
               have HT3 := Lib.hid n2
               replace q0 : Kept (fun _ => False) (wr.alloc (.cells #[.int .i64 e.kind, .slice ax e.names.length cx, .slice ay e.l.length cy, .int .i64 e.r] 25)) w3 := q0.trans k3
               have K3 : Kept (fun _ => False) wr w3 := ((Kept.refl _ _).new (.cells #[.int .i64 e.kind, .slice ax e.names.length cx, .slice ay e.l.length cy, .int .i64 e.r] 25)).trans q0
               have f0 := (K3.cell1 (World.block_lt_of_cell? wr _ HE0.out.1)).trans HE0.out.1
               have f1 := (K3.cell1 (World.block_lt_of_cell? wr _ HE0.out.2.1)).trans HE0.out.2.1
               have f2 := (K3.cell1 (World.block_lt_of_cell? wr _ HE0.out.2.2.1)).trans HE0.out.2.2.1
               have f3 := (K3.cell1 (World.block_lt_of_cell? wr _ HE0.out.2.2.2)).trans HE0.out.2.2.2
               have HG3 := Lib.hid (HE.out.1.kept (F := fun _ => False) K3 id)
               have z0 := HG3.out.frozen (i * 4)
               have z1 := HG3.out.frozen (i * 4 + 1)
               have z2 := HG3.out.frozen (i * 4 + 2)
               have z3 := HG3.out.frozen (i * 4 + 3)
               have HK3 := Lib.hid K3
               clear n1 n2 k3 K3 K0 QZ E0))
        all_goals go_wp2_with fail
        all_goals exact ⟨⟨i + 1, by go_num, HLT.out, Lib.hid (PlI.step he HFF.out.symm HQD.out hst.out.kept HK3.out hgl HE.out.1 HE.out.2.1 HE.out.2.2.1 HE.out.2.2.2.1 HE.out.2.2.2.2 HN3.out HT3.out)⟩, by have hlt := HLT.out; simp [intOf]; omega⟩
      · have hke : i = x.l.length := by omega
        subst hke
        have HR5 : Hid (BlkAt wr (w.heap.size + 1) #[.int .i64 0, .slice none 0 0, .slice none 0 0, .int .i64 0] 25) := Lib.hid (HR3.out.kept hst.out.kept hgR)
        obtain ⟨x0, x1, x2, x3⟩ := box4_cells HB5.out
        have r0 := HR5.out.cell 0
        have r1 := HR5.out.cell 1
        have r2 := HR5.out.cell 2
        have r3 := HR5.out.cell 3
        simp at r0 r1 r2 r3
        have y0 := HR5.out.frozen 0
        have y1 := HR5.out.frozen 1
        have y2 := HR5.out.frozen 2
        have y3 := HR5.out.frozen 3
        go_wp2_with fail
        have G := (((HR5.out.put 0 (.int .i64 x.kind)).put 1 (.slice ap x.names.length cp)).put 2 (.slice (some ⟨g, 0, none⟩) x.l.length c2)).put 3 (.int .i64 x.r)
        have q0 := G.cell 0
        have q1 := G.cell 1
        have q2 := G.cell 2
        have q3 := G.cell 3
        simp at q0 q1 q2 q3
        refine bodyPost_ret (v := .agg #[.int .i64 x.kind, (.slice ap x.names.length cp), .slice (some ⟨g, 0, none⟩) x.l.length c2, .int .i64 x.r]) (by simp [results, Tryz.results27, go_sem, q0, q1, q2, q3]) rfl ?_
        have el : x.l.length = (x.l.map F).length := by rw [List.length_map]
        have hdone := hst.out.done (P := fun b => P b ∧ b ≠ w.heap.size + 1) rfl HCP.out.1 HCP.out.2 ⟨HP.out g (by have := HSZ.out.2; omega), hgR⟩ (fun b q => ⟨q.1, q.2.2.1⟩)
        have hkr : Kept (fun b => b = w.heap.size ∨ g = b) w1 wr := (((HKS.out.trans HQ2.out.any).set (p := ⟨w.heap.size, 2, none⟩) rfl (.slice (some ⟨g, 0, none⟩) x.l.length c2)).mono (fun b e => .inl e)).trans (hst.out.kept.mono (fun b e => .inr e))
        have hfin := PlR.of (p := x) (S := w1.heap.size) (w1 := w1) (G := fun b => b = w.heap.size ∨ g = b) HP.out (Nat.le_refl _) (by have := HSZ.out.2; omega) HN1.out HQ1.out (fun b e => by rcases e with e | e; exact .inl e; exact .inr (.inr (by omega))) hkr hdone HR5.out.lt
        rw [el]
        exact hfin
set_option maxRecDepth 100000 in
set_option maxHeartbeats 8000000 in
theorem plv_18 (n : List Nm) (l : List Ty) (r : Int) (j : Nat) (x : Ty) (hx : x = plainT (.mk 18 n l r)) (hd : deepK (j + 1) (.mk 18 n l r) = true) (F : Ty → Ty) (hln : x.l.length ≤ 100) (IH : Hid (∀ y ∈ x.l, PlvAt y (F y))) : PlvAt (.mk 18 n l r) (.mk x.kind x.names (x.l.map F) x.r) := by
  intro P an cn al cl w hP hn0 hl0
  show Calls Tryz.prog 27 #[.agg #[.int .i64 18, .slice an n.length cn, .slice al l.length cl, .int .i64 r]] w _
  have k0 : Kept (fun _ => False) w ((w.alloc (.cells #[.int .i64 18, .slice an n.length cn, .slice al l.length cl, .int .i64 r] 25)).alloc (.cells #[.int .i64 0, .slice none 0 0, .slice none 0 0, .int .i64 0] 25)) := ((Kept.refl _ _).new _).new _
  have S0 := (BlkAt.new w #[.int .i64 18, .slice an n.length cn, .slice al l.length cl, .int .i64 r] 25).kept (F := fun _ => False) ((Kept.refl _ _).new (.cells #[.int .i64 0, .slice none 0 0, .slice none 0 0, .int .i64 0] 25)) id
  have F0 := BlkAt.new (w.alloc (.cells #[.int .i64 18, .slice an n.length cn, .slice al l.length cl, .int .i64 r] 25)) #[.int .i64 0, .slice none 0 0, .slice none 0 0, .int .i64 0] 25
  rw [World.size_alloc] at F0
  have HK := Lib.hid k0
  have HF := Lib.hid F0
  have HS := Lib.hid S0
  have HI := IH
  have HP := Lib.hid hP
  have HLN := Lib.hid hln
  have hlen : (x.l.length : Int) ≤ 9223372036854775807 := by omega
  have HPL : Hid (Calls Tryz.prog 44 #[.agg #[.int .i64 18, .slice an n.length cn, .slice al l.length cl, .int .i64 r]] ((w.alloc (.cells #[.int .i64 18, .slice an n.length cn, .slice al l.length cl, .int .i64 r] 25)).alloc (.cells #[.int .i64 0, .slice none 0 0, .slice none 0 0, .int .i64 0] 25)) (PlnR x ((w.alloc (.cells #[.int .i64 18, .slice an n.length cn, .slice al l.length cl, .int .i64 r] 25)).alloc (.cells #[.int .i64 0, .slice none 0 0, .slice none 0 0, .int .i64 0] 25)))) := Lib.hid (by rw [hx]; exact rdPlainN j (.mk 18 n l r) an cn al cl _ ⟨(hn0.kept k0).wide, (hl0.kept k0).wide⟩ hd)
  clear hn0 hl0 hP hln k0 S0 F0 IH hd hx
  go_enter Tryz.func27, Tryz.ntmps27
  go_wp2_with (first
    | (go_at_call 44
       (
       refine HPL.out.mono ?_
       rintro y w1 ⟨ap, cp, aq, cq, rfl, n1, n2, k1⟩
       have HB1 := Lib.hid (HS.out.kept (F := fun _ => False) k1 id)
       have HR1 := Lib.hid (HF.out.kept (F := fun _ => False) k1 id)
       have HQ1 := Lib.hid (HK.out.trans k1)
       have HN1 : Hid (LiesU (fun b => P b ∧ b ≠ w.heap.size ∧ b ≠ w.heap.size + 1 ∧ b < w1.heap.size) w1 (strsU x.names) (.slice ap x.names.length cp)) := Lib.hid (n1.thru (Kept.refl (fun _ => False) w1) (fun _ _ _ e => e) (fun b q hb => pl_open HP.out b (by simpa using q) hb))
       have HT1 : Hid (LiesU (fun b => P b ∧ b ≠ w.heap.size ∧ b ≠ w.heap.size + 1 ∧ b < w1.heap.size) w1 (tysU x.l) (.slice aq x.l.length cq)) := Lib.hid (n2.thru (Kept.refl (fun _ => False) w1) (fun _ _ _ e => e) (fun b q hb => pl_open HP.out b (by simpa using q) hb))
       obtain ⟨t0, t1, t2, t3⟩ := box4_cells HB1.out
       have z0 := HB1.out.frozen 0
       have z1 := HB1.out.frozen 1
       have z2 := HB1.out.frozen 2
       have z3 := HB1.out.frozen 3
       have G := (((HB1.out.put 0 (.int .i64 x.kind)).put 1 (.slice ap x.names.length cp)).put 2 (.slice aq x.l.length cq)).put 3 (.int .i64 x.r)
       simp at G
       have HB2 : Hid (BlkAt ((((w1.setCell ⟨w.heap.size, 0, none⟩ (.int .i64 x.kind)).setCell ⟨w.heap.size, 1, none⟩ (.slice ap x.names.length cp)).setCell ⟨w.heap.size, 2, none⟩ (.slice aq x.l.length cq)).setCell ⟨w.heap.size, 3, none⟩ (.int .i64 x.r)) w.heap.size #[.int .i64 x.kind, .slice ap x.names.length cp, .slice aq x.l.length cq, .int .i64 x.r] 25) := Lib.hid G
       have hs1 : w.heap.size + 1 < w1.heap.size := HR1.out.lt
       have HR2 : Hid (BlkAt ((((w1.setCell ⟨w.heap.size, 0, none⟩ (.int .i64 x.kind)).setCell ⟨w.heap.size, 1, none⟩ (.slice ap x.names.length cp)).setCell ⟨w.heap.size, 2, none⟩ (.slice aq x.l.length cq)).setCell ⟨w.heap.size, 3, none⟩ (.int .i64 x.r)) (w.heap.size + 1) #[.int .i64 0, .slice none 0 0, .slice none 0 0, .int .i64 0] 25) := Lib.hid ((((HR1.out.other (b' := w.heap.size) (by omega) 0 _).other (b' := w.heap.size) (by omega) 1 _).other (b' := w.heap.size) (by omega) 2 _).other (b' := w.heap.size) (by omega) 3 _)
       have HKS : Hid (Kept (fun b => b = w.heap.size) w1 ((((w1.setCell ⟨w.heap.size, 0, none⟩ (.int .i64 x.kind)).setCell ⟨w.heap.size, 1, none⟩ (.slice ap x.names.length cp)).setCell ⟨w.heap.size, 2, none⟩ (.slice aq x.l.length cq)).setCell ⟨w.heap.size, 3, none⟩ (.int .i64 x.r))) := Lib.hid (((((Kept.refl (fun b => b = w.heap.size) w1).set (p := ⟨w.heap.size, 0, none⟩) rfl _).set (p := ⟨w.heap.size, 1, none⟩) rfl _).set (p := ⟨w.heap.size, 2, none⟩) rfl _).set (p := ⟨w.heap.size, 3, none⟩) rfl _)
       obtain ⟨u0, u1, u2, u3⟩ := box4_cells G
       have v2 := G.frozen 2
       have HTC := Lib.hid (rdCloneP _ x.l aq cq _ (HT1.out.thru HKS.out (fun b q _ e => q.2.1 e) (fun _ q _ => q)) HLN.out)
       clear n1 n2 k1 G))
    | (go_at_call 45
       (
       refine HTC.out.mono ?_
       rintro y w2 ⟨a2, c2, rfl, j1, j2, j3, k2⟩
       have HB3 := Lib.hid (HB2.out.kept (F := fun _ => False) k2 id)
       have b2 := HB3.out.cell 2
       have z2 := HB3.out.frozen 2
       simp at b2
       have B4 := HB3.out.put 2 (.slice a2 x.l.length c2)
       simp at B4
       have HB4 : Hid (BlkAt (w2.setCell ⟨w.heap.size, 2, none⟩ (.slice a2 x.l.length c2)) w.heap.size #[.int .i64 x.kind, .slice ap x.names.length cp, .slice a2 x.l.length c2, .int .i64 x.r] 25) := Lib.hid B4
       obtain ⟨x0, x1, x2, x3⟩ := box4_cells HB4.out
       have HJ := Lib.hid (And.intro j1 (And.intro j2 j3))
       have HQ2 := Lib.hid k2
       clear j1 j2 j3 k2 B4 u0 u1 u2 u3 v2 z0 z1 z3 t0 t1 t2 t3)))
  have HR3 : Hid (BlkAt (w2.setCell ⟨w.heap.size, 2, none⟩ (.slice a2 x.l.length c2)) (w.heap.size + 1) #[.int .i64 0, .slice none 0 0, .slice none 0 0, .int .i64 0] 25) := Lib.hid ((HR2.out.kept (F := fun _ => False) HQ2.out id).other (b' := w.heap.size) (by omega) 2 _)
  have hsz2 : w1.heap.size ≤ w2.heap.size := Nat.le_trans HKS.out.size HQ2.out.size
  have hs1 : w.heap.size + 2 ≤ w1.heap.size := by have := HR2.out.lt; have := HKS.out.size; first | (simp; done) | (simp; omega) | omega | (have h := HR1.out.lt; omega)
  have HSZ := Lib.hid (And.intro hsz2 hs1)
  clear b2 z2 hsz2 hs1
  rcases HJ.out.2.2 with h0 | ⟨g, cur, rfl, hg, hb, hl, hsz⟩
  · have e0 : decide (0 < x.l.length) = false := by rw [h0]; rfl
    have e1 : decide ((0 : Int) < (x.l.length : Int)) = false := by rw [h0]; rfl
    have H0 := Lib.hid h0
    clear h0
    have r0 := HR3.out.cell 0
    have r1 := HR3.out.cell 1
    have r2 := HR3.out.cell 2
    have r3 := HR3.out.cell 3
    simp at r0 r1 r2 r3
    have y0 := HR3.out.frozen 0
    have y1 := HR3.out.frozen 1
    have y2 := HR3.out.frozen 2
    have y3 := HR3.out.frozen 3
    go_loopw [20] (fun v wr => v = .int .i64 0 ∧ wr = (w2.setCell ⟨w.heap.size, 2, none⟩ (.slice a2 x.l.length c2))) (fun _ _ => 0)
    case atStart => exact ⟨rfl, rfl⟩
    case round =>
      obtain ⟨rfl, rfl⟩ := hrel
      go_wp2_with fail
      have G := (((HR3.out.put 0 (.int .i64 x.kind)).put 1 (.slice ap x.names.length cp)).put 2 (.slice a2 x.l.length c2)).put 3 (.int .i64 x.r)
      have q0 := G.cell 0
      have q1 := G.cell 1
      have q2 := G.cell 2
      have q3 := G.cell 3
      simp at q0 q1 q2 q3
      refine bodyPost_ret (v := .agg #[.int .i64 x.kind, (.slice ap x.names.length cp), .slice a2 x.l.length c2, .int .i64 x.r]) (by simp [results, Tryz.results27, go_sem, q0, q1, q2, q3]) rfl ?_
      have e := List.length_eq_zero_iff.1 H0.out
      have em : x.l.map F = [] := by rw [e]; rfl
      have el : x.l.length = (x.l.map F).length := by rw [List.length_map]
      rw [el]
      have j1 := HJ.out.1
      have j2 := HJ.out.2.1
      refine PlR.of (p := x) (S := w1.heap.size) (w1 := w1) (G := fun b => b = w.heap.size) HP.out (Nat.le_refl _) (by have := HSZ.out.2; omega) HN1.out HQ1.out (fun b e => .inl e) ?_ ?_ ?_
      · rw [← el]
        exact (HKS.out.trans HQ2.out.any).set (p := ⟨w.heap.size, 2, none⟩) rfl _
      · rw [em]
        unfold LiesU
        refine ⟨_, _, [], rfl, Nat.zero_le _, j2, rfl, .nil, .inl rfl⟩
      · rw [← el]
        exact HR3.out.lt
  · have hgw : w1.heap.size ≤ g := by have := HKS.out.size; have hg' := hg; omega
    have hgB : g ≠ w.heap.size := by have := HSZ.out.2; omega
    have HQD : Hid (∀ b, (P b ∧ b ≠ w.heap.size ∧ b ≠ w.heap.size + 1 ∧ b ≠ g) → b ≠ g) := Lib.hid (fun b q => q.2.2.2)
    have HG0 : Hid (PlI (fun b => P b ∧ b ≠ w.heap.size ∧ b ≠ w.heap.size + 1 ∧ b ≠ g) F g x.l.length x.l (w2.setCell ⟨w.heap.size, 2, none⟩ (.slice (some ⟨g, 0, none⟩) x.l.length c2)) (w2.setCell ⟨w.heap.size, 2, none⟩ (.slice (some ⟨g, 0, none⟩) x.l.length c2)) 0) := Lib.hid ⟨⟨cur, [], _, hb.other hgB 2 _, rfl, by rw [List.take_zero]; exact .nil, by
      rw [List.drop_zero]
      exact hl.thru ((Kept.refl (fun b => b = w.heap.size) w2).set (p := ⟨w.heap.size, 2, none⟩) rfl _) (fun b q _ e => q.2.1 e) (fun b q _ => ⟨q.1, q.2.1, q.2.2.1, by have := q.2.2.2; omega⟩)⟩, Kept.refl _ _⟩
    have HCP := Lib.hid (And.intro HJ.out.1 HJ.out.2.1)
    clear hb hl hsz hg HJ
    go_loopw [20] (fun v wr => ∃ i : Nat, v = .int .i64 i ∧ i ≤ x.l.length ∧ Hid (PlI (fun b => P b ∧ b ≠ w.heap.size ∧ b ≠ w.heap.size + 1 ∧ b ≠ g) F g x.l.length x.l (w2.setCell ⟨w.heap.size, 2, none⟩ (.slice (some ⟨g, 0, none⟩) x.l.length c2)) wr i)) (fun v _ => x.l.length - (intOf v).toNat)
    case atStart => exact ⟨0, rfl, Nat.zero_le _, HG0⟩
    case round =>
      obtain ⟨i, rfl, hi, hst⟩ := hrel
      clear x0 x1 x2 x3 HG0
      have HB5 : Hid (BlkAt wr w.heap.size #[.int .i64 x.kind, (.slice ap x.names.length cp), .slice (some ⟨g, 0, none⟩) x.l.length c2, .int .i64 x.r] 25) := Lib.hid (HB4.out.kept hst.out.kept hgB)
      have hgR : g ≠ w.heap.size + 1 := by have := HSZ.out.2; omega
      by_cases hlt : i < x.l.length
      · obtain ⟨e, he⟩ : ∃ e, x.l[i]? = some e := ⟨_, List.getElem?_eq_getElem hlt⟩
        obtain ⟨cu, us, rest, ax, cx, ay, cy, hb, hul, hct, hl1, hl2, ht1, ht2, e0, e1, e2, e3⟩ := hst.out.at he hlt
        have hix := ix_type g x.l.length c2 i hlt
        have HE := Lib.hid (And.intro hb (And.intro hul (And.intro hct (And.intro hl1 hl2))))
        have HX := Lib.hid (And.intro ht1 ht2)
        clear hb hul hct hl1 hl2 ht1 ht2
        have hgl : g < wr.heap.size := HE.out.1.lt
        have q0 : Kept (fun _ => False) (wr.alloc (.cells #[.int .i64 e.kind, .slice ax e.names.length cx, .slice ay e.l.length cy, .int .i64 e.r] 25)) (wr.alloc (.cells #[.int .i64 e.kind, .slice ax e.names.length cx, .slice ay e.l.length cy, .int .i64 e.r] 25)).drew := (Kept.refl _ _).drew
        have HCB := Lib.hid (BlkAt.new wr #[.int .i64 e.kind, .slice ax e.names.length cx, .slice ay e.l.length cy, .int .i64 e.r] 25)
        have HB6 := Lib.hid (HB5.out.kept (F := fun _ => False) ((Kept.refl _ _).new (.cells #[.int .i64 e.kind, .slice ax e.names.length cx, .slice ay e.l.length cy, .int .i64 e.r] 25)) id)
        have hgc : wr.heap.size ≠ g := by omega
        have HW : Hid (∀ w', Kept (fun _ => False) (wr.alloc (.cells #[.int .i64 e.kind, .slice ax e.names.length cx, .slice ay e.l.length cy, .int .i64 e.r] 25)) w' → w'.cell? ⟨w.heap.size, 2, none⟩ = some (.slice (some ⟨g, 0, none⟩) x.l.length c2) ∧ w'.cell? ⟨wr.heap.size, 0, none⟩ = some (.int .i64 e.kind) ∧ w'.cell? ⟨wr.heap.size, 1, none⟩ = some (.slice ax e.names.length cx) ∧ w'.cell? ⟨wr.heap.size, 2, none⟩ = some (.slice ay e.l.length cy) ∧ w'.cell? ⟨wr.heap.size, 3, none⟩ = some (.int .i64 e.r)) := Lib.hid (fun w' k' => by
          have B := HB6.out.kept (F := fun _ => False) k' id
          have C := HCB.out.kept (F := fun _ => False) k' id
          exact ⟨B.cell 2, C.cell 0, C.cell 1, C.cell 2, C.cell 3⟩)
        have HWS : Hid (∀ w' v0 v1 v2 v3, Kept (fun _ => False) (wr.alloc (.cells #[.int .i64 e.kind, .slice ax e.names.length cx, .slice ay e.l.length cy, .int .i64 e.r] 25)) w' → (fun w' : World => w'.cell? ⟨w.heap.size, 2, none⟩ = some (.slice (some ⟨g, 0, none⟩) x.l.length c2) ∧ w'.cell? ⟨wr.heap.size, 0, none⟩ = some (.int .i64 e.kind) ∧ w'.cell? ⟨wr.heap.size, 1, none⟩ = some (.slice ax e.names.length cx) ∧ w'.cell? ⟨wr.heap.size, 2, none⟩ = some (.slice ay e.l.length cy) ∧ w'.cell? ⟨wr.heap.size, 3, none⟩ = some (.int .i64 e.r)) ((((w'.setCell ⟨g, i * 4, none⟩ v0).setCell ⟨g, i * 4 + 1, none⟩ v1).setCell ⟨g, i * 4 + 2, none⟩ v2).setCell ⟨g, i * 4 + 3, none⟩ v3)) := Lib.hid (fun w' v0 v1 v2 v3 k' => by
          have B := ((((HB6.out.kept (F := fun _ => False) k' id).other hgB.symm (i * 4) v0).other hgB.symm (i * 4 + 1) v1).other hgB.symm (i * 4 + 2) v2).other hgB.symm (i * 4 + 3) v3
          have C := ((((HCB.out.kept (F := fun _ => False) k' id).other hgc (i * 4) v0).other hgc (i * 4 + 1) v1).other hgc (i * 4 + 2) v2).other hgc (i * 4 + 3) v3
          exact ⟨B.cell 2, C.cell 0, C.cell 1, C.cell 2, C.cell 3⟩)
        have HE0 := Lib.hid (And.intro e0 (And.intro e1 (And.intro e2 e3)))
        have E0 := Lib.hid (HW.out _ q0)
        have hck : PlvAt e (F e) := HI.out e (List.mem_of_getElem? he)
        obtain ⟨f, hf⟩ : ∃ f, f = F e := ⟨_, rfl⟩
        rw [← hf] at hck
        have HCK := Lib.hid hck
        have HFF := Lib.hid hf
        have hwz : w.heap.size ≤ wr.heap.size := by have := HB5.out.lt; omega
        have HWZ := Lib.hid hwz
        have HLT : Hid (i + 1 ≤ x.l.length) := Lib.hid hlt
        clear hck hf hwz
        go_wp2_with fail
        clear e0 e1 e2 e3
        go_region_held3 (fun w' => w'.cell? ⟨w.heap.size, 2, none⟩ = some (.slice (some ⟨g, 0, none⟩) x.l.length c2) ∧ w'.cell? ⟨wr.heap.size, 0, none⟩ = some (.int .i64 e.kind) ∧ w'.cell? ⟨wr.heap.size, 1, none⟩ = some (.slice ax e.names.length cx) ∧ w'.cell? ⟨wr.heap.size, 2, none⟩ = some (.slice ay e.l.length cy) ∧ w'.cell? ⟨wr.heap.size, 3, none⟩ = some (.int .i64 e.r))
          (first | exact E0.out | exact HW.out _ q0 | exact HWS.out _ _ _ _ _ q0)
          (first
            | (go_at_call 27
               have QZ := q0.size
               rw [World.size_alloc] at QZ
               have K0 : Kept (fun _ => False) wr _ := ((Kept.refl _ _).new (.cells #[.int .i64 e.kind, .slice ax e.names.length cx, .slice ay e.l.length cy, .int .i64 e.r] 25)).trans q0
               refine (HCK.out (fun b => P b ∧ b ≠ w.heap.size ∧ b ≠ w.heap.size + 1 ∧ b ≠ g) ax cx ay cy _ (fun b hb => ⟨HP.out b (by have := HWZ.out; omega), by have := HWZ.out; omega, by have := HB5.out.lt; have := HSZ.out.2; have := HSZ.out.1; have := hgl; omega, by omega⟩) (HX.out.1.thru K0 (fun _ _ _ e => e) (fun _ q _ => q)) (HX.out.2.thru K0 (fun _ _ _ e => e) (fun _ q _ => q))).mono ?_; rintro y w3 ⟨ap2, cp2, aq2, cq2, rfl, n1, n2, k3⟩
               have HN3 := Lib.hid n1
               have HT3 := Lib.hid n2
               replace q0 : Kept (fun _ => False) (wr.alloc (.cells #[.int .i64 e.kind, .slice ax e.names.length cx, .slice ay e.l.length cy, .int .i64 e.r] 25)) w3 := q0.trans k3
               have K3 : Kept (fun _ => False) wr w3 := ((Kept.refl _ _).new (.cells #[.int .i64 e.kind, .slice ax e.names.length cx, .slice ay e.l.length cy, .int .i64 e.r] 25)).trans q0
               have f0 := (K3.cell1 (World.block_lt_of_cell? wr _ HE0.out.1)).trans HE0.out.1
               have f1 := (K3.cell1 (World.block_lt_of_cell? wr _ HE0.out.2.1)).trans HE0.out.2.1
               have f2 := (K3.cell1 (World.block_lt_of_cell? wr _ HE0.out.2.2.1)).trans HE0.out.2.2.1
               have f3 := (K3.cell1 (World.block_lt_of_cell? wr _ HE0.out.2.2.2)).trans HE0.out.2.2.2
               have HG3 := Lib.hid (HE.out.1.kept (F := fun _ => False) K3 id)
               have z0 := HG3.out.frozen (i * 4)
               have z1 := HG3.out.frozen (i * 4 + 1)
               have z2 := HG3.out.frozen (i * 4 + 2)
               have z3 := HG3.out.frozen (i * 4 + 3)
               have HK3 := Lib.hid K3
               clear n1 n2 k3 K3 K0 QZ E0))
        all_goals go_wp2_with fail
        all_goals exact ⟨⟨i + 1, by go_num, HLT.out, Lib.hid (PlI.step he HFF.out.symm HQD.out hst.out.kept HK3.out hgl HE.out.1 HE.out.2.1 HE.out.2.2.1 HE.out.2.2.2.1 HE.out.2.2.2.2 HN3.out HT3.out)⟩, by have hlt := HLT.out; simp [intOf]; omega⟩
      · have hke : i = x.l.length := by omega
        subst hke
        have HR5 : Hid (BlkAt wr (w.heap.size + 1) #[.int .i64 0, .slice none 0 0, .slice none 0 0, .int .i64 0] 25) := Lib.hid (HR3.out.kept hst.out.kept hgR)
        obtain ⟨x0, x1, x2, x3⟩ := box4_cells HB5.out
        have r0 := HR5.out.cell 0
        have r1 := HR5.out.cell 1
        have r2 := HR5.out.cell 2
        have r3 := HR5.out.cell 3
        simp at r0 r1 r2 r3
        have y0 := HR5.out.frozen 0
        have y1 := HR5.out.frozen 1
        have y2 := HR5.out.frozen 2
        have y3 := HR5.out.frozen 3
        go_wp2_with fail
        have G := (((HR5.out.put 0 (.int .i64 x.kind)).put 1 (.slice ap x.names.length cp)).put 2 (.slice (some ⟨g, 0, none⟩) x.l.length c2)).put 3 (.int .i64 x.r)
        have q0 := G.cell 0
        have q1 := G.cell 1
        have q2 := G.cell 2
        have q3 := G.cell 3
        simp at q0 q1 q2 q3
        refine bodyPost_ret (v := .agg #[.int .i64 x.kind, (.slice ap x.names.length cp), .slice (some ⟨g, 0, none⟩) x.l.length c2, .int .i64 x.r]) (by simp [results, Tryz.results27, go_sem, q0, q1, q2, q3]) rfl ?_
        have el : x.l.length = (x.l.map F).length := by rw [List.length_map]
        have hdone := hst.out.done (P := fun b => P b ∧ b ≠ w.heap.size + 1) rfl HCP.out.1 HCP.out.2 ⟨HP.out g (by have := HSZ.out.2; omega), hgR⟩ (fun b q => ⟨q.1, q.2.2.1⟩)
        have hkr : Kept (fun b => b = w.heap.size ∨ g = b) w1 wr := (((HKS.out.trans HQ2.out.any).set (p := ⟨w.heap.size, 2, none⟩) rfl (.slice (some ⟨g, 0, none⟩) x.l.length c2)).mono (fun b e => .inl e)).trans (hst.out.kept.mono (fun b e => .inr e))
        have hfin := PlR.of (p := x) (S := w1.heap.size) (w1 := w1) (G := fun b => b = w.heap.size ∨ g = b) HP.out (Nat.le_refl _) (by have := HSZ.out.2; omega) HN1.out HQ1.out (fun b e => by rcases e with e | e; exact .inl e; exact .inr (.inr (by omega))) hkr hdone HR5.out.lt
        rw [el]
        exact hfin
end Go.Proofs.YtikgkjkgdlnekaaGreatDoor
