/- value: texts. -/
import Derived.Test.YtikgkjkgdlnekaaGreatDoorVbT4
import Derived.Deep.RegionLaw
import Derived.Deep.AppendLies
set_option linter.unusedVariables false
set_option linter.unusedSimpArgs false
namespace Go.Proofs.YtikgkjkgdlnekaaGreatDoor
open Go.RowKit
open Lex Ct

def TabW (w : World) : Prop := Tabs w ∧ Tab2 w
theorem TabW.kept {w w' : World} (h : TabW w) (k : Kept (fun _ => False) w w') : TabW w' := ⟨tabIs_kept h.1 k, tabIs_kept h.2 k⟩
/-- A value's text. -/
def TextOf (u : Ty) (x : Vl) (b : ByteArray) : Prop := ∀ (an : Option Addr) (cn : Nat) (al : Option Addr) (cl : Nat) (sa : Option Addr) (sc : Nat) (av : Option Addr) (cv : Nat) (w : World), TyAt w u an cn al cl → VlAt w x sa sc av cv → TabW w →
  Calls Tryz.prog 32 #[tyV u an cn al cl, vlV x sa sc av cv] w (TxtR b w)
def TxsR (bs : List ByteArray) (w : World) (y : Ending) (w' : World) : Prop := ∃ sv, y = .returned sv ∧ w'.ownsRow w.heap.size 9 1 sv bs.length (bs.map .string) ∧ Kept (fun _ => False) w w'
theorem ownsRow_low {w : World} {B C : Nat} {T : TypeId} {m n : Nat} {v : Value} {vs : List Value} (h : w.ownsRow C T m v n vs) (hB : B ≤ C) : w.ownsRow B T m v n vs := by
  refine ⟨h.1, ?_⟩
  rcases h.2 with h2 | ⟨g, cap, cur, e, hb, r⟩
  · exact .inl h2
  · exact .inr ⟨g, cap, cur, e, Nat.le_trans hB hb, r⟩
set_option maxRecDepth 100000 in
set_option maxHeartbeats 8000000 in
theorem rdTexts (t : Ty) (an : Option Addr) (cn : Nat) (al : Option Addr) (cl : Nat) (v : Vl) (sa : Option Addr) (sc : Nat) (av : Option Addr) (cv : Nat) (w : World) (h : TyAt w t an cn al cl) (hv : VlAt w v sa sc av cv) (htab : TabW w) (hlv : v.l.length ≤ 20000) (bs : List ByteArray) (hlen : bs.length = v.l.length)
    (IH : Hid (∀ (i : Nat) (x : Vl) (b : ByteArray), v.l[i]? = some x → bs[i]? = some b → ∃ u, witO t v.n i = some u ∧ TextOf u x b)) :
    Calls Tryz.prog 55 #[tyV t an cn al cl, vlV v sa sc av cv] w (TxsR bs w) := by
  have k0 : Kept (fun _ => False) w ((w.alloc (.cells #[.int .i64 t.kind, .slice an t.names.length cn, .slice al t.l.length cl, .int .i64 t.r] 25)).alloc (.cells #[.int .i64 v.n, .slice sa v.s.length sc, .slice av v.l.length cv] 29)) := ((Kept.refl _ _).new _).new _
  have T0 := (BlkAt.new w #[.int .i64 t.kind, .slice an t.names.length cn, .slice al t.l.length cl, .int .i64 t.r] 25).kept (F := fun _ => False) ((Kept.refl _ _).new (.cells #[.int .i64 v.n, .slice sa v.s.length sc, .slice av v.l.length cv] 29)) id
  have V0 := BlkAt.new (w.alloc (.cells #[.int .i64 t.kind, .slice an t.names.length cn, .slice al t.l.length cl, .int .i64 t.r] 25)) #[.int .i64 v.n, .slice sa v.s.length sc, .slice av v.l.length cv] 29
  rw [World.size_alloc] at V0
  have HT := Lib.hid T0
  have HV := Lib.hid V0
  have HK := Lib.hid k0
  have HTY := Lib.hid (h.kept k0)
  have HVR := Lib.hid ((hv.kept k0).row)
  have HTB := Lib.hid (htab.kept k0)
  have HLN := Lib.hid hlen
  obtain ⟨i0, hi0, hz0, hz1, hz2⟩ := info_text
  have HB := Lib.hid (And.intro hz0 (And.intro hz1 hz2))
  clear hz0 hz1 hz2 h hv htab hlen k0 T0 V0
  go_enter Tryz.func55, Tryz.ntmps55
  go_wp2_with fail
  go_loopw [5, 11] (fun sv u wr => ∃ i : Nat, u = .int .i64 i ∧ i ≤ v.l.length ∧ Hid (Kept (fun _ => False) ((w.alloc (.cells #[.int .i64 t.kind, .slice an t.names.length cn, .slice al t.l.length cl, .int .i64 t.r] 25)).alloc (.cells #[.int .i64 v.n, .slice sa v.s.length sc, .slice av v.l.length cv] 29)) wr ∧ wr.ownsRow ((w.alloc (.cells #[.int .i64 t.kind, .slice an t.names.length cn, .slice al t.l.length cl, .int .i64 t.r] 25)).alloc (.cells #[.int .i64 v.n, .slice sa v.s.length sc, .slice av v.l.length cv] 29)).heap.size 9 1 sv i ((bs.take i).map .string))) (fun _ u _ => v.l.length - (intOf u).toNat)
  case atStart => exact ⟨0, rfl, Nat.zero_le _, Lib.hid ⟨Kept.refl _ _, World.ownsRow_nil _ _ _ _⟩⟩
  case round =>
    obtain ⟨i, rfl, hi, hst⟩ := hrel
    by_cases hlt : i < v.l.length
    · obtain ⟨x, hx⟩ : ∃ x, v.l[i]? = some x := ⟨_, List.getElem?_eq_getElem hlt⟩
      obtain ⟨b, hb⟩ : ∃ b, bs[i]? = some b := ⟨_, List.getElem?_eq_getElem (by have := HLN.out; omega)⟩
      obtain ⟨u, hu, htx⟩ := IH.out i x b hx hb
      obtain ⟨g, o, ax, cx, ay, cy, rfl, hgl, hvx, c0, c1, c2⟩ := (HVR.out.kept hst.out.1).at hx
      obtain ⟨a5, c5, rfl⟩ := own_slice hst.out.2
      have HVX := Lib.hid hvx
      have kx : Kept (fun _ => False) wr (wr.alloc (.cells #[.int .i64 x.n, .slice ax x.s.length cx, .slice ay x.l.length cy] 29)) := (Kept.refl _ _).new _
      have HKX := Lib.hid kx
      have q0 : Kept (fun _ => False) (wr.alloc (.cells #[.int .i64 x.n, .slice ax x.s.length cx, .slice ay x.l.length cy] 29)) (wr.alloc (.cells #[.int .i64 x.n, .slice ax x.s.length cx, .slice ay x.l.length cy] 29)).drew := (Kept.refl _ _).drew
      have hW0s : ((w.alloc (.cells #[.int .i64 t.kind, .slice an t.names.length cn, .slice al t.l.length cl, .int .i64 t.r] 25)).alloc (.cells #[.int .i64 v.n, .slice sa v.s.length sc, .slice (some ⟨g, o, none⟩) v.l.length cv] 29)).heap.size = w.heap.size + 1 + 1 := by rw [World.size_alloc, World.size_alloc]
      have HW : Hid (∀ w', Kept (fun b => ((w.alloc (.cells #[.int .i64 t.kind, .slice an t.names.length cn, .slice al t.l.length cl, .int .i64 t.r] 25)).alloc (.cells #[.int .i64 v.n, .slice sa v.s.length sc, .slice (some ⟨g, o, none⟩) v.l.length cv] 29)).heap.size ≤ b ∧ b < wr.heap.size) (wr.alloc (.cells #[.int .i64 x.n, .slice ax x.s.length cx, .slice ay x.l.length cy] 29)) w' → w'.cell? ⟨w.heap.size, 0, none⟩ = some (.int .i64 t.kind) ∧ w'.cell? ⟨w.heap.size, 1, none⟩ = some (.slice an t.names.length cn) ∧ w'.cell? ⟨w.heap.size, 2, none⟩ = some (.slice al t.l.length cl) ∧ w'.cell? ⟨w.heap.size, 3, none⟩ = some (.int .i64 t.r) ∧ w'.cell? ⟨w.heap.size + 1, 0, none⟩ = some (.int .i64 v.n) ∧ w'.cell? ⟨w.heap.size + 1, 1, none⟩ = some (.slice sa v.s.length sc) ∧ w'.cell? ⟨w.heap.size + 1, 2, none⟩ = some (.slice (some ⟨g, o, none⟩) v.l.length cv) ∧ w'.cell? ⟨wr.heap.size, 0, none⟩ = some (.int .i64 x.n) ∧ w'.cell? ⟨wr.heap.size, 1, none⟩ = some (.slice ax x.s.length cx) ∧ w'.cell? ⟨wr.heap.size, 2, none⟩ = some (.slice ay x.l.length cy)) := Lib.hid (fun w' k' => by
        have A := ((HT.out.kept (F := fun _ => False) hst.out.1 id).kept (F := fun _ => False) kx id).kept k' (by omega)
        have B := ((HV.out.kept (F := fun _ => False) hst.out.1 id).kept (F := fun _ => False) kx id).kept k' (by omega)
        have C := (BlkAt.new wr #[.int .i64 x.n, .slice ax x.s.length cx, .slice ay x.l.length cy] 29).kept k' (by omega)
        exact ⟨A.cell 0, A.cell 1, A.cell 2, A.cell 3, B.cell 0, B.cell 1, B.cell 2, C.cell 0, C.cell 1, C.cell 2⟩)
      have E0 := Lib.hid (HW.out _ q0.any)
      have HWI : Hid (∀ w', Kept (fun _ => False) wr w' → Calls Tryz.prog 43 #[tyV t an cn al cl, vlV v sa sc (some ⟨g, o, none⟩) cv, .int .i64 (i : Int)] w' (TyR AnyB u w')) := Lib.hid (fun w' k' => rdWithin AnyB t an cn al cl v sa sc _ cv i u w' ⟨(HTY.out.kept (hst.out.1.trans k')).n, (HTY.out.kept (hst.out.1.trans k')).l⟩ hu)
      have HTX : Hid (∀ ap cp aq cq w', Kept (fun _ => False) wr w' → TyAt w' u ap cp aq cq → Calls Tryz.prog 32 #[tyV u ap cp aq cq, vlV x ax cx ay cy] w' (TxtR b w')) := Lib.hid (fun ap cp aq cq w' k' h' => htx ap cp aq cq ax cx ay cy w' h' (hvx.kept k') (HTB.out.kept (hst.out.1.trans k')))
      unfold TyR at HWI
      unfold TxtR at HTX
      have HLT : Hid (i + 1 ≤ v.l.length) := Lib.hid hlt
      have HTK : Hid ((bs.take (i + 1)).map Value.string = (bs.take i).map Value.string ++ [Value.string b]) := Lib.hid (by rw [List.take_add_one, hb, Option.toList_some, List.map_append]; rfl)
      have hwi : IntKind.i64.wrap ((i : Int) + 1) = ((i + 1 : Nat) : Int) := by rw [IntKind.wrap_i64]; omega
      have q3 : i + 1 ≤ maxLen := by unfold maxLen; omega
      have q5 : (i + 1) * 16 ≤ 140737488355328 := by omega
      have HQ := Lib.hid (And.intro q3 q5)
      have hltI : ((i : Int) < (v.l.length : Int)) = True := by simp; omega
      clear hx hb hu htx hvx hgl kx q3 q5 hlt hW0s
      go_wp2_with fail
      clear c0 c1 c2
      go_region_held3 (fun w' => w'.cell? ⟨w.heap.size, 0, none⟩ = some (.int .i64 t.kind) ∧ w'.cell? ⟨w.heap.size, 1, none⟩ = some (.slice an t.names.length cn) ∧ w'.cell? ⟨w.heap.size, 2, none⟩ = some (.slice al t.l.length cl) ∧ w'.cell? ⟨w.heap.size, 3, none⟩ = some (.int .i64 t.r) ∧ w'.cell? ⟨w.heap.size + 1, 0, none⟩ = some (.int .i64 v.n) ∧ w'.cell? ⟨w.heap.size + 1, 1, none⟩ = some (.slice sa v.s.length sc) ∧ w'.cell? ⟨w.heap.size + 1, 2, none⟩ = some (.slice (some ⟨g, o, none⟩) v.l.length cv) ∧ w'.cell? ⟨wr.heap.size, 0, none⟩ = some (.int .i64 x.n) ∧ w'.cell? ⟨wr.heap.size, 1, none⟩ = some (.slice ax x.s.length cx) ∧ w'.cell? ⟨wr.heap.size, 2, none⟩ = some (.slice ay x.l.length cy))
        (first | exact E0.out | exact HW.out _ q0.any | exact HW.out _ (q0.any.new _) | exact HW.out _ Q6.out)
        (first
          | (go_at_call 32
             refine (HTX.out ap cp aq cq _ (HKX.out.trans q0) HUP.out).mono ?_
             rintro y w5 ⟨rfl, k5⟩
             replace q0 : Kept (fun _ => False) (wr.alloc (.cells #[.int .i64 x.n, .slice ax x.s.length cx, .slice ay x.l.length cy] 29)) w5 := q0.trans k5
             have HK5 := Lib.hid (HKX.out.trans q0)
             clear k5)
          | (go_at_call 43
             refine (HWI.out _ (HKX.out.trans q0)).mono ?_
             rintro y w4 ⟨ap, cp, aq, cq, rfl, h4, k4⟩
             replace q0 : Kept (fun _ => False) (wr.alloc (.cells #[.int .i64 x.n, .slice ax x.s.length cx, .slice ay x.l.length cy] 29)) w4 := q0.trans k4
             have HUP : Hid (TyAt w4 u ap cp aq cq) := Lib.hid ⟨h4.n, h4.l⟩
             clear h4 k4 E0)
          | (refine step_append_lies _ (by rfl) _ _ 22 (by rfl) ((w.alloc (.cells #[.int .i64 t.kind, .slice an t.names.length cn, .slice al t.l.length cl, .int .i64 t.r] 25)).alloc (.cells #[.int .i64 v.n, .slice sa v.s.length sc, .slice (some ⟨g, o, none⟩) v.l.length cv] 29)).heap.size 9 i0 (.string ByteArray.empty) 1 16 Tryz.underlying22 hi0 HB.out.1 HB.out.2.1 HB.out.2.2 rfl (by decide) (.slice a5 i c5) i ((bs.take i).map .string) (by rfl) (World.ownsRow.alloc (ownsRow_kept hst.out.2 HK5.out (fun _ _ e => e)) _) ⟨w5.heap.size, 0, none⟩ 1 1 [.string b] (by rfl) (by rfl) (newsW w5 _ [.string b]) (by simp [Value.oneCell']) (by decide) HQ.out.1 HQ.out.2 (le_alloc (Nat.le_trans hst.out.1.size HK5.out.size)) (w5.heap.size + 1) (World.size_alloc _ _) ?_
             intro g6 cap6 w6 hown6 hgrow hat6 hlt6
             have kg : Kept (((w.alloc (.cells #[.int .i64 t.kind, .slice an t.names.length cn, .slice al t.l.length cl, .int .i64 t.r] 25)).alloc (.cells #[.int .i64 v.n, .slice sa v.s.length sc, .slice (some ⟨g, o, none⟩) v.l.length cv] 29)).heap.size ≤ ·) w5 w6 := ((Kept.refl _ w5).new _).trans ((Kept.grow hgrow).mono (fun b e => (own_lt hst.out.2 b e.symm).1))
             have K6 : Kept (fun _ => False) ((w.alloc (.cells #[.int .i64 t.kind, .slice an t.names.length cn, .slice al t.l.length cl, .int .i64 t.r] 25)).alloc (.cells #[.int .i64 v.n, .slice sa v.s.length sc, .slice (some ⟨g, o, none⟩) v.l.length cv] 29)) w6 := (((hst.out.1.trans HK5.out).any (F := (((w.alloc (.cells #[.int .i64 t.kind, .slice an t.names.length cn, .slice al t.l.length cl, .int .i64 t.r] 25)).alloc (.cells #[.int .i64 v.n, .slice sa v.s.length sc, .slice (some ⟨g, o, none⟩) v.l.length cv] 29)).heap.size ≤ ·))).trans kg).clear (fun b hb e => by have e : ((w.alloc (.cells #[.int .i64 t.kind, .slice an t.names.length cn, .slice al t.l.length cl, .int .i64 t.r] 25)).alloc (.cells #[.int .i64 v.n, .slice sa v.s.length sc, .slice (some ⟨g, o, none⟩) v.l.length cv] 29)).heap.size ≤ b := e; omega)
             have HST : Hid (Kept (fun _ => False) ((w.alloc (.cells #[.int .i64 t.kind, .slice an t.names.length cn, .slice al t.l.length cl, .int .i64 t.r] 25)).alloc (.cells #[.int .i64 v.n, .slice sa v.s.length sc, .slice (some ⟨g, o, none⟩) v.l.length cv] 29)) w6 ∧ w6.ownsRow ((w.alloc (.cells #[.int .i64 t.kind, .slice an t.names.length cn, .slice al t.l.length cl, .int .i64 t.r] 25)).alloc (.cells #[.int .i64 v.n, .slice sa v.s.length sc, .slice (some ⟨g, o, none⟩) v.l.length cv] 29)).heap.size 9 1 (.slice (some ⟨g6, 0, none⟩) (i + 1) cap6) (i + 1) ((bs.take (i + 1)).map .string)) := Lib.hid ⟨K6, by rw [HTK.out]; exact hown6⟩
             have Q6 : Hid (Kept (fun b => ((w.alloc (.cells #[.int .i64 t.kind, .slice an t.names.length cn, .slice al t.l.length cl, .int .i64 t.r] 25)).alloc (.cells #[.int .i64 v.n, .slice sa v.s.length sc, .slice (some ⟨g, o, none⟩) v.l.length cv] 29)).heap.size ≤ b ∧ b < wr.heap.size) (wr.alloc (.cells #[.int .i64 x.n, .slice ax x.s.length cx, .slice ay x.l.length cy] 29)) w6) := Lib.hid ((q0.any.new _).trans ((Kept.grow hgrow).mono (fun b e => own_lt hst.out.2 b e.symm)))
             clear hown6 hgrow hat6 hlt6 kg K6))
      all_goals go_wp2_with fail
      all_goals exact ⟨⟨i + 1, by first | rw [hwi] | rfl, HLT.out, HST⟩, by have hlt := HLT.out; simp [intOf]; omega⟩
    · have he : i = v.l.length := by omega
      have hltI : decide (i < v.l.length) = false := decide_eq_false hlt
      have HO := Lib.hid hst.out.2
      have HKE := Lib.hid (HK.out.trans hst.out.1)
      have hbl : bs.length = i := by have := HLN.out; omega
      have HBL := Lib.hid hbl
      have HSZ : Hid (w.heap.size ≤ ((w.alloc (.cells #[.int .i64 t.kind, .slice an t.names.length cn, .slice al t.l.length cl, .int .i64 t.r] 25)).alloc (.cells #[.int .i64 v.n, .slice sa v.s.length sc, .slice av v.l.length cv] 29)).heap.size) := Lib.hid HK.out.size
      clear he hlt hbl
      go_wp2_with fail
      go_ret
      refine ⟨_, rfl, ?_, HKE.out⟩
      have := ownsRow_low HO.out HSZ.out
      rw [← HBL.out, List.take_length] at this
      exact this
end Go.Proofs.YtikgkjkgdlnekaaGreatDoor
