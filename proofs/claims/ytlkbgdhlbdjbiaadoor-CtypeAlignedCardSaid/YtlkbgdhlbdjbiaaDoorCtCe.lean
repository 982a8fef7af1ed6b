/- ctype: clone. -/
import Derived.Test.YtlkbgdhlbdjbiaaDoorCtCd
import Derived.Deep.RegionHeld3
set_option linter.unusedVariables false
set_option linter.unusedSimpArgs false
namespace Go.Proofs.YtlkbgdhlbdjbiaaDoor
open Go.RowKit
open Lex Ct

def cloK : Nat → Ty → Prop
  | 0, _ => False
  | k + 1, t => t.names.length ≤ 100 ∧ t.l.length ≤ 100 ∧ ∀ x ∈ t.l, cloK k x
/-- A clone, given: all that it leans on is new. -/
def CloR (t : Ty) (w : World) (y : Ending) (w' : World) : Prop := ∃ ap cp aq cq, y = .returned (tyV t ap cp aq cq) ∧ LiesU (w.heap.size ≤ ·) w' (strsU t.names) (.slice ap t.names.length cp) ∧ LiesU (w.heap.size ≤ ·) w' (tysU t.l) (.slice aq t.l.length cq) ∧ Kept (fun _ => False) w w'
def CloAt (k : Nat) : Prop := ∀ (t : Ty) (an : Option Addr) (cn : Nat) (al : Option Addr) (cl : Nat) (w : World), TyAt w t an cn al cl → cloK k t → Calls Tryd.prog 22 #[tyV t an cn al cl] w (CloR t w)
theorem put4 {L us rest : List Value} {m p : Nat} {a b c d a' b' c' d' : Value} (h : L.take m = us ++ ([a, b, c, d] ++ rest)) (hp : us.length = p) :
    ((((L.set p a').set (p + 1) b').set (p + 2) c').set (p + 3) d').take m = us ++ ([a', b', c', d'] ++ rest) := by
  subst hp
  rw [List.take_set, List.take_set, List.take_set, List.take_set, h]
  rw [List.set_append_right _ _ (Nat.le_refl _), List.set_append_right _ _ (by omega), List.set_append_right _ _ (by omega), List.set_append_right _ _ (by omega)]
  simp
/-- How far the loop is. -/
structure CloI (g n : Nat) (l : List Ty) (W2 : World) (wr : World) (i : Nat) : Prop where
  ex : ∃ cur us vs, BlkAt wr g cur 25 ∧ cur.toList.take (n * 4) = us ++ vs ∧ LiesL (g < ·) wr (encTys (l.take i)) us ∧ LiesL (· < g) wr (encTys (l.drop i)) vs
  kept : Kept (g = ·) W2 wr
theorem ix_type (b n cap k : Nat) (h : k < n) : ∀ W, (Instr.indexAt 23 (.slice (some ⟨b, 0, none⟩) n cap) (.int .i64 (k : Int))).run Tryd.prog W = .ok (.pointer (some ⟨b, k * 4, none⟩)) W := by
  intro W
  obtain ⟨ti, hi, hz, hs, hb⟩ := info_ty
  have hz : (Go.sizeOf 25).run Tryd.prog W = .ok 4 W := by simp [sizeOf, typeInfo, hi, hs]
  have he : Tryd.prog.elem 23 = 25 := by simp [Program.elem, Tryd.underlying23]
  rw [run_indexAt_slice W 23 ⟨b, 0, none⟩ n cap .i64 (k : Int) (by rw [he]; exact Tryd.underlying23), if_pos ⟨by omega, by omega⟩, he, hz]
  show Result.ok _ _ = _
  rw [Addr.add_lit, Int.toNat_natCast, Nat.zero_add]
/-- Element i, as it lies. -/
theorem CloI.at {g n : Nat} {l : List Ty} {W2 wr : World} {i : Nat} {x : Ty} (h : CloI g n l W2 wr i) (hx : l[i]? = some x) (hn : i < n) :
    ∃ cur us rest ax cx ay cy, BlkAt wr g cur 25 ∧ us.length = i * 4 ∧ cur.toList.take (n * 4) = us ++ ([.int .i64 x.kind, .slice ax x.names.length cx, .slice ay x.l.length cy, .int .i64 x.r] ++ rest) ∧ LiesL (g < ·) wr (encTys (l.take i)) us ∧ LiesL (· < g) wr (encTys (l.drop (i + 1))) rest ∧ TyAt wr x ax cx ay cy ∧
      wr.cell? ⟨g, i * 4, none⟩ = some (.int .i64 x.kind) ∧ wr.cell? ⟨g, i * 4 + 1, none⟩ = some (.slice ax x.names.length cx) ∧ wr.cell? ⟨g, i * 4 + 2, none⟩ = some (.slice ay x.l.length cy) ∧ wr.cell? ⟨g, i * 4 + 3, none⟩ = some (.int .i64 x.r) := by
  obtain ⟨cur, us, vs, h1, h2, h3, h4⟩ := h.ex
  have hd : l.drop i = x :: l.drop (i + 1) := by
    obtain ⟨hlt, e⟩ := List.getElem?_eq_some_iff.1 hx
    rw [List.drop_eq_getElem_cons hlt, e]
  rw [hd] at h4
  have e4 : encTys (x :: l.drop (i + 1)) = encTy x ++ encTys (l.drop (i + 1)) := rfl
  rw [e4] at h4
  obtain ⟨a4, rest, rfl, h5, h6⟩ := h4.split
  obtain ⟨ax, cx, ay, cy, rfl, ht⟩ := lies_ty h5
  have hul : us.length = i * 4 := by
    rw [h3.length, encTys_length, List.length_take]
    have := (List.getElem?_eq_some_iff.1 hx).1
    omega
  have hc : ∀ j u, ([.int .i64 x.kind, .slice ax x.names.length cx, .slice ay x.l.length cy, .int .i64 x.r] : List Value)[j]? = some u → wr.cell? ⟨g, i * 4 + j, none⟩ = some u := by
    intro j u hj
    have hj4 : j < 4 := by have := (List.getElem?_eq_some_iff.1 hj).1; simpa using this
    rw [h1.cell, ← Array.getElem?_toList, ← List.getElem?_take_of_lt (show i * 4 + j < n * 4 by omega), h2, ← hul, List.getElem?_append_right (Nat.le_add_right _ _), Nat.add_sub_cancel_left, List.getElem?_append_left (by simpa using hj4)]
    exact hj
  exact ⟨cur, us, rest, ax, cx, ay, cy, h1, hul, h2, h3, h6, ht, hc 0 _ rfl, hc 1 _ rfl, hc 2 _ rfl, hc 3 _ rfl⟩
/-- One element's clone, stored. -/
theorem CloI.step {g n : Nat} {l : List Ty} {W2 wr w3 : World} {i : Nat} {x : Ty} {cur : Array Value} {us rest : List Value} {ax ay ap aq : Option Addr} {cx cy cp cq : Nat} (hx : l[i]? = some x) (hk : Kept (g = ·) W2 wr) (k : Kept (fun _ => False) wr w3) (hgl : g < wr.heap.size)
    (hb : BlkAt wr g cur 25) (hul : us.length = i * 4) (h2 : cur.toList.take (n * 4) = us ++ ([.int .i64 x.kind, .slice ax x.names.length cx, .slice ay x.l.length cy, .int .i64 x.r] ++ rest)) (h3 : LiesL (g < ·) wr (encTys (l.take i)) us) (h4 : LiesL (· < g) wr (encTys (l.drop (i + 1))) rest)
    (hn : LiesU (wr.heap.size ≤ ·) w3 (strsU x.names) (.slice ap x.names.length cp)) (hl : LiesU (wr.heap.size ≤ ·) w3 (tysU x.l) (.slice aq x.l.length cq)) :
    CloI g n l W2 ((((w3.setCell ⟨g, i * 4, none⟩ (.int .i64 x.kind)).setCell ⟨g, i * 4 + 1, none⟩ (.slice ap x.names.length cp)).setCell ⟨g, i * 4 + 2, none⟩ (.slice aq x.l.length cq)).setCell ⟨g, i * 4 + 3, none⟩ (.int .i64 x.r)) (i + 1) := by
  have k4 : Kept (g = ·) w3 ((((w3.setCell ⟨g, i * 4, none⟩ (.int .i64 x.kind)).setCell ⟨g, i * 4 + 1, none⟩ (.slice ap x.names.length cp)).setCell ⟨g, i * 4 + 2, none⟩ (.slice aq x.l.length cq)).setCell ⟨g, i * 4 + 3, none⟩ (.int .i64 x.r)) :=
    ((((Kept.refl (g = ·) w3).set (p := ⟨g, i * 4, none⟩) rfl _).set (p := ⟨g, i * 4 + 1, none⟩) rfl _).set (p := ⟨g, i * 4 + 2, none⟩) rfl _).set (p := ⟨g, i * 4 + 3, none⟩) rfl _
  have b4 := ((((hb.kept (F := fun _ => False) k id).put (i * 4) (.int .i64 x.kind)).put (i * 4 + 1) (.slice ap x.names.length cp)).put (i * 4 + 2) (.slice aq x.l.length cq)).put (i * 4 + 3) (.int .i64 x.r)
  have kk : Kept (g = ·) wr _ := (k.any (F := (g = ·))).trans k4
  have hsz := k.size
  refine ⟨⟨_, us ++ [.int .i64 x.kind, .slice ap x.names.length cp, .slice aq x.l.length cq, .int .i64 x.r], rest, b4, ?_, ?_, h4.next (kk.agree fun b hb' _ e => by have hb' : b < g := hb'; have e : g = b := e; omega) kk.size (fun _ q _ => q)⟩, hk.trans kk⟩
  · simp only [Array.toList_setIfInBounds]
    rw [put4 h2 hul, List.append_assoc]
  · have et : l.take (i + 1) = l.take i ++ [x] := by rw [List.take_add_one, hx, Option.toList_some]
    rw [et, encTys_append, encTys_one]
    refine (h3.next (kk.agree fun b hb' _ e => by have hb' : g < b := hb'; have e : g = b := e; omega) kk.size (fun _ q _ => q)).append (ty_lies ?_ ?_)
    · exact LiesU.next (k4.agree fun b hb' _ e => by have hb' : wr.heap.size ≤ b := hb'; have e : g = b := e; omega) k4.size (fun b q _ => by have q : wr.heap.size ≤ b := q; show g < b; omega) hn
    · exact LiesU.next (k4.agree fun b hb' _ e => by have hb' : wr.heap.size ≤ b := hb'; have e : g = b := e; omega) k4.size (fun b q _ => by have q : wr.heap.size ≤ b := q; show g < b; omega) hl
end Go.Proofs.YtlkbgdhlbdjbiaaDoor
