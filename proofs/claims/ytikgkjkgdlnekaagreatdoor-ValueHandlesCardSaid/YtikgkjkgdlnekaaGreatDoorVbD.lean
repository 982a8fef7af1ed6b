/- value: plain: what its loop keeps; ctype.Plain, all new. -/
import Derived.Test.YtikgkjkgdlnekaaGreatDoorCtWC
set_option linter.unusedVariables false
set_option linter.unusedSimpArgs false
namespace Go.Proofs.YtikgkjkgdlnekaaGreatDoor
open Go.RowKit
open Lex Ct

namespace Ct
theorem deep_lens {k : Nat} {t : Ty} (h : deepK (k + 1) t = true) : t.names.length ≤ 64 ∧ t.l.length ≤ 64 ∧ (plainL t).length ≤ 64 := by
  have hf := deepK_fit h
  have hk := (deepK_kind h).1
  have h2 : t.names.length ≤ 64 ∧ t.l.length ≤ 64 := by
    rcases hf with e | e
    · omega
    · exact ⟨e.1, e.2.1⟩
  refine ⟨h2.1, h2.2, ?_⟩
  unfold plainL
  split
  · rw [List.length_replicate]; exact h2.1
  · split
    · rename_i h17
      rw [List.length_cons, h17.2]; omega
    · exact h2.2
end Ct
/-- A type, given: all that it leans on is new. -/
def PlnR (t : Ty) (w : World) (y : Ending) (w' : World) : Prop := ∃ ap cp aq cq, y = .returned (tyV t ap cp aq cq) ∧ LiesU (w.heap.size ≤ ·) w' (strsU t.names) (.slice ap t.names.length cp) ∧ LiesU (w.heap.size ≤ ·) w' (tysU t.l) (.slice aq t.l.length cq) ∧ Kept (fun _ => False) w w'
set_option maxRecDepth 100000 in
set_option maxHeartbeats 8000000 in
/-- PLAIN, the project's. -/
theorem rdPlainN (k : Nat) (t : Ty) (an : Option Addr) (cn : Nat) (al : Option Addr) (cl : Nat) (w : World) (h : TyAt w t an cn al cl) (ho : deepK (k + 1) t = true) :
    Calls Tryz.prog 44 #[tyV t an cn al cl] w (PlnR (plainT t) w) := by
  have k0 : Kept (fun _ => False) w ((w.alloc (.cells #[.int .i64 t.kind, .slice an t.names.length cn, .slice al t.l.length cl, .int .i64 t.r] 25)).alloc (.cells #[.int .i64 0, .slice none 0 0, .slice none 0 0, .int .i64 0] 25)) := ((Kept.refl _ _).new _).new _
  have F0 := BlkAt.new (w.alloc (.cells #[.int .i64 t.kind, .slice an t.names.length cn, .slice al t.l.length cl, .int .i64 t.r] 25)) #[.int .i64 0, .slice none 0 0, .slice none 0 0, .int .i64 0] 25
  rw [World.size_alloc] at F0
  have HK := Lib.hid k0
  have HF := Lib.hid F0
  have HP := Lib.hid (fun w' (k' : Kept (fun _ => False) w w') => rdPlain_all t an cn al cl w' (h.kept k') (fun _ => (deep_lens ho).2.1) (deep_lens ho).1)
  have hc : cloK (k + 2) (plainT t) := clo_plain (k := k) (clo_deep (k + 1) t ho)
  clear h ho k0 F0
  revert HP hc
  generalize plainT t = x
  intro HP hc
  go_enter Tryz.func44, Tryz.ntmps44
  go_wp2_with (first
    | (go_at_call 65; refine (HP.out _ HK.out).mono ?_; rintro y w1 ⟨ap, cp, aq, cq, rfl, ht, k1⟩
       have HK1 := Lib.hid (HK.out.trans k1)
       have HT1 := Lib.hid ht
       have HF1 := Lib.hid (HF.out.kept (F := fun _ => False) k1 id)
       clear k1 ht)
    | (go_at_call 64; refine (clo_all (k + 2) x ap cp aq cq _ HT1.out hc).mono ?_; rintro y w2 ⟨bp, dp, bq, dq, rfl, n1, n2, k2⟩
       have HF2 := Lib.hid (HF1.out.kept (F := fun _ => False) k2 id)
       have r0 := HF2.out.cell 0
       have r1 := HF2.out.cell 1
       have r2 := HF2.out.cell 2
       have r3 := HF2.out.cell 3
       simp at r0 r1 r2 r3
       have y0 := HF2.out.frozen 0
       have y1 := HF2.out.frozen 1
       have y2 := HF2.out.frozen 2
       have y3 := HF2.out.frozen 3
       have HK2 := Lib.hid (HK1.out.trans k2)
       have HN := Lib.hid (And.intro n1 n2)
       clear k2 n1 n2))
  have G := (((HF2.out.put 0 (.int .i64 x.kind)).put 1 (.slice bp x.names.length dp)).put 2 (.slice bq x.l.length dq)).put 3 (.int .i64 x.r)
  have q0 := G.cell 0
  have q1 := G.cell 1
  have q2 := G.cell 2
  have q3 := G.cell 3
  simp at q0 q1 q2 q3
  have k4 : Kept (fun b => b = w.heap.size + 1) w2 ((((w2.setCell ⟨w.heap.size + 1, 0, none⟩ (.int .i64 x.kind)).setCell ⟨w.heap.size + 1, 1, none⟩ (.slice bp x.names.length dp)).setCell ⟨w.heap.size + 1, 2, none⟩ (.slice bq x.l.length dq)).setCell ⟨w.heap.size + 1, 3, none⟩ (.int .i64 x.r)) :=
    ((((Kept.refl (fun b => b = w.heap.size + 1) w2).set (p := ⟨w.heap.size + 1, 0, none⟩) rfl _).set (p := ⟨w.heap.size + 1, 1, none⟩) rfl _).set (p := ⟨w.heap.size + 1, 2, none⟩) rfl _).set (p := ⟨w.heap.size + 1, 3, none⟩) rfl _
  have hs1 : w.heap.size + 1 < w1.heap.size := HF1.out.lt
  refine bodyPost_ret (v := tyV x bp dp bq dq) (by simp [results, Tryz.results44, go_sem, q0, q1, q2, q3]) rfl ⟨bp, dp, bq, dq, rfl, ?_, ?_, ?_⟩
  · exact LiesU.next (k4.agree fun b hb _ e => by have hb : w1.heap.size ≤ b := hb; omega) k4.size (fun b q _ => by have q : w1.heap.size ≤ b := q; show w.heap.size ≤ b; omega) HN.out.1
  · exact LiesU.next (k4.agree fun b hb _ e => by have hb : w1.heap.size ≤ b := hb; omega) k4.size (fun b q _ => by have q : w1.heap.size ≤ b := q; show w.heap.size ≤ b; omega) HN.out.2
  · exact ((HK2.out.any (F := (w.heap.size ≤ ·))).trans (k4.mono fun b e => by show w.heap.size ≤ b; omega)).clear (fun i hi e => by have e : w.heap.size ≤ i := e; omega)

/-- A type, given: what it leans on keeps P. -/
def PlR (P : Nat → Prop) (t : Ty) (w : World) (y : Ending) (w' : World) : Prop := ∃ ap cp aq cq, y = .returned (tyV t ap cp aq cq) ∧ LiesU P w' (strsU t.names) (.slice ap t.names.length cp) ∧ LiesU P w' (tysU t.l) (.slice aq t.l.length cq) ∧ Kept (fun _ => False) w w'
def PlvAt (t t' : Ty) : Prop := ∀ (P : Nat → Prop) (an : Option Addr) (cn : Nat) (al : Option Addr) (cl : Nat) (w : World), (∀ b, w.heap.size ≤ b → P b) → LiesU P w (strsU t.names) (.slice an t.names.length cn) → LiesU P w (tysU t.l) (.slice al t.l.length cl) →
  Calls Tryz.prog 27 #[tyV t an cn al cl] w (PlR P t' w)
theorem lies_tyP {P : Nat → Prop} {w : World} {t : Ty} {vs : List Value} (h : LiesL P w (encTy t) vs) :
    ∃ an cn al cl, vs = [.int .i64 t.kind, .slice an t.names.length cn, .slice al t.l.length cl, .int .i64 t.r] ∧ LiesU P w (strsU t.names) (.slice an t.names.length cn) ∧ LiesU P w (tysU t.l) (.slice al t.l.length cl) := by
  cases t with
  | mk k n l r =>
    unfold encTy at h
    obtain ⟨v0, t0, rfl, h0, h⟩ := h.inv
    obtain ⟨v1, t1, rfl, h1, h⟩ := h.inv
    obtain ⟨v2, t2, rfl, h2, h⟩ := h.inv
    obtain ⟨v3, t3, rfl, h3, h⟩ := h.inv
    have e := h.inv_nil
    obtain ⟨an, cn, e1⟩ := lies_slice h1
    obtain ⟨al, cl, e2⟩ := lies_slice h2
    subst e e1 e2
    rw [h0.int, h3.int]
    exact ⟨an, cn, al, cl, rfl, h1, h2⟩
theorem LiesL.was {w : World} {P : Nat → Prop} {xs : List U} {vs : List Value} (h : LiesL P w xs vs) : LiesL (fun b => P b ∧ b < w.heap.size) w xs vs := h.next (fun _ _ _ => rfl) (Nat.le_refl _) fun _ hp hk => ⟨hp, hk⟩
theorem LiesU.was {w : World} {P : Nat → Prop} {x : U} {v : Value} (h : LiesU P w x v) : LiesU (fun b => P b ∧ b < w.heap.size) w x v := LiesU.next (fun _ _ _ => rfl) (Nat.le_refl _) (fun _ hp hk => ⟨hp, hk⟩) h
theorem LiesL.thru {P Q F : Nat → Prop} {w w' : World} {xs : List U} {vs : List Value} (h : LiesL P w xs vs) (k : Kept F w w') (hf : ∀ b, P b → b < w.heap.size → ¬ F b) (hq : ∀ b, P b → b < w.heap.size → Q b) : LiesL Q w' xs vs := h.next (k.agree hf) k.size hq
theorem LiesU.thru {P Q F : Nat → Prop} {w w' : World} {x : U} {v : Value} (h : LiesU P w x v) (k : Kept F w w') (hf : ∀ b, P b → b < w.heap.size → ¬ F b) (hq : ∀ b, P b → b < w.heap.size → Q b) : LiesU Q w' x v := LiesU.next (k.agree hf) k.size hq h
/-- The clone of a row of types: where it lies, what is in it. -/
theorem rdCloneP (P : Nat → Prop) (l : List Ty) (a : Option Addr) (cap : Nat) (w : World) (h : LiesU P w (tysU l) (.slice a l.length cap)) (hn : l.length ≤ 100) :
    Calls Tryz.prog 45 #[.slice a l.length cap] w fun y w' => ∃ a' cap', y = .returned (.slice a' l.length cap') ∧ l.length ≤ cap' ∧ cap' ≤ maxLen ∧
      (l.length = 0 ∨ ∃ g cur, a' = some ⟨g, 0, none⟩ ∧ w.heap.size ≤ g ∧ BlkAt w' g cur 25 ∧ LiesL P w' (encTys l) (cur.toList.take (l.length * 4)) ∧ cur.size = cap' * 4) ∧ Kept (fun _ => False) w w' := by
  obtain ⟨vs, h1, h2, h3⟩ := lies_open h
  refine (clone_type a l.length cap vs w hn h2 h1.one h3).mono ?_
  rintro y w' ⟨a', cap', rfl, ho, k⟩
  have hl : LiesL P w' (encTys l) vs := h1.thru k (fun _ _ _ e => e.elim) (fun _ q _ => q)
  rcases ho.2 with ⟨e, h0⟩ | ⟨g, cp, cur, e, hb, hg, hc, hm, h3', h4⟩
  · obtain ⟨rfl, _, rfl⟩ : a' = none ∧ l.length = 0 ∧ cap' = 0 := by simpa using e
    exact ⟨none, 0, rfl, by omega, Nat.zero_le _, .inl h0, k⟩
  · obtain ⟨rfl, rfl⟩ : a' = some ⟨g, 0, none⟩ ∧ cap' = cp := by simpa using e
    exact ⟨_, _, rfl, hc, hm, .inr ⟨g, cur, rfl, hb, hg, by rw [h4]; exact hl, h3'⟩, k⟩
/-- How far the loop is. -/
structure PlI (Q : Nat → Prop) (F : Ty → Ty) (g n : Nat) (l : List Ty) (W2 : World) (wr : World) (i : Nat) : Prop where
  ex : ∃ cur us vs, BlkAt wr g cur 25 ∧ cur.toList.take (n * 4) = us ++ vs ∧ LiesL Q wr (encTys ((l.take i).map F)) us ∧ LiesL Q wr (encTys (l.drop i)) vs
  kept : Kept (g = ·) W2 wr
theorem PlI.at {Q : Nat → Prop} {F : Ty → Ty} {g n : Nat} {l : List Ty} {W2 wr : World} {i : Nat} {x : Ty} (h : PlI Q F g n l W2 wr i) (hx : l[i]? = some x) (hn : i < n) :
    ∃ cur us rest ax cx ay cy, BlkAt wr g cur 25 ∧ us.length = i * 4 ∧ cur.toList.take (n * 4) = us ++ ([.int .i64 x.kind, .slice ax x.names.length cx, .slice ay x.l.length cy, .int .i64 x.r] ++ rest) ∧ LiesL Q wr (encTys ((l.take i).map F)) us ∧ LiesL Q wr (encTys (l.drop (i + 1))) rest ∧
      LiesU Q wr (strsU x.names) (.slice ax x.names.length cx) ∧ LiesU Q wr (tysU x.l) (.slice ay x.l.length cy) ∧
      wr.cell? ⟨g, i * 4, none⟩ = some (.int .i64 x.kind) ∧ wr.cell? ⟨g, i * 4 + 1, none⟩ = some (.slice ax x.names.length cx) ∧ wr.cell? ⟨g, i * 4 + 2, none⟩ = some (.slice ay x.l.length cy) ∧ wr.cell? ⟨g, i * 4 + 3, none⟩ = some (.int .i64 x.r) := by
  obtain ⟨cur, us, vs, h1, h2, h3, h4⟩ := h.ex
  have hd : l.drop i = x :: l.drop (i + 1) := by
    obtain ⟨hlt, e⟩ := List.getElem?_eq_some_iff.1 hx
    rw [List.drop_eq_getElem_cons hlt, e]
  rw [hd] at h4
  have e4 : encTys (x :: l.drop (i + 1)) = encTy x ++ encTys (l.drop (i + 1)) := rfl
  rw [e4] at h4
  obtain ⟨a4, rest, rfl, h5, h6⟩ := h4.split
  obtain ⟨ax, cx, ay, cy, rfl, ht1, ht2⟩ := lies_tyP h5
  have hul : us.length = i * 4 := by
    rw [h3.length, encTys_length, List.length_map, List.length_take]
    have := (List.getElem?_eq_some_iff.1 hx).1
    omega
  have hc : ∀ j u, ([.int .i64 x.kind, .slice ax x.names.length cx, .slice ay x.l.length cy, .int .i64 x.r] : List Value)[j]? = some u → wr.cell? ⟨g, i * 4 + j, none⟩ = some u := by
    intro j u hj
    have hj4 : j < 4 := by have := (List.getElem?_eq_some_iff.1 hj).1; simpa using this
    rw [h1.cell, ← Array.getElem?_toList, ← List.getElem?_take_of_lt (show i * 4 + j < n * 4 by omega), h2, ← hul, List.getElem?_append_right (Nat.le_add_right _ _), Nat.add_sub_cancel_left, List.getElem?_append_left (by simpa using hj4)]
    exact hj
  exact ⟨cur, us, rest, ax, cx, ay, cy, h1, hul, h2, h3, h6, ht1, ht2, hc 0 _ rfl, hc 1 _ rfl, hc 2 _ rfl, hc 3 _ rfl⟩
theorem PlI.step {Q : Nat → Prop} {F : Ty → Ty} {g n : Nat} {l : List Ty} {W2 wr w3 : World} {i : Nat} {x x' : Ty} {cur : Array Value} {us rest : List Value} {ax ay ap aq : Option Addr} {cx cy cp cq : Nat} (hx : l[i]? = some x) (hF : F x = x') (hQ : ∀ b, Q b → b ≠ g) (hk : Kept (g = ·) W2 wr) (k : Kept (fun _ => False) wr w3) (hgl : g < wr.heap.size)
    (hb : BlkAt wr g cur 25) (hul : us.length = i * 4) (h2 : cur.toList.take (n * 4) = us ++ ([.int .i64 x.kind, .slice ax x.names.length cx, .slice ay x.l.length cy, .int .i64 x.r] ++ rest)) (h3 : LiesL Q wr (encTys ((l.take i).map F)) us) (h4 : LiesL Q wr (encTys (l.drop (i + 1))) rest)
    (hn : LiesU Q w3 (strsU x'.names) (.slice ap x'.names.length cp)) (hl : LiesU Q w3 (tysU x'.l) (.slice aq x'.l.length cq)) :
    PlI Q F g n l W2 ((((w3.setCell ⟨g, i * 4, none⟩ (.int .i64 x'.kind)).setCell ⟨g, i * 4 + 1, none⟩ (.slice ap x'.names.length cp)).setCell ⟨g, i * 4 + 2, none⟩ (.slice aq x'.l.length cq)).setCell ⟨g, i * 4 + 3, none⟩ (.int .i64 x'.r)) (i + 1) := by
  have k4 : Kept (g = ·) w3 ((((w3.setCell ⟨g, i * 4, none⟩ (.int .i64 x'.kind)).setCell ⟨g, i * 4 + 1, none⟩ (.slice ap x'.names.length cp)).setCell ⟨g, i * 4 + 2, none⟩ (.slice aq x'.l.length cq)).setCell ⟨g, i * 4 + 3, none⟩ (.int .i64 x'.r)) :=
    ((((Kept.refl (g = ·) w3).set (p := ⟨g, i * 4, none⟩) rfl _).set (p := ⟨g, i * 4 + 1, none⟩) rfl _).set (p := ⟨g, i * 4 + 2, none⟩) rfl _).set (p := ⟨g, i * 4 + 3, none⟩) rfl _
  have b4 := ((((hb.kept (F := fun _ => False) k id).put (i * 4) (.int .i64 x'.kind)).put (i * 4 + 1) (.slice ap x'.names.length cp)).put (i * 4 + 2) (.slice aq x'.l.length cq)).put (i * 4 + 3) (.int .i64 x'.r)
  have kk : Kept (g = ·) wr _ := (k.any (F := (g = ·))).trans k4
  have hgq : ∀ b, Q b → ∀ (_ : b < wr.heap.size), ¬ g = b := fun b q _ e => hQ b q e.symm
  refine ⟨⟨_, us ++ [.int .i64 x'.kind, .slice ap x'.names.length cp, .slice aq x'.l.length cq, .int .i64 x'.r], rest, b4, ?_, ?_, h4.thru kk hgq (fun _ q _ => q)⟩, hk.trans kk⟩
  · simp only [Array.toList_setIfInBounds]
    rw [put4 h2 hul, List.append_assoc]
  · have et : (l.take (i + 1)).map F = (l.take i).map F ++ [x'] := by rw [List.take_add_one, hx, Option.toList_some, List.map_append, List.map_cons, List.map_nil, hF]
    rw [et, encTys_append, encTys_one]
    exact (h3.thru kk hgq (fun _ q _ => q)).append (ty_lies (hn.thru k4 (fun b q _ e => hQ b q e.symm) (fun _ q _ => q)) (hl.thru k4 (fun b q _ e => hQ b q e.symm) (fun _ q _ => q)))
theorem PlI.done {P Q : Nat → Prop} {F : Ty → Ty} {g n c : Nat} {l : List Ty} {W2 wr : World} (h : PlI Q F g n l W2 wr n) (hn : l.length = n) (h1 : n ≤ c) (h2 : c ≤ maxLen) (hg : P g) (hq : ∀ b, Q b → P b) : LiesU P wr (tysU (l.map F)) (.slice (some ⟨g, 0, none⟩) (l.map F).length c) := by
  obtain ⟨cur, us, vs, hb, ht, hl, hv⟩ := h.ex
  subst hn
  rw [List.drop_length] at hv
  have e := hv.inv_nil
  subst e
  rw [List.append_nil] at ht
  rw [List.take_length] at hl
  rw [List.length_map]
  show LiesU P wr (.sl 25 4 (l.map F).length (encTys (l.map F))) _
  rw [List.length_map]
  unfold LiesU
  refine ⟨_, c, us, rfl, h1, h2, by rw [encTys_length, List.length_map], hl.next (fun _ _ _ => rfl) (Nat.le_refl _) (fun b q _ => hq b q), .inr ⟨g, 0, rfl, hg, hb.lt, fun j v hj => ?_⟩⟩
  have hjl : j < l.length * 4 := by
    have := (List.getElem?_eq_some_iff.1 hj).1
    rw [hl.length, encTys_length, List.length_map] at this
    exact this
  rw [hb.cell, Nat.zero_add, ← Array.getElem?_toList, ← List.getElem?_take_of_lt hjl, ht]
  exact hj
end Go.Proofs.YtikgkjkgdlnekaaGreatDoor
