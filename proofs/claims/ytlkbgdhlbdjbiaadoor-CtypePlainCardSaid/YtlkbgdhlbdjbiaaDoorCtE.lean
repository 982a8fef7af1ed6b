/- ctype: types as trees of values; what is told of a row of them. -/
import Derived.Test.YtlkbgdhlbdjbiaaDoorCtU
set_option linter.unusedVariables false
set_option linter.unusedSimpArgs false
namespace Go.Proofs.YtlkbgdhlbdjbiaaDoor
open Go.RowKit
open Lex Ct

namespace Ct
abbrev strsU (l : List Nm) : U := .sl 9 1 l.length (l.map .s)
mutual
def encTy : Ty → List U
  | .mk k n l r => [.z k, strsU n, .sl 25 4 l.length (encTys l), .z r]
def encTys : List Ty → List U
  | [] => []
  | t :: r => encTy t ++ encTys r
end
abbrev tysU (l : List Ty) : U := .sl 25 4 l.length (encTys l)
theorem encTy_length (t : Ty) : (encTy t).length = 4 := by cases t; rfl
theorem encTys_length : ∀ (l : List Ty), (encTys l).length = l.length * 4
  | [] => rfl
  | t :: r => by
    show (encTy t ++ encTys r).length = _
    rw [List.length_append, encTy_length, encTys_length r, List.length_cons]
    omega
theorem encTys_flat : ∀ l : List Ty, encTys l = l.flatMap encTy
  | [] => rfl
  | t :: r => by rw [List.flatMap_cons, ← encTys_flat r]; rfl
theorem encTys_one (t : Ty) : encTys [t] = encTy t := by
  show encTy t ++ encTys [] = _
  exact List.append_nil _
theorem flat_strs : ∀ xs : List Nm, (xs.flatMap fun b => [U.s b]) = xs.map U.s
  | [] => rfl
  | y :: r => by rw [List.flatMap_cons, List.map_cons, flat_strs r]; rfl
def NmOk (b : Nm) : Prop := (∀ z ∈ b, 0 ≤ z ∧ z < 256) ∧ b.length ≤ maxLen
mutual
/-- Each text within is one of bytes. -/
def FineU : U → Prop
  | .z _ => True
  | .s b => NmOk b
  | .sl _ _ _ cs => FineL cs
def FineL : List U → Prop
  | [] => True
  | x :: r => FineU x ∧ FineL r
end
theorem FineL_append : ∀ {a b : List U}, FineL (a ++ b) ↔ FineL a ∧ FineL b
  | [], b => by show FineL b ↔ True ∧ FineL b; rw [true_and]
  | x :: r, b => by
    show FineU x ∧ FineL (r ++ b) ↔ (FineU x ∧ FineL r) ∧ FineL b
    rw [FineL_append, and_assoc]
theorem FineL_flat {α : Type} {enc : α → List U} : ∀ {xs : List α}, FineL (xs.flatMap enc) → ∀ x ∈ xs, FineL (enc x)
  | [], _, x, hx => absurd hx (by simp)
  | y :: r, h, x, hx => by
    rw [List.flatMap_cons, FineL_append] at h
    rcases List.mem_cons.1 hx with rfl | hx
    · exact h.1
    · exact FineL_flat h.2 x hx
/-- A type's texts are texts. -/
abbrev FineT (t : Ty) : Prop := FineL (encTy t)
theorem FineT.names {t : Ty} (h : FineT t) : ∀ b ∈ t.names, NmOk b := by
  cases t with
  | mk k n l r =>
    have h1 : FineL (n.map U.s) := h.2.1
    intro b hb
    rw [← flat_strs] at h1
    exact (FineL_flat (enc := fun b => [U.s b]) h1 b hb).1
theorem FineT.l {t : Ty} (h : FineT t) : ∀ x ∈ t.l, FineT x := by
  cases t with
  | mk k n l r =>
    have h1 : FineL (encTys l) := h.2.2.1
    intro x hx
    rw [encTys_flat] at h1
    exact FineL_flat h1 x hx
end Ct
/-- No block is too new to lean on. -/
abbrev AnyB : Nat → Prop := fun _ => True
theorem Kept.of {B : Nat} {w w' : World} (h : Below B w w') (hB : w.heap.size ≤ B) : Kept (fun _ => False) w w' := ⟨h.os, h.tape, h.output, h.size, fun k hk _ => h.block k (by omega)⟩
theorem Kept.any {F : Nat → Prop} {w w' : World} (h : Kept (fun _ => False) w w') : Kept F w w' := h.mono fun _ q => q.elim
theorem LiesL.kept {P : Nat → Prop} {w w' : World} {xs : List U} {vs : List Value} (h : LiesL P w xs vs) (k : Kept (fun _ => False) w w') : LiesL P w' xs vs := h.next (k.agree fun _ _ _ => id) k.size fun _ hk _ => hk
theorem LiesU.kept {P : Nat → Prop} {w w' : World} {x : U} {v : Value} (h : LiesU P w x v) (k : Kept (fun _ => False) w w') : LiesU P w' x v := LiesU.next (k.agree fun _ _ _ => id) k.size (fun _ hk _ => hk) h
/-- What leans on blocks below B alone bears what turns others. -/
theorem LiesL.past {B : Nat} {F : Nat → Prop} {w w' : World} {xs : List U} {vs : List Value} (h : LiesL (· < B) w xs vs) (k : Kept F w w') (hf : ∀ i, F i → B ≤ i) : LiesL (· < B) w' xs vs := h.next (k.agree fun i hi _ hF => by have := hf i hF; omega) k.size fun _ hk _ => hk
theorem LiesU.past {B : Nat} {F : Nat → Prop} {w w' : World} {x : U} {v : Value} (h : LiesU (· < B) w x v) (k : Kept F w w') (hf : ∀ i, F i → B ≤ i) : LiesU (· < B) w' x v := LiesU.next (k.agree fun i hi _ hF => by have := hf i hF; omega) k.size (fun _ hk _ => hk) h
theorem LiesL.now {w : World} {P : Nat → Prop} {xs : List U} {vs : List Value} (h : LiesL P w xs vs) : LiesL (· < w.heap.size) w xs vs := h.next (fun _ _ _ => rfl) (Nat.le_refl _) fun _ _ hk => hk
theorem LiesU.now {w : World} {P : Nat → Prop} {x : U} {v : Value} (h : LiesU P w x v) : LiesU (· < w.heap.size) w x v := LiesU.next (fun _ _ _ => rfl) (Nat.le_refl _) (fun _ _ hk => hk) h
theorem LiesL.wide {w : World} {P : Nat → Prop} {xs : List U} {vs : List Value} (h : LiesL P w xs vs) : LiesL AnyB w xs vs := h.next (fun _ _ _ => rfl) (Nat.le_refl _) fun _ _ _ => trivial
theorem LiesU.wide {w : World} {P : Nat → Prop} {x : U} {v : Value} (h : LiesU P w x v) : LiesU AnyB w x v := LiesU.next (fun _ _ _ => rfl) (Nat.le_refl _) (fun _ _ _ => trivial) h
theorem cell_box {w : World} {p : Addr} {v : Value} (h : w.cell? p = some v) (o : Obj) : (w.alloc o).cell? p = some v := (World.cell?_alloc_some w p o (by rw [h]; rfl)).trans h
theorem lies_slice {P : Nat → Prop} {w : World} {T : TypeId} {m n : Nat} {cs : List U} {v : Value} (h : LiesU P w (.sl T m n cs) v) : ∃ a cap, v = .slice a n cap := by
  unfold LiesU at h
  obtain ⟨a, cap, vs, e, _⟩ := h
  exact ⟨a, cap, e⟩
theorem row_at {α : Type} {enc : α → List U} {m : Nat} {P : Nat → Prop} {w : World} (hm : ∀ x, (enc x).length = m) : ∀ {xs : List α} {vs : List Value} {i : Nat} {x : α}, LiesL P w (xs.flatMap enc) vs → xs[i]? = some x → LiesL P w (enc x) ((vs.drop (i * m)).take m)
  | [], vs, i, x, h, hx => by simp at hx
  | y :: r, vs, i, x, h, hx => by
    rw [List.flatMap_cons] at h
    obtain ⟨a, b, rfl, h1, h2⟩ := LiesL.split h
    have ha : a.length = m := by rw [h1.length, hm]
    cases i with
    | zero =>
      simp at hx
      subst hx
      rw [Nat.zero_mul, List.drop_zero, ← ha, List.take_left]
      exact h1
    | succ i =>
      rw [List.getElem?_cons_succ] at hx
      have e : (i + 1) * m = a.length + i * m := by rw [ha, Nat.succ_mul]; omega
      rw [e, List.drop_append, List.drop_eq_nil_of_le (by omega), List.nil_append, Nat.add_sub_cancel_left]
      exact row_at hm h2 hx
/-- A type, as a struct of these cells. -/
structure TyAt (w : World) (t : Ty) (an : Option Addr) (cn : Nat) (al : Option Addr) (cl : Nat) : Prop where
  n : LiesU AnyB w (strsU t.names) (.slice an t.names.length cn)
  l : LiesU AnyB w (tysU t.l) (.slice al t.l.length cl)
theorem TyAt.kept {w w' : World} {t : Ty} {an : Option Addr} {cn : Nat} {al : Option Addr} {cl : Nat} (h : TyAt w t an cn al cl) (k : Kept (fun _ => False) w w') : TyAt w' t an cn al cl := ⟨h.n.kept k, h.l.kept k⟩
abbrev tyV (t : Ty) (an : Option Addr) (cn : Nat) (al : Option Addr) (cl : Nat) : Value := .agg #[.int .i64 t.kind, .slice an t.names.length cn, .slice al t.l.length cl, .int .i64 t.r]
theorem lies_ty {P : Nat → Prop} {w : World} {t : Ty} {vs : List Value} (h : LiesL P w (encTy t) vs) :
    ∃ an cn al cl, vs = [.int .i64 t.kind, .slice an t.names.length cn, .slice al t.l.length cl, .int .i64 t.r] ∧ TyAt w t an cn al cl := by
  cases t with
  | mk k n l r =>
    unfold encTy at h
    obtain ⟨v0, t0, rfl, h0, h⟩ := h.inv
    obtain ⟨v1, t1, rfl, h1, h⟩ := h.inv
    obtain ⟨v2, t2, rfl, h2, h⟩ := h.inv
    obtain ⟨v3, t3, rfl, h3, h⟩ := h.inv
    have e := h.inv_nil
    obtain ⟨an, cn, e1⟩ := lies_slice h1
    obtain ⟨al, cl, e2⟩ := lies_slice h2
    subst e e1 e2
    rw [h0.int, h3.int]
    exact ⟨an, cn, al, cl, rfl, h1.wide, h2.wide⟩
theorem ty_lies {P : Nat → Prop} {w : World} {t : Ty} {vn vl : Value} (h1 : LiesU P w (strsU t.names) vn) (h2 : LiesU P w (tysU t.l) vl) : LiesL P w (encTy t) [.int .i64 t.kind, vn, vl, .int .i64 t.r] := by
  cases t with
  | mk k n l r =>
    unfold encTy
    exact .cons (liesU_z _) (.cons h1 (.cons h2 (.cons (liesU_z _) .nil)))
theorem TyAt.zero {w : World} : TyAt w .zero none 0 none 0 := ⟨liesU_nil _ _, liesU_nil _ _⟩
/-- A row of types: what lies at a place of it. -/
structure RowAt (w : World) (l : List Ty) (a : Option Addr) (cap : Nat) : Prop where
  lies : LiesU AnyB w (tysU l) (.slice a l.length cap)
theorem RowAt.kept {w w' : World} {l : List Ty} {a : Option Addr} {cap : Nat} (h : RowAt w l a cap) (k : Kept (fun _ => False) w w') : RowAt w' l a cap := ⟨h.lies.kept k⟩
theorem RowAt.bound {w : World} {l : List Ty} {a : Option Addr} {cap : Nat} (h : RowAt w l a cap) : l.length ≤ cap ∧ cap ≤ 9223372036854775807 := by
  have h := h.lies
  unfold LiesU at h
  obtain ⟨a', cap', vs, hv, hc, hcm, _⟩ := h
  obtain ⟨rfl, _, rfl⟩ : a = a' ∧ l.length = l.length ∧ cap = cap' := by simpa using hv
  exact ⟨hc, hcm⟩
theorem RowAt.at {w : World} {l : List Ty} {a : Option Addr} {cap : Nat} (h : RowAt w l a cap) {i : Nat} {x : Ty} (hx : l[i]? = some x) :
    ∃ g o an cn al cl, a = some ⟨g, o, none⟩ ∧ g < w.heap.size ∧ TyAt w x an cn al cl ∧ w.cell? ⟨g, o + i * 4, none⟩ = some (.int .i64 x.kind) ∧ w.cell? ⟨g, o + i * 4 + 1, none⟩ = some (.slice an x.names.length cn) ∧ w.cell? ⟨g, o + i * 4 + 2, none⟩ = some (.slice al x.l.length cl) ∧ w.cell? ⟨g, o + i * 4 + 3, none⟩ = some (.int .i64 x.r) := by
  have h := h.lies
  unfold LiesU at h
  obtain ⟨a', cap', vs, hv, hc, hcm, hlen, hlv, hg⟩ := h
  obtain ⟨rfl, _, rfl⟩ : a = a' ∧ l.length = l.length ∧ cap = cap' := by simpa using hv
  have hi := (List.getElem?_eq_some_iff.1 hx).1
  rcases hg with hg | ⟨g, o, rfl, _, hgl, hcl⟩
  · omega
  · rw [encTys_flat] at hlv
    have hrow := row_at (enc := encTy) encTy_length hlv hx
    have hcs := hcl.sub (i * 4) 4
    generalize (vs.drop (i * 4)).take 4 = us at hrow hcs
    obtain ⟨an, cn, al, cl, rfl, hty⟩ := lies_ty hrow
    exact ⟨g, o, an, cn, al, cl, rfl, hgl, hty, hcs 0 _ rfl, hcs 1 _ rfl, hcs 2 _ rfl, hcs 3 _ rfl⟩
theorem TyAt.row {w : World} {t : Ty} {an : Option Addr} {cn : Nat} {al : Option Addr} {cl : Nat} (h : TyAt w t an cn al cl) : RowAt w t.l al cl := ⟨h.l⟩
/-- A row of texts. -/
structure NmsAt (w : World) (l : List Nm) (a : Option Addr) (cap : Nat) : Prop where
  lies : LiesU AnyB w (strsU l) (.slice a l.length cap)
theorem NmsAt.kept {w w' : World} {l : List Nm} {a : Option Addr} {cap : Nat} (h : NmsAt w l a cap) (k : Kept (fun _ => False) w w') : NmsAt w' l a cap := ⟨h.lies.kept k⟩
theorem TyAt.nms {w : World} {t : Ty} {an : Option Addr} {cn : Nat} {al : Option Addr} {cl : Nat} (h : TyAt w t an cn al cl) : NmsAt w t.names an cn := ⟨h.n⟩
theorem NmsAt.bound {w : World} {l : List Nm} {a : Option Addr} {cap : Nat} (h : NmsAt w l a cap) : l.length ≤ cap ∧ cap ≤ 9223372036854775807 := by
  have h := h.lies
  unfold LiesU at h
  obtain ⟨a', cap', vs, hv, hc, hcm, _⟩ := h
  obtain ⟨rfl, _, rfl⟩ : a = a' ∧ l.length = l.length ∧ cap = cap' := by simpa using hv
  exact ⟨hc, hcm⟩
theorem NmsAt.at {w : World} {l : List Nm} {a : Option Addr} {cap : Nat} (h : NmsAt w l a cap) {i : Nat} {x : Nm} (hx : l[i]? = some x) :
    ∃ g o, a = some ⟨g, o, none⟩ ∧ g < w.heap.size ∧ w.cell? ⟨g, o + i, none⟩ = some (.string (strOfNums x)) := by
  have h := h.lies
  unfold LiesU at h
  obtain ⟨a', cap', vs, hv, hc, hcm, hlen, hlv, hg⟩ := h
  obtain ⟨rfl, _, rfl⟩ : a = a' ∧ l.length = l.length ∧ cap = cap' := by simpa using hv
  have hi := (List.getElem?_eq_some_iff.1 hx).1
  rcases hg with hg | ⟨g, o, rfl, _, hgl, hcl⟩
  · omega
  · obtain ⟨v, h1, h2⟩ := LiesL.get hlv (i := i) (x := .s x) (by rw [List.getElem?_map, hx]; rfl)
    rw [h2.str] at h1
    exact ⟨g, o, rfl, hgl, hcl i _ h1⟩
/-- The first of a row of texts. -/
theorem NmsAt.take {w : World} {l : List Nm} {a : Option Addr} {cap : Nat} (h : NmsAt w l a cap) {i : Nat} (hi : i ≤ l.length) : NmsAt w (l.take i) a cap := by
  have h := h.lies
  unfold LiesU at h
  obtain ⟨a', cap', vs, hv, hc, hcm, hlen, hlv, hg⟩ := h
  obtain ⟨rfl, _, rfl⟩ : a = a' ∧ l.length = l.length ∧ cap = cap' := by simpa using hv
  have e : l.map U.s = (l.take i).map U.s ++ (l.drop i).map U.s := by rw [← List.map_append, List.take_append_drop]
  rw [e] at hlv
  obtain ⟨v1, v2, rfl, h1, h2⟩ := LiesL.split hlv
  have hl : (l.take i).length = i := by rw [List.length_take]; omega
  refine ⟨?_⟩
  unfold LiesU
  refine ⟨a, cap, v1, by simp [hl], by rw [hl]; omega, hcm, by rw [List.length_map, hl]; omega, h1, ?_⟩
  rcases hg with hg | ⟨g, o, rfl, hp, hgl, hcl⟩
  · exact .inl (by rw [hl]; omega)
  · refine .inr ⟨g, o, rfl, hp, hgl, fun j v hj => hcl j v ?_⟩
    have := (List.getElem?_eq_some_iff.1 hj).1
    rw [List.getElem?_append_left this]
    exact hj
theorem rdNm (b : Nm) (h : NmOk b) (w : World) : Calls Tryd.prog 57 #[.string (strOfNums b)] w fun e w' => e = .returned (.bool (nameL b)) ∧ Kept (fun _ => False) w w' := by
  have hs : (strOfNums b).size ≤ maxLen := by rw [← bl_length, bl_str b fun z hz => by have := h.1 z hz; omega]; exact h.2
  refine (Name_any (strOfNums b) hs w).mono ?_
  rintro e w' ⟨he, hb⟩
  rw [nameB_eq, bl_str b fun z hz => by have := h.1 z hz; omega] at he
  exact ⟨he, Kept.of hb (Nat.le_refl _)⟩
theorem rdRefNm (b : Nm) (h : NmOk b) (w : World) : Calls Tryd.prog 55 #[.string (strOfNums b)] w fun e w' => e = .returned (.bool (nameL b)) ∧ w = w' := by
  have hs : (strOfNums b).size ≤ maxLen := by rw [← bl_length, bl_str b fun z hz => by have := h.1 z hz; omega]; exact h.2
  refine (refName_any (strOfNums b) hs w).mono ?_
  rintro e w' ⟨he, hb⟩
  rw [bl_str b fun z hz => by have := h.1 z hz; omega] at he
  exact ⟨he, hb⟩
theorem nums_same {a b : Nm} (ha : NmOk a) (hb : NmOk b) : ((strOfNums a).toList == (strOfNums b).toList) = (a == b) := by
  have key : (strOfNums a).toList = (strOfNums b).toList → a = b := by
    intro h
    rw [ByteArray.toList_eq, ByteArray.toList_eq] at h
    have h2 : bl (strOfNums a) = bl (strOfNums b) := by unfold bl; rw [h]
    rw [bl_str a fun z hz => by have := ha.1 z hz; omega, bl_str b fun z hz => by have := hb.1 z hz; omega] at h2
    exact h2
  rw [Bool.eq_iff_iff, beq_iff_eq, beq_iff_eq]
  exact ⟨key, fun h => by rw [h]⟩
end Go.Proofs.YtlkbgdhlbdjbiaaDoor
