/- value: of: what is counted, as a plain function; the walk. -/
import Derived.Test.YtikgkjkgdlnekaaGreatDoorVbC
import Derived.Test.YtikgkjkgdlnekaaGreatDoorVbD
import Derived.Test.YtikgkjkgdlnekaaGreatDoorVaW
import Derived.Deep.RegionHeld3
set_option linter.unusedVariables false
set_option linter.unusedSimpArgs false
namespace Go.Proofs.YtikgkjkgdlnekaaGreatDoor
open Go.RowKit
open Lex Ct

namespace Ct
def ofL (f : Nat → Vl → Nat → Option Nat) : Nat → List Vl → Nat → Option Nat
  | _, [], c => some c
  | i, x :: r, c => match f i x c with
    | none => none
    | some d => ofL f (i + 1) r d
def ofK : Nat → Ty → Vl → Nat → Option Nat
  | 0, _, _, _ => none
  | k + 1, t, v, c => if c < 1 + v.s.length then none else if shapedV t v = false then none else ofL (fun i x c => match witO t v.n i with
    | none => none
    | some u => ofK k u x c) 0 v.l (c - (1 + v.s.length))
/-- What a value is gone into by: its type's types are there. -/
def okP : Nat → Ty → Prop
  | 0, _ => False
  | k + 1, t => (t.kind = 12 → t.l ≠ []) ∧ (t.kind = 19 → t.names.length ≤ 32) ∧ ∀ x ∈ t.l, (x.kind = 0 ∧ t.kind = 15) ∨ okP k x
def LtV (v : Vl) : Prop := ∃ j, wghK j v ≤ 20000
theorem LtV.parts {v : Vl} (h : LtV v) : v.s.length ≤ 20000 ∧ v.l.length ≤ 20000 ∧ ∀ x ∈ v.l, LtV x := by
  obtain ⟨k, h⟩ := h
  obtain ⟨j, rfl, h1, h2, h3, h4⟩ := wgh_parts h
  exact ⟨h1, h2, fun x hx => ⟨j, (h4 x hx).1⟩⟩
theorem ofL_step {f : Nat → Vl → Nat → Option Nat} {l : List Vl} {i c : Nat} {x : Vl} (hx : l[i]? = some x) : ofL f i (l.drop i) c = match f i x c with
    | none => none
    | some d => ofL f (i + 1) (l.drop (i + 1)) d := by
  obtain ⟨hi, rfl⟩ := List.getElem?_eq_some_iff.1 hx
  rw [List.drop_eq_getElem_cons hi, ofL]
theorem ofL_end {f : Nat → Vl → Nat → Option Nat} {l : List Vl} {i c : Nat} (h : l.length ≤ i) : ofL f i (l.drop i) c = some c := by
  rw [List.drop_eq_nil_of_le h]
  rfl
theorem ofL_le {f : Nat → Vl → Nat → Option Nat} (hf : ∀ i x c d, f i x c = some d → d ≤ c) : ∀ (l : List Vl) (i c d : Nat), ofL f i l c = some d → d ≤ c
  | [], i, c, d, h => by cases h; exact Nat.le_refl _
  | x :: r, i, c, d, h => by
    unfold ofL at h
    split at h
    · cases h
    · rename_i e he
      exact Nat.le_trans (ofL_le hf r (i + 1) e d h) (hf i x c e he)
theorem ofK_le : ∀ (k : Nat) (t : Ty) (v : Vl) (c d : Nat), ofK k t v c = some d → d ≤ c
  | 0, t, v, c, d, h => by cases h
  | k + 1, t, v, c, d, h => by
    unfold ofK at h
    split at h
    · cases h
    · split at h
      · cases h
      · refine Nat.le_trans (ofL_le (fun i x c d h => ?_) v.l 0 _ d h) (Nat.sub_le _ _)
        split at h
        · cases h
        · exact ofK_le k _ x c d h
/-- Each value that is gone into has a type. -/
theorem wit_ok {k : Nat} {t : Ty} {v : Vl} (ht : okP (k + 1) t) (hs : shapedV t v = true) {i : Nat} (hi : i < v.l.length) : ∃ u, witO t v.n i = some u ∧ okP k u := by
  obtain ⟨h12, h19, hx⟩ := ht
  unfold shapedV at hs
  unfold witO
  split at hs
  · simp only [Bool.and_eq_true, beq_iff_eq] at hs
    omega
  · split at hs
    · cases hs
    · split at hs
      · rename_i e
        rw [if_pos e]
        have hne := h12 e
        cases hl : t.l with
        | nil => exact absurd hl hne
        | cons u r =>
          refine ⟨u, rfl, ?_⟩
          rcases hx u (by rw [hl]; exact List.mem_cons_self) with h | h
          · omega
          · exact h
      · split at hs
        · rename_i e12 e
          simp only [Bool.and_eq_true, beq_iff_eq] at hs
          rw [if_neg e12, if_neg (by omega)]
          have hlt : i < t.l.length := by omega
          refine ⟨t.l[i], List.getElem?_eq_getElem hlt, ?_⟩
          rcases hx _ (List.getElem_mem hlt) with h | h
          · omega
          · exact h
        · split at hs
          · rename_i e12 e13 e
            simp only [Bool.and_eq_true, beq_iff_eq, decide_eq_true_eq] at hs
            rw [if_neg e12, if_pos e, if_pos hs.1.1]
            have hlt : v.n.toNat < t.l.length := by omega
            refine ⟨t.l[v.n.toNat], List.getElem?_eq_getElem hlt, ?_⟩
            have e2 : t.l.getD v.n.toNat .zero = t.l[v.n.toNat] := by rw [List.getD_eq_getElem?_getD, List.getElem?_eq_getElem hlt]; rfl
            rw [e2] at hs
            have h2 := hs.2
            unfold heldK at h2
            rcases hx _ (List.getElem_mem hlt) with h | h
            · rw [if_pos h.1] at h2
              omega
            · exact h
          · simp only [Bool.and_eq_true, beq_iff_eq] at hs
            omega
end Ct
/-- A value: what it leans on keeps P. -/
structure VlP (P : Nat → Prop) (w : World) (v : Vl) (sa : Option Addr) (sc : Nat) (al : Option Addr) (cl : Nat) : Prop where
  s : LiesU P w (intsU v.s) (.slice sa v.s.length sc)
  l : LiesU P w (vlsU v.l) (.slice al v.l.length cl)
theorem VlP.any {P : Nat → Prop} {w : World} {v : Vl} {sa : Option Addr} {sc : Nat} {al : Option Addr} {cl : Nat} (h : VlP P w v sa sc al cl) : VlAt w v sa sc al cl := ⟨h.s.wide, h.l.wide⟩
theorem VlP.thru {P Q F : Nat → Prop} {w w' : World} {v : Vl} {sa : Option Addr} {sc : Nat} {al : Option Addr} {cl : Nat} (h : VlP P w v sa sc al cl) (k : Kept F w w') (hf : ∀ b, P b → b < w.heap.size → ¬ F b) (hq : ∀ b, P b → b < w.heap.size → Q b) : VlP Q w' v sa sc al cl := ⟨h.s.thru k hf hq, h.l.thru k hf hq⟩
theorem TyP.thru {P Q F : Nat → Prop} {w w' : World} {t : Ty} {sa : Option Addr} {sc : Nat} {al : Option Addr} {cl : Nat} (h : TyP P w t sa sc al cl) (k : Kept F w w') (hf : ∀ b, P b → b < w.heap.size → ¬ F b) (hq : ∀ b, P b → b < w.heap.size → Q b) : TyP Q w' t sa sc al cl := ⟨h.n.thru k hf hq, h.l.thru k hf hq⟩
theorem lies_vlP {P : Nat → Prop} {w : World} {v : Vl} {vs : List Value} (h : LiesL P w (encV v) vs) :
    ∃ sa sc al cl, vs = [.int .i64 v.n, .slice sa v.s.length sc, .slice al v.l.length cl] ∧ VlP P w v sa sc al cl := by
  cases v with
  | mk n s l =>
    unfold encV at h
    obtain ⟨v0, t0, rfl, h0, h⟩ := h.inv
    obtain ⟨v1, t1, rfl, h1, h⟩ := h.inv
    obtain ⟨v2, t2, rfl, h2, h⟩ := h.inv
    have e := h.inv_nil
    obtain ⟨an, cn, e1⟩ := lies_slice h1
    obtain ⟨al, cl, e2⟩ := lies_slice h2
    subst e e1 e2
    rw [h0.int]
    exact ⟨an, cn, al, cl, rfl, h1, h2⟩
theorem vrow_in {P : Nat → Prop} {w : World} {l : List Vl} {a : Option Addr} {cap : Nat} (h : LiesU P w (vlsU l) (.slice a l.length cap)) {i : Nat} {x : Vl} (hx : l[i]? = some x) :
    ∃ g o sa sc al cl, a = some ⟨g, o, none⟩ ∧ P g ∧ g < w.heap.size ∧ VlP P w x sa sc al cl ∧ w.cell? ⟨g, o + i * 3, none⟩ = some (.int .i64 x.n) ∧ w.cell? ⟨g, o + i * 3 + 1, none⟩ = some (.slice sa x.s.length sc) ∧ w.cell? ⟨g, o + i * 3 + 2, none⟩ = some (.slice al x.l.length cl) := by
  unfold LiesU at h
  obtain ⟨a', cap', vs, hv, hc, hcm, hlen, hlv, hg⟩ := h
  obtain ⟨rfl, _, rfl⟩ : a = a' ∧ l.length = l.length ∧ cap = cap' := by simpa using hv
  have hi := (List.getElem?_eq_some_iff.1 hx).1
  rcases hg with hg | ⟨g, o, rfl, hp, hgl, hcl⟩
  · omega
  · rw [encVs_flat] at hlv
    have hrow := row_at (enc := encV) encV_length hlv hx
    have hcs := hcl.sub (i * 3) 3
    generalize (vs.drop (i * 3)).take 3 = us at hrow hcs
    obtain ⟨an, cn, al, cl, rfl, hty⟩ := lies_vlP hrow
    exact ⟨g, o, an, cn, al, cl, rfl, hp, hgl, hty, hcs 0 _ rfl, hcs 1 _ rfl, hcs 2 _ rfl⟩
def OfR (o : Option Nat) (b : Nat) (w : World) (y : Ending) (w' : World) : Prop :=
  match o with
  | none => y = .returned (.bool false) ∧ (∃ z, BlkAt w' b #[.int .i64 z] 65) ∧ Kept (· = b) w w'
  | some c => y = .returned (.bool true) ∧ BlkAt w' b #[.int .i64 (c : Nat)] 65 ∧ Kept (· = b) w w'
def OfAt (k : Nat) : Prop := ∀ (b : Nat) (t : Ty) (an : Option Addr) (cn : Nat) (al : Option Addr) (cl : Nat) (v : Vl) (sa : Option Addr) (sc : Nat) (av : Option Addr) (cv : Nat) (c : Nat) (w : World), okP k t → LtV v → TyP (· ≠ b) w t an cn al cl → VlP (· ≠ b) w v sa sc av cv → BlkAt w b #[.int .i64 (c : Nat)] 65 → c ≤ 4000 →
  Calls Tryz.prog 31 #[.pointer (some ⟨b, 0, none⟩), tyV t an cn al cl, vlV v sa sc av cv] w (OfR (ofK k t v c) b w)
end Go.Proofs.YtikgkjkgdlnekaaGreatDoor
