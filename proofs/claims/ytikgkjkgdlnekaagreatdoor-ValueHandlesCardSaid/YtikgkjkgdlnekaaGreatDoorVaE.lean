/- value: values as trees; what is told of a row of them. -/
import Derived.Test.YtikgkjkgdlnekaaGreatDoorCtBa
import Derived.Test.YtikgkjkgdlnekaaGreatDoorKitI
set_option linter.unusedVariables false
set_option linter.unusedSimpArgs false
namespace Go.Proofs.YtikgkjkgdlnekaaGreatDoor
open Go.RowKit
open Ct

namespace Ct
/-- A value: its number, its characters, what it has within. -/
inductive Vl where
  | mk (n : Int) (s : List Int) (l : List Vl)
instance : Inhabited Vl := ⟨.mk 0 [] []⟩
namespace Vl
def n : Vl → Int | mk n _ _ => n
def s : Vl → List Int | mk _ s _ => s
def l : Vl → List Vl | mk _ _ l => l
def zero : Vl := .mk 0 [] []
end Vl
theorem Vl.child {v x : Vl} (h : x ∈ v.l) : SizeOf.sizeOf x < SizeOf.sizeOf v := by
  cases v with
  | mk n s l =>
    have := List.sizeOf_lt_of_mem (show x ∈ l from h)
    simp only [Vl.mk.sizeOf_spec]
    omega
abbrev intsU (l : List Int) : U := .sl 3 1 l.length (l.map .z)
mutual
def encV : Vl → List U
  | .mk n s l => [.z n, intsU s, .sl 29 3 l.length (encVs l)]
def encVs : List Vl → List U
  | [] => []
  | v :: r => encV v ++ encVs r
end
abbrev vlsU (l : List Vl) : U := .sl 29 3 l.length (encVs l)
theorem encV_length (v : Vl) : (encV v).length = 3 := by cases v; rfl
theorem encVs_length : ∀ (l : List Vl), (encVs l).length = l.length * 3
  | [] => rfl
  | t :: r => by
    show (encV t ++ encVs r).length = _
    rw [List.length_append, encV_length, encVs_length r, List.length_cons]
    omega
theorem encVs_flat : ∀ l : List Vl, encVs l = l.flatMap encV
  | [] => rfl
  | t :: r => by rw [List.flatMap_cons, ← encVs_flat r]; rfl
theorem encVs_one (t : Vl) : encVs [t] = encV t := by
  show encV t ++ encVs [] = _
  exact List.append_nil _
theorem encVs_append : ∀ (a b : List Vl), encVs (a ++ b) = encVs a ++ encVs b
  | [], b => rfl
  | t :: r, b => by
    show encV t ++ encVs (r ++ b) = (encV t ++ encVs r) ++ encVs b
    rw [encVs_append, List.append_assoc]
end Ct
/-- A value, as a struct of these cells. -/
structure VlAt (w : World) (v : Vl) (sa : Option Addr) (sc : Nat) (al : Option Addr) (cl : Nat) : Prop where
  s : LiesU AnyB w (intsU v.s) (.slice sa v.s.length sc)
  l : LiesU AnyB w (vlsU v.l) (.slice al v.l.length cl)
theorem VlAt.kept {w w' : World} {v : Vl} {sa : Option Addr} {sc : Nat} {al : Option Addr} {cl : Nat} (h : VlAt w v sa sc al cl) (k : Kept (fun _ => False) w w') : VlAt w' v sa sc al cl := ⟨h.s.kept k, h.l.kept k⟩
abbrev vlV (v : Vl) (sa : Option Addr) (sc : Nat) (al : Option Addr) (cl : Nat) : Value := .agg #[.int .i64 v.n, .slice sa v.s.length sc, .slice al v.l.length cl]
theorem lies_vl {P : Nat → Prop} {w : World} {v : Vl} {vs : List Value} (h : LiesL P w (encV v) vs) :
    ∃ sa sc al cl, vs = [.int .i64 v.n, .slice sa v.s.length sc, .slice al v.l.length cl] ∧ VlAt w v sa sc al cl := by
  cases v with
  | mk n s l =>
    unfold encV at h
    obtain ⟨v0, t0, rfl, h0, h⟩ := h.inv
    obtain ⟨v1, t1, rfl, h1, h⟩ := h.inv
    obtain ⟨v2, t2, rfl, h2, h⟩ := h.inv
    have e := h.inv_nil
    obtain ⟨an, cn, e1⟩ := lies_slice h1
    obtain ⟨al, cl, e2⟩ := lies_slice h2
    subst e e1 e2
    rw [h0.int]
    exact ⟨an, cn, al, cl, rfl, h1.wide, h2.wide⟩
theorem vl_lies {P : Nat → Prop} {w : World} {v : Vl} {vn vl : Value} (h1 : LiesU P w (intsU v.s) vn) (h2 : LiesU P w (vlsU v.l) vl) : LiesL P w (encV v) [.int .i64 v.n, vn, vl] := by
  cases v with
  | mk n s l =>
    unfold encV
    exact .cons (liesU_z _) (.cons h1 (.cons h2 .nil))
/-- A row of values: what lies at a place of it. -/
structure VRowAt (w : World) (l : List Vl) (a : Option Addr) (cap : Nat) : Prop where
  lies : LiesU AnyB w (vlsU l) (.slice a l.length cap)
theorem VRowAt.kept {w w' : World} {l : List Vl} {a : Option Addr} {cap : Nat} (h : VRowAt w l a cap) (k : Kept (fun _ => False) w w') : VRowAt w' l a cap := ⟨h.lies.kept k⟩
theorem VRowAt.bound {w : World} {l : List Vl} {a : Option Addr} {cap : Nat} (h : VRowAt w l a cap) : l.length ≤ cap ∧ cap ≤ 9223372036854775807 := by
  have h := h.lies
  unfold LiesU at h
  obtain ⟨a', cap', vs, hv, hc, hcm, _⟩ := h
  obtain ⟨rfl, _, rfl⟩ : a = a' ∧ l.length = l.length ∧ cap = cap' := by simpa using hv
  exact ⟨hc, hcm⟩
theorem VRowAt.at {w : World} {l : List Vl} {a : Option Addr} {cap : Nat} (h : VRowAt w l a cap) {i : Nat} {x : Vl} (hx : l[i]? = some x) :
    ∃ g o sa sc al cl, a = some ⟨g, o, none⟩ ∧ g < w.heap.size ∧ VlAt w x sa sc al cl ∧ w.cell? ⟨g, o + i * 3, none⟩ = some (.int .i64 x.n) ∧ w.cell? ⟨g, o + i * 3 + 1, none⟩ = some (.slice sa x.s.length sc) ∧ w.cell? ⟨g, o + i * 3 + 2, none⟩ = some (.slice al x.l.length cl) := by
  have h := h.lies
  unfold LiesU at h
  obtain ⟨a', cap', vs, hv, hc, hcm, hlen, hlv, hg⟩ := h
  obtain ⟨rfl, _, rfl⟩ : a = a' ∧ l.length = l.length ∧ cap = cap' := by simpa using hv
  have hi := (List.getElem?_eq_some_iff.1 hx).1
  rcases hg with hg | ⟨g, o, rfl, _, hgl, hcl⟩
  · omega
  · rw [encVs_flat] at hlv
    have hrow := row_at (enc := encV) encV_length hlv hx
    have hcs := hcl.sub (i * 3) 3
    generalize (vs.drop (i * 3)).take 3 = us at hrow hcs
    obtain ⟨an, cn, al, cl, rfl, hty⟩ := lies_vl hrow
    exact ⟨g, o, an, cn, al, cl, rfl, hgl, hty, hcs 0 _ rfl, hcs 1 _ rfl, hcs 2 _ rfl⟩
theorem VlAt.row {w : World} {v : Vl} {sa : Option Addr} {sc : Nat} {al : Option Addr} {cl : Nat} (h : VlAt w v sa sc al cl) : VRowAt w v.l al cl := ⟨h.l⟩
/-- A row of numbers: what lies at a place of it. -/
structure IRowAt (w : World) (l : List Int) (a : Option Addr) (cap : Nat) : Prop where
  lies : LiesU AnyB w (intsU l) (.slice a l.length cap)
theorem IRowAt.kept {w w' : World} {l : List Int} {a : Option Addr} {cap : Nat} (h : IRowAt w l a cap) (k : Kept (fun _ => False) w w') : IRowAt w' l a cap := ⟨h.lies.kept k⟩
theorem IRowAt.bound {w : World} {l : List Int} {a : Option Addr} {cap : Nat} (h : IRowAt w l a cap) : l.length ≤ cap ∧ cap ≤ 9223372036854775807 := by
  have h := h.lies
  unfold LiesU at h
  obtain ⟨a', cap', vs, hv, hc, hcm, _⟩ := h
  obtain ⟨rfl, _, rfl⟩ : a = a' ∧ l.length = l.length ∧ cap = cap' := by simpa using hv
  exact ⟨hc, hcm⟩
theorem flat_ints : ∀ xs : List Int, (xs.flatMap fun b => [U.z b]) = xs.map U.z
  | [] => rfl
  | y :: r => by rw [List.flatMap_cons, List.map_cons, flat_ints r]; rfl
theorem IRowAt.at {w : World} {l : List Int} {a : Option Addr} {cap : Nat} (h : IRowAt w l a cap) {i : Nat} {x : Int} (hx : l[i]? = some x) :
    ∃ g o, a = some ⟨g, o, none⟩ ∧ g < w.heap.size ∧ w.cell? ⟨g, o + i, none⟩ = some (.int .i64 x) := by
  have h := h.lies
  unfold LiesU at h
  obtain ⟨a', cap', vs, hv, hc, hcm, hlen, hlv, hg⟩ := h
  obtain ⟨rfl, _, rfl⟩ : a = a' ∧ l.length = l.length ∧ cap = cap' := by simpa using hv
  have hi := (List.getElem?_eq_some_iff.1 hx).1
  rcases hg with hg | ⟨g, o, rfl, _, hgl, hcl⟩
  · omega
  · rw [← flat_ints] at hlv
    have hrow := row_at (enc := fun b => [U.z b]) (m := 1) (fun _ => rfl) hlv hx
    have hcs := hcl.sub (i * 1) 1
    generalize (vs.drop (i * 1)).take 1 = us at hrow hcs
    obtain ⟨v0, t0, rfl, h0, h1⟩ := hrow.inv
    have e := h1.inv_nil
    subst e
    refine ⟨g, o, rfl, hgl, ?_⟩
    have := hcs 0 _ rfl
    rw [Nat.mul_one, Nat.add_zero] at this
    rw [this, h0.int]
theorem VlAt.ints {w : World} {v : Vl} {sa : Option Addr} {sc : Nat} {al : Option Addr} {cl : Nat} (h : VlAt w v sa sc al cl) : IRowAt w v.s sa sc := ⟨h.s⟩
/-- The box of a value: its three cells. -/
theorem boxV_cells {w : World} {b : Nat} {c0 c1 c2 : Value} (h : BlkAt w b #[c0, c1, c2] 29) : w.cell? ⟨b, 0, none⟩ = some c0 ∧ w.cell? ⟨b, 1, none⟩ = some c1 ∧ w.cell? ⟨b, 2, none⟩ = some c2 := ⟨h.cell 0, h.cell 1, h.cell 2⟩
end Go.Proofs.YtikgkjkgdlnekaaGreatDoor
