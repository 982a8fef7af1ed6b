/- ctype: clone: the rows' clones as trees. -/
import Derived.Test.YtlkbgdhlbdjbiaaDoorCtCa
set_option linter.unusedVariables false
set_option linter.unusedSimpArgs false
namespace Go.Proofs.YtlkbgdhlbdjbiaaDoor
open Go.RowKit
open Lex Ct

theorem LiesL.one {P : Nat → Prop} {w : World} {xs : List U} {vs : List Value} (h : LiesL P w xs vs) : ∀ u ∈ vs, u.oneCell' = true := LiesL.oneCell h
theorem lies_open {P : Nat → Prop} {w : World} {T : TypeId} {m n : Nat} {us : List U} {a : Option Addr} {cap : Nat} (h : LiesU P w (.sl T m n us) (.slice a n cap)) :
    ∃ vs, LiesL P w us vs ∧ vs.length = n * m ∧ (n = 0 ∨ ∃ g o, a = some ⟨g, o, none⟩ ∧ ∀ j u, vs[j]? = some u → w.cell? ((⟨g, o, none⟩ : Addr).add j) = some u) := by
  unfold LiesU at h
  obtain ⟨a2, cap2, vs, e, h1, h2, h3, h4, h5⟩ := h
  cases e
  refine ⟨vs, h4, by rw [h4.length, h3], ?_⟩
  rcases h5 with h5 | ⟨g, o, e2, hp, hg, hc⟩
  · exact .inl h5
  · refine .inr ⟨g, o, e2, fun j u hj => ?_⟩
    rw [Addr.add_lit]
    exact hc j u hj
theorem row_lies {P : Nat → Prop} {w : World} {T : TypeId} {m n base : Nat} {us : List U} {vs : List Value} {a : Option Addr} {cap : Nat} (ho : w.ownsRow base T m (.slice a n cap) n vs) (hl : LiesL P w us vs) (hu : us.length = n * m) (hP : ∀ g, base ≤ g → P g) :
    LiesU P w (.sl T m n us) (.slice a n cap) := by
  unfold LiesU
  rcases ho.2 with ⟨e, h0⟩ | ⟨g, cp, cur, e, hb, hg, hc, hm, h3, h4⟩
  · cases e
    exact ⟨none, 0, vs, rfl, Nat.le_refl _, by omega, hu, hl, .inl rfl⟩
  · cases e
    refine ⟨_, _, vs, rfl, hc, hm, hu, hl, .inr ⟨g, 0, rfl, hP g hb, (Array.getElem?_eq_some_iff.1 hg).1, fun j v hj => ?_⟩⟩
    have := World.ownsRow.cells ho rfl j v hj
    rw [Addr.add_lit] at this
    exact this
theorem texts_lie {P Q : Nat → Prop} {w w' : World} : ∀ (l : List Nm) {vs : List Value}, LiesL P w (l.map .s) vs → LiesL Q w' (l.map .s) vs
  | [], vs, h => by rw [h.inv_nil]; exact .nil
  | b :: r, vs, h => by
    obtain ⟨v, t, rfl, h1, h2⟩ := LiesL.inv h
    refine .cons ?_ (texts_lie r h2)
    unfold LiesU at h1 ⊢
    exact h1
/-- The clone of a row of texts. -/
theorem rdCloneN (l : List Nm) (a : Option Addr) (cap : Nat) (w : World) (h : LiesU AnyB w (strsU l) (.slice a l.length cap)) (hn : l.length ≤ 100) :
    Calls Tryd.prog 38 #[.slice a l.length cap] w fun y w' => ∃ a' cap', y = .returned (.slice a' l.length cap') ∧ LiesU (w.heap.size ≤ ·) w' (strsU l) (.slice a' l.length cap') ∧ Kept (fun _ => False) w w' := by
  obtain ⟨vs, h1, h2, h3⟩ := lies_open h
  refine (clone_text a l.length cap vs w hn h2 h1.one h3).mono ?_
  rintro y w' ⟨a', cap', rfl, ho, k⟩
  have hs : LiesL (w.heap.size ≤ ·) w' (l.map .s) vs := texts_lie l h1
  exact ⟨a', cap', rfl, row_lies ho hs (by simp) (fun g hg => hg), k⟩
/-- The clone of a row of types: where it lies, what is in it. -/
theorem rdCloneT (B : Nat) (l : List Ty) (a : Option Addr) (cap : Nat) (w : World) (h : LiesU (· < B) w (tysU l) (.slice a l.length cap)) (hn : l.length ≤ 100) :
    Calls Tryd.prog 39 #[.slice a l.length cap] w fun y w' => ∃ a' cap', y = .returned (.slice a' l.length cap') ∧ l.length ≤ cap' ∧ cap' ≤ maxLen ∧
      (l.length = 0 ∨ ∃ g cur, a' = some ⟨g, 0, none⟩ ∧ w.heap.size ≤ g ∧ BlkAt w' g cur 25 ∧ LiesL (· < B) w' (encTys l) (cur.toList.take (l.length * 4)) ∧ cur.size = cap' * 4) ∧ Kept (fun _ => False) w w' := by
  obtain ⟨vs, h1, h2, h3⟩ := lies_open h
  refine (clone_type a l.length cap vs w hn h2 h1.one h3).mono ?_
  rintro y w' ⟨a', cap', rfl, ho, k⟩
  have hl : LiesL (· < B) w' (encTys l) vs := h1.past k (fun _ e => e.elim)
  rcases ho.2 with ⟨e, h0⟩ | ⟨g, cp, cur, e, hb, hg, hc, hm, h3', h4⟩
  · obtain ⟨rfl, _, rfl⟩ : a' = none ∧ l.length = 0 ∧ cap' = 0 := by simpa using e
    exact ⟨none, 0, rfl, by omega, Nat.zero_le _, .inl h0, k⟩
  · obtain ⟨rfl, rfl⟩ : a' = some ⟨g, 0, none⟩ ∧ cap' = cp := by simpa using e
    exact ⟨_, _, rfl, hc, hm, .inr ⟨g, cur, rfl, hb, hg, by rw [h4]; exact hl, h3'⟩, k⟩
end Go.Proofs.YtlkbgdhlbdjbiaaDoor
