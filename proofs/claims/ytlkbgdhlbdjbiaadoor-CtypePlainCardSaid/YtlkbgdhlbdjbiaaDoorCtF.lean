/- ctype: the project's look at a type: (*counter).may, Check. -/
import Derived.Test.YtlkbgdhlbdjbiaaDoorCtD
set_option linter.unusedVariables false
set_option linter.unusedSimpArgs false
namespace Go.Proofs.YtlkbgdhlbdjbiaaDoor
open Go.RowKit
open Lex Ct

/-- A type, as a struct that leans on these blocks alone. -/
structure TyP (P : Nat → Prop) (w : World) (t : Ty) (an : Option Addr) (cn : Nat) (al : Option Addr) (cl : Nat) : Prop where
  n : LiesU P w (strsU t.names) (.slice an t.names.length cn)
  l : LiesU P w (tysU t.l) (.slice al t.l.length cl)
theorem TyP.any {P : Nat → Prop} {w : World} {t : Ty} {an : Option Addr} {cn : Nat} {al : Option Addr} {cl : Nat} (h : TyP P w t an cn al cl) : TyAt w t an cn al cl := ⟨h.n.wide, h.l.wide⟩
theorem TyAt.now {w : World} {t : Ty} {an : Option Addr} {cn : Nat} {al : Option Addr} {cl : Nat} (h : TyAt w t an cn al cl) : TyP (· < w.heap.size) w t an cn al cl := ⟨h.n.now, h.l.now⟩
theorem TyP.past {B : Nat} {F : Nat → Prop} {w w' : World} {t : Ty} {an : Option Addr} {cn : Nat} {al : Option Addr} {cl : Nat} (h : TyP (· < B) w t an cn al cl) (k : Kept F w w') (hf : ∀ i, F i → B ≤ i) : TyP (· < B) w' t an cn al cl := ⟨h.n.past k hf, h.l.past k hf⟩
/-- What lies at a place of a row of types. -/
theorem row_in {P : Nat → Prop} {w : World} {l : List Ty} {a : Option Addr} {cap : Nat} (h : LiesU P w (tysU l) (.slice a l.length cap)) {i : Nat} {x : Ty} (hx : l[i]? = some x) :
    ∃ g o an cn al cl, a = some ⟨g, o, none⟩ ∧ P g ∧ g < w.heap.size ∧ TyP P w x an cn al cl ∧ w.cell? ⟨g, o + i * 4, none⟩ = some (.int .i64 x.kind) ∧ w.cell? ⟨g, o + i * 4 + 1, none⟩ = some (.slice an x.names.length cn) ∧ w.cell? ⟨g, o + i * 4 + 2, none⟩ = some (.slice al x.l.length cl) ∧ w.cell? ⟨g, o + i * 4 + 3, none⟩ = some (.int .i64 x.r) := by
  unfold LiesU at h
  obtain ⟨a', cap', vs, hv, hc, hcm, hlen, hlv, hg⟩ := h
  obtain ⟨rfl, _, rfl⟩ : a = a' ∧ l.length = l.length ∧ cap = cap' := by simpa using hv
  have hi := (List.getElem?_eq_some_iff.1 hx).1
  rcases hg with hg | ⟨g, o, rfl, hp, hgl, hcl⟩
  · omega
  · rw [encTys_flat] at hlv
    have hrow := row_at (enc := encTy) encTy_length hlv hx
    have hcs := hcl.sub (i * 4) 4
    generalize (vs.drop (i * 4)).take 4 = us at hrow hcs
    cases x with
    | mk k n l r =>
      unfold encTy at hrow
      obtain ⟨v0, t0, rfl, h0, h⟩ := hrow.inv
      obtain ⟨v1, t1, rfl, h1, h⟩ := h.inv
      obtain ⟨v2, t2, rfl, h2, h⟩ := h.inv
      obtain ⟨v3, t3, rfl, h3, h⟩ := h.inv
      have e := h.inv_nil
      obtain ⟨an, cn, e1⟩ := lies_slice h1
      obtain ⟨al, cl, e2⟩ := lies_slice h2
      subst e e1 e2
      rw [h0.int, h3.int] at hcs
      exact ⟨g, o, an, cn, al, cl, rfl, hp, hgl, ⟨h1, h2⟩, hcs 0 _ rfl, hcs 1 _ rfl, hcs 2 _ rfl, hcs 3 _ rfl⟩
theorem row_bound {P : Nat → Prop} {w : World} {l : List Ty} {a : Option Addr} {cap : Nat} (h : LiesU P w (tysU l) (.slice a l.length cap)) : l.length ≤ cap ∧ cap ≤ 9223372036854775807 := by
  unfold LiesU at h
  obtain ⟨a', cap', vs, hv, hc, hcm, _⟩ := h
  obtain ⟨rfl, _, rfl⟩ : a = a' ∧ l.length = l.length ∧ cap = cap' := by simpa using hv
  exact ⟨hc, hcm⟩
/-- What a look at a type leaves in the counter's block. -/
def MayR (o : Option Nat) (b : Nat) (w : World) (y : Ending) (w' : World) : Prop :=
  match o with
  | none => y = .returned (.bool false) ∧ (∃ z, BlkAt w' b #[.int .i64 z] 58) ∧ Kept (· = b) w w'
  | some c => y = .returned (.bool true) ∧ BlkAt w' b #[.int .i64 (c : Nat)] 58 ∧ Kept (· = b) w w'
def MayAt (k : Nat) : Prop := ∀ (b : Nat) (t : Ty) (an : Option Addr) (cn : Nat) (al : Option Addr) (cl c : Nat) (w : World), TyP (· < b) w t an cn al cl → FineT t → BlkAt w b #[.int .i64 (c : Nat)] 58 → c ≤ 500 →
  Calls Tryd.prog 41 #[.pointer (some ⟨b, 0, none⟩), tyV t an cn al cl, .int .i64 (16 - k : Int)] w (MayR (mayK k t c) b w)
theorem mayK_le {k : Nat} {t : Ty} {c d : Nat} (h : mayK k t c = some d) : d ≤ 500 := by
  rw [mayK_eq] at h
  split at h
  · cases h; omega
  · cases h
set_option maxRecDepth 100000 in
set_option maxHeartbeats 4000000 in
theorem may_over (D : Int) (b : Nat) (t : Ty) (an : Option Addr) (cn : Nat) (al : Option Addr) (cl c : Nat) (w : World) (hb : BlkAt w b #[.int .i64 (c : Nat)] 58) (hc : c ≤ 500) (h : 500 < c + 1 ∨ (c + 1 ≤ 500 ∧ 16 ≤ D)) :
    Calls Tryd.prog 41 #[.pointer (some ⟨b, 0, none⟩), tyV t an cn al cl, .int .i64 D] w (MayR none b w) := by
  unfold MayR
  have kb : Kept (· = b) w (w.alloc (.cells #[.int .i64 t.kind, .slice an t.names.length cn, .slice al t.l.length cl, .int .i64 t.r] 25)) := (Kept.refl _ _).new _
  have B0 := hb.kept (F := fun _ => False) ((Kept.refl _ _).new (.cells #[.int .i64 t.kind, .slice an t.names.length cn, .slice al t.l.length cl, .int .i64 t.r] 25)) id
  have m0 := B0.cell 0
  have z0 := B0.frozen 0
  have B1 := B0.put 0 (.int .i64 ((c : Int) + 1))
  have m1 := B1.cell 0
  simp at m0 m1
  have kb1 := kb.set (p := ⟨b, 0, none⟩) rfl (.int .i64 ((c : Int) + 1))
  rcases h with h | ⟨h, hD⟩
  · have h5 : decide ((c : Int) + 1 > 500) = true := by simp; omega
    have HB := Lib.hid B1
    have HK := Lib.hid kb1
    clear hb kb B0 B1 kb1
    go_enter Tryd.func41, Tryd.ntmps41
    go_wp2_with fail
    go_ret
    exact ⟨rfl, ⟨_, HB.out⟩, HK.out⟩
  · have h5 : decide ((c : Int) + 1 > 500) = false := by simp; omega
    have h6 : decide (D ≥ 16) = true := by simp; omega
    have HB := Lib.hid B1
    have HK := Lib.hid kb1
    clear hb kb B0 B1 kb1
    go_enter Tryd.func41, Tryd.ntmps41
    go_wp2_with fail
    go_ret
    exact ⟨rfl, ⟨_, HB.out⟩, HK.out⟩
end Go.Proofs.YtlkbgdhlbdjbiaaDoor
