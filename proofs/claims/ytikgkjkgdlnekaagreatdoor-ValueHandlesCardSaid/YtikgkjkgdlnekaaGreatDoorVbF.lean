/- value: plain, of any type that may be. -/
import Derived.Test.YtikgkjkgdlnekaaGreatDoorVbE
import Derived.Test.YtikgkjkgdlnekaaGreatDoorCtGG
set_option linter.unusedVariables false
set_option linter.unusedSimpArgs false
namespace Go.Proofs.YtikgkjkgdlnekaaGreatDoor
open Go.RowKit
open Lex Ct

namespace Ct
/-- A type of which each enum, option and result is a variant: here, not within. -/
def plP (t : Ty) : Ty := if t.kind = 16 ∨ t.kind = 17 ∨ t.kind = 18 then plainT t else t
def plK : Nat → Ty → Ty
  | 0, t => t
  | k + 1, t => .mk (plP t).kind (plP t).names ((plP t).l.map (plK k)) (plP t).r
def goodT (k : Nat) (t : Ty) : Prop := isNone t = true ∨ deepK k t = true
theorem plP_l (t : Ty) : (plP t).l = if t.kind = 16 ∨ t.kind = 17 ∨ t.kind = 18 then plainL t else t.l := by
  unfold plP
  split
  · exact plainT_l t
  · rfl
theorem none_parts {t : Ty} (h : isNone t = true) : t.l = [] ∧ t.names = [] ∧ t.kind = 0 := by
  unfold isNone at h
  simp only [Bool.and_eq_true, beq_iff_eq, List.length_eq_zero_iff] at h
  exact ⟨h.2.2.2, h.2.2.1, h.1⟩
theorem none_zero5 : isNone Ty.zero = true := rfl
theorem plainL_mem' {t x : Ty} (h : x ∈ plainL t) : x = .zero ∨ x ∈ t.l := by
  unfold plainL at h
  split at h
  · exact .inl (List.eq_of_mem_replicate h)
  · split at h
    · rcases List.mem_cons.1 h with h | h
      · exact .inl h
      · exact .inr h
    · exact .inr h
theorem good_part {k : Nat} {t x : Ty} (h : deepK (k + 1) t = true) (hx : x ∈ (plP t).l) : goodT k x := by
  rw [plP_l] at hx
  have key : x ∈ t.l → goodT k x := fun h2 => deep_part h h2
  split at hx
  · rcases plainL_mem' hx with rfl | hx
    · exact .inl none_zero5
    · exact key hx
  · exact key hx
theorem plK_none {k : Nat} {t : Ty} (h : isNone t = true) : plK (k + 1) t = t := by
  obtain ⟨h1, h2, h3⟩ := none_parts h
  have e : plP t = t := if_neg (by omega)
  cases t with
  | mk kd n l r =>
    have h1 : l = [] := h1
    unfold plK
    rw [e, h1]
    rfl
end Ct
theorem plv_all : ∀ (k : Nat) (t : Ty), goodT k t → PlvAt t (plK (k + 1) t) := by
  intro k
  induction k with
  | zero =>
    intro t h
    have h : isNone t = true := h.resolve_right (by simp [deepK])
    obtain ⟨h1, h2, h3⟩ := none_parts h
    have e : plP t = t := if_neg (by omega)
    cases t with
    | mk kd n l r =>
      have h1 : l = [] := h1
      have h3 : kd = 0 := h3
      subst h1 h3
      unfold plK
      rw [e]
      exact plv_n 0 n [] r (plK 0) (by simp) rfl rfl rfl (Lib.hid fun y hy => by cases hy)
  | succ k IH =>
    intro t h
    have hlen : (plP t).l.length ≤ 100 := by
      rw [plP_l]
      rcases h with h | h
      · obtain ⟨h1, h2, h3⟩ := none_parts h
        rw [if_neg (by omega), h1]
        simp
      · have := deep_lens h
        split <;> omega
    have hin : Hid (∀ y ∈ (plP t).l, PlvAt y (plK (k + 1) y)) := Lib.hid fun y hy => by
      rcases h with h | h
      · obtain ⟨h1, h2, h3⟩ := none_parts h
        have e : plP t = t := if_neg (by omega)
        rw [e, h1] at hy
        cases hy
      · exact IH y (good_part h hy)
    by_cases h0 : t.kind = 16 ∨ t.kind = 17 ∨ t.kind = 18
    · have hd : deepK (k + 1) t = true := by
        rcases h with h | h
        · have := (none_parts h).2.2
          omega
        · exact h
      have e : plP t = plainT t := if_pos h0
      unfold plK
      rw [e] at hlen hin ⊢
      cases t with
      | mk kd n l r =>
        rcases h0 with h0 | h0 | h0
        · have h0 : kd = 16 := h0
          subst h0
          exact plv_16 n l r k _ rfl hd (plK (k + 1)) hlen hin
        · have h0 : kd = 17 := h0
          subst h0
          exact plv_17 n l r k _ rfl hd (plK (k + 1)) hlen hin
        · have h0 : kd = 18 := h0
          subst h0
          exact plv_18 n l r k _ rfl hd (plK (k + 1)) hlen hin
    · have e : plP t = t := if_neg h0
      unfold plK
      rw [e] at hlen hin ⊢
      cases t with
      | mk kd n l r =>
        have h0 : ¬ (kd = 16 ∨ kd = 17 ∨ kd = 18) := h0
        exact plv_n kd n l r (plK (k + 1)) hlen (by simp; omega) (by simp; omega) (by simp; omega) hin
/-- PLAIN, the project's own, of a type that may be. -/
theorem rdPlV (t : Ty) (an : Option Addr) (cn : Nat) (al : Option Addr) (cl : Nat) (w : World) (h : TyAt w t an cn al cl) (ho : okT t = true) :
    Calls Tryz.prog 27 #[tyV t an cn al cl] w (PlainR (plK 17 t) w) := by
  refine (plv_all 16 t (.inr (okT_deep ho).1) AnyB an cn al cl w (fun _ _ => trivial) h.n h.l).mono ?_
  rintro y w' ⟨ap, cp, aq, cq, e, h1, h2, k⟩
  exact ⟨ap, cp, aq, cq, e, ⟨h1, h2⟩, k⟩
end Go.Proofs.YtikgkjkgdlnekaaGreatDoor
