/- ctype: core types, as plain functions; rows of numbers that a call gives. -/
import Derived.Test.YtlkbgdhlbdjbiaaDoorCtT
import Derived.Laws.AppendOwnNone
set_option linter.unusedVariables false
set_option linter.unusedSimpArgs false
namespace Go.Proofs.YtlkbgdhlbdjbiaaDoor
open Go.RowKit
open Lex Ct

namespace Ct
def ovS (out : List Int) (i : Nat) (c : Int) : List Int := if i + 1 = out.length then out ++ [c] else if out.getD (i + 1) 0 = c then out else out.set (i + 1) 126
def ovR : List Int → Nat → List Int → List Int
  | out, _, [] => out
  | out, i, c :: r => ovR (ovS out i c) (i + 1) r
theorem ovR_step {out cs : List Int} {i : Nat} {c : Int} (h : cs[i]? = some c) : ovR out i (cs.drop i) = ovR (ovS out i c) (i + 1) (cs.drop (i + 1)) := by
  obtain ⟨hi, rfl⟩ := List.getElem?_eq_some_iff.1 h
  rw [List.drop_eq_getElem_cons hi, ovR]
theorem ovR_end {out cs : List Int} {i : Nat} (h : cs.length ≤ i) : ovR out i (cs.drop i) = out := by
  rw [List.drop_eq_nil_of_le h, ovR]
theorem ovS_len {out : List Int} {i : Nat} (c : Int) (h : i + 1 ≤ out.length) : i + 2 ≤ (ovS out i c).length ∧ out.length ≤ (ovS out i c).length ∧ (ovS out i c).length ≤ out.length + 1 ∧ ((ovS out i c).length ≤ out.length ∨ (ovS out i c).length ≤ i + 2) := by
  unfold ovS
  split
  · rw [List.length_append, List.length_singleton]; omega
  · split
    · omega
    · rw [List.length_set]; omega
theorem ovR_len : ∀ (cs : List Int) (out : List Int) (i : Nat), i + 1 ≤ out.length → out.length ≤ (ovR out i cs).length ∧ ((ovR out i cs).length ≤ out.length ∨ (ovR out i cs).length ≤ i + 1 + cs.length)
  | [], out, i, h => ⟨Nat.le_refl _, .inl (Nat.le_refl _)⟩
  | c :: r, out, i, h => by
    have h1 := ovS_len c h
    have h2 := ovR_len r (ovS out i c) (i + 1) (by omega)
    unfold ovR
    rw [List.length_cons]
    omega
def ovF (f : Ty → List Int) (l : List Ty) : List Int := l.foldl (fun o x => ovR o 0 (f x)) [127]
theorem ovF_snoc {f : Ty → List Int} {l : List Ty} {i : Nat} {x : Ty} (h : l[i]? = some x) : ovF f (l.take (i + 1)) = ovR (ovF f (l.take i)) 0 (f x) := by
  unfold ovF
  rw [List.take_add_one, h, Option.toList_some, List.foldl_append]
  rfl
def behL (f : Ty → List Int) (l : List Ty) : List Int := (l.map f).flatten
theorem behL_snoc {f : Ty → List Int} {l : List Ty} {i : Nat} {x : Ty} (h : l[i]? = some x) : behL f (l.take (i + 1)) = behL f (l.take i) ++ f x := by
  unfold behL
  rw [List.take_add_one, h, Option.toList_some, List.map_append, List.flatten_append]
  simp
def coreK : Nat → Ty → List Int
  | 0, _ => []
  | k + 1, t => if t.kind = 0 then [] else if t.kind = 8 ∨ t.kind = 9 then [126] else if t.kind = 11 ∨ t.kind = 12 then [127, 127] else if t.kind = 13 ∨ t.kind = 14 then behL (coreK k) t.l
    else if t.kind = 15 ∨ t.kind = 16 ∨ t.kind = 17 ∨ t.kind = 18 then ovF (coreK k) (plainL t) else [127]
theorem behL_len {k : Nat} {f : Ty → List Int} (h : ∀ x, (x.kind = 0 → f x = []) ∧ (f x).length ≤ 2 * cntK k x) : ∀ l : List Ty, (behL f l).length ≤ 2 * csum k l
  | [] => Nat.zero_le _
  | x :: r => by
    show (f x ++ behL f r).length ≤ _
    rw [List.length_append, csum_cons]
    have h1 := h x
    have h2 := behL_len h r
    by_cases hk : x.kind = 0
    · rw [if_pos hk, h1.1 hk]
      show 0 + _ ≤ _
      omega
    · rw [if_neg hk]
      omega
theorem ovF_len {k : Nat} {f : Ty → List Int} (h : ∀ x, (x.kind = 0 → f x = []) ∧ (f x).length ≤ 2 * cntK k x) : ∀ (l : List Ty) (o : List Int) (S : Nat), 1 ≤ o.length → o.length ≤ 1 + 2 * S →
    1 ≤ (l.foldl (fun o x => ovR o 0 (f x)) o).length ∧ (l.foldl (fun o x => ovR o 0 (f x)) o).length ≤ 1 + 2 * (S + csum k l)
  | [], o, S, h1, h2 => ⟨h1, h2⟩
  | x :: r, o, S, h1, h2 => by
    rw [List.foldl_cons, csum_cons, ← Nat.add_assoc]
    have hx := h x
    have h3 := ovR_len (f x) o 0 (by omega)
    refine ovF_len h r _ _ (by omega) ?_
    by_cases hk : x.kind = 0
    · rw [if_pos hk, hx.1 hk]
      show o.length ≤ _
      omega
    · rw [if_neg hk]
      omega
theorem coreK_len : ∀ (k : Nat) (t : Ty), (t.kind = 0 → coreK k t = []) ∧ (coreK k t).length ≤ 2 * cntK k t
  | 0, t => ⟨fun _ => rfl, Nat.zero_le _⟩
  | k + 1, t => by
    have ih := coreK_len k
    refine ⟨fun h => by unfold coreK; rw [if_pos h], ?_⟩
    rw [cntK_succ]
    unfold coreK
    split
    · show 0 ≤ _; omega
    split
    · show 1 ≤ _; omega
    split
    · show 2 ≤ _; omega
    split
    · have := behL_len ih t.l; omega
    split
    · have h1 := (ovF_len ih (plainL t) [127] 0 (Nat.le_refl _) (Nat.le_refl _)).2
      have h2 := csum_plain k t
      unfold ovF
      omega
    · show 1 ≤ _; omega
theorem core_small {k : Nat} {x : Ty} (h : Fit k x) : (coreK k x).length ≤ 1000 := by
  have h1 := coreK_len k x
  by_cases h0 : x.kind = 0
  · rw [h1.1 h0]; exact Nat.zero_le _
  · have := h.cnt h0; omega
end Ct
/-- A row of numbers, given: none, where there are none. -/
def CoreR (xs : List Int) (w : World) (y : Ending) (w' : World) : Prop := ∃ av cap, y = .returned (.slice av xs.length cap) ∧ Ints w.heap.size (.slice av xs.length cap) xs w' ∧ (xs = [] → av = none ∧ cap = 0) ∧ Kept (fun _ => False) w w'
theorem CoreR.no (w : World) (w' : World) (k : Kept (fun _ => False) w w') : CoreR [] w (.returned (.slice none 0 0)) w' := ⟨Option.none, 0, rfl, World.ownsRow_nil _ _ _ _, fun _ => ⟨rfl, rfl⟩, k⟩
/-- A row that is not empty: where it lies. -/
theorem Ints.at {base : Nat} {av : Option Addr} {cap : Nat} {xs : List Int} {w : World} (h : Ints base (.slice av xs.length cap) xs w) (hne : xs ≠ []) :
    ∃ g, av = some ⟨g, 0, Option.none⟩ ∧ base ≤ g ∧ g < w.heap.size ∧ xs.length ≤ cap ∧ cap ≤ maxLen ∧ ∀ j u, (xs.map (Value.int .i64))[j]? = some u → w.cell? ((⟨g, 0, Option.none⟩ : Addr).add j) = some u := by
  rcases h.2 with ⟨e, h0⟩ | ⟨g, cp, cur, e, hg, hgg, hc, hm, h3⟩
  · exact absurd (List.length_eq_zero_iff.1 h0) hne
  · obtain ⟨rfl, _, rfl⟩ : av = some ⟨g, 0, Option.none⟩ ∧ xs.length = xs.length ∧ cap = cp := by simpa using e
    exact ⟨g, rfl, hg, (Array.getElem?_eq_some_iff.1 hgg).1, hc, hm, World.ownsRow.cells h rfl⟩
theorem Ints.kept {base : Nat} {v : Value} {xs : List Int} {w w' : World} {F : Nat → Prop} (h : Ints base v xs w) (k : Kept F w w') (hf : ∀ q, v.ownBlock = some q → ¬ F q) : Ints base v xs w' := ownsRow_kept h k hf
theorem Ints.mono {b b' : Nat} {v : Value} {xs : List Int} {w : World} (h : Ints b v xs w) (hb : b' ≤ b) : Ints b' v xs w := by
  refine ⟨h.1, ?_⟩
  rcases h.2 with h2 | ⟨g, cap, cur, e, hg, rest⟩
  · exact .inl h2
  · exact .inr ⟨g, cap, cur, e, Nat.le_trans hb hg, rest⟩
end Go.Proofs.YtlkbgdhlbdjbiaaDoor
