/- lex: LexAgain, plainly: tokens written again are cut into the same. -/
import Derived.Test.YtnnajiaakfeocaaLexR
import Derived.Test.YtnnajiaakfeocaaLexZ
namespace Go.Proofs.Ytnnajiaakfeocaa
open Go.RowKit
open Lex

namespace Lex
/-- A token's text. -/
def Tok.text (t : Tok) : List Int := if t.kind = 2 then 37 :: t.s else t.s
def Tok.off (t : Tok) : Nat := if t.kind = 2 then 1 else 0
/-- A token whose text, with a blank behind it, is cut as it was. -/
structure Ok (t : Tok) : Prop where
  cut : ∀ r, spn (t.text ++ 32 :: r) = (t.kind, t.off, t.text.length)
  may : may t.kind t.s = true
  ne : t.text ≠ []
  blank : ∀ r, bla (t.text ++ 32 :: r) = some 0
theorem bla_at {c : Int} {r : List Int} (h : blk c = false) (h47 : c ≠ 47) : bla (c :: r) = some 0 :=
  bla_zero (fun x y e => by injection e with e _; rw [← e]; exact h) (by simp; exact h47)
theorem ltr_blk {c : Int} (h : ltr c = true) : blk c = false ∧ c ≠ 47 ∧ c ≠ 37 ∧ nam c = true := by
  have h2 : (97 ≤ c ∧ c ≤ 122) ∨ (65 ≤ c ∧ c ≤ 90) := by
    unfold ltr sml grt at h
    simpa using h
  refine ⟨?_, by omega, by omega, by unfold nam; rw [h]; rfl⟩
  unfold blk
  simp
  omega
theorem dig_blk {c : Int} (h : dig c = true) : blk c = false ∧ c ≠ 47 ∧ c ≠ 37 ∧ ver c = true := by
  have h2 : 48 ≤ c ∧ c ≤ 57 := by
    unfold dig at h
    simpa using h
  refine ⟨?_, by omega, by omega, dig_ver h⟩
  unfold blk
  simp
  omega
theorem far_take (p : Int → Bool) : ∀ (l : List Int), ∀ x ∈ l.take (far p l), p x = true
  | [], x, h => by cases h
  | c :: r, x, h => by
    cases hp : p c
    · rw [far_stop hp] at h; cases h
    · rw [far_next hp, List.take_succ_cons] at h
      rcases List.mem_cons.1 h with h | h
      · rw [h]; exact hp
      · exact far_take p r x h
theorem far_size (p : Int → Bool) (l : List Int) : (l.take (far p l)).length = far p l := by
  rw [List.length_take]
  have := far_le p l
  omega
theorem sgn_ok : ∀ c ∈ sgnL, blk c = false ∧ c ≠ 37 ∧ ltr c = false ∧ dig c = false ∧ c ≠ 45 := by decide
/-- What is cut off is a good token. -/
theorem spn_ok {l : List Int} (hl : l ≠ []) {k a b n : Nat} (h : spn l = (k, a, b)) (hm : may k ((l.drop a).take (b - a)) = true) :
    Ok ⟨k, (l.drop a).take (b - a), n⟩ ∧ (⟨k, (l.drop a).take (b - a), n⟩ : Tok).text = l.take b ∧ b ≤ l.length := by
  have hin := spn_in l hl
  rw [h] at hin
  obtain ⟨hab, hbl, _⟩ := hin
  dsimp only at hab hbl
  cases l with
  | nil => exact absurd rfl hl
  | cons c r =>
    have h' := h
    rw [spn_cons] at h
    by_cases h37 : c = 37
    · rw [if_pos h37] at h
      injection h with hk h
      injection h with ha hb
      subst hk ha hb
      have hS : ((c :: r).drop 1).take (1 + far nam r - 1) = r.take (far nam r) := by
        rw [show 1 + far nam r - 1 = far nam r by omega]
        rfl
      rw [hS] at hm ⊢
      refine ⟨⟨fun q => ?_, hm, by simp [Tok.text], fun q => ?_⟩, ?_, hbl⟩
      · show spn (37 :: (r.take (far nam r) ++ 32 :: q)) = (2, 1, (37 :: r.take (far nam r)).length)
        rw [spn_cons, if_pos rfl, far_app (far_take nam r) rfl, List.length_cons, Nat.add_comm]
      · exact bla_at (c := 37) rfl (by decide)
      · show 37 :: r.take (far nam r) = (c :: r).take (1 + far nam r)
        rw [Nat.add_comm, List.take_succ_cons, h37]
    · rw [if_neg h37] at h
      by_cases hlt : ltr c = true
      · rw [if_pos hlt] at h
        injection h with hk h
        injection h with ha hb
        subst hk ha hb
        obtain ⟨b1, b2, b3, b4⟩ := ltr_blk hlt
        have hS : ((c :: r).drop 0).take (far nam (c :: r) - 0) = (c :: r).take (far nam (c :: r)) := rfl
        rw [hS] at hm ⊢
        have hF := far_next (p := nam) (l := r) b4
        have ht : (c :: r).take (far nam (c :: r)) = c :: r.take (far nam r) := by rw [hF, List.take_succ_cons]
        have hall := far_take nam (c :: r)
        have hsz := far_size nam (c :: r)
        refine ⟨⟨fun q => ?_, hm, by show (c :: r).take _ ≠ []; rw [ht]; simp, fun q => ?_⟩, rfl, hbl⟩
        · show spn ((c :: r).take (far nam (c :: r)) ++ 32 :: q) = (1, 0, ((c :: r).take (far nam (c :: r))).length)
          have e : far nam ((c :: r).take (far nam (c :: r)) ++ 32 :: q) = ((c :: r).take (far nam (c :: r))).length := far_app hall rfl
          rw [ht] at e ⊢
          rw [List.cons_append] at e ⊢
          rw [spn_cons, if_neg h37, if_pos hlt, e]
        · show bla ((c :: r).take (far nam (c :: r)) ++ 32 :: q) = some 0
          rw [ht]
          exact bla_at b1 b2
      · rw [if_neg hlt] at h
        by_cases hd : dig c = true
        · rw [if_pos hd] at h
          injection h with hk h
          injection h with ha hb
          subst hk ha hb
          obtain ⟨b1, b2, b3, b4⟩ := dig_blk hd
          have hS : ((c :: r).drop 0).take (far ver (c :: r) - 0) = (c :: r).take (far ver (c :: r)) := rfl
          rw [hS] at hm ⊢
          have hF := far_next (p := ver) (l := r) b4
          have ht : (c :: r).take (far ver (c :: r)) = c :: r.take (far ver r) := by rw [hF, List.take_succ_cons]
          have hall := far_take ver (c :: r)
          refine ⟨⟨fun q => ?_, hm, by show (c :: r).take _ ≠ []; rw [ht]; simp, fun q => ?_⟩, rfl, hbl⟩
          · show spn ((c :: r).take (far ver (c :: r)) ++ 32 :: q) = (3, 0, ((c :: r).take (far ver (c :: r))).length)
            have e : far ver ((c :: r).take (far ver (c :: r)) ++ 32 :: q) = ((c :: r).take (far ver (c :: r))).length := far_app hall rfl
            rw [ht] at e ⊢
            rw [List.cons_append] at e ⊢
            rw [spn_cons, if_neg h37, if_neg hlt, if_pos hd, e]
          · show bla ((c :: r).take (far ver (c :: r)) ++ 32 :: q) = some 0
            rw [ht]
            exact bla_at b1 b2
        · rw [if_neg hd] at h
          by_cases hp : pre [45, 62] (c :: r) = true
          · rw [if_pos hp] at h
            injection h with hk h
            injection h with ha hb
            subst hk ha hb
            obtain ⟨t, ht⟩ := List.isPrefixOf_iff_prefix.1 hp
            injection ht with h1 h2
            have h1 : c = 45 := h1.symm
            have h2 : r = 62 :: t := h2.symm
            subst h1 h2
            exact ⟨⟨fun q => rfl, rfl, by simp [Tok.text], fun q => rfl⟩, rfl, hbl⟩
          · rw [if_neg hp] at h
            injection h with hk h
            injection h with ha hb
            subst hk ha hb
            have hS : ((c :: r).drop 0).take (1 - 0) = [c] := rfl
            rw [hS] at hm ⊢
            have hsg : sgn c = true := by
              unfold may at hm
              rw [if_neg (by decide), if_pos rfl] at hm
              simpa using hm
            obtain ⟨g1, g2, g3, g4, g5⟩ := sgn_ok c (List.mem_of_elem_eq_true hsg)
            refine ⟨⟨fun q => ?_, hm, by simp [Tok.text], fun q => ?_⟩, rfl, hbl⟩
            · show spn (c :: 32 :: q) = (4, 0, 1)
              have hpp : pre [45, 62] (c :: 32 :: q) = false := by
                rw [Bool.eq_false_iff]
                intro hh
                obtain ⟨t, ht⟩ := List.isPrefixOf_iff_prefix.1 hh
                injection ht with h1 h2
                exact g5 h1.symm
              rw [spn_cons, if_neg g2, g3, g4, hpp]
              rfl
            · show bla (c :: 32 :: q) = some 0
              refine bla_stop (far_stop g1) (rem_other (fun x e => ?_) (fun x e => ?_))
              · injection e with _ e; injection e with e _; cases e
              · injection e with _ e; injection e with e _; cases e
end Lex
end Go.Proofs.Ytnnajiaakfeocaa
