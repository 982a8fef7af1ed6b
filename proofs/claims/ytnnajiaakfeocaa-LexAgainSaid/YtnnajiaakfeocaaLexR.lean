/- lex: versions, plainly; the cutting of one token behind the other; small numbers' digits. -/
import Derived.Test.YtnnajiaakfeocaaLexQ
namespace Go.Proofs.Ytnnajiaakfeocaa
open Go.RowKit
open Lex

namespace Lex
/-! ### steps of the cutting -/
theorem cutF_tok {f n m k a b : Nat} {l : List Int} {acc : List Tok} (h1 : bla l = some m) (h2 : (l.drop m).length ≠ 0) (h3 : spn (l.drop m) = (k, a, b)) (h4 : may k (((l.drop m).drop a).take (b - a)) = true) :
    cutF (f + 1) n l acc = cutF f (n + m + b) ((l.drop m).drop b) (acc ++ [⟨k, ((l.drop m).drop a).take (b - a), n + m⟩]) := by
  rw [cutF, h1]
  dsimp only
  rw [if_neg h2, h3]
  dsimp only
  rw [if_pos h4]
theorem cutF_end {f n m : Nat} {l : List Int} {acc : List Tok} (h1 : bla l = some m) (h2 : (l.drop m).length = 0) : cutF (f + 1) n l acc = .ok acc := by
  rw [cutF, h1]
  dsimp only
  rw [if_pos h2]
theorem rem_none {l : List Int} (h : l.head? ≠ some 47) : rem l = some 0 := by
  unfold rem
  cases l with
  | nil => rfl
  | cons c r =>
    have hc : c ≠ 47 := fun e => h (by rw [e]; rfl)
    have h1 : pre [47, 47] (c :: r) = false := by
      unfold pre
      simp [List.isPrefixOf]
      intro e
      exact absurd e.symm hc
    have h2 : pre [47, 42] (c :: r) = false := by
      unfold pre
      simp [List.isPrefixOf]
      intro e
      exact absurd e.symm hc
    rw [h1, h2]
    rfl
theorem bla_zero {l : List Int} (h1 : ∀ c r, l = c :: r → blk c = false) (h : l.head? ≠ some 47) : bla l = some 0 := by
  have hf : far blk l = 0 := by
    cases l with
    | nil => rfl
    | cons c r => exact far_stop (h1 c r rfl)
  unfold bla
  rw [blaF, hf, List.drop_zero, rem_none h]
theorem bla_nil : bla [] = some 0 := rfl
theorem far_app {p : Int → Bool} : ∀ {l : List Int} {c : Int} {r : List Int}, (∀ x ∈ l, p x = true) → p c = false → far p (l ++ c :: r) = l.length
  | [], c, r, _, h => far_stop h
  | x :: l, c, r, hl, h => by
    rw [List.cons_append, far_next (hl x List.mem_cons_self), far_app (fun y hy => hl y (List.mem_cons_of_mem _ hy)) h, List.length_cons]

/-! ### numbers' digits -/
def digF : Nat → Nat → List Int
  | 0, n => [48 + (n : Int)]
  | k + 1, n => if n < 10 then [48 + (n : Int)] else digF k (n / 10) ++ [48 + ((n % 10 : Nat) : Int)]
def digL (n : Nat) : List Int := digF 3 n
def digOk (n : Nat) : Bool := nbr (digL n) && (digL n).all dig && !(digL n).contains 46 && !nbr (48 :: digL n) && decide ((digL n).length ≤ 4) && decide ((digL n).length ≠ 0)
theorem dig_ok (n : Nat) (h : n < 1024) : digOk n = true := by
  have h2 : ∀ n : Fin 1024, digOk n.1 = true := by decide +kernel
  exact h2 ⟨n, h⟩
structure Digits (A : List Int) : Prop where
  nbr : nbr A = true
  dig : ∀ x ∈ A, dig x = true
  no : 46 ∉ A
  zero : Lex.nbr (48 :: A) = false
  len : A.length ≤ 4
  ne : A ≠ []
theorem digits_ok (n : Nat) (h : n < 1024) : Digits (digL n) := by
  have h2 := dig_ok n h
  unfold digOk at h2
  simp only [Bool.and_eq_true, Bool.not_eq_true', decide_eq_true_eq, List.all_eq_true] at h2
  obtain ⟨⟨⟨⟨⟨h1, h2⟩, h3⟩, h4⟩, h5⟩, h6⟩ := h2
  refine ⟨h1, h2, fun hm => ?_, h4, h5, fun e => h6 (by rw [e]; rfl)⟩
  rw [List.contains_eq_mem, decide_eq_true hm] at h3
  cases h3
variable {A B C : List Int}
theorem cuts3 (hA : Digits A) (hB : Digits B) (hC : Digits C) : cuts 46 [] (A ++ 46 :: (B ++ 46 :: C)) = [A, B, C] := by
  rw [cuts_app, cuts_app, cuts_one _ _ _ hA.no, cuts_one _ _ _ hB.no, cuts_one _ _ _ hC.no]
  rfl
theorem vers3 (hA : Digits A) (hB : Digits B) (hC : Digits C) : versL (A ++ 46 :: (B ++ 46 :: C)) = true := by
  unfold versL
  rw [cuts3 hA hB hC]
  simp [hA.nbr, hB.nbr, hC.nbr]
theorem vers_zero (hA : Digits A) (D : List Int) : versL (48 :: (A ++ 46 :: D)) = false := by
  unfold versL
  have h : cuts 46 [] (48 :: (A ++ 46 :: D)) = (48 :: A) :: cuts 46 [] D := by
    rw [← List.cons_append, cuts_app, cuts_one _ _ _ (fun h => by rcases List.mem_cons.1 h with h | h; cases h; exact hA.no h)]
    rfl
  rw [h, List.all_cons, hA.zero]
  rfl
theorem vers_four (hA : Digits A) (hB : Digits B) (hC : Digits C) : versL (A ++ 46 :: (B ++ 46 :: (C ++ 46 :: [49]))) = false := by
  unfold versL
  rw [cuts_app, cuts_app, cuts_app, cuts_one _ _ _ hA.no, cuts_one _ _ _ hB.no, cuts_one _ _ _ hC.no]
  have : cuts 46 [] [49] = [[49]] := by decide
  rw [this]
  simp
theorem vers_two (hA : Digits A) (hB : Digits B) : versL (A ++ 46 :: B) = false := by
  unfold versL
  rw [cuts_app, cuts_one _ _ _ hA.no, cuts_one _ _ _ hB.no]
  simp
theorem dig_ver {x : Int} (h : dig x = true) : ver x = true := by unfold ver; rw [h]; rfl
theorem spn_ver {c : Int} {r : List Int} (h : dig c = true) : spn (c :: r) = (3, 0, far ver (c :: r)) := by
  rw [spn_cons]
  unfold dig at h
  have h1 := of_decide_eq_true h
  have h2 : ltr c = false := by unfold ltr sml grt; simp; omega
  have h3 : dig c = true := decide_eq_true h1
  rw [if_neg (by omega), h2, h3]
  rfl
theorem cut_vers (hA : Digits A) (hB : Digits B) (hC : Digits C) :
    resL (64 :: ((A ++ 46 :: (B ++ 46 :: C)) ++ [59])) = ([⟨4, [64], 0⟩, ⟨3, A ++ 46 :: (B ++ 46 :: C), 1⟩, ⟨4, [59], 1 + (A ++ 46 :: (B ++ 46 :: C)).length⟩], 0, 0) := by
  have hv := vers3 hA hB hC
  have hall : ∀ x ∈ A ++ 46 :: (B ++ 46 :: C), ver x = true := by
    intro x hx
    simp only [List.mem_append, List.mem_cons] at hx
    rcases hx with h | h | h | h | h
    · exact dig_ver (hA.dig x h)
    · rw [h]; rfl
    · exact dig_ver (hB.dig x h)
    · rw [h]; rfl
    · exact dig_ver (hC.dig x h)
  have hlen : (A ++ 46 :: (B ++ 46 :: C)).length ≤ 14 := by
    have := hA.len
    have := hB.len
    have := hC.len
    simp
    omega
  obtain ⟨c, r, hcr, hdc⟩ : ∃ c r, A ++ 46 :: (B ++ 46 :: C) = c :: r ∧ dig c = true := by
    cases A with
    | nil => exact absurd rfl hA.ne
    | cons c r => exact ⟨c, r ++ 46 :: (B ++ 46 :: C), rfl, hA.dig c List.mem_cons_self⟩
  revert hv hall hlen hcr
  generalize A ++ 46 :: (B ++ 46 :: C) = S
  intro hv hall hlen hcr
  subst hcr
  have hfar : far ver ((c :: r) ++ [59]) = (c :: r).length := far_app hall rfl
  have hne : blk c = false ∧ c ≠ 47 := by
    unfold dig at hdc
    have h1 := of_decide_eq_true hdc
    unfold blk
    simp
    omega
  unfold resL
  rw [if_neg (by simp at hlen ⊢; omega)]
  unfold cutL
  have s1 : bla (64 :: ((c :: r) ++ [59])) = some 0 := bla_zero (fun x y e => by injection e with e _; rw [← e]; rfl) (by simp)
  have s2 : spn (64 :: ((c :: r) ++ [59])) = (4, 0, 1) := rfl
  have t1 : bla ((c :: r) ++ [59]) = some 0 := bla_zero (fun x y e => by injection e with e _; rw [← e]; exact hne.1) (by simp; exact hne.2)
  have t2 : spn ((c :: r) ++ [59]) = (3, 0, (c :: r).length) := by rw [← hfar]; exact spn_ver hdc
  have hl : (64 :: ((c :: r) ++ [59])).length + 1 = (r.length + 1) + 1 + 1 + 1 := by simp
  rw [hl, cutF_tok s1 (by simp) s2 (by rfl)]
  have u1 : ((64 :: ((c :: r) ++ [59])).drop 0).drop 1 = (c :: r) ++ [59] := rfl
  rw [u1, show r.length + 3 = r.length + 1 + 1 + 1 from rfl]
  rw [cutF_tok (l := (c :: r) ++ [59]) (m := 0) (k := 3) (a := 0) (b := (c :: r).length) t1 (by simp) t2 (by
    rw [List.drop_zero, List.drop_zero, Nat.sub_zero, List.take_left']
    · exact hv
    · rfl)]
  have u0 : (((c :: r) ++ [59]).drop 0).drop (c :: r).length = [59] := by rw [List.drop_zero, List.drop_left]
  rw [u0]
  rw [cutF_tok (l := [59]) (m := 0) (k := 4) (a := 0) (b := 1) rfl (by simp) rfl rfl]
  have e1 : (([59] : List Int).drop 0).drop 1 = [] := rfl
  rw [e1, cutF_end bla_nil rfl]
  have e2 : ((((c :: r) ++ [59]).drop 0).drop 0).take ((c :: r).length - 0) = c :: r := by rw [List.drop_zero, List.drop_zero, Nat.sub_zero, List.take_left']; rfl
  rw [e2]
  simp [resX]
end Lex
end Go.Proofs.Ytnnajiaakfeocaa
