/- lex: LexAgain, plainly: all of it. -/
import Derived.Test.YtnnajiaakfeocaaLexAa
namespace Go.Proofs.Ytnnajiaakfeocaa
open Go.RowKit
open Lex

namespace Lex
/-- A token that lies in a text at its place. -/
structure Lies (L : List Int) (t : Tok) : Prop where
  ok : Ok t
  at' : t.at' + t.text.length ≤ L.length
  eq : (L.drop t.at').take t.text.length = t.text
theorem cutF_lies (L : List Int) : ∀ (f n : Nat) (l : List Int) (acc ts : List Tok), l = L.drop n → cutF f n l acc = .ok ts → (∀ t ∈ acc, Lies L t) → ∀ t ∈ ts, Lies L t
  | 0, _, _, _, _, _, h, _ => by cases h
  | f + 1, n, l, acc, ts, hl, h, ha => by
    rw [cutF] at h
    cases hb : bla l with
    | none => rw [hb] at h; cases h
    | some m =>
      rw [hb] at h
      dsimp only at h
      by_cases h0 : (l.drop m).length = 0
      · rw [if_pos h0] at h
        injection h with h
        rw [← h]
        exact ha
      · rw [if_neg h0] at h
        have hne : l.drop m ≠ [] := fun e => h0 (by rw [e]; rfl)
        obtain ⟨k, a, b, hx⟩ : ∃ k a b, spn (l.drop m) = (k, a, b) := ⟨_, _, _, rfl⟩
        rw [hx] at h
        dsimp only at h
        by_cases hm : may k (((l.drop m).drop a).take (b - a)) = true
        · rw [if_pos hm] at h
          obtain ⟨o1, o2, o3⟩ := spn_ok (n := n + m) hne hx hm
          have hd : l.drop m = L.drop (n + m) := by rw [hl, List.drop_drop]
          refine cutF_lies L f _ _ _ ts (by rw [hd, List.drop_drop]) h fun t ht => ?_
          rcases List.mem_append.1 ht with ht | ht
          · exact ha t ht
          · simp only [List.mem_singleton] at ht
            subst ht
            have hlen : (l.drop m).length = L.length - (n + m) := by rw [hd, List.length_drop]
            have htl : (⟨k, ((l.drop m).drop a).take (b - a), n + m⟩ : Tok).text.length = b := by rw [o2, List.length_take]; omega
            refine ⟨o1, ?_, ?_⟩
            · rw [htl]
              show n + m + b ≤ L.length
              omega
            · rw [htl, o2]
              show (L.drop (n + m)).take b = _
              rw [hd]
        · rw [if_neg hm] at h
          cases h
theorem cut_lies {L : List Int} {ts : List Tok} (h : cutL L = .ok ts) : ∀ t ∈ ts, Lies L t :=
  cutF_lies L _ 0 L [] ts rfl h fun t ht => by cases ht

/-- Tokens written one behind the other, with something between. -/
def wrt (b : List Int) (ts : List Tok) : List Int := ts.flatMap fun t => t.text ++ b
theorem wrt_cons (b : List Int) (t : Tok) (ts : List Tok) : wrt b (t :: ts) = t.text ++ (b ++ wrt b ts) := by simp [wrt]
def ksL (ts : List Tok) : List (Nat × List Int) := ts.map fun t => (t.kind, t.s)
theorem tok_s {t : Tok} (q : List Int) : (((t.text ++ q).drop t.off).take (t.text.length - t.off)) = t.s := by
  unfold Tok.text Tok.off
  split
  · simp
  · simp
theorem again {b : List Int} (HB : ∀ x, bla x = some 0 → bla (32 :: b ++ x) = some (32 :: b).length) : ∀ (ts : List Tok), (∀ t ∈ ts, Ok t) → ∀ (f n : Nat) (pr : List Int) (acc : List Tok), (pr = [] ∨ pr = 32 :: b) → ts.length < f →
    ∃ us, cutF f n (pr ++ wrt (32 :: b) ts) acc = .ok (acc ++ us) ∧ ksL us = ksL ts
  | [], _, 0, _, _, _, _, h => absurd h (by simp)
  | [], _, f + 1, n, pr, acc, hp, _ => by
    have hbl : bla (pr ++ []) = some pr.length := by
      rcases hp with rfl | rfl
      · rfl
      · exact HB [] rfl
    refine ⟨[], ?_, rfl⟩
    rw [show wrt (32 :: b) [] = [] from rfl, cutF_end hbl (by simp), List.append_nil]
  | t :: ts, _, 0, _, _, _, _, h => absurd h (by omega)
  | t :: ts, hok, f + 1, n, pr, acc, hp, hf => by
    have ht := hok t List.mem_cons_self
    have h0 : bla (t.text ++ (32 :: b ++ wrt (32 :: b) ts)) = some 0 := ht.blank _
    have hbl : bla (pr ++ (t.text ++ (32 :: b ++ wrt (32 :: b) ts))) = some pr.length := by
      rcases hp with rfl | rfl
      · exact h0
      · exact HB _ h0
    have hd : (pr ++ (t.text ++ (32 :: b ++ wrt (32 :: b) ts))).drop pr.length = t.text ++ (32 :: b ++ wrt (32 :: b) ts) := List.drop_left
    have hdt : (t.text ++ (32 :: b ++ wrt (32 :: b) ts)).drop t.text.length = 32 :: b ++ wrt (32 :: b) ts := List.drop_left
    rw [wrt_cons]
    rw [cutF_tok (k := t.kind) (a := t.off) (b := t.text.length) hbl (by rw [hd]; have := ht.ne; cases hh : t.text with | nil => exact absurd hh this | cons x y => simp) (by rw [hd]; exact ht.cut _) (by rw [hd, tok_s]; exact ht.may)]
    rw [hd, tok_s, hdt]
    obtain ⟨us, h1, h2⟩ := again HB ts (fun x hx => hok x (List.mem_cons_of_mem _ hx)) f (n + pr.length + t.text.length) (32 :: b) (acc ++ [⟨t.kind, t.s, n + pr.length⟩]) (.inr rfl) (by simp at hf; omega)
    refine ⟨⟨t.kind, t.s, n + pr.length⟩ :: us, ?_, ?_⟩
    · rw [h1, List.append_assoc]
      rfl
    · unfold ksL at h2 ⊢
      rw [List.map_cons, List.map_cons, h2]
theorem wrt_len {b : List Int} : ∀ (ts : List Tok), ts.length ≤ (wrt (32 :: b) ts).length
  | [] => Nat.zero_le _
  | t :: ts => by
    have := wrt_len (b := b) ts
    rw [wrt_cons, List.length_cons, List.length_append, List.length_append, List.length_cons]
    omega
theorem again_res {b : List Int} (HB : ∀ x, bla x = some 0 → bla (32 :: b ++ x) = some (32 :: b).length) {ts : List Tok} (hok : ∀ t ∈ ts, Ok t) (hl : (wrt (32 :: b) ts).length ≤ 8192) :
    ∃ us, resL (wrt (32 :: b) ts) = (us, 0, 0) ∧ ksL us = ksL ts := by
  obtain ⟨us, h1, h2⟩ := again HB ts hok ((wrt (32 :: b) ts).length + 1) 0 [] [] (.inl rfl) (by have := wrt_len (b := b) ts; omega)
  refine ⟨us, ?_, h2⟩
  unfold resL
  rw [if_neg (by omega)]
  unfold cutL
  rw [List.nil_append] at h1
  rw [h1]
  rfl
/-- What lies between: a blank, or remarks in one another. -/
def btwL (long : Bool) : List Int := if long then [47, 42, 32, 97, 32, 47, 42, 32, 98, 32, 42, 47, 32, 42, 47, 32] else []
theorem btw_ok (long : Bool) : ∀ x, bla x = some 0 → bla (32 :: btwL long ++ x) = some (32 :: btwL long).length := by
  intro x hx
  cases long
  · show bla (32 :: x) = some 1
    rw [bla_blank rfl, hx]
    rfl
  · show bla (32 :: 47 :: 42 :: ([32, 97, 32, 47, 42, 32, 98, 32, 42, 47, 32, 42, 47] ++ 32 :: x)) = some 17
    have h1 : rem (47 :: 42 :: ([32, 97, 32, 47, 42, 32, 98, 32, 42, 47, 32, 42, 47] ++ 32 :: x)) = some (14 + 1) := by
      rw [rem_block]
      rfl
    rw [bla_blank rfl, bla_rem (far_stop rfl) h1]
    show Option.map (· + 1) (Option.map (· + (14 + 1)) (bla (32 :: x))) = some 17
    rw [bla_blank rfl, hx]
    rfl
end Lex
end Go.Proofs.Ytnnajiaakfeocaa
