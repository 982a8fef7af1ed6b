/- lex: LexAgain's walk. -/
import Derived.Test.YtnnajiaakfeocaaLexAb
import Derived.Test.YtnnajiaakfeocaaLexP
import Derived.Test.YtnnajiaakfeocaaLexQ
namespace Go.Proofs.Ytnnajiaakfeocaa
open Go.RowKit
open Lex

theorem text_two (t : Tok) (h : t.kind = 2) (hl : t.s.length ≤ 8192) (w : World) :
    Calls Try.prog 18 #[.agg #[.int .i64 t.kind, .string (strOfNums t.s), .int .i64 t.at']] w fun e w' => e = .returned (.string (strOfNums t.text)) ∧ Below w.heap.size w w' := by
  have he : strOfNums t.text = ⟨#[37]⟩ ++ strOfNums t.s := by
    unfold Tok.text
    rw [if_pos h, ← strOfNums_cons]
    rfl
  rw [he, h]
  have hz : (strOfNums t.s).size ≤ 8192 := by rw [strOfNums_size]; exact hl
  have hb := Below.refl w.heap.size w
  revert hz
  generalize strOfNums t.s = S
  intro hz
  clear he h hl
  go_enter Try.func18, Try.ntmps18
  go_wp2_with fail
  go_ret
  exact ⟨rfl, hb.alloc (Nat.le_refl _) _⟩
theorem text_else (t : Tok) (h : t.kind ≠ 2) (w : World) :
    Calls Try.prog 18 #[.agg #[.int .i64 t.kind, .string (strOfNums t.s), .int .i64 t.at']] w fun e w' => e = .returned (.string (strOfNums t.text)) ∧ Below w.heap.size w w' := by
  have he : t.text = t.s := by unfold Tok.text; rw [if_neg h]
  rw [he]
  have hk : ((t.kind : Int) == 2) = false := by simp; omega
  have hb := Below.refl w.heap.size w
  clear he h
  go_enter Try.func18, Try.ntmps18
  go_wp2_with fail
  go_ret
  exact ⟨rfl, hb.alloc (Nat.le_refl _) _⟩
theorem text_any (t : Tok) (hl : t.s.length ≤ 8192) (w : World) :
    Calls Try.prog 18 #[.agg #[.int .i64 t.kind, .string (strOfNums t.s), .int .i64 t.at']] w fun e w' => e = .returned (.string (strOfNums t.text)) ∧ Below w.heap.size w w' := by
  by_cases h : t.kind = 2
  · exact text_two t h hl w
  · exact text_else t h w

theorem cutF_err : ∀ (f n : Nat) (l : List Int) (acc : List Tok) (p : Nat), cutF f n l acc = .error p → p ≤ n + l.length
  | 0, n, l, acc, p, h => by injection h with h; omega
  | f + 1, n, l, acc, p, h => by
    rw [cutF] at h
    cases hb : bla l with
    | none => rw [hb] at h; injection h with h; omega
    | some m =>
      have hm := bla_le hb
      rw [hb] at h
      dsimp only at h
      by_cases h0 : (l.drop m).length = 0
      · rw [if_pos h0] at h; cases h
      · rw [if_neg h0] at h
        have hne : l.drop m ≠ [] := fun e => h0 (by rw [e]; rfl)
        have hin := spn_in _ hne
        rw [List.length_drop] at hin h0
        split at h
        · have h1 := cutF_err f _ _ _ p h
          rw [List.length_drop, List.length_drop] at h1
          omega
        · injection h with h; omega
theorem resL_cases (l : List Int) : (∃ ts, resL l = (ts, 0, 0) ∧ cutL l = .ok ts ∧ l.length ≤ 8192) ∨ ∃ p er, resL l = ([], p, er) ∧ er ≠ 0 ∧ p ≤ l.length := by
  unfold resL
  by_cases h : 8192 < l.length
  · rw [if_pos h]
    exact .inr ⟨0, 14, rfl, by decide, by omega⟩
  · rw [if_neg h]
    cases hc : cutL l with
    | ok ts => exact .inl ⟨ts, rfl, rfl, by omega⟩
    | error p =>
      have := cutF_err _ _ _ _ p hc
      exact .inr ⟨p, 2, rfl, by decide, by omega⟩

set_option maxRecDepth 100000 in
set_option maxHeartbeats 1000000 in
theorem LexAgain_bad (s : ByteArray) (hs : s.size ≤ maxLen) (long : Bool) (p er : Nat) (h : resL (bl s) = ([], p, er)) (her : er ≠ 0) (hp : p ≤ s.size) (w : World) :
    Calls Try.prog 5 #[.string s, .bool long] w fun e w' => e = .returned (.bool true) ∧ Below w.heap.size w w' := by
  have h1 := fun w => Cut_any s hs w
  rw [h] at h1
  have H1 := Lib.hid h1
  have hne : ((er : Int) != 0) = true := by simp; omega
  unfold maxLen at hs
  have hb := Below.refl w.heap.size w
  clear h1 h her
  go_enter Try.func5, Try.ntmps5
  go_wp2_with (first
    | (go_at_call 8; refine (H1.out _).mono ?_; rintro e w1 ⟨v1, rfl, t1, k1⟩; obtain ⟨a1, c1, hv1, V1⟩ := t1.view; rw [show ([] : List Tok).length = 0 from rfl] at hv1 V1; subst hv1; clear t1 V1 H1; replace hb := hb.trans k1; clear k1)
    | (go_at_call 11; refine (awake_any _).mono ?_; rintro e w1 ⟨rfl, k⟩; replace hb := hb.trans (k.mono hb.size); clear k))
  go_ret
  exact ⟨rfl, hb⟩
end Go.Proofs.Ytnnajiaakfeocaa
