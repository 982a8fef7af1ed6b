/- lex: one token. -/
import Derived.Test.YtnnajiaakfeocaaLexJ
import Derived.Test.YtnnajiaakfeocaaLexE
namespace Go.Proofs.Ytnnajiaakfeocaa
open Go.RowKit
open Lex

namespace Lex
/-- Which kind of token a text may begin with, and where its S begins and ends. -/
def spn : List Int → Nat × Nat × Nat
  | [] => (0, 0, 0)
  | c :: r => if c = 37 then (2, 1, 1 + far nam r) else if ltr c then (1, 0, far nam (c :: r)) else if dig c then (3, 0, far ver (c :: r)) else if pre [45, 62] (c :: r) then (4, 0, 2) else (4, 0, 1)
end Lex
theorem spn_cons (c : Int) (r : List Int) : spn (c :: r) = if c = 37 then (2, 1, 1 + far nam r) else if ltr c then (1, 0, far nam (c :: r)) else if dig c then (3, 0, far ver (c :: r)) else if pre [45, 62] (c :: r) then (4, 0, 2) else (4, 0, 1) := rfl
def spV (x : Nat × Nat × Nat) : Value := .tuple #[.int .i64 (x.1 : Nat), .int .i64 (x.2.1 : Nat), .int .i64 (x.2.2 : Nat)]
theorem spV_mk (a b c : Nat) : spV (a, b, c) = .tuple #[.int .i64 (a : Nat), .int .i64 (b : Nat), .int .i64 (c : Nat)] := rfl

set_option maxRecDepth 100000 in
theorem span_any (s : ByteArray) (h0 : 0 < s.size) (hs : s.size ≤ 8192) (w : World) :
    Calls Try.prog 32 #[.string s] w fun e w' => e = .returned (spV (spn (bl s))) ∧ w = w' := by
  have hm : s.size ≤ maxLen := by unfold maxLen; omega
  obtain ⟨r, hr, hl⟩ := bl_cons0 h0
  have hr1 : bl (s.extract 1 s.size) = r := by rw [bl_drop, hr]; rfl
  have q1 : (s.extract 1 s.size).size ≤ maxLen := by rw [ByteArray.size_extract]; omega
  have ht := fun w => reach_nam (s.extract 1 s.size) q1 w
  rw [hr1] at ht
  have hn := fun w => reach_nam s hm w
  have hv := fun w => reach_ver s hm w
  have hq := fun w => hasPrefix_any s ⟨#[45, 62]⟩ w
  rw [show bl (⟨#[45, 62]⟩ : ByteArray) = [45, 62] from rfl] at hq
  have hfl := far_le nam r
  obtain ⟨c, hc⟩ : ∃ c : Nat, c = s[0].toNat := ⟨_, rfl⟩
  rw [← hc] at hr
  rw [hr] at hn hv hq ⊢
  obtain ⟨V, hV⟩ : ∃ V, V = spV (spn ((c : Int) :: r)) := ⟨_, rfl⟩
  rw [← hV]
  rw [spn_cons] at hV
  by_cases h37 : c = 37
  · rw [if_pos (show (c : Int) = 37 by omega), spV_mk] at hV
    have HV := Lib.hid hV
    have HT := Lib.hid ht
    have t1 : ((s[0].toNat : Int) == 37) = true := by rw [← hc, h37]; rfl
    clear hV ht hn hv hq hr1
    go_enter Try.func32, Try.ntmps32
    go_wp2_with (first
      | (go_at_call 29; refine (HT.out _).mono ?_; rintro e w1 ⟨rfl, rfl⟩))
    go_ret3
    rw [HV.out]
    have e : (1 + ((far nam r : Nat) : Int)) = ((1 + far nam r : Nat) : Int) := by push_cast; rfl
    rw [← e]
    exact ⟨rfl, rfl⟩
  · rw [if_neg (show ¬ (c : Int) = 37 by omega)] at hV
    have t1 : ((s[0].toNat : Int) == 37) = false := by rw [← hc]; simp; omega
    by_cases h1 : ltr c = true
    · rw [if_pos h1, spV_mk] at hV
      have HV := Lib.hid hV
      have HN := Lib.hid hn
      have H1 := Lib.hid h1
      clear hV ht hn hv hq hr1 h37 h1
      go_enter Try.func32, Try.ntmps32
      go_wp2_with (first
        | (go_at_call 47; refine (isLetter_any _ _).mono ?_; rintro e w1 ⟨rfl, rfl⟩; rw [← hc, H1.out])
        | (go_at_call 29; refine (HN.out _).mono ?_; rintro e w1 ⟨rfl, rfl⟩))
      go_ret3
      rw [HV.out]
      first | exact ⟨rfl, rfl⟩ | (rw [hc]; exact ⟨rfl, rfl⟩)
    · rw [if_neg h1] at hV
      have H1 := Lib.hid (not_true h1)
      by_cases h2 : dig c = true
      · rw [if_pos h2, spV_mk] at hV
        have HV := Lib.hid hV
        have HN := Lib.hid hv
        have H2 := Lib.hid h2
        clear hV ht hn hv hq hr1 h37 h1 h2
        go_enter Try.func32, Try.ntmps32
        go_wp2_with (first
          | (go_at_call 47; refine (isLetter_any _ _).mono ?_; rintro e w1 ⟨rfl, rfl⟩; rw [← hc, H1.out])
          | (go_at_call 38; refine (isDigit_any _ _).mono ?_; rintro e w1 ⟨rfl, rfl⟩; rw [← hc, H2.out])
          | (go_at_call 29; refine (HN.out _).mono ?_; rintro e w1 ⟨rfl, rfl⟩))
        go_ret3
        rw [HV.out]
        first | exact ⟨rfl, rfl⟩ | (rw [hc]; exact ⟨rfl, rfl⟩)
      · rw [if_neg h2] at hV
        have H2 := Lib.hid (not_true h2)
        by_cases h3 : pre [45, 62] ((c : Int) :: r) = true
        · rw [if_pos h3, spV_mk] at hV
          rw [h3] at hq
          have HV := Lib.hid hV
          have HQ := Lib.hid hq
          clear hV ht hn hv hq hr1 h37 h1 h2 h3
          go_enter Try.func32, Try.ntmps32
          go_wp2_with (first
            | (go_at_call 47; refine (isLetter_any _ _).mono ?_; rintro e w1 ⟨rfl, rfl⟩; rw [← hc, H1.out])
            | (go_at_call 38; refine (isDigit_any _ _).mono ?_; rintro e w1 ⟨rfl, rfl⟩; rw [← hc, H2.out])
            | (go_at_call 43; refine (HQ.out _).mono ?_; rintro e w1 ⟨rfl, rfl⟩))
          go_ret3
          rw [HV.out]
          first | exact ⟨rfl, rfl⟩ | (rw [hc]; exact ⟨rfl, rfl⟩)
        · rw [if_neg h3, spV_mk] at hV
          rw [not_true h3] at hq
          have HV := Lib.hid hV
          have HQ := Lib.hid hq
          clear hV ht hn hv hq hr1 h37 h1 h2 h3
          go_enter Try.func32, Try.ntmps32
          go_wp2_with (first
            | (go_at_call 47; refine (isLetter_any _ _).mono ?_; rintro e w1 ⟨rfl, rfl⟩; rw [← hc, H1.out])
            | (go_at_call 38; refine (isDigit_any _ _).mono ?_; rintro e w1 ⟨rfl, rfl⟩; rw [← hc, H2.out])
            | (go_at_call 43; refine (HQ.out _).mono ?_; rintro e w1 ⟨rfl, rfl⟩))
          go_ret3
          rw [HV.out]
          first | exact ⟨rfl, rfl⟩ | (rw [hc]; exact ⟨rfl, rfl⟩)
end Go.Proofs.Ytnnajiaakfeocaa
