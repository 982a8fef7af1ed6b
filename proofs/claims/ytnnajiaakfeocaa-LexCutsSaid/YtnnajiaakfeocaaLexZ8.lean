/- lex: the document's own cutting; LexCuts. -/
import Derived.Test.YtnnajiaakfeocaaLexZ7
namespace Go.Proofs.Ytnnajiaakfeocaa
open Go.RowKit
open Lex

set_option maxRecDepth 100000 in
set_option maxHeartbeats 1000000 in
theorem refCut_go (s : ByteArray) (hs : s.size ≤ 8192) (w : World) :
    Calls Try.prog 9 #[.string s] w fun e w' => GivesCut w.heap.size (resL (bl s)) w e w' := by
  have hr : resL (bl s) = resX (cutL (bl s)) := by
    unfold resL
    rw [if_neg (by rw [bl_length]; omega)]
  obtain ⟨R, hR⟩ : ∃ R, R = cutL (bl s) := ⟨_, rfl⟩
  rw [hr, ← hR]
  have HR := Lib.hid hR
  clear hr hR
  obtain ⟨ti, hi, hz, hsz, hby⟩ := i_of_tok
  go_enter Try.func9, Try.ntmps9
  go_wp2_with fail
  go_loopw [5, 6] (fun lv av wr => ∃ (at' f : Nat) (acc : List Tok), av = .int .i64 at' ∧ at' ≤ s.size ∧ s.size - at' < f ∧ acc.length ≤ at' ∧ R = cutF f at' ((bl s).drop at') acc ∧ Toks w.heap.size lv acc wr ∧ Below w.heap.size w wr) (fun _ av _ => s.size - (intOf av).toNat)
  case atStart => exact ⟨0, s.size + 1, [], rfl, by omega, by omega, by simp, by rw [HR.out]; unfold cutL; rw [bl_length]; rfl, Toks.nil _ _, Below.refl _ _⟩
  case round =>
    obtain ⟨p, f, acc, rfl, hp, hf, hacc, hcut, hown, hbel⟩ := hrel
    obtain ⟨f', rfl⟩ : ∃ f', f = f' + 1 := ⟨f - 1, by omega⟩
    have hb1 := fun w => refBlank_any s hs p hp w
    rw [cutF] at hcut
    obtain ⟨o, ho⟩ : ∃ o, o = bla ((bl s).drop p) := ⟨_, rfl⟩
    rw [← ho] at hb1 hcut
    have hol : ∀ m, o = some m → p + m ≤ s.size := fun m hm => by
      have := bla_le (ho.symm.trans hm)
      rw [List.length_drop, bl_length] at this
      omega
    have HOWN := Lib.hid hown
    clear ho hown
    cases o with
    | none =>
      rw [show (none : Option Nat).map (· + p) = none from rfl, rN_none] at hb1
      have HB := Lib.hid hb1
      have HC := Lib.hid (show R = .error p from hcut)
      clear hb1 hcut hol
      go_wp2_with (first
        | (go_at_call 22; refine (HB.out _).mono ?_; rintro e w1 ⟨rfl, rfl⟩))
      go_ret3
      rw [HC.out]
      exact ⟨_, rfl, Toks.nil _ _, hbel⟩
    | some m =>
      have hm := hol m rfl
      dsimp only at hcut
      rw [List.drop_drop, List.length_drop, bl_length] at hcut
      rw [show (some m).map (· + p) = some (p + m) by simp; omega, rN_some] at hb1
      by_cases hend : p + m = s.size
      · rw [if_pos (by omega)] at hcut
        rw [hend] at hb1
        have HB := Lib.hid hb1
        have HC := Lib.hid (show R = .ok acc from hcut)
        clear hb1 hcut hol
        go_wp2_with (first
          | (go_at_call 22; refine (HB.out _).mono ?_; rintro e w1 ⟨rfl, rfl⟩))
        go_ret3
        rw [HC.out]
        exact ⟨_, rfl, HOWN.out, hbel⟩
      · rw [if_neg (by omega)] at hcut
        have hpm : p + m < s.size := by omega
        obtain ⟨q, hq⟩ : ∃ q, q = p + m := ⟨_, rfl⟩
        rw [← hq] at hb1 hcut hpm
        have hpq : p ≤ q := by omega
        have HB := Lib.hid hb1
        have hsi : ((q : Int) == (s.size : Int)) = false := by simp; omega
        have hf1 := fun w => refToken_any s hs q hpm w
        have hne : (bl s).drop q ≠ [] := by
          intro h
          have := congrArg List.length h
          rw [List.length_drop, bl_length] at this
          simp at this
          omega
        have hin := spn_in _ hne
        have hpos := spn_pos _ hne
        rw [List.length_drop, bl_length] at hin
        clear hb1 hol hne hend hm
        obtain ⟨k, a, b, hx⟩ : ∃ k a b, spn ((bl s).drop q) = (k, a, b) := ⟨_, _, _, rfl⟩
        rw [hx] at hcut hin hpos
        dsimp only at hcut hin hpos
        obtain ⟨hab, hbl, _⟩ := hin
        by_cases hmay : may k ((((bl s).drop q).drop a).take (b - a)) = true
        · rw [if_pos hmay] at hcut
          rw [rtkV_yes hx hmay] at hf1
          rw [List.drop_drop] at hcut
          clear hx hmay
          revert hcut hf1
          generalize (((bl s).drop q).drop a).take (b - a) = S
          intro hf1 hcut
          have HF := Lib.hid hf1
          have HC := Lib.hid hcut
          have hlz : ¬ ((q + b : Nat) : Int) < 0 := by omega
          have hqb : p < q + b ∧ q + b ≤ s.size := by omega
          clear hcut hf1 hab hq
          go_wp2_with (first
            | (go_at_call 22; refine (HB.out _).mono ?_; rintro e w1 ⟨rfl, rfl⟩)
            | (go_at_call 23; refine (HF.out _).mono ?_; rintro e w1 ⟨rfl, k1⟩; have hown1 := Toks.below HOWN.out k1; have hbel1 := hbel.trans (k1.mono hbel.size); clear k1)
            | (at_builtin; refine wpList_append_own _ rfl _ _ 22 rfl w.heap.size 33 ti (tokV 0 ⟨#[]⟩ 0) 3 32 Try.underlying22 hi hz hsz hby rfl (by decide) _ acc.length (flat acc) rfl (World.ownsRow.alloc (World.ownsRow.alloc hown1 _) _) ⟨w1.heap.size + 1, 0, none⟩ 1 1 (⟨k, S, q⟩ : Tok).cells rfl rfl (tok_new2 w1 _ (⟨k, S, q⟩ : Tok) _) (tok_one _) (by unfold maxLen; omega) (by omega) (le_alloc (le_alloc hbel1.size)) ?_; intro v1 w2 hown2 hg2 _))
          exact ⟨⟨q + b, f', acc ++ [⟨k, S, q⟩], by push_cast; rfl, by omega, by omega, by simp; omega, HC.out, Toks.snoc hown2, grownT hown1 hbel1 (Nat.le_refl _) hg2⟩, by simp [intOf]; omega⟩
        · rw [if_neg hmay] at hcut
          rw [rtkV_no hx (not_true hmay)] at hf1
          have HF := Lib.hid hf1
          have HC := Lib.hid (show R = .error q from hcut)
          clear hcut hf1 hx hmay hab hq
          go_wp2_with (first
            | (go_at_call 22; refine (HB.out _).mono ?_; rintro e w1 ⟨rfl, rfl⟩)
            | (go_at_call 23; refine (HF.out _).mono ?_; rintro e w1 ⟨rfl, k1⟩; have hbel1 := hbel.trans (k1.mono hbel.size); clear k1))
          go_ret3
          rw [HC.out]
          exact ⟨_, rfl, Toks.nil _ _, hbel1.alloc hbel1.size _⟩
theorem refCut_any (s : ByteArray) (hs : s.size ≤ maxLen) (w : World) :
    Calls Try.prog 9 #[.string s] w fun e w' => GivesCut w.heap.size (resL (bl s)) w e w' := by
  by_cases h : s.size ≤ 8192
  · exact refCut_go s h w
  · have hr : resL (bl s) = ([], 0, 14) := by
      unfold resL
      rw [if_pos (by rw [bl_length]; omega)]
    rw [hr]
    have hbig : 8192 < s.size := by omega
    unfold maxLen at hs
    clear hr h
    go_enter Try.func9, Try.ntmps9
    go_wp2_with fail
    go_ret3
    exact ⟨_, rfl, Toks.nil _ _, Below.refl _ _⟩
end Go.Proofs.Ytnnajiaakfeocaa
