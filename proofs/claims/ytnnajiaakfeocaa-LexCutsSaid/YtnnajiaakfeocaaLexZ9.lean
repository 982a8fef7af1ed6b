/- lex: LexCuts' walk. -/
import Derived.Test.YtnnajiaakfeocaaLexZ8
import Derived.Test.YtnnajiaakfeocaaLexP
namespace Go.Proofs.Ytnnajiaakfeocaa
open Go.RowKit
open Lex

theorem cutF_len : ∀ (f n : Nat) (l : List Int) (acc ts : List Tok), cutF f n l acc = .ok ts → ts.length ≤ acc.length + l.length
  | 0, _, _, _, _, h => by cases h
  | f + 1, n, l, acc, ts, h => by
    rw [cutF] at h
    cases hb : bla l with
    | none => rw [hb] at h; cases h
    | some m =>
      rw [hb] at h
      dsimp only at h
      by_cases h0 : (l.drop m).length = 0
      · rw [if_pos h0] at h
        injection h with h
        rw [← h]
        omega
      · rw [if_neg h0] at h
        split at h
        · have h1 := cutF_len f _ _ _ _ h
          have hne : l.drop m ≠ [] := fun e => h0 (by rw [e]; rfl)
          have h2 := spn_pos _ hne
          rw [List.length_append, List.length_singleton, List.length_drop, List.length_drop] at h1
          rw [List.length_drop] at h0
          omega
        · cases h
theorem resL_len (l : List Int) (_h : l.length ≤ 8192 ∨ 8192 < l.length) : (resL l).1.length ≤ 8192 := by
  unfold resL
  split
  · simp
  · cases hc : cutL l with
    | error p => simp [resX]
    | ok ts =>
      have := cutF_len _ _ _ _ _ hc
      simp [resX] at this ⊢
      omega

set_option maxRecDepth 100000 in
set_option maxHeartbeats 1000000 in
theorem LexCuts_walk (s : ByteArray) (hs : s.size ≤ maxLen) (w : World) :
    Calls Try.prog 3 #[.string s] w fun e w' => e = .returned (.bool true) ∧ Below w.heap.size w w' := by
  have H1 := Lib.hid (fun w => Cut_any s hs w)
  have H2 := Lib.hid (fun w => refCut_any s hs w)
  have hlen := resL_len (bl s) (by omega)
  revert H1 H2 hlen
  generalize resL (bl s) = R
  obtain ⟨ts, p, er⟩ := R
  intro H1 H2 hlen
  dsimp only at hlen
  have hb := Below.refl w.heap.size w
  go_enter Try.func3, Try.ntmps3
  go_wp2_with (first
    | (go_at_call 8; refine (H1.out _).mono ?_; rintro e w1 ⟨v1, rfl, t1, k1⟩; dsimp only at t1 ⊢; obtain ⟨a1, c1, rfl, V1⟩ := t1.view; clear t1 H1; replace hb := hb.trans k1; clear k1)
    | (go_at_call 9; refine (H2.out _).mono ?_; rintro e w2 ⟨v2, rfl, t2, k2⟩; dsimp only at t2 ⊢; obtain ⟨a2, c2, rfl, V2⟩ := t2.view; clear t2 H2; replace V1 := V1.below k2; replace hb := hb.trans (k2.mono hb.size); clear k2)
    | (go_at_call 10; refine (Same_view _ _ _ _ _ ts _ (by omega) V1 V2).mono ?_; rintro e w3 ⟨rfl, k3⟩; replace hb := hb.trans (k3.mono hb.size); clear k3)
    | (go_at_call 11; refine (awake_any _).mono ?_; rintro e w1 ⟨rfl, k⟩; replace hb := hb.trans (k.mono hb.size); clear k))
  go_ret
  exact ⟨rfl, hb⟩
end Go.Proofs.Ytnnajiaakfeocaa
