/- lex: the document's own versions. -/
import Derived.Test.YtnnajiaakfeocaaLexU
namespace Go.Proofs.Ytnnajiaakfeocaa
open Go.RowKit
open Lex

namespace Lex
/-- The document's own walk over a version: so many points, and the number under way. -/
def vgo : Nat → List Int → List Int → Bool
  | p, acc, [] => decide (p = 2) && decide (acc.length ≠ 0)
  | p, acc, c :: r => if c = 46 then (if acc.length = 0 then false else vgo (p + 1) [] r) else if dig c = false ∨ acc.length = 9 ∨ acc = [48] then false else vgo p (acc ++ [c]) r
theorem vgo_nil (p : Nat) (acc : List Int) : vgo p acc [] = (decide (p = 2) && decide (acc.length ≠ 0)) := rfl
theorem vgo_cons (p : Nat) (acc : List Int) (c : Int) (r : List Int) : vgo p acc (c :: r) = if c = 46 then (if acc.length = 0 then false else vgo (p + 1) [] r) else if dig c = false ∨ acc.length = 9 ∨ acc = [48] then false else vgo p (acc ++ [c]) r := rfl
theorem nbr_mem {l : List Int} (h : nbr l = true) : l.length ≤ 9 ∧ (∀ x ∈ l, dig x = true) ∧ (∀ q, l ≠ 48 :: q ∨ q = []) := by
  cases l with
  | nil => cases h
  | cons c r =>
    unfold nbr at h
    simp only [Bool.and_eq_true, Bool.or_eq_true, decide_eq_true_eq, bne_iff_ne] at h
    obtain ⟨⟨h1, h2⟩, h3⟩ := h
    refine ⟨by simp; omega, far_all h3, fun q => ?_⟩
    rcases h2 with h2 | h2
    · by_cases hq : q = []
      · exact .inr hq
      · refine .inl fun e => ?_
        injection e with _ e
        rw [e] at h2
        exact hq (List.length_eq_zero_iff.1 h2)
    · refine .inl fun e => ?_
      injection e with e _
      exact h2 e
structure Good (acc : List Int) : Prop where
  dig : ∀ x ∈ acc, dig x = true
  len : acc.length ≤ 9
  zero : ∀ q, acc ≠ 48 :: q ∨ q = []
theorem Good.nbr {acc : List Int} (h : Good acc) : Lex.nbr acc = decide (acc.length ≠ 0) := by
  cases acc with
  | nil => rfl
  | cons c r =>
    have h1 := h.len
    have h2 := all_far h.dig
    rw [List.length_cons] at h1
    rw [decide_eq_true (by simp)]
    show (decide (r.length ≤ 8) && (decide (r.length = 0) || c != 48) && decide (far Lex.dig (c :: r) = (c :: r).length)) = true
    rw [decide_eq_true (show r.length ≤ 8 by omega), decide_eq_true h2, Bool.true_and, Bool.and_true, Bool.or_eq_true, decide_eq_true_iff, bne_iff_ne]
    by_cases hr : r = []
    · exact .inl (by rw [hr]; rfl)
    · refine .inr fun e => ?_
      rcases h.zero r with h3 | h3
      · exact h3 (by rw [e])
      · exact hr h3
theorem good_nil : Good [] := ⟨fun x h => (by cases h), by simp, fun q => .inl (by simp)⟩
theorem cuts_bad : ∀ (l acc : List Int), (∀ q, nbr (acc ++ q) = false) → (cuts 46 acc l).all nbr = false
  | [], acc, h => by
    rw [cuts, List.all_cons]
    have := h []
    rw [List.append_nil] at this
    rw [this]
    rfl
  | c :: r, acc, h => by
    rw [cuts]
    split
    · rw [List.all_cons]
      have := h []
      rw [List.append_nil] at this
      rw [this, Bool.false_and]
    · exact cuts_bad r _ fun q => by rw [List.append_assoc]; exact h _
theorem cuts_vers : ∀ (l : List Int) (p : Nat) (acc : List Int), Good acc → ((cuts 46 acc l).all nbr && decide (p + (cuts 46 acc l).length = 3)) = vgo p acc l
  | [], p, acc, hg => by
    rw [cuts, List.all_cons, hg.nbr, vgo_nil]
    simp only [List.all_nil, Bool.and_true, List.length_cons, List.length_nil]
    rw [Bool.and_comm]
    congr 1
    rw [Bool.eq_iff_iff, decide_eq_true_iff, decide_eq_true_iff]
    omega
  | c :: r, p, acc, hg => by
    rw [cuts, vgo_cons]
    by_cases hc : c = 46
    · rw [if_pos hc, if_pos hc, List.all_cons, hg.nbr, List.length_cons]
      by_cases h0 : acc.length = 0
      · rw [if_pos h0, decide_eq_false (by omega), Bool.false_and, Bool.false_and]
      · rw [if_neg h0, decide_eq_true h0, Bool.true_and, ← cuts_vers r (p + 1) [] good_nil]
        congr 1
        rw [Bool.eq_iff_iff, decide_eq_true_iff, decide_eq_true_iff]
        omega
    · rw [if_neg hc, if_neg hc]
      by_cases hb : dig c = false ∨ acc.length = 9 ∨ acc = [48]
      · rw [if_pos hb, cuts_bad r _ fun q => ?_, Bool.false_and]
        rw [Bool.eq_false_iff]
        intro h
        obtain ⟨h1, h2, h3⟩ := nbr_mem h
        rcases hb with hb | hb | hb
        · have := h2 c (by simp)
          rw [hb] at this
          cases this
        · simp at h1
          omega
        · rcases h3 (c :: q) with h4 | h4
          · exact h4 (by rw [hb]; rfl)
          · cases h4
      · rw [if_neg hb]
        refine cuts_vers r p _ ⟨fun x hx => ?_, ?_, fun q => ?_⟩
        · rcases List.mem_append.1 hx with h | h
          · exact hg.dig x h
          · simp at h
            rw [h]
            cases hd : dig c
            · exact absurd (.inl hd) hb
            · rfl
        · have := hg.len
          have h9 : acc.length ≠ 9 := fun h => hb (.inr (.inl h))
          rw [List.length_append, List.length_singleton]
          omega
        · by_cases hq : q = []
          · exact .inr hq
          · refine .inl fun e => ?_
            cases acc with
            | nil =>
              injection e with _ e
              exact hq e.symm
            | cons a t =>
              injection e with e1 e2
              rcases hg.zero t with h | h
              · exact h (by rw [e1])
              · exact hb (.inr (.inr (by rw [e1, h])))
theorem vers_vgo (l : List Int) : versL l = vgo 0 [] l := by
  rw [← cuts_vers l 0 [] good_nil]
  unfold versL
  rw [Nat.zero_add]
end Lex

set_option maxRecDepth 100000 in
set_option maxHeartbeats 1000000 in
theorem refVersion_any (s : ByteArray) (hs : s.size ≤ maxLen) (w : World) :
    Calls Try.prog 17 #[.string s] w fun e w' => e = .returned (.bool (versL (bl s))) ∧ w = w' := by
  unfold maxLen at hs
  obtain ⟨R, hR⟩ : ∃ R, R = versL (bl s) := ⟨_, rfl⟩
  rw [← hR]
  rw [vers_vgo] at hR
  have HR := Lib.hid hR
  clear hR
  go_enter Try.func17, Try.ntmps17
  go_wp2_with fail
  go_loop [3, 4, 5] (fun pv dv iv => ∃ (p i : Nat) (acc : List Int), pv = .int .i64 p ∧ dv = .int .i64 acc.length ∧ iv = .int .i64 i ∧ i ≤ s.size ∧ p ≤ i ∧ acc.length ≤ 9 ∧ (acc.length = 1 → ∃ j, i = j + 1 ∧ acc = [(bl s).getD j 0]) ∧ R = vgo p acc ((bl s).drop i)) (fun _ _ iv => s.size - (intOf iv).toNat)
  case atStart => exact ⟨0, 0, [], rfl, rfl, rfl, by omega, by omega, by simp, by simp, HR.out⟩
  case round =>
    obtain ⟨p, i, acc, rfl, rfl, rfl, hi, hp, hacc, hone, hgo⟩ := hrel
    by_cases hlt : i < s.size
    · rw [bl_cons hlt, bl_get s i hlt, vgo_cons] at hgo
      obtain ⟨c, hc⟩ : ∃ c : Nat, c = s[i].toNat := ⟨_, rfl⟩
      have hsnoc : bl s = bl s ∧ (bl s).getD i 0 = (c : Int) := ⟨rfl, by rw [bl_get s i hlt, hc]⟩
      have HS := Lib.hid hsnoc.2
      clear hsnoc
      rw [← hc] at hgo
      by_cases h46 : (c : Int) = 46
      · rw [if_pos h46] at hgo
        have t1 : ((s[i].toNat : Int) == 46) = true := by rw [← hc, h46]; rfl
        clear h46 hone HS
        by_cases h0 : acc.length = 0
        · rw [if_pos h0] at hgo
          have HG := Lib.hid hgo
          have t2 : ((acc.length : Int) == 0) = true := by rw [h0]; rfl
          clear hgo h0
          go_wp2_with fail
          go_ret
          rw [HG.out]
          exact ⟨rfl, rfl⟩
        · rw [if_neg h0] at hgo
          have HG := Lib.hid hgo
          have t2 : ((acc.length : Int) == 0) = false := by simp; intro e; exact h0 (by rw [e]; rfl)
          clear hgo h0
          go_wp2_with fail
          exact ⟨⟨p + 1, i + 1, [], by go_num, rfl, by go_num, by omega, by omega, by simp, by simp, HG.out⟩, by simp [intOf]; omega⟩
      · rw [if_neg h46] at hgo
        have t1 : ((s[i].toNat : Int) == 46) = false := by rw [← hc]; simpa using h46
        have hk : (knd c = 3 ∧ dig c = true) ∨ ((knd c != 3) = true ∧ dig c = false) := by
          by_cases h : dig c = true
          · exact .inl ⟨knd_3.2 h, h⟩
          · refine .inr ⟨?_, not_true h⟩
            rw [bne_iff_ne]
            exact fun e => h (knd_3.1 e)
        clear h46
        rcases hk with ⟨hk, hd⟩ | ⟨hk, hd⟩
        · rw [hd] at hgo
          have HK := Lib.hid hk
          clear hk hd
          by_cases h9 : acc.length = 9
          · rw [if_pos (.inr (.inl h9))] at hgo
            have HG := Lib.hid hgo
            have t2 : ((acc.length : Int) == 9) = true := by rw [h9]; rfl
            clear hgo h9 hone HS
            go_wp2_with (go_at_call 26; refine (kind_any _ _).mono ?_; rintro e w1 ⟨rfl, rfl⟩; rw [← hc, HK.out])
            go_ret
            rw [HG.out]
            exact ⟨rfl, rfl⟩
          · have t2 : ((acc.length : Int) == 9) = false := by simp; omega
            by_cases h1 : acc.length = 1
            · obtain ⟨j, rfl, ha⟩ := hone h1
              have hj : j < s.size := by omega
              rw [bl_get s j hj] at ha
              have t3 : ((acc.length : Int) == 1) = true := by rw [h1]; rfl
              by_cases h48 : ((s[j].toNat : Int)) = 48
              · rw [if_pos (.inr (.inr (by rw [ha, h48])))] at hgo
                have HG := Lib.hid hgo
                have t4 : ((s[j].toNat : Int) == 48) = true := by rw [h48]; rfl
                clear hgo h9 hone HS ha h1 h48
                go_wp2_with (go_at_call 26; refine (kind_any _ _).mono ?_; rintro e w1 ⟨rfl, rfl⟩; rw [← hc, HK.out])
                go_ret
                rw [HG.out]
                exact ⟨rfl, rfl⟩
              · rw [if_neg (by rintro (h | h | h); cases h; exact h9 h; rw [ha] at h; injection h with h _; exact h48 h)] at hgo
                have HG := Lib.hid hgo
                have H1 := Lib.hid h1
                have t4 : ((s[j].toNat : Int) == 48) = false := by simpa using h48
                clear hgo h9 hone ha h1 h48
                go_wp2_with (go_at_call 26; refine (kind_any _ _).mono ?_; rintro e w1 ⟨rfl, rfl⟩; rw [← hc, HK.out])
                exact ⟨⟨p, j + 1 + 1, acc ++ [(c : Int)], rfl, by rw [List.length_append, List.length_singleton, H1.out]; go_num, by go_num, by omega, by omega, by rw [List.length_append, List.length_singleton, H1.out]; omega, fun h => by rw [List.length_append, List.length_singleton, H1.out] at h; omega, HG.out⟩, by simp [intOf]; omega⟩
            · have t3 : ((acc.length : Int) == 1) = false := by simp; omega
              rw [if_neg (by rintro (h | h | h); cases h; exact h9 h; exact h1 (by rw [h]; rfl))] at hgo
              have HG := Lib.hid hgo
              have hl8 : acc.length ≤ 8 := by omega
              obtain ⟨n, hn⟩ : ∃ n, n = acc.length := ⟨_, rfl⟩
              have H1 := Lib.hid h1
              have HN := Lib.hid hn
              rw [← hn] at t2 t3 hl8 ⊢
              have hz : n ≠ 1 := by rw [hn]; exact h1
              have H0 : Hid (n + 1 = 1 → ∃ j, i + 1 = j + 1 ∧ acc ++ [(c : Int)] = [(bl s).getD j 0]) := Lib.hid (fun h => ⟨i, rfl, by
                have h0 : acc = [] := List.length_eq_zero_iff.1 (by omega)
                rw [h0, HS.out]; rfl⟩)
              clear hgo h9 hone h1 hn hacc hz
              go_wp2_with (go_at_call 26; refine (kind_any _ _).mono ?_; rintro e w1 ⟨rfl, rfl⟩; rw [← hc, HK.out])
              exact ⟨⟨p, i + 1, acc ++ [(c : Int)], rfl, by rw [List.length_append, List.length_singleton, ← HN.out]; go_num, by go_num, by omega, by omega, by rw [List.length_append, List.length_singleton, ← HN.out]; omega, fun h => H0.out (by rw [List.length_append, List.length_singleton, ← HN.out] at h; exact h), HG.out⟩, by simp [intOf]; omega⟩
        · rw [if_pos (.inl hd)] at hgo
          have HG := Lib.hid hgo
          obtain ⟨kc, hkc⟩ : ∃ kc, kc = knd c := ⟨_, rfl⟩
          rw [← hkc] at hk
          have HK := Lib.hid hkc.symm
          clear hgo hd hkc hone HS
          go_wp2_with (go_at_call 26; refine (kind_any _ _).mono ?_; rintro e w1 ⟨rfl, rfl⟩; rw [← hc, HK.out])
          go_ret
          rw [HG.out]
          exact ⟨rfl, rfl⟩
    · have hl : i = s.size := by omega
      rw [bl_over (by omega), vgo_nil] at hgo
      obtain ⟨n, hn⟩ : ∃ n, n = acc.length := ⟨_, rfl⟩
      rw [← hn] at hgo hacc ⊢
      have HG := Lib.hid hgo
      subst hl
      clear hgo hone hn
      go_wp2_with fail
      all_goals go_ret
      all_goals rw [HG.out]
      all_goals refine ⟨congrArg (fun z => Ending.returned (.bool z)) ?_, rfl⟩
      all_goals rw [Bool.eq_iff_iff]
      all_goals simp
      all_goals omega
end Go.Proofs.Ytnnajiaakfeocaa
