/- lex: the document's own blanks: the walk. -/
import Derived.Test.YtnnajiaakfeocaaLexZ2
namespace Go.Proofs.Ytnnajiaakfeocaa
open Go.RowKit
open Lex

theorem omap (o : Option Nat) (a b : Nat) : (o.map (· + a)).map (· + b) = o.map (· + (b + a)) := by
  cases o with
  | none => rfl
  | some x => simp; omega
theorem blk_cases (c : Nat) : (blk c = true ∧ (((c : Int) == 32) = true ∨ (((c : Int) == 32) = false ∧ ((c : Int) == 9) = true) ∨ (((c : Int) == 32) = false ∧ ((c : Int) == 9) = false ∧ ((c : Int) == 10) = true) ∨ (((c : Int) == 32) = false ∧ ((c : Int) == 9) = false ∧ ((c : Int) == 10) = false ∧ ((c : Int) == 13) = true))) ∨
    (blk c = false ∧ ((c : Int) == 32) = false ∧ ((c : Int) == 9) = false ∧ ((c : Int) == 10) = false ∧ ((c : Int) == 13) = false) := by
  unfold blk
  cases ((c : Int) == 32) <;> cases ((c : Int) == 9) <;> cases ((c : Int) == 10) <;> cases ((c : Int) == 13) <;> simp

set_option maxRecDepth 100000 in
set_option maxHeartbeats 1000000 in
theorem refBlank_any (s : ByteArray) (hs : s.size ≤ 8192) (i : Nat) (hi : i ≤ s.size) (w : World) :
    Calls Try.prog 22 #[.string s, .int .i64 i] w fun e w' => e = .returned (.int .i64 (rN ((bla ((bl s).drop i)).map (· + i)))) ∧ w = w' := by
  obtain ⟨R, hR⟩ : ∃ R, R = (bla ((bl s).drop i)).map (· + i) := ⟨_, rfl⟩
  rw [← hR]
  have HR := Lib.hid hR
  clear hR
  go_enter Try.func22, Try.ntmps22
  go_wp2_with fail
  go_loop [1] (fun kv => ∃ k : Nat, kv = .int .i64 k ∧ k ≤ s.size ∧ R = (bla ((bl s).drop k)).map (· + k)) (fun kv => s.size - (intOf kv).toNat)
  case atStart => exact ⟨i, rfl, hi, HR.out⟩
  case round =>
    obtain ⟨k, rfl, hk, hbla⟩ := hrel
    by_cases hlt : k < s.size
    · rw [bl_cons hlt, bl_get s k hlt] at hbla
      obtain ⟨c, hc⟩ : ∃ c : Nat, s[k].toNat = c := ⟨_, rfl⟩
      rw [hc] at hbla
      rcases blk_cases c with ⟨hb, ht⟩ | ⟨hb, t1, t2, t3, t4⟩
      · rw [bla_blank hb, omap] at hbla
        have HB := Lib.hid hbla
        clear hbla hb
        rcases ht with t1 | ⟨t1, t2⟩ | ⟨t1, t2, t3⟩ | ⟨t1, t2, t3, t4⟩
        all_goals
          go_wp2_with fail
          exact ⟨⟨k + 1, by go_num, by omega, HB.out⟩, by simp [intOf]; omega⟩
      · have hfar : far blk ((c : Int) :: (bl s).drop (k + 1)) = 0 := far_stop hb
        by_cases hlt1 : k + 1 < s.size
        · have hcons := bl_cons (s := s) hlt1
          rw [bl_get s (k + 1) hlt1] at hcons
          obtain ⟨d, hd⟩ : ∃ d : Nat, s[k + 1].toNat = d := ⟨_, rfl⟩
          rw [hd] at hcons
          rw [hcons] at hbla hfar
          by_cases h47 : c = 47
          · by_cases hd47 : d = 47
            · have hrm : rem ((c : Int) :: (d : Int) :: (bl s).drop (k + 1 + 1)) = some (far lin ((c : Int) :: (d : Int) :: (bl s).drop (k + 1 + 1))) := by rw [h47, hd47]; exact rem_line _
              have hfl : far lin ((c : Int) :: (d : Int) :: (bl s).drop (k + 1 + 1)) = far lin ((bl s).drop (k + 1 + 1)) + 1 + 1 := by
                rw [far_next (by rw [h47]; rfl), far_next (by rw [hd47]; rfl)]
              rw [hfl] at hrm
              rw [bla_rem hfar hrm, omap, List.drop_succ_cons, List.drop_succ_cons, List.drop_drop] at hbla
              obtain ⟨F, hF⟩ : ∃ F, F = far lin ((bl s).drop (k + 1 + 1)) := ⟨_, rfl⟩
              rw [← hF] at hbla
              have hFl : k + 2 + F ≤ s.size := by
                have := far_le lin ((bl s).drop (k + 1 + 1))
                rw [← hF, List.length_drop, bl_length] at this
                omega
              have HB := Lib.hid (show R = (bla ((bl s).drop (k + 2 + F))).map (· + (k + 2 + F)) by
                rw [hbla, show k + 1 + 1 + F = k + 2 + F by omega, show k + (F + 1 + 1) = k + 2 + F by omega])
              have HF := Lib.hid hF
              have HFC : Hid (k + 2 + F = k + far lin ((bl s).drop k)) := Lib.hid (by
                rw [bl_cons hlt, bl_get s k hlt, hc, hcons, hfl, ← hF]; omega)
              clear hbla hrm hfl hfar hcons hF
              have u1 : ((c : Int) == 47) = true := by simp; omega
              have u2 : ((d : Int) == 47) = true := by simp; omega
              go_wp2_with fail
              go_loop [1] (fun jv => ∃ j : Nat, jv = .int .i64 j ∧ k ≤ j ∧ j ≤ s.size ∧ k + 2 + F = j + far lin ((bl s).drop j)) (fun jv => s.size - (intOf jv).toNat)
              case atStart => exact ⟨k, rfl, by omega, by omega, HFC.out⟩
              case round =>
                obtain ⟨j, rfl, hkj, hj, hjf⟩ := hrel
                by_cases hjl : j < s.size
                · rw [bl_cons hjl, bl_get s j hjl] at hjf
                  by_cases h10 : ((s[j].toNat : Int)) = 10
                  · rw [far_stop (by rw [h10]; rfl)] at hjf
                    have v : ((s[j].toNat : Int) != 10) = false := by rw [h10]; rfl
                    have HE := Lib.hid (show j = k + 2 + F by omega)
                    clear hjf h10
                    go_wp2_with fail
                    exact ⟨⟨j, rfl, by omega, by rw [HE.out]; exact HB.out⟩, by have := HE.out; simp [intOf]; omega⟩
                  · rw [far_next (by unfold lin; simpa using h10)] at hjf
                    have v : ((s[j].toNat : Int) != 10) = true := by simpa using h10
                    have HJ := Lib.hid hjf
                    clear hjf h10
                    go_wp2_with fail
                    exact ⟨⟨j + 1, by go_num, by omega, by omega, by rw [HJ.out]; omega⟩, by simp [intOf]; omega⟩
                · rw [bl_over (by omega)] at hjf
                  have HE := Lib.hid (show j = k + 2 + F by simpa [far] using hjf.symm)
                  clear hjf
                  go_wp2_with fail
                  exact ⟨⟨j, rfl, by omega, by rw [HE.out]; exact HB.out⟩, by have := HE.out; simp [intOf]; omega⟩
            · by_cases hd42 : d = 42
              · have u1 : ((c : Int) == 47) = true := by simp; omega
                have u2 : ((d : Int) == 47) = false := by simp; omega
                have u3 : ((d : Int) == 42) = true := by simp; omega
                have hrm : rem ((c : Int) :: (d : Int) :: (bl s).drop (k + 1 + 1)) = clo 1 2 ((bl s).drop (k + 1 + 1)) := by rw [h47, hd42]; exact rem_block _
                have hcall := refRemark_any s hs (s.size - (k + 2)) (k + 2) (Nat.le_refl _) (by omega)
                rw [show k + 2 = 2 + k by omega, clo_add, show 2 + k = k + 1 + 1 by omega] at hcall
                obtain ⟨o, ho⟩ : ∃ o, o = clo 1 2 ((bl s).drop (k + 1 + 1)) := ⟨_, rfl⟩
                rw [← ho] at hrm hcall
                have hol : ∀ m, o = some m → 2 ≤ m ∧ k + m ≤ s.size := fun m hm => by
                  have g1 := clo_ge _ _ _ _ (ho.symm.trans hm)
                  have g2 := clo_le _ _ _ _ (ho.symm.trans hm)
                  rw [List.length_drop, bl_length] at g2
                  omega
                clear ho
                cases o with
                | none =>
                  rw [bla_bad hfar hrm] at hbla
                  have HC := Lib.hid (show R = none from hbla)
                  rw [show (none : Option Nat).map (· + k) = none from rfl, rN_none] at hcall
                  have HK := Lib.hid hcall
                  clear hbla hcall hol hrm hfar hcons
                  go_wp2_with (go_at_call 34; refine (HK.out _).mono ?_; rintro e w1 ⟨rfl, rfl⟩)
                  go_ret
                  rw [HC.out]
                  exact ⟨rfl, rfl⟩
                | some m =>
                  obtain ⟨m1, m2⟩ := hol m rfl
                  obtain ⟨m', rfl⟩ : ∃ m', m = m' + 1 + 1 := ⟨m - 2, by omega⟩
                  rw [bla_rem hfar hrm, omap, List.drop_succ_cons, List.drop_succ_cons, List.drop_drop] at hbla
                  have HB := Lib.hid (show R = (bla ((bl s).drop (k + (m' + 1 + 1)))).map (· + (k + (m' + 1 + 1))) by
                    rw [hbla, show k + 1 + 1 + m' = k + (m' + 1 + 1) by omega])
                  rw [show (some (m' + 1 + 1)).map (· + k) = some (k + (m' + 1 + 1)) by simp; omega, rN_some] at hcall
                  have HK := Lib.hid hcall
                  clear hbla hcall hol hrm hfar hcons
                  go_wp2_with (go_at_call 34; refine (HK.out _).mono ?_; rintro e w1 ⟨rfl, rfl⟩)
                  exact ⟨⟨k + (m' + 1 + 1), rfl, m2, HB.out⟩, by simp [intOf]; omega⟩
              · have hrm : rem ((c : Int) :: (d : Int) :: (bl s).drop (k + 1 + 1)) = some 0 :=
                  rem_other (fun r e => by injection e with _ e; injection e with e _; omega) (fun r e => by injection e with _ e; injection e with e _; omega)
                rw [bla_stop hfar hrm] at hbla
                have HC := Lib.hid (show R = some k by rw [hbla]; simp)
                have u1 : ((c : Int) == 47) = true := by simp; omega
                have u2 : ((d : Int) == 47) = false := by simp; omega
                have u3 : ((d : Int) == 42) = false := by simp; omega
                clear hbla hrm hfar hcons
                go_wp2_with fail
                go_ret
                rw [HC.out]
                exact ⟨rfl, rfl⟩
          · have hrm : rem ((c : Int) :: (d : Int) :: (bl s).drop (k + 1 + 1)) = some 0 :=
              rem_other (fun r e => by injection e with e _; omega) (fun r e => by injection e with e _; omega)
            rw [bla_stop hfar hrm] at hbla
            have HC := Lib.hid (show R = some k by rw [hbla]; simp)
            have u1 : ((c : Int) == 47) = false := by simp; omega
            clear hbla hrm hfar hcons
            go_wp2_with fail
            go_ret
            rw [HC.out]
            exact ⟨rfl, rfl⟩
        · have hnil := bl_over (s := s) (k := k + 1) (by omega)
          rw [hnil] at hbla hfar
          have hrm : rem [(c : Int)] = some 0 := rem_other (fun r e => by injection e with _ e; cases e) (fun r e => by injection e with _ e; cases e)
          rw [bla_stop hfar hrm] at hbla
          have HC := Lib.hid (show R = some k by rw [hbla]; simp)
          clear hbla hrm hfar hnil
          go_wp2_with fail
          go_ret
          rw [HC.out]
          exact ⟨rfl, rfl⟩
    · have hl : k = s.size := by omega
      rw [bl_over (by omega), show bla [] = some 0 from rfl] at hbla
      have HC := Lib.hid (show R = some k by rw [hbla]; simp)
      subst hl
      clear hbla
      go_wp2_with fail
      go_ret
      rw [HC.out]
      exact ⟨rfl, rfl⟩
end Go.Proofs.Ytnnajiaakfeocaa
