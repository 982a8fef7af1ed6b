/- ctype: the reference's names. -/
import Derived.Test.YtlkbgdhlbdjbiaaDoorCtB
set_option linter.unusedVariables false
set_option linter.unusedSimpArgs false
namespace Go.Proofs.YtlkbgdhlbdjbiaaDoor
open Go.RowKit
open Lex Ct

set_option maxRecDepth 100000 in
set_option maxHeartbeats 4000000 in
theorem rdRefNames (l : List Nm) (a : Option Addr) (cap : Nat) (most : Int) (w : World) (hl : NmsAt w l a cap) (hf : ∀ b ∈ l, NmOk b) :
    Calls Tryd.prog 50 #[.slice a l.length cap, .int .i64 most] w fun y w' => y = .returned (.bool (difL l && (decide (1 ≤ l.length) && decide ((l.length : Int) ≤ most)))) ∧ Kept (fun _ => False) w w' := by
  have HL := Lib.hid hl
  have HF := Lib.hid hf
  have hbd := hl.bound
  have hlen : (l.length : Int) ≤ 9223372036854775807 := by omega
  clear hl hf hbd
  go_enter Tryd.func50, Tryd.ntmps50
  go_wp2_with fail
  go_loopw [5] (fun v wr => ∃ i : Nat, v = .int .i64 i ∧ i ≤ l.length ∧ Kept (fun _ => False) w wr ∧ Hid (difL l = difG (l.take i) (l.drop i))) (fun v _ => l.length - (intOf v).toNat)
  case atStart => exact ⟨0, rfl, Nat.zero_le _, Kept.refl _ _, Lib.hid rfl⟩
  case round =>
    obtain ⟨i, rfl, hi, hk, hno⟩ := hrel
    have HK := Lib.hid hk
    clear hk
    by_cases hlt : i < l.length
    · obtain ⟨s, hs⟩ : ∃ s, l[i]? = some s := ⟨_, List.getElem?_eq_getElem hlt⟩
      obtain ⟨g, o, rfl, hg, c0⟩ := (HL.out.kept HK.out).at hs
      have hsn := HF.out s (List.mem_of_getElem? hs)
      have HSN := Lib.hid hsn
      have HN := Lib.hid (rdRefNm s hsn)
      have HS := Lib.hid (difG_step hs)
      have HSI := Lib.hid hs
      have hltI : ((i : Int) < (l.length : Int)) = True := by simp; omega
      clear hs hsn
      cases hnb : nameL s
      · rw [hnb] at HN
        have HR : Hid (difL l = false) := Lib.hid (by rw [hno.out, HS.out, hnb]; rfl)
        clear hnb
        go_wp2_with (first
          | (go_at_call 55; refine (HN.out _).mono ?_; rintro y w1 ⟨rfl, rfl⟩))
        go_ret
        exact ⟨by rw [HR.out] <;> rfl, HK.out⟩
      · rw [hnb] at HN
        have HNB := Lib.hid hnb
        clear hnb
        go_wp2_with (first
          | (go_at_call 55; refine (HN.out _).mono ?_; rintro y w1 ⟨rfl, rfl⟩))
        clear c0 hg HN
        go_loopw [6] (fun v wr => ∃ k : Nat, v = .int .i64 k ∧ k ≤ i ∧ Kept (fun _ => False) w wr ∧ Hid ((l.take k).contains s = false)) (fun v _ => i - (intOf v).toNat)
        case atStart => exact ⟨0, rfl, Nat.zero_le _, HK.out, Lib.hid rfl⟩
        case round =>
          clear HK
          obtain ⟨k, rfl, hki, hk, hcn⟩ := hrel
          have HK := Lib.hid hk
          clear hk
          by_cases hlk : k < i
          · obtain ⟨y, hy⟩ : ∃ y, l[k]? = some y := ⟨_, List.getElem?_eq_getElem (by omega)⟩
            obtain ⟨g', o', e', hg', c1⟩ := (HL.out.kept HK.out).at hy
            obtain ⟨g2, o2, e2, _, c2⟩ := (HL.out.kept HK.out).at HSI.out
            cases e'
            cases e2
            have hyn := HF.out y (List.mem_of_getElem? hy)
            have hq := nums_same hyn HSN.out
            have HST := Lib.hid (contains_step hy hcn.out)
            have HM := Lib.hid (fun h => take_all_of (l := l.take i) (x := s) (i := k + 1) h)
            have hltK : ((k : Int) < (i : Int)) = True := by simp; omega
            have hkl : k < l.length := by omega
            clear hy hyn
            cases hE : (y == s)
            · rw [hE] at hq
              have HN2 : Hid ((l.take (k + 1)).contains s = false) := Lib.hid (by rw [HST.out, hE])
              clear hE
              go_wp2_with fail
              go_region
              all_goals (go_wp2_with fail)
              all_goals exact ⟨⟨k + 1, by go_num, by omega, HK.out.drew, HN2⟩, by simp [intOf]; omega⟩
            · rw [hE] at hq
              have HN2 : Hid (difL l = false) := Lib.hid (by
                rw [hno.out, HS.out, HNB.out, HM.out (by rw [List.take_take, Nat.min_eq_left (by omega), HST.out, hE])]; rfl)
              clear hE
              go_wp2_with fail
              go_region
              all_goals (go_wp2_with fail)
              all_goals go_ret
              all_goals exact ⟨by rw [HN2.out] <;> rfl, HK.out.drew⟩
          · have hie : k = i := by omega
            subst hie
            have HR : Hid (difL l = difG (l.take (k + 1)) (l.drop (k + 1))) := Lib.hid (by rw [hno.out, HS.out, HNB.out, hcn.out]; rfl)
            clear hlk
            go_wp2_with fail
            exact ⟨⟨k + 1, by go_num, by omega, HK.out, HR⟩, by simp [intOf]; omega⟩
    · have hie : i = l.length := by omega
      have HR : Hid (difL l = true) := Lib.hid (by rw [hno.out]; exact difG_end (by omega))
      subst hie
      clear hlt
      go_wp2_with fail
      all_goals go_ret
      all_goals refine ⟨?_, HK.out⟩
      all_goals (rw [HR.out])
      all_goals (try first | rfl | (simp_all; done) | (simp_all; omega))
end Go.Proofs.YtlkbgdhlbdjbiaaDoor
