/- handles: what a handle stands for is told to its maker. -/
import Derived.Test.YtjdkhhkjnnbpoaaHeB
set_option linter.unusedVariables false
set_option linter.unusedSimpArgs false
namespace Go.Proofs.Ytjdkhhkjnnbpoaa
open Go.RowKit

theorem own_of {S : Tb} (hms : S.ms = [0, 1]) {r : Int} (h0 : 0 ≤ r) (h2 : r < S.ms.length) : S.ms.getD r.toNat 0 = r := by
  rw [hms] at h2 ⊢
  have : r = 0 ∨ r = 1 := by simp at h2; omega
  rcases this with rfl | rfl <;> rfl
theorem find_of {N : Nat} {S : Tb} (ok : TbOk N S) {i r h : Int} {x : Hd} (hx : x ∈ handlesS S i) (hh : x.h = h) (hr : x.r = r) : findT S.tb i r h = (x, true) := by
  unfold handlesS at hx
  by_cases hi : hasB S.tb.length i = true
  · rw [if_pos hi] at hx
    have hk : i.toNat < S.tb.length := by simp [hasB] at hi; omega
    unfold findT
    rw [if_pos hi, ← hh, at?_of_mem (ok.rise _ hk) hx]
    simp [hr]
  · rw [if_neg hi] at hx
    simp at hx
theorem find_none {N : Nat} {S : Tb} (ok : TbOk N S) {i r h : Int} (hno : ∀ x ∈ handlesS S i, x.h = h → x.r = r → False) : (findT S.tb i r h).2 = false := by
  unfold findT
  unfold handlesS at hno
  by_cases hi : hasB S.tb.length i = true
  · rw [if_pos hi] at hno ⊢
    cases e : at? (S.tb.getD i.toNat []) h with
    | none => simp
    | some x =>
      obtain ⟨h1, h2⟩ := at?_mem e
      have := hno x h1 h2
      simp
      exact this
  · rw [if_neg hi]
theorem rep_found {N : Nat} {S : Tb} (ok : TbOk N S) (hms : S.ms = [0, 1]) {i r h : Int} {x : Hd} (hx : x ∈ handlesS S i) (hh : x.h = h) (hr : x.r = r) : repS S i r h = if i = r then (x.rep, 0) else (0, 17) := by
  have hok := (handlesS_ok ok i).2.2 x hx
  unfold repS
  rw [find_of ok hx hh hr, own_of hms (by rw [← hr]; exact hok.r1) (by rw [← hr]; exact hok.r2)]
  by_cases e : i = r
  · simp [e]
  · simp [e, Ne.symm e]
theorem rep_none {N : Nat} {S : Tb} (ok : TbOk N S) {i r h : Int} (hno : ∀ x ∈ handlesS S i, x.h = h → x.r = r → False) : repS S i r h = (0, 17) := by
  unfold repS
  rw [find_none ok hno]
  rfl
set_option maxRecDepth 100000 in
set_option maxHeartbeats 8000000 in
theorem HandlesLive_walk (x : Option Addr) (len cap : Nat) (ds : List Dh) (i r h : Int) (hh : wf64 h) (w : World) (hd : DhIn w x len cap ds) :
    Calls Try.prog 5 #[.slice x len cap, .int .i64 i, .int .i64 r, .int .i64 h] w fun e w' => e = .returned (.bool true) ∧ Below w.heap.size w w' := by
  have HM := made x len cap ds w hd
  have HW := Lib.hid hh
  clear hd hh
  go_enter Try.func5, Try.ntmps5
  go_wp2_with (first
    | (go_at_call 19; refine HM.mono ?_; rintro e w1 ⟨a, S, rfl, t1, b1⟩; have T1 := Lib.hid t1; have B1 := Lib.hid b1; clear t1 b1)
    | (go_at_call 23; refine (T1.out.st.rep i r h HW.out).mono ?_; rintro e w2 ⟨rfl, t2, b2⟩; have T2 := Lib.hid t2; have B2 := Lib.hid (B1.out.trans b2); clear t2 b2)
    | (go_at_call 21; refine (T2.out.handles i).mono ?_; rintro e w3 ⟨v, rfl, hv, t3, b3⟩; obtain ⟨ta, tc, rfl, hrow⟩ := hv.row; have B3 := Lib.hid (B2.out.trans (b3.mono B2.out.size)); have HR := Lib.hid hrow; clear hv t3 b3 hrow))
  have HF : Hid (∀ x ∈ handlesS S i, x.h = h → x.r = r → (repS S i r h).1 = (if i = r then x.rep else 0) ∧ (repS S i r h).2 = (if i = r then 0 else 17)) := Lib.hid (fun x hx e1 e2 => by rw [rep_found T1.out.st.ok T1.out.ms hx e1 e2]; split <;> exact ⟨rfl, rfl⟩)
  have HN : Hid ((∀ x ∈ handlesS S i, x.h = h → x.r = r → False) → (repS S i r h).1 = 0 ∧ (repS S i r h).2 = 17) := Lib.hid (fun hno => by rw [rep_none T1.out.st.ok hno]; exact ⟨rfl, rfl⟩)
  have HL : Hid ((handlesS S i).length ≤ 256) := Lib.hid (handlesS_ok T1.out.st.ok i).1
  generalize (repS S i r h).1 = n at HF HN ⊢
  generalize (repS S i r h).2 = t at HF HN ⊢
  generalize handlesS S i = T at HF HN HL HR ⊢
  clear HM T1 T2 B1 B2
  go_loopw [13] (fun i' wr => ∃ k : Nat, i' = .int .i64 k ∧ k ≤ T.length ∧ w3 = wr ∧ Hid (∀ j, j < k → (T.getD j Hd.zero).h = h → (T.getD j Hd.zero).r = r → False)) (fun i' _ => T.length - (intOf i').toNat)
  case atStart => exact ⟨0, rfl, Nat.zero_le _, rfl, Lib.hid (fun j hj => by omega)⟩
  case round =>
    obtain ⟨k, rfl, hk, rfl, HA⟩ := hrel
    by_cases hlt : k < T.length
    · obtain ⟨g, o, rfl, hc⟩ := HR.out.resolve_left (by omega)
      obtain ⟨c0, c1, c2, c3, c4, c5⟩ := hc k hlt
      have HX : Hid (T.getD k Hd.zero ∈ T) := Lib.hid (mem_getD hlt)
      have HE := Lib.hid (Eq.refl (T.getD k Hd.zero))
      generalize hy : T.getD k Hd.zero = y at c0 c1 c2 c3 c4 c5 HX
      have HY := Lib.hid hy
      clear hc hy HE
      obtain ⟨yh, yr, yrep, yown, yl, yc⟩ := y
      dsimp only at c0 c1 c2 c3 c4 c5
      by_cases e1 : yh = h
      · by_cases e2 : yr = r
        · have hF := HF.out _ HX.out e1 e2
          dsimp only at hF
          by_cases e3 : i = r
          · rw [if_pos e3, if_pos e3] at hF
            obtain ⟨rfl, rfl⟩ := hF
            subst e3
            subst e1
            subst e2
            clear HN HF
            go_wp2_with (go_at_call 12; refine (awake16 _).mono ?_; rintro e w4 ⟨rfl, b4⟩; have B4 := Lib.hid (B3.out.trans (b4.mono B3.out.size)); clear b4)
            go_ret
            exact ⟨rfl, B4.out⟩
          · rw [if_neg e3, if_neg e3] at hF
            obtain ⟨rfl, rfl⟩ := hF
            subst e1
            subst e2
            have e3' : (i == yr) = false := by simp [e3]
            clear HN HF e3
            go_wp2_with (go_at_call 12; refine (awake16 _).mono ?_; rintro e w4 ⟨rfl, b4⟩; have B4 := Lib.hid (B3.out.trans (b4.mono B3.out.size)); clear b4)
            go_ret
            exact ⟨rfl, B4.out⟩
        · have e2' : (yr == r) = false := by simp [e2]
          have E2 := Lib.hid e2
          subst e1
          clear e2
          go_wp2_with fail
          rw [show wrap64 ((k : Int) + 1) = (k : Int) + 1 by have := HL.out; unfold wrap64; omega]
          refine ⟨⟨k + 1, by simp, by omega, trivial, Lib.hid (fun j hj => by
            by_cases hjk : j = k
            · subst hjk
              rw [HY.out]
              exact fun _ q => E2.out q
            · exact HA.out j (by omega))⟩, by simp [intOf]; omega⟩
      · have e1' : (yh == h) = false := by simp [e1]
        have E1 := Lib.hid e1
        clear e1
        go_wp2_with fail
        rw [show wrap64 ((k : Int) + 1) = (k : Int) + 1 by have := HL.out; unfold wrap64; omega]
        refine ⟨⟨k + 1, by simp, by omega, trivial, Lib.hid (fun j hj => by
          by_cases hjk : j = k
          · subst hjk
            rw [HY.out]
            exact fun q _ => E1.out q
          · exact HA.out j (by omega))⟩, by simp [intOf]; omega⟩
    · have hke : k = T.length := by omega
      subst hke
      have hN := HN.out (fun x hx e1 e2 => by
        obtain ⟨j, hj, rfl⟩ := getD_of_mem (d := Hd.zero) hx
        exact HA.out j hj e1 e2)
      obtain ⟨rfl, rfl⟩ := hN
      clear hlt hk HA HN HF
      go_wp2_with (go_at_call 12; refine (awake16 _).mono ?_; rintro e w4 ⟨rfl, b4⟩; have B4 := Lib.hid (B3.out.trans (b4.mono B3.out.size)); clear b4)
      go_ret
      exact ⟨rfl, B4.out⟩
end Go.Proofs.Ytjdkhhkjnnbpoaa
