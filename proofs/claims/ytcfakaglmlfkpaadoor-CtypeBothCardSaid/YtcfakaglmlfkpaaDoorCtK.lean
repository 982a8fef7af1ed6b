/- ctype: the reference's look at a function's types. -/
import Derived.Test.YtcfakaglmlfkpaaDoorCtJ
set_option linter.unusedVariables false
set_option linter.unusedSimpArgs false
namespace Go.Proofs.YtcfakaglmlfkpaaDoor
open Go.RowKit
open Lex Ct

/-- The same, in the reference's order. -/
theorem okS_ref (s : Sg) : okS s = ((s.p.length == s.t.length && (s.p.length == 0 || (difL s.p && (decide (1 ≤ s.p.length) && decide ((s.p.length : Int) ≤ 64))))) && ((isNone s.r || okT s.r) && s.t.all okT)) := by
  unfold okS
  by_cases h0 : s.p.length = 0
  · have hp : s.p = [] := List.length_eq_zero_iff.1 h0
    rw [hp]
    rw [Bool.eq_iff_iff]
    simp
    constructor
    · rintro ⟨h1, h2, h3, h4⟩
      exact ⟨by rw [h1]; rfl, h4, h3⟩
    · rintro ⟨h1, h2, h3⟩
      exact ⟨List.length_eq_zero_iff.1 h1.symm, rfl, h3, h2⟩
  · rw [Bool.eq_iff_iff]
    simp
    constructor
    · rintro ⟨h1, h2, h3, h4, h5⟩
      exact ⟨⟨h2.symm, .inr ⟨h3, by omega, by omega⟩⟩, h5, h4⟩
    · rintro ⟨⟨h1, h2⟩, h3, h4⟩
      rcases h2 with h2 | ⟨h2, h5, h6⟩
      · rw [h2] at h0; exact absurd rfl h0
      · exact ⟨by omega, h1.symm, h2, h4, h3⟩
set_option maxRecDepth 100000 in
set_option maxHeartbeats 8000000 in
theorem rdMaySig_no (s : Sg) (ap : Option Addr) (cp : Nat) (aq : Option Addr) (cq : Nat) (an : Option Addr) (cn : Nat) (al : Option Addr) (cl : Nat) (w : World) (h : SgAt w s ap cp aq cq an cn al cl) (hf : FineS s)
    (hc : (s.p.length == s.t.length && (s.p.length == 0 || (difL s.p && (decide (1 ≤ s.p.length) && decide ((s.p.length : Int) ≤ 64))))) = false) :
    Calls Tryd.prog 11 #[sgV s ap cp aq cq an cn al cl] w fun y w' => y = .returned (.bool false) ∧ Kept (fun _ => False) w w' := by
  have k0 : Kept (fun _ => False) w (w.alloc (.cells (sgC s ap cp aq cq an cn al cl) 27)) := (Kept.refl _ _).new _
  have HK := Lib.hid k0
  by_cases h1 : s.p.length = s.t.length
  · have b1 : ((s.p.length : Int) != (s.t.length : Int)) = false := by simp; omega
    have hn : (difL s.p && (decide (1 ≤ s.p.length) && decide ((s.p.length : Int) ≤ 64))) = false := by
      rw [h1] at hc ⊢
      simp only [beq_self_eq_true, Bool.true_and, Bool.or_eq_false_iff] at hc
      exact hc.2
    have h0 : s.p.length ≠ 0 := by
      intro h0
      rw [← h1, h0] at hc
      cases hc
    have b2 : decide (0 < s.p.length) = true := by simp; omega
    have HD : Hid (∀ w', Kept (fun _ => False) w w' → Calls Tryd.prog 35 #[.slice ap s.p.length cp, .int .i64 64] w' fun y w'' => y = .returned (.bool false) ∧ Kept (fun _ => False) w' w'') := Lib.hid fun w' k' => by
      have := rdRefNames s.p ap cp 64 w' (h.p.kept k') hf.p
      rw [hn] at this
      exact this
    clear k0 h hf hc h1 h0 hn
    go_enter Tryd.func11, Tryd.ntmps11
    go_wp2_with (first
      | (go_at_call 35; refine (HD.out _ HK.out).mono ?_; rintro y w1 ⟨rfl, k1⟩))
    go_ret
    exact ⟨rfl, HK.out.trans k1⟩
  · have b1 : ((s.p.length : Int) != (s.t.length : Int)) = true := by simp; omega
    clear k0 h hf hc h1
    go_enter Tryd.func11, Tryd.ntmps11
    go_wp2_with fail
    go_ret
    exact ⟨rfl, HK.out⟩
/-- Behind the names: what is told of the result. -/
theorem rdMay_is (t : Ty) (an : Option Addr) (cn : Nat) (al : Option Addr) (cl : Nat) (w : World) (h : TyAt w t an cn al cl) (hf : FineT t) (b : Bool) (hb : okT t = b) :
    Calls Tryd.prog 9 #[tyV t an cn al cl] w fun y w' => y = .returned (.bool b) ∧ Kept (fun _ => False) w w' := by
  subst hb
  exact rdMay t an cn al cl w h hf
set_option maxRecDepth 100000 in
set_option maxHeartbeats 8000000 in
theorem rdMaySig_go (s : Sg) (ap : Option Addr) (cp : Nat) (aq : Option Addr) (cq : Nat) (an : Option Addr) (cn : Nat) (al : Option Addr) (cl : Nat) (w : World) (h : SgAt w s ap cp aq cq an cn al cl) (hf : FineS s)
    (hc : (s.p.length == s.t.length && (s.p.length == 0 || (difL s.p && (decide (1 ≤ s.p.length) && decide ((s.p.length : Int) ≤ 64))))) = true) :
    Calls Tryd.prog 11 #[sgV s ap cp aq cq an cn al cl] w fun y w' => y = .returned (.bool ((isNone s.r || okT s.r) && s.t.all okT)) ∧ Kept (fun _ => False) w w' := by
  have k0 : Kept (fun _ => False) w (w.alloc (.cells (sgC s ap cp aq cq an cn al cl) 27)) := (Kept.refl _ _).new _
  have T0 := BlkAt.new w (sgC s ap cp aq cq an cn al cl) 27
  simp only [Bool.and_eq_true, Bool.or_eq_true, beq_iff_eq] at hc
  have b1 : ((s.p.length : Int) != (s.t.length : Int)) = false := by simp; omega
  have hnm : decide (0 < s.p.length) = false ∨ (decide (0 < s.p.length) = true ∧ (difL s.p && (decide (1 ≤ s.p.length) && decide ((s.p.length : Int) ≤ 64))) = true) := by
    rcases hc.2 with h0 | h0
    · exact .inl (decide_eq_false (by omega))
    · have h1 := of_decide_eq_true h0.2.1
      exact .inr ⟨decide_eq_true (by omega), by rw [h0.1, h0.2.1, h0.2.2]; rfl⟩
  have hrr : (isNone s.r = true) ∨ (isNone s.r = false ∧ okT s.r = true) ∨ (isNone s.r = false ∧ okT s.r = false) := by cases isNone s.r <;> cases okT s.r <;> simp
  have hbd := h.t.bound
  have hlen : (s.t.length : Int) ≤ 9223372036854775807 := by omega
  obtain ⟨R, hR⟩ : ∃ R : Bool, R = ((isNone s.r || okT s.r) && s.t.all okT) := ⟨_, rfl⟩
  rw [← hR]
  have HR := Lib.hid hR
  have HL := Lib.hid h
  have HF := Lib.hid hf
  have HK := Lib.hid k0
  have HT := Lib.hid T0
  have HNr := Lib.hid (fun w => rdRefNone s.r an cn al cl w)
  have HD : Hid ((difL s.p && (decide (1 ≤ s.p.length) && decide ((s.p.length : Int) ≤ 64))) = true → ∀ w', Kept (fun _ => False) w w' → Calls Tryd.prog 35 #[.slice ap s.p.length cp, .int .i64 64] w' fun y w'' => y = .returned (.bool true) ∧ Kept (fun _ => False) w' w'') := Lib.hid fun hn w' k' => by
    have := rdRefNames s.p ap cp 64 w' (h.p.kept k') hf.p
    rw [hn] at this
    exact this
  clear h hf k0 T0 hR hbd hc
  rcases hnm with b2 | ⟨b2, hn⟩
  all_goals
    try (have HDD := Lib.hid (HD.out hn); clear hn)
    clear HD
    rcases hrr with hr | ⟨hr, ho⟩ | ⟨hr, ho⟩
    all_goals
      rw [hr] at HNr
      try (have HX : Hid (∀ w', Kept (fun _ => False) w w' → Calls Tryd.prog 9 #[tyV s.r an cn al cl] w' fun y w'' => y = .returned (.bool _) ∧ Kept (fun _ => False) w' w'') := Lib.hid fun w' k' => rdMay_is s.r an cn al cl w' (HL.out.r.kept k') HF.out.r _ ho)
      try rw [ho] at HR
      rw [hr] at HR
      clear hr
      try clear ho
      go_enter Tryd.func11, Tryd.ntmps11
      go_wp2_with (first
        | (go_at_call 9; refine (HX.out _ HK2.out).mono ?_; rintro y w3 ⟨rfl, k3⟩; have HT3 := Lib.hid (HT2.out.kept (F := fun _ => False) k3 id); have HK3 := Lib.hid (HK2.out.trans k3); clear HX HT2 HK2 k3; obtain ⟨v1, v2, v3, v4, v5, v6⟩ := boxS_cells HT3.out)
        | (go_at_call 36; refine (HNr.out _).mono ?_; rintro y w2 ⟨rfl, k2⟩; first
            | (have HT2 := Lib.hid (HT1.out.kept (F := fun _ => False) k2 id); have HK2 := Lib.hid (HK1.out.trans k2); clear HNr HT1 HK1 k2; obtain ⟨u1, u2, u3, u4, u5, u6⟩ := boxS_cells HT2.out)
            | (have HT2 := Lib.hid (HT.out.kept (F := fun _ => False) k2 id); have HK2 := Lib.hid (HK.out.trans k2); clear HNr k2; obtain ⟨u1, u2, u3, u4, u5, u6⟩ := boxS_cells HT2.out))
        | (go_at_call 35; refine (HDD.out _ HK.out).mono ?_; rintro y w1 ⟨rfl, k1⟩; have HT1 := Lib.hid (HT.out.kept (F := fun _ => False) k1 id); have HK1 := Lib.hid (HK.out.trans k1); clear HDD k1; obtain ⟨t1, t2, t3, t4, t5, t6⟩ := boxS_cells HT1.out))
      first
        | (go_ret; have HRN : Hid (R = false) := Lib.hid (by rw [HR.out]; rfl); rw [HRN.out]; exact ⟨rfl, HK3.out⟩)
        | skip
          have HRL : Hid (R = s.t.all okT) := Lib.hid (by rw [HR.out]; simp)
          first
          | have HS : Hid (Kept (fun _ => False) w _ ∧ BlkAt _ w.heap.size (sgC s ap cp aq cq an cn al cl) 27) := Lib.hid ⟨HK3.out, HT3.out⟩
          | have HS : Hid (Kept (fun _ => False) w _ ∧ BlkAt _ w.heap.size (sgC s ap cp aq cq an cn al cl) 27) := Lib.hid ⟨HK2.out, HT2.out⟩
          clear HR
          try clear u1 u2 u3 u4 u5 u6
          try clear v1 v2 v3 v4 v5 v6
          go_loopw [3] (fun v wr => ∃ i : Nat, v = .int .i64 i ∧ i ≤ s.t.length ∧ Hid (Kept (fun _ => False) w wr ∧ BlkAt wr w.heap.size (sgC s ap cp aq cq an cn al cl) 27 ∧ R = (s.t.drop i).all okT)) (fun v _ => s.t.length - (intOf v).toNat)
          case atStart => exact ⟨0, rfl, Nat.zero_le _, Lib.hid ⟨HS.out.1, HS.out.2, HRL.out⟩⟩
          case round =>
            clear HS
            obtain ⟨i, rfl, hi, hst⟩ := hrel
            obtain ⟨p1, p2, p3, p4, p5, p6⟩ := boxS_cells hst.out.2.1
            by_cases hlt : i < s.t.length
            · obtain ⟨x, hx⟩ : ∃ x, s.t[i]? = some x := ⟨_, List.getElem?_eq_getElem hlt⟩
              obtain ⟨g, o, ax, cx, ay, cy, rfl, hgl, htx, c0, c1, c2, c3⟩ := (HL.out.t.kept hst.out.1).at hx
              have hxf := HF.out.t x (List.mem_of_getElem? hx)
              have HAL := Lib.hid (all_step (F := okT) hx)
              have hltI : ((i : Int) < (s.t.length : Int)) = True := by simp; omega
              cases ho : okT x
              · have HX : Hid (∀ w', Kept (fun _ => False) wr w' → Calls Tryd.prog 9 #[tyV x ax cx ay cy] w' fun y w'' => y = .returned (.bool false) ∧ Kept (fun _ => False) w' w'') := Lib.hid fun w' k' => rdMay_is x ax cx ay cy w' (htx.kept k') hxf _ ho
                have HRN : Hid (R = false) := Lib.hid (by rw [hst.out.2.2, HAL.out, ho]; rfl)
                clear hx hxf htx hgl ho
                go_wp2_with (first
                  | (go_at_call 9; refine (HX.out _ (Kept.refl _ _)).mono ?_; rintro y w1 ⟨rfl, k1⟩))
                go_ret
                rw [HRN.out]
                exact ⟨rfl, hst.out.1.trans k1⟩
              · have HX : Hid (∀ w', Kept (fun _ => False) wr w' → Calls Tryd.prog 9 #[tyV x ax cx ay cy] w' fun y w'' => y = .returned (.bool true) ∧ Kept (fun _ => False) w' w'') := Lib.hid fun w' k' => rdMay_is x ax cx ay cy w' (htx.kept k') hxf _ ho
                have HRN : Hid (R = (s.t.drop (i + 1)).all okT) := Lib.hid (by rw [hst.out.2.2, HAL.out, ho]; rfl)
                clear hx hxf htx hgl ho
                go_wp2_with (first
                  | (go_at_call 9; refine (HX.out _ (Kept.refl _ _)).mono ?_; rintro y w1 ⟨rfl, k1⟩))
                exact ⟨⟨i + 1, by go_num, by omega, Lib.hid ⟨hst.out.1.trans k1, hst.out.2.1.kept k1 id, HRN.out⟩⟩, by simp [intOf]; omega⟩
            · have hie : i = s.t.length := by omega
              have HRN : Hid (R = true) := Lib.hid (by rw [hst.out.2.2, List.drop_eq_nil_of_le (by omega)]; rfl)
              subst hie
              clear hlt
              go_wp2_with fail
              go_ret
              rw [HRN.out]
              exact ⟨rfl, hst.out.1⟩
/-- MAYSIG. -/
theorem rdMaySig (s : Sg) (ap : Option Addr) (cp : Nat) (aq : Option Addr) (cq : Nat) (an : Option Addr) (cn : Nat) (al : Option Addr) (cl : Nat) (w : World) (h : SgAt w s ap cp aq cq an cn al cl) (hf : FineS s) :
    Calls Tryd.prog 11 #[sgV s ap cp aq cq an cn al cl] w fun y w' => y = .returned (.bool (okS s)) ∧ Kept (fun _ => False) w w' := by
  rw [okS_ref]
  cases hc : (s.p.length == s.t.length && (s.p.length == 0 || (difL s.p && (decide (1 ≤ s.p.length) && decide ((s.p.length : Int) ≤ 64)))))
  · rw [Bool.false_and]
    exact rdMaySig_no s ap cp aq cq an cn al cl w h hf hc
  · rw [Bool.true_and]
    exact rdMaySig_go s ap cp aq cq an cn al cl w h hf hc
end Go.Proofs.YtcfakaglmlfkpaaDoor
