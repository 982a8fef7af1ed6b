/- ctype: a function's types: CheckSig and MaySig. -/
import Derived.Test.YtcfakaglmlfkpaaDoorCtI
set_option linter.unusedVariables false
set_option linter.unusedSimpArgs false
namespace Go.Proofs.YtcfakaglmlfkpaaDoor
open Go.RowKit
open Lex Ct

/-- A function's types, as a struct of these cells. -/
structure SgAt (w : World) (s : Sg) (ap : Option Addr) (cp : Nat) (aq : Option Addr) (cq : Nat) (an : Option Addr) (cn : Nat) (al : Option Addr) (cl : Nat) : Prop where
  p : NmsAt w s.p ap cp
  t : RowAt w s.t aq cq
  r : TyAt w s.r an cn al cl
theorem SgAt.kept {w w' : World} {s : Sg} {ap : Option Addr} {cp : Nat} {aq : Option Addr} {cq : Nat} {an : Option Addr} {cn : Nat} {al : Option Addr} {cl : Nat} (h : SgAt w s ap cp aq cq an cn al cl) (k : Kept (fun _ => False) w w') : SgAt w' s ap cp aq cq an cn al cl := ⟨h.p.kept k, h.t.kept k, h.r.kept k⟩
abbrev sgC (s : Sg) (ap : Option Addr) (cp : Nat) (aq : Option Addr) (cq : Nat) (an : Option Addr) (cn : Nat) (al : Option Addr) (cl : Nat) : Array Value := #[.string (strOfNums s.name), .slice ap s.p.length cp, .slice aq s.t.length cq, .int .i64 s.r.kind, .slice an s.r.names.length cn, .slice al s.r.l.length cl, .int .i64 s.r.r]
abbrev sgV (s : Sg) (ap : Option Addr) (cp : Nat) (aq : Option Addr) (cq : Nat) (an : Option Addr) (cn : Nat) (al : Option Addr) (cl : Nat) : Value := .agg (sgC s ap cp aq cq an cn al cl)
structure FineS (s : Sg) : Prop where
  p : ∀ b ∈ s.p, NmOk b
  t : ∀ t ∈ s.t, FineT t
  r : FineT s.r
theorem boxS_cells {w : World} {b : Nat} {s : Sg} {ap : Option Addr} {cp : Nat} {aq : Option Addr} {cq : Nat} {an : Option Addr} {cn : Nat} {al : Option Addr} {cl : Nat} (h : BlkAt w b (sgC s ap cp aq cq an cn al cl) 27) :
    w.cell? ⟨b, 1, none⟩ = some (.slice ap s.p.length cp) ∧ w.cell? ⟨b, 2, none⟩ = some (.slice aq s.t.length cq) ∧ w.cell? ⟨b, 3, none⟩ = some (.int .i64 s.r.kind) ∧ w.cell? ⟨b, 4, none⟩ = some (.slice an s.r.names.length cn) ∧ w.cell? ⟨b, 5, none⟩ = some (.slice al s.r.l.length cl) ∧ w.cell? ⟨b, 6, none⟩ = some (.int .i64 s.r.r) :=
  ⟨h.cell 1, h.cell 2, h.cell 3, h.cell 4, h.cell 5, h.cell 6⟩
theorem rdCheck_ok (t : Ty) (an : Option Addr) (cn : Nat) (al : Option Addr) (cl : Nat) (w : World) (h : TyAt w t an cn al cl) (hf : FineT t) (ho : okT t = true) :
    Calls Tryd.prog 8 #[tyV t an cn al cl] w fun y w' => y = .returned (.int .i64 0) ∧ Kept (fun _ => False) w w' := by
  have := rdCheck t an cn al cl w h hf
  rw [ho, if_pos rfl] at this
  exact this
theorem rdCheck_no (t : Ty) (an : Option Addr) (cn : Nat) (al : Option Addr) (cl : Nat) (w : World) (h : TyAt w t an cn al cl) (hf : FineT t) (ho : okT t = false) :
    Calls Tryd.prog 8 #[tyV t an cn al cl] w fun y w' => y = .returned (.int .i64 1) ∧ Kept (fun _ => False) w w' := by
  have := rdCheck t an cn al cl w h hf
  rw [ho, if_neg (by decide)] at this
  exact this
set_option maxRecDepth 100000 in
set_option maxHeartbeats 8000000 in
/-- CHECKSIG, and that it says no. -/
theorem rdCheckSig_no (s : Sg) (ap : Option Addr) (cp : Nat) (aq : Option Addr) (cq : Nat) (an : Option Addr) (cn : Nat) (al : Option Addr) (cl : Nat) (w : World) (h : SgAt w s ap cp aq cq an cn al cl) (hf : FineS s)
    (hc : (decide (s.p.length ≤ 64) && (s.t.length == s.p.length && difL s.p)) = false) :
    Calls Tryd.prog 10 #[sgV s ap cp aq cq an cn al cl] w fun y w' => y = .returned (.int .i64 1) ∧ Kept (fun _ => False) w w' := by
  have k0 : Kept (fun _ => False) w (w.alloc (.cells (sgC s ap cp aq cq an cn al cl) 27)) := (Kept.refl _ _).new _
  have HD : Hid (∀ w', Kept (fun _ => False) w w' → ∀ n, n = s.p.length → Calls Tryd.prog 33 #[.slice ap n cp] w' fun y w'' => y = .returned (.bool (difL s.p)) ∧ Kept (fun _ => False) w' w'') := Lib.hid fun w' k' n e => by subst e; exact rdDiffer s.p ap cp w' (h.p.kept k') hf.p
  have HK := Lib.hid k0
  clear k0 h hf
  by_cases h1 : s.p.length ≤ 64
  · have b1 : decide ((s.p.length : Int) > 64) = false := by simp; omega
    by_cases h2 : s.t.length = s.p.length
    · have b2 : ((s.t.length : Int) != (s.p.length : Int)) = false := by simp; omega
      have h3 : difL s.p = false := by rw [decide_eq_true h1, h2] at hc; simpa using hc
      rw [h3] at HD
      clear h1 h2 h3 hc
      go_enter Tryd.func10, Tryd.ntmps10
      go_wp2_with (first
        | (go_at_call 33; refine (HD.out _ HK.out _ rfl).mono ?_; rintro y w1 ⟨rfl, k1⟩))
      go_ret
      exact ⟨rfl, HK.out.trans k1⟩
    · have b2 : ((s.t.length : Int) != (s.p.length : Int)) = true := by simp; omega
      clear h1 h2 hc HD
      go_enter Tryd.func10, Tryd.ntmps10
      go_wp2_with fail
      go_ret
      exact ⟨rfl, HK.out⟩
  · have b1 : decide ((s.p.length : Int) > 64) = true := by simp; omega
    clear h1 hc HD
    go_enter Tryd.func10, Tryd.ntmps10
    go_wp2_with fail
    go_ret
    exact ⟨rfl, HK.out⟩
set_option maxRecDepth 100000 in
set_option maxHeartbeats 8000000 in
theorem rdCheckSig_go (s : Sg) (ap : Option Addr) (cp : Nat) (aq : Option Addr) (cq : Nat) (an : Option Addr) (cn : Nat) (al : Option Addr) (cl : Nat) (w : World) (h : SgAt w s ap cp aq cq an cn al cl) (hf : FineS s)
    (hc : (decide (s.p.length ≤ 64) && (s.t.length == s.p.length && difL s.p)) = true) :
    Calls Tryd.prog 10 #[sgV s ap cp aq cq an cn al cl] w fun y w' => y = .returned (.int .i64 (if (s.t.all okT && (isNone s.r || okT s.r)) = true then 0 else 1)) ∧ Kept (fun _ => False) w w' := by
  have k0 : Kept (fun _ => False) w (w.alloc (.cells (sgC s ap cp aq cq an cn al cl) 27)) := (Kept.refl _ _).new _
  have T0 := BlkAt.new w (sgC s ap cp aq cq an cn al cl) 27
  simp only [Bool.and_eq_true, decide_eq_true_eq, beq_iff_eq] at hc
  obtain ⟨h1, h2, h3⟩ := hc
  have HD : Hid (∀ w', Kept (fun _ => False) w w' → ∀ n, n = s.p.length → Calls Tryd.prog 33 #[.slice ap n cp] w' fun y w'' => y = .returned (.bool true) ∧ Kept (fun _ => False) w' w'') := Lib.hid fun w' k' n e => by subst e; have := rdDiffer s.p ap cp w' (h.p.kept k') hf.p; rw [h3] at this; exact this
  have b1 : decide ((s.p.length : Int) > 64) = false := by simp; omega
  have b2 : ((s.t.length : Int) != (s.p.length : Int)) = false := by simp; omega
  have hbd := h.t.bound
  have hlen : (s.t.length : Int) ≤ 9223372036854775807 := by omega
  obtain ⟨R, hR⟩ : ∃ R : Int, R = if (s.t.all okT && (isNone s.r || okT s.r)) = true then 0 else 1 := ⟨_, rfl⟩
  rw [← hR]
  have HR := Lib.hid hR
  have HL := Lib.hid h
  have HF := Lib.hid hf
  have HK := Lib.hid k0
  have HT := Lib.hid T0
  have HNr := Lib.hid (fun w => rdNone s.r an cn al cl w)
  clear h hf k0 T0 h1 h2 h3 hR hbd
  go_enter Tryd.func10, Tryd.ntmps10
  go_wp2_with (first
    | (go_at_call 33; refine (HD.out _ HK.out _ rfl).mono ?_; rintro y w1 ⟨rfl, k1⟩; have T1 := HT.out.kept (F := fun _ => False) k1 id; obtain ⟨t1, t2, t3, t4, t5, t6⟩ := boxS_cells T1; have HK1 := Lib.hid (HK.out.trans k1); have HT1 := Lib.hid T1; clear HD T1 k1))
  clear t1 t2 t3 t4 t5 t6
  go_loopw [28] (fun v wr => ∃ i : Nat, v = .int .i64 i ∧ i ≤ s.t.length ∧ Hid (Kept (fun _ => False) w wr ∧ BlkAt wr w.heap.size (sgC s ap cp aq cq an cn al cl) 27 ∧ s.t.all okT = (s.t.drop i).all okT)) (fun v _ => s.t.length - (intOf v).toNat)
  case atStart => exact ⟨0, rfl, Nat.zero_le _, Lib.hid ⟨HK1.out, HT1.out, rfl⟩⟩
  case round =>
    clear HK1 HT1
    obtain ⟨i, rfl, hi, hst⟩ := hrel
    by_cases hlt : i < s.t.length
    · obtain ⟨x, hx⟩ : ∃ x, s.t[i]? = some x := ⟨_, List.getElem?_eq_getElem hlt⟩
      obtain ⟨g, o, ax, cx, ay, cy, rfl, hgl, htx, c0, c1, c2, c3⟩ := (HL.out.t.kept hst.out.1).at hx
      have hxf := HF.out.t x (List.mem_of_getElem? hx)
      have kx : Kept (fun _ => False) wr (wr.alloc (.cells #[.int .i64 x.kind, .slice ax x.names.length cx, .slice ay x.l.length cy, .int .i64 x.r] 25)) := (Kept.refl _ _).new _
      have HKX := Lib.hid kx
      have HAL := Lib.hid (all_step (F := okT) hx)
      have hltI : ((i : Int) < (s.t.length : Int)) = True := by simp; omega
      cases ho : okT x
      · have HX : Hid (∀ w', Kept (fun _ => False) wr w' → Calls Tryd.prog 8 #[tyV x ax cx ay cy] w' fun y w'' => y = .returned (.int .i64 1) ∧ Kept (fun _ => False) w' w'') := Lib.hid fun w' k' => rdCheck_no x ax cx ay cy w' (htx.kept k') hxf ho
        have HRN : Hid (R = 1) := Lib.hid (by rw [HR.out, hst.out.2.2, HAL.out, ho, if_neg (by simp)])
        clear hx hxf htx hgl kx ho
        go_wp2_with (first
          | (go_at_call 8; refine (HX.out _ HKX.out).mono ?_; rintro y w1 ⟨rfl, k1⟩))
        go_ret
        rw [HRN.out]
        exact ⟨rfl, hst.out.1.trans (HKX.out.trans k1)⟩
      · have HX : Hid (∀ w', Kept (fun _ => False) wr w' → Calls Tryd.prog 8 #[tyV x ax cx ay cy] w' fun y w'' => y = .returned (.int .i64 0) ∧ Kept (fun _ => False) w' w'') := Lib.hid fun w' k' => rdCheck_ok x ax cx ay cy w' (htx.kept k') hxf ho
        have HRN : Hid (s.t.all okT = (s.t.drop (i + 1)).all okT) := Lib.hid (by rw [hst.out.2.2, HAL.out, ho]; rfl)
        clear hx hxf htx hgl kx ho
        go_wp2_with (first
          | (go_at_call 8; refine (HX.out _ HKX.out).mono ?_; rintro y w1 ⟨rfl, k1⟩))
        exact ⟨⟨i + 1, by go_num, by omega, Lib.hid ⟨hst.out.1.trans (HKX.out.trans k1), (hst.out.2.1.kept HKX.out id).kept k1 id, HRN.out⟩⟩, by simp [intOf]; omega⟩
    · have hie : i = s.t.length := by omega
      have hal : s.t.all okT = true := by rw [hst.out.2.2, List.drop_eq_nil_of_le (by omega)]; rfl
      have HRE : Hid (R = if (isNone s.r || okT s.r) = true then 0 else 1) := Lib.hid (by rw [HR.out, hal, Bool.true_and])
      obtain ⟨t1, t2, t3, t4, t5, t6⟩ := boxS_cells hst.out.2.1
      subst hie
      clear hlt hal
      cases hn : isNone s.r
      · rw [hn] at HNr
        cases ho : okT s.r
        · have HX : Hid (∀ w', Kept (fun _ => False) wr w' → Calls Tryd.prog 8 #[tyV s.r an cn al cl] w' fun y w'' => y = .returned (.int .i64 1) ∧ Kept (fun _ => False) w' w'') := Lib.hid fun w' k' => rdCheck_no s.r an cn al cl w' (HL.out.r.kept (hst.out.1.trans k')) HF.out.r ho
          have HRN : Hid (R = 1) := Lib.hid (by rw [HRE.out, hn, ho]; rfl)
          clear hn ho
          go_wp2_with (first
            | (go_at_call 8; refine (HX.out _ k1).mono ?_; rintro y w2 ⟨rfl, k2⟩)
            | (go_at_call 34; refine (HNr.out _).mono ?_; rintro y w1 ⟨rfl, k1⟩; have T1 := hst.out.2.1.kept (F := fun _ => False) k1 id; obtain ⟨u1, u2, u3, u4, u5, u6⟩ := boxS_cells T1; clear HNr t1 t2 t3 t4 t5 t6))
          go_ret
          rw [HRN.out]
          exact ⟨rfl, (hst.out.1.trans k1).trans k2⟩
        · have HX : Hid (∀ w', Kept (fun _ => False) wr w' → Calls Tryd.prog 8 #[tyV s.r an cn al cl] w' fun y w'' => y = .returned (.int .i64 0) ∧ Kept (fun _ => False) w' w'') := Lib.hid fun w' k' => rdCheck_ok s.r an cn al cl w' (HL.out.r.kept (hst.out.1.trans k')) HF.out.r ho
          have HRN : Hid (R = 0) := Lib.hid (by rw [HRE.out, hn, ho]; rfl)
          clear hn ho
          go_wp2_with (first
            | (go_at_call 8; refine (HX.out _ k1).mono ?_; rintro y w2 ⟨rfl, k2⟩)
            | (go_at_call 34; refine (HNr.out _).mono ?_; rintro y w1 ⟨rfl, k1⟩; have T1 := hst.out.2.1.kept (F := fun _ => False) k1 id; obtain ⟨u1, u2, u3, u4, u5, u6⟩ := boxS_cells T1; clear HNr t1 t2 t3 t4 t5 t6))
          go_ret
          rw [HRN.out]
          exact ⟨rfl, (hst.out.1.trans k1).trans k2⟩
      · rw [hn] at HNr
        have HRN : Hid (R = 0) := Lib.hid (by rw [HRE.out, hn]; rfl)
        clear hn
        go_wp2_with (first
          | (go_at_call 34; refine (HNr.out _).mono ?_; rintro y w1 ⟨rfl, k1⟩))
        go_ret
        rw [HRN.out]
        exact ⟨rfl, hst.out.1.trans k1⟩
/-- CHECKSIG. -/
theorem rdCheckSig (s : Sg) (ap : Option Addr) (cp : Nat) (aq : Option Addr) (cq : Nat) (an : Option Addr) (cn : Nat) (al : Option Addr) (cl : Nat) (w : World) (h : SgAt w s ap cp aq cq an cn al cl) (hf : FineS s) :
    Calls Tryd.prog 10 #[sgV s ap cp aq cq an cn al cl] w fun y w' => y = .returned (.int .i64 (if okS s = true then 0 else 1)) ∧ Kept (fun _ => False) w w' := by
  cases hc : (decide (s.p.length ≤ 64) && (s.t.length == s.p.length && difL s.p))
  · have e : okS s = false := by
      unfold okS
      rw [← Bool.and_assoc (difL s.p), ← Bool.and_assoc, ← Bool.and_assoc]
      cases h1 : decide (s.p.length ≤ 64) <;> cases h2 : (s.t.length == s.p.length) <;> cases h3 : difL s.p <;> simp_all
    rw [e, if_neg (by decide)]
    exact rdCheckSig_no s ap cp aq cq an cn al cl w h hf hc
  · have e : okS s = (s.t.all okT && (isNone s.r || okT s.r)) := by
      unfold okS
      simp only [Bool.and_eq_true] at hc
      rw [hc.1, hc.2.1, hc.2.2, Bool.true_and, Bool.true_and, Bool.true_and]
    rw [e]
    exact rdCheckSig_go s ap cp aq cq an cn al cl w h hf hc
end Go.Proofs.YtcfakaglmlfkpaaDoor
