/- value: Args, the project's. -/
import Derived.Test.YtkbehflcofcgjaaGreatDoorVbJ
import Derived.Test.YtkbehflcofcgjaaGreatDoorCtFK
set_option linter.unusedVariables false
set_option linter.unusedSimpArgs false
namespace Go.Proofs.YtkbehflcofcgjaaGreatDoor
open Go.RowKit
open Lex Ct

namespace Ct
def chkA (s : Sg) (l : List Vl) : Int := if okS s = false then 1 else if l.length ≠ s.t.length then 6 else if sumL (partsK 16) s.t l 1 = 0 then 6 else 0
theorem okS_all {s : Sg} (h : okS s = true) : s.t.length ≤ 64 ∧ ∀ t ∈ s.t, okT t = true := by
  unfold okS at h
  simp only [Bool.and_eq_true, decide_eq_true_eq, beq_iff_eq, Bool.or_eq_true, List.all_eq_true] at h
  exact ⟨by omega, h.2.2.2.1⟩
def argF (ts : List Ty) (i : Nat) (x : Vl) (d : Nat) : Option Nat := match ts[i]? with
  | none => none
  | some t => ofK 16 (plK 17 t) x d
theorem argF_at {ts : List Ty} {i : Nat} {t : Ty} (h : ts[i]? = some t) (x : Vl) (d : Nat) : argF ts i x d = ofK 16 (plK 17 t) x d := by
  unfold argF
  rw [h]
theorem args_of {s : Sg} {l : List Vl} (ho : okS s = true) (hl : s.t.length = l.length) : ofL (argF s.t) 0 l 3999 = if sumL (partsK 16) s.t l 1 = 0 then none else some (4000 - sumL (partsK 16) s.t l 1) := by
  have h4 := sumL_le (g := partsK 16) s.t l 1 (by omega)
  rw [sum_of (g := partsK 16) (F := argF s.t) s.t l 0 1 3999 hl (by omega) (by omega) (fun j t x d ht hx hd => by
    rw [Nat.zero_add, argF_at ht]
    exact rel_all 16 t x d (okT_deep ((okS_all ho).2 t (List.mem_of_getElem? ht))).1 hd)]
  by_cases h0 : sumL (partsK 16) s.t l 1 = 0
  · rw [if_pos h0, if_neg (fun q => q.1 h0)]
  · rw [if_neg h0, if_pos ⟨h0, by omega⟩]
end Ct
theorem Kept.cellF {F : Nat → Prop} {w w' : World} (k : Kept F w w') {p : Addr} (h : p.block < w.heap.size) (hf : ¬ F p.block) : w'.cell? p = w.cell? p := World.cell?_of_block (w := w) (k.block p.block h hf)

set_option maxRecDepth 100000 in
set_option maxHeartbeats 8000000 in
theorem vargs_no (s : Sg) (ap : Option Addr) (cp : Nat) (aq : Option Addr) (cq : Nat) (an : Option Addr) (cn : Nat) (al : Option Addr) (cl : Nat) (l : List Vl) (av : Option Addr) (cv : Nat) (w : World) (h : SgAt w s ap cp aq cq an cn al cl) (hf : FineS s) (ho : okS s = false) :
    Calls Tryz.prog 13 #[sgV s ap cp aq cq an cn al cl, .slice av l.length cv] w (ChkR 1 w) := by
  have k0 : Kept (fun _ => False) w (w.alloc (.cells (sgC s ap cp aq cq an cn al cl) 37)) := (Kept.refl _ _).new _
  have HK := Lib.hid k0
  have HC := Lib.hid (fun w' k' => rdCheckSig s ap cp aq cq an cn al cl w' (h.kept k') hf)
  rw [ho, if_neg (by decide)] at HC
  clear h hf ho k0
  go_enter Tryz.func13, Tryz.ntmps13
  go_wp2_with (first
    | (go_at_call 30; refine (HC.out _ HK.out).mono ?_; rintro y w1 ⟨rfl, k1⟩))
  go_ret
  exact ⟨rfl, HK.out.trans k1⟩

set_option maxRecDepth 100000 in
set_option maxHeartbeats 8000000 in
theorem vargs_len (s : Sg) (ap : Option Addr) (cp : Nat) (aq : Option Addr) (cq : Nat) (an : Option Addr) (cn : Nat) (al : Option Addr) (cl : Nat) (l : List Vl) (av : Option Addr) (cv : Nat) (w : World) (h : SgAt w s ap cp aq cq an cn al cl) (hf : FineS s) (ho : okS s = true) (hl : l.length ≠ s.t.length) :
    Calls Tryz.prog 13 #[sgV s ap cp aq cq an cn al cl, .slice av l.length cv] w (ChkR 6 w) := by
  have k0 : Kept (fun _ => False) w (w.alloc (.cells (sgC s ap cp aq cq an cn al cl) 37)) := (Kept.refl _ _).new _
  have T0 := BlkAt.new w (sgC s ap cp aq cq an cn al cl) 37
  have HK := Lib.hid k0
  have HT := Lib.hid T0
  have HC := Lib.hid (fun w' k' => rdCheckSig s ap cp aq cq an cn al cl w' (h.kept k') hf)
  rw [ho, if_pos rfl] at HC
  have b1 : (l.length != s.t.length) = true := by simp [hl]
  have b2 : (l.length == s.t.length) = false := by simp [hl]
  clear h hf ho k0 T0 hl
  go_enter Tryz.func13, Tryz.ntmps13
  go_wp2_with (first
    | (go_at_call 30; refine (HC.out _ HK.out).mono ?_; rintro y w1 ⟨rfl, k1⟩; have T1 := HT.out.kept (F := fun _ => False) k1 id; obtain ⟨t1, t2, t3, t4, t5, t6⟩ := boxS_cells T1; have HK1 := Lib.hid (HK.out.trans k1); clear k1 T1))
  go_ret
  exact ⟨rfl, HK1.out⟩

set_option maxRecDepth 100000 in
set_option maxHeartbeats 8000000 in
theorem vargs_go (s : Sg) (ap : Option Addr) (cp : Nat) (aq : Option Addr) (cq : Nat) (an : Option Addr) (cn : Nat) (al : Option Addr) (cl : Nat) (l : List Vl) (av : Option Addr) (cv : Nat) (w : World) (h : SgAt w s ap cp aq cq an cn al cl) (hf : FineS s) (hv : VRowAt w l av cv) (hlv : ∀ x ∈ l, LtV x) (ho : okS s = true) (hl : l.length = s.t.length) (R : Option Nat) (Z : Int) (hR : R = ofL (argF s.t) 0 l 3999) (hZ : (R = none → Z = 6) ∧ (R ≠ none → Z = 0)) :
    Calls Tryz.prog 13 #[sgV s ap cp aq cq an cn al cl, .slice av l.length cv] w (ChkR Z w) := by
  have k0 : Kept (fun _ => False) w (w.alloc (.cells (sgC s ap cp aq cq an cn al cl) 37)) := (Kept.refl _ _).new _
  have T0 := BlkAt.new w (sgC s ap cp aq cq an cn al cl) 37
  have HK := Lib.hid k0
  have HT := Lib.hid T0
  have HC := Lib.hid (fun w' k' => rdCheckSig s ap cp aq cq an cn al cl w' (h.kept k') hf)
  rw [ho, if_pos rfl] at HC
  have b1 : (l.length != s.t.length) = false := by simp [hl]
  have b2 : (l.length == s.t.length) = true := by simp [hl]
  have b3 : ((l.length : Int) != (s.t.length : Int)) = false := by simp [hl]
  have HL := Lib.hid hl
  have h64 : l.length ≤ 64 := by have := (okS_all ho).1; omega
  have HAT := Lib.hid h.t
  have HAV := Lib.hid hv
  have HLV := Lib.hid hlv
  have HOK := Lib.hid (okS_all ho)
  have HR := Lib.hid hR
  have HZ := Lib.hid hZ
  clear h hf hv hlv ho k0 T0 hl hR hZ
  go_enter Tryz.func13, Tryz.ntmps13
  go_wp2_with (first
    | (go_at_call 30; refine (HC.out _ HK.out).mono ?_; rintro y w1 ⟨rfl, k1⟩; have T1 := HT.out.kept (F := fun _ => False) k1 id; obtain ⟨t1, t2, t3, t4, t5, t6⟩ := boxS_cells T1; have HT1 := Lib.hid T1; have HK1 := Lib.hid (HK.out.trans k1); clear k1 T1))
  have kx0 : Kept (fun _ => False) w1 (w1.alloc (.cells #[.int .i64 3999] 58)) := (Kept.refl _ _).new _
  have HB0 := Lib.hid (BlkAt.new w1 #[.int .i64 3999] 58)
  have HLW := Lib.hid (And.intro HT1.out.lt HK1.out.size)
  have HT2 := Lib.hid (HT1.out.kept (F := fun _ => False) kx0 id)
  have HKX0 := Lib.hid (HK1.out.trans kx0)
  clear kx0 t1 t2 t3 t4 t5 t6
  go_loopw [23] (fun u wr => ∃ i ci : Nat, u = .int .i64 i ∧ i ≤ l.length ∧ ci ≤ 4000 ∧ Hid (Kept (fun _ => False) w wr ∧ BlkAt wr w1.heap.size #[.int .i64 (ci : Nat)] 58 ∧ R = ofL (argF s.t) i (l.drop i) ci) ∧ Hid (BlkAt wr w.heap.size (sgC s ap cp aq cq an cn al cl) 37)) (fun u _ => l.length - (intOf u).toNat)
  case atStart => exact ⟨0, 3999, rfl, Nat.zero_le _, by omega, Lib.hid ⟨HKX0.out, HB0.out, HR.out⟩, Lib.hid HT2.out⟩
  case round =>
    clear HKX0 HB0 HT2
    obtain ⟨i, ci, rfl, hi, hci, hst, hbx⟩ := hrel
    by_cases hlt : i < l.length
    · obtain ⟨x, hx⟩ : ∃ x, l[i]? = some x := ⟨_, List.getElem?_eq_getElem hlt⟩
      obtain ⟨t, ht⟩ : ∃ t, s.t[i]? = some t := ⟨_, List.getElem?_eq_getElem (by have := HL.out; omega)⟩
      have hot := HOK.out.2 t (List.mem_of_getElem? ht)
      have hltx : LtV x := HLV.out x (List.mem_of_getElem? hx)
      have hia : i < s.t.length := (List.getElem?_eq_some_iff.1 ht).1
      obtain ⟨ga, oa, bn, dn, bl, dl, rfl, hgn, hga, htx, d0, d1, d2, d3⟩ := row_in (P := (· ≠ w1.heap.size)) (HAT.out.lies.now.thru hst.out.1 (fun _ _ _ e => e) (fun c q _ => by have q : c < w.heap.size := q; have := HLW.out; omega)) ht
      obtain ⟨gb, ob, ax, cx, ay, cy, rfl, hgm, hgb, hvx, c0, c1, c2⟩ := vrow_in (P := (· ≠ w1.heap.size)) (HAV.out.lies.now.thru hst.out.1 (fun _ _ _ e => e) (fun c q _ => by have q : c < w.heap.size := q; have := HLW.out; omega)) hx
      have HVX := Lib.hid hvx
      have kx : Kept (fun _ => False) wr (wr.alloc (.cells #[.int .i64 x.n, .slice ax x.s.length cx, .slice ay x.l.length cy] 29)) := (Kept.refl _ _).new _
      have HKX := Lib.hid kx
      have q0 : Kept (fun _ => False) (wr.alloc (.cells #[.int .i64 x.n, .slice ax x.s.length cx, .slice ay x.l.length cy] 29)) (wr.alloc (.cells #[.int .i64 x.n, .slice ax x.s.length cx, .slice ay x.l.length cy] 29)).drew := (Kept.refl _ _).drew
      have hbw : w1.heap.size < wr.heap.size := hst.out.2.1.lt
      have HW : Hid (∀ w', Kept (· = w1.heap.size) (wr.alloc (.cells #[.int .i64 x.n, .slice ax x.s.length cx, .slice ay x.l.length cy] 29)) w' → w'.cell? ⟨w.heap.size, 2, none⟩ = some (.slice (some ⟨ga, oa, none⟩) s.t.length cq) ∧ w'.cell? ⟨ga, oa + i * 4, none⟩ = some (.int .i64 t.kind) ∧ w'.cell? ⟨ga, oa + i * 4 + 1, none⟩ = some (.slice bn t.names.length dn) ∧ w'.cell? ⟨ga, oa + i * 4 + 2, none⟩ = some (.slice bl t.l.length dl) ∧ w'.cell? ⟨ga, oa + i * 4 + 3, none⟩ = some (.int .i64 t.r) ∧ w'.cell? ⟨wr.heap.size, 0, none⟩ = some (.int .i64 x.n) ∧ w'.cell? ⟨wr.heap.size, 1, none⟩ = some (.slice ax x.s.length cx) ∧ w'.cell? ⟨wr.heap.size, 2, none⟩ = some (.slice ay x.l.length cy)) := Lib.hid (fun w' k' => by
        have A := (hbx.out.kept (F := fun _ => False) kx id).kept k' (by have := HLW.out; omega)
        have C := (BlkAt.new wr #[.int .i64 x.n, .slice ax x.s.length cx, .slice ay x.l.length cy] 29).kept k' (by omega)
        have K : ∀ q, w'.cell? ⟨ga, q, none⟩ = wr.cell? ⟨ga, q, none⟩ := fun q => (kx.any.trans k').cellF hga hgn
        exact ⟨A.cell 2, (K _).trans d0, (K _).trans d1, (K _).trans d2, (K _).trans d3, C.cell 0, C.cell 1, C.cell 2⟩)
      have E0 := Lib.hid (HW.out _ q0.any)
      have HPL : Hid (∀ w', Kept (fun _ => False) wr w' → Calls Tryz.prog 28 #[tyV t bn dn bl dl] w' (TyR (· ≠ w1.heap.size) (plK 17 t) w')) := Lib.hid (fun w' k' => rdPlNe w1.heap.size t bn dn bl dl w' (htx.thru k' (fun _ _ _ e => e) (fun _ q _ => q)) hot (Nat.lt_of_lt_of_le hst.out.2.1.lt k'.size))
      unfold TyR at HPL
      clear hgb hgm hvx htx kx hga hgn hbw d0 d1 d2 d3
      cases hmx : ofK 16 (plK 17 t) x ci with
      | none =>
        have HX : Hid (∀ (bp : Option Addr) (dp : Nat) (bq : Option Addr) (dq : Nat) (w' : World), TyP (· ≠ w1.heap.size) w' (plK 17 t) bp dp bq dq → Kept (fun _ => False) wr w' → Calls Tryz.prog 27 #[.pointer (some ⟨w1.heap.size, 0, none⟩), tyV (plK 17 t) bp dp bq dq, vlV x ax cx ay cy] w' (OfR none w1.heap.size w')) := Lib.hid fun bp dp bq dq w' h1 k' => by
          have := of_all 16 w1.heap.size (plK 17 t) bp dp bq dq x ax cx ay cy ci w' (ok_pl 16 t (okT_deep hot).1) hltx h1 (HVX.out.thru k' (fun _ _ _ e => e) (fun _ q _ => q)) (hst.out.2.1.kept k' id) hci
          rw [hmx] at this
          exact this
        unfold OfR at HX
        have HRN : Hid (Z = 6) := Lib.hid (HZ.out.1 (by rw [hst.out.2.2, ofL_step hx, argF_at ht, hmx]))
        have HLT : Hid (i + 1 ≤ l.length) := Lib.hid hlt
        have hlenI : decide (i < l.length) = true := decide_eq_true hlt
        obtain ⟨p, hpp⟩ : ∃ p, p = plK 17 t := ⟨_, rfl⟩
        rw [← hpp] at HX HPL
        clear hmx hx ht hot hltx hlt hpp
        go_wp2_with fail
        clear c0 c1 c2
        go_region_held3 (fun w' => w'.cell? ⟨w.heap.size, 2, none⟩ = some (.slice (some ⟨ga, oa, none⟩) s.t.length cq) ∧ w'.cell? ⟨ga, oa + i * 4, none⟩ = some (.int .i64 t.kind) ∧ w'.cell? ⟨ga, oa + i * 4 + 1, none⟩ = some (.slice bn t.names.length dn) ∧ w'.cell? ⟨ga, oa + i * 4 + 2, none⟩ = some (.slice bl t.l.length dl) ∧ w'.cell? ⟨ga, oa + i * 4 + 3, none⟩ = some (.int .i64 t.r) ∧ w'.cell? ⟨wr.heap.size, 0, none⟩ = some (.int .i64 x.n) ∧ w'.cell? ⟨wr.heap.size, 1, none⟩ = some (.slice ax x.s.length cx) ∧ w'.cell? ⟨wr.heap.size, 2, none⟩ = some (.slice ay x.l.length cy))
          (first | exact E0.out | exact HW.out _ q0.any | exact HW.out _ (q0.any.trans k5))
          (first
            | (go_at_call 27
               refine (HX.out bp dp bq dq _ HUP.out (HKX.out.trans q0)).mono ?_
               rintro y w5 ⟨rfl, hb5, k5⟩)
            | (go_at_call 28
               refine (HPL.out _ (HKX.out.trans q0)).mono ?_
               rintro y w4 ⟨bp, dp, bq, dq, rfl, h4, k4⟩
               replace q0 : Kept (fun _ => False) (wr.alloc (.cells #[.int .i64 x.n, .slice ax x.s.length cx, .slice ay x.l.length cy] 29)) w4 := q0.trans k4
               have HUP := Lib.hid h4
               clear h4 k4 E0))
        all_goals go_wp2_with fail
        all_goals go_ret
        all_goals rw [HRN.out]
        all_goals exact ⟨rfl, (hst.out.1.any.trans ((HKX.out.trans q0).any.trans k5)).clear (fun j hj e => by have := HLW.out; have e : j = w1.heap.size := e; omega)⟩
      | some d =>
        have HX : Hid (∀ (bp : Option Addr) (dp : Nat) (bq : Option Addr) (dq : Nat) (w' : World), TyP (· ≠ w1.heap.size) w' (plK 17 t) bp dp bq dq → Kept (fun _ => False) wr w' → Calls Tryz.prog 27 #[.pointer (some ⟨w1.heap.size, 0, none⟩), tyV (plK 17 t) bp dp bq dq, vlV x ax cx ay cy] w' (OfR (some d) w1.heap.size w')) := Lib.hid fun bp dp bq dq w' h1 k' => by
          have := of_all 16 w1.heap.size (plK 17 t) bp dp bq dq x ax cx ay cy ci w' (ok_pl 16 t (okT_deep hot).1) hltx h1 (HVX.out.thru k' (fun _ _ _ e => e) (fun _ q _ => q)) (hst.out.2.1.kept k' id) hci
          rw [hmx] at this
          exact this
        unfold OfR at HX
        have HRN : Hid (R = ofL (argF s.t) (i + 1) (l.drop (i + 1)) d) := Lib.hid (by rw [hst.out.2.2, ofL_step hx, argF_at ht, hmx])
        have hd4 : d ≤ 4000 := Nat.le_trans (ofK_le 16 (plK 17 t) x ci d hmx) hci
        have HLT : Hid (i + 1 ≤ l.length) := Lib.hid hlt
        have hlenI : decide (i < l.length) = true := decide_eq_true hlt
        obtain ⟨p, hpp⟩ : ∃ p, p = plK 17 t := ⟨_, rfl⟩
        rw [← hpp] at HX HPL
        clear hmx hx ht hot hltx hlt hpp
        go_wp2_with fail
        clear c0 c1 c2
        go_region_held3 (fun w' => w'.cell? ⟨w.heap.size, 2, none⟩ = some (.slice (some ⟨ga, oa, none⟩) s.t.length cq) ∧ w'.cell? ⟨ga, oa + i * 4, none⟩ = some (.int .i64 t.kind) ∧ w'.cell? ⟨ga, oa + i * 4 + 1, none⟩ = some (.slice bn t.names.length dn) ∧ w'.cell? ⟨ga, oa + i * 4 + 2, none⟩ = some (.slice bl t.l.length dl) ∧ w'.cell? ⟨ga, oa + i * 4 + 3, none⟩ = some (.int .i64 t.r) ∧ w'.cell? ⟨wr.heap.size, 0, none⟩ = some (.int .i64 x.n) ∧ w'.cell? ⟨wr.heap.size, 1, none⟩ = some (.slice ax x.s.length cx) ∧ w'.cell? ⟨wr.heap.size, 2, none⟩ = some (.slice ay x.l.length cy))
          (first | exact E0.out | exact HW.out _ q0.any | exact HW.out _ (q0.any.trans k5))
          (first
            | (go_at_call 27
               refine (HX.out bp dp bq dq _ HUP.out (HKX.out.trans q0)).mono ?_
               rintro y w5 ⟨rfl, hb5, k5⟩)
            | (go_at_call 28
               refine (HPL.out _ (HKX.out.trans q0)).mono ?_
               rintro y w4 ⟨bp, dp, bq, dq, rfl, h4, k4⟩
               replace q0 : Kept (fun _ => False) (wr.alloc (.cells #[.int .i64 x.n, .slice ax x.s.length cx, .slice ay x.l.length cy] 29)) w4 := q0.trans k4
               have HUP := Lib.hid h4
               clear h4 k4 E0))
        all_goals go_wp2_with fail
        all_goals have hlt := HLT.out
        all_goals have KW := (HKX.out.trans q0).any.trans k5
        all_goals exact ⟨⟨i + 1, d, by go_num, HLT.out, hd4, Lib.hid ⟨(hst.out.1.any.trans KW).clear (fun j hj e => by have := HLW.out; have e : j = w1.heap.size := e; omega), hb5, HRN.out⟩, Lib.hid (hbx.out.kept KW (by have := HLW.out; omega))⟩, by simp [intOf]; omega⟩
    · have hie : i = l.length := by omega
      have HRN : Hid (Z = 0) := Lib.hid (HZ.out.2 (by rw [hst.out.2.2, ofL_end (by omega)]; exact fun q => by cases q))
      have hlenI : decide (i < l.length) = false := decide_eq_false hlt
      clear hlt hie
      go_wp2_with fail
      go_ret
      rw [HRN.out]
      exact ⟨rfl, hst.out.1⟩

/-- ARGS, the project's. -/
theorem rdVArgs (s : Sg) (ap : Option Addr) (cp : Nat) (aq : Option Addr) (cq : Nat) (an : Option Addr) (cn : Nat) (al : Option Addr) (cl : Nat) (l : List Vl) (av : Option Addr) (cv : Nat) (w : World) (h : SgAt w s ap cp aq cq an cn al cl) (hf : FineS s) (hv : VRowAt w l av cv) (hlv : ∀ x ∈ l, LtV x) :
    Calls Tryz.prog 13 #[sgV s ap cp aq cq an cn al cl, .slice av l.length cv] w (ChkR (chkA s l) w) := by
  unfold chkA
  by_cases ho : okS s = true
  · rw [if_neg (by rw [ho]; decide)]
    by_cases hl : l.length = s.t.length
    · rw [if_neg (fun q => q hl)]
      refine vargs_go s ap cp aq cq an cn al cl l av cv w h hf hv hlv ho hl _ _ rfl ?_
      rw [args_of ho hl.symm]
      by_cases h0 : sumL (partsK 16) s.t l 1 = 0
      · rw [if_pos h0, if_pos h0]
        exact ⟨fun _ => rfl, fun q => absurd rfl q⟩
      · rw [if_neg h0, if_neg h0]
        exact ⟨fun q => (by cases q), fun _ => rfl⟩
    · rw [if_pos hl]
      exact vargs_len s ap cp aq cq an cn al cl l av cv w h hf ho hl
  · rw [if_pos (Bool.eq_false_iff.2 ho)]
    exact vargs_no s ap cp aq cq an cn al cl l av cv w h hf (Bool.eq_false_iff.2 ho)
end Go.Proofs.YtkbehflcofcgjaaGreatDoor
