/- ctype: the reference's count, and May. -/
import Derived.Test.YtlkbgdhlbdjbiaaDoorCtH
set_option linter.unusedVariables false
set_option linter.unusedSimpArgs false
namespace Go.Proofs.YtlkbgdhlbdjbiaaDoor
open Go.RowKit
open Lex Ct

theorem prtL_bound {f : Ty → Nat} {B : Nat} (h : ∀ x, f x ≤ B) : ∀ (l : List Ty) (n : Nat), n ≤ 500 + B → prtL f l n ≤ 500 + B
  | [], n, hn => hn
  | x :: r, n, hn => by
    unfold prtL
    split
    · split
      · exact prtL_bound h r n hn
      · exact prtL_bound h r _ (by have := h x; omega)
    · exact hn
theorem prtK_bound : ∀ (k : Nat) (t : Ty), prtK k t ≤ 501 * k + 1
  | 0, t => by unfold prtK; omega
  | k + 1, t => by
    unfold prtK
    have := prtL_bound (f := prtK k) (B := 501 * k + 1) (prtK_bound k) t.l 1 (by omega)
    omega
theorem prt_stop {f : Ty → Nat} {l : List Ty} {i n : Nat} (h : i < l.length) (hn : 500 < n) : prtL f (l.drop i) n = n := by
  rw [List.drop_eq_getElem_cons h, prtL, if_neg (by omega)]
theorem prt_end {f : Ty → Nat} {l : List Ty} {i n : Nat} (h : l.length ≤ i) : prtL f (l.drop i) n = n := by
  rw [List.drop_eq_nil_of_le h]
  rfl
theorem prt_zero {f : Ty → Nat} {l : List Ty} {i n : Nat} {x : Ty} (hx : l[i]? = some x) (hn : n ≤ 500) (hk : x.kind = 0) : prtL f (l.drop i) n = prtL f (l.drop (i + 1)) n := by
  obtain ⟨h, rfl⟩ := List.getElem?_eq_some_iff.1 hx
  rw [List.drop_eq_getElem_cons h, prtL, if_pos hn, if_pos hk]
theorem prt_one {f : Ty → Nat} {l : List Ty} {i n : Nat} {x : Ty} (hx : l[i]? = some x) (hn : n ≤ 500) (hk : x.kind ≠ 0) : prtL f (l.drop i) n = prtL f (l.drop (i + 1)) (n + f x) := by
  obtain ⟨h, rfl⟩ := List.getElem?_eq_some_iff.1 hx
  rw [List.drop_eq_getElem_cons h, prtL, if_pos hn, if_neg hk]
theorem deep_child {k : Nat} {t x : Ty} (h : deepK (k + 1) t = true) (hx : x ∈ t.l) (hk : x.kind ≠ 0) : deepK k x = true := by
  unfold deepK at h
  simp only [Bool.and_eq_true, List.all_eq_true, Bool.or_eq_true] at h
  rcases h.2 x hx with h1 | h1
  · exact absurd (isNone_kind h1.2) hk
  · exact h1
def PrtAt (k : Nat) : Prop := ∀ (t : Ty) (an : Option Addr) (cn : Nat) (al : Option Addr) (cl : Nat) (w : World), TyAt w t an cn al cl → deepK k t = true →
  Calls Tryd.prog 20 #[tyV t an cn al cl] w fun y w' => y = .returned (.int .i64 (prtK k t : Nat)) ∧ Kept (fun _ => False) w w'
set_option maxRecDepth 100000 in
set_option maxHeartbeats 8000000 in
theorem prt_succ {k : Nat} (hk : k + 1 ≤ 16) (IH : PrtAt k) : PrtAt (k + 1) := by
  intro t an cn al cl w ht hd
  have k0 : Kept (fun _ => False) w (w.alloc (.cells #[.int .i64 t.kind, .slice an t.names.length cn, .slice al t.l.length cl, .int .i64 t.r] 25)) := (Kept.refl _ _).new _
  have T0 := BlkAt.new w #[.int .i64 t.kind, .slice an t.names.length cn, .slice al t.l.length cl, .int .i64 t.r] 25
  have hbd := ht.row.bound
  have hlen : (t.l.length : Int) ≤ 9223372036854775807 := by omega
  have hbk := prtK_bound k
  have HBK := Lib.hid hbk
  obtain ⟨R, hR⟩ : ∃ R, R = prtK (k + 1) t := ⟨_, rfl⟩
  rw [← hR]
  have HR : Hid (R = prtL (prtK k) t.l 1) := Lib.hid (by rw [hR]; rfl)
  have HTL := Lib.hid ht
  have HK0 := Lib.hid k0
  have HT0 := Lib.hid T0
  have HD := Lib.hid hd
  have HI := Lib.hid IH
  clear ht hd k0 T0 hbd hR IH hbk
  go_enter Tryd.func20, Tryd.ntmps20
  go_wp2_with fail
  go_loopw [3, 4] (fun v u wr => ∃ i n : Nat, v = .int .i64 n ∧ u = .int .i64 i ∧ i ≤ t.l.length ∧ n ≤ 9000 ∧ Hid (Kept (fun _ => False) w wr ∧ BlkAt wr w.heap.size #[.int .i64 t.kind, .slice an t.names.length cn, .slice al t.l.length cl, .int .i64 t.r] 25 ∧ R = prtL (prtK k) (t.l.drop i) n)) (fun _ u _ => t.l.length - (intOf u).toNat)
  case atStart => exact ⟨0, 1, rfl, rfl, Nat.zero_le _, by omega, Lib.hid ⟨HK0.out, HT0.out, HR.out⟩⟩
  case round =>
    clear HK0 HT0
    obtain ⟨i, n, rfl, rfl, hi, hn9, hst⟩ := hrel
    obtain ⟨t0, t1, t2, t3⟩ := boxT_cells hst.out.2.1
    by_cases hlt : i < t.l.length
    · have hltI : ((i : Int) < (t.l.length : Int)) = True := by simp; omega
      by_cases hn : n ≤ 500
      · obtain ⟨x, hx⟩ : ∃ x, t.l[i]? = some x := ⟨_, List.getElem?_eq_getElem hlt⟩
        obtain ⟨g, o, ax, cx, ay, cy, rfl, hgl, htx, c0, c1, c2, c3⟩ := (HTL.out.kept hst.out.1).row.at hx
        have hxm : x ∈ t.l := List.mem_of_getElem? hx
        have hb5 : decide ((n : Int) ≤ 500) = true := by simp; omega
        by_cases hk0 : x.kind = 0
        · have HRN : Hid (R = prtL (prtK k) (t.l.drop (i + 1)) n) := Lib.hid (by rw [hst.out.2.2, prt_zero hx hn hk0])
          have hkb : (x.kind != 0) = false := by rw [hk0]; rfl
          clear hx hxm htx hgl hk0
          go_wp2_with fail
          exact ⟨⟨i + 1, n, by first | rfl | trivial, by go_num, by omega, hn9, Lib.hid ⟨hst.out.1, hst.out.2.1, HRN.out⟩⟩, by simp [intOf]; omega⟩
        · have HRN : Hid (R = prtL (prtK k) (t.l.drop (i + 1)) (n + prtK k x)) := Lib.hid (by rw [hst.out.2.2, prt_one hx hn hk0])
          have HX : Hid (∀ w', Kept (fun _ => False) wr w' → Calls Tryd.prog 20 #[tyV x ax cx ay cy] w' fun y w'' => y = .returned (.int .i64 (prtK k x : Nat)) ∧ Kept (fun _ => False) w' w'') := Lib.hid fun w' k' => HI.out x ax cx ay cy w' (htx.kept k') (deep_child HD.out hxm hk0)
          have hkb : (x.kind != 0) = true := by simp; exact hk0
          have hpb := HBK.out x
          have hp9 : prtK k x ≤ 8000 := by omega
          clear hx hxm htx hgl hk0 hpb
          revert HRN HX hp9
          generalize prtK k x = p
          intro HRN HX hp9
          go_wp2_with (first
            | (go_at_call 20; refine (HX.out _ (Kept.refl _ _)).mono ?_; rintro y w2 ⟨rfl, k2⟩))
          exact ⟨⟨i + 1, n + p, by go_num, by go_num, by omega, by omega, Lib.hid ⟨hst.out.1.trans k2, hst.out.2.1.kept k2 id, HRN.out⟩⟩, by simp [intOf]; omega⟩
      · have hb5 : decide ((n : Int) ≤ 500) = false := by simp; omega
        have HRN : Hid (R = n) := Lib.hid (by rw [hst.out.2.2, prt_stop hlt (by omega)])
        clear hn
        go_wp2_with fail
        go_ret
        rw [HRN.out]
        exact ⟨rfl, hst.out.1⟩
    · have hie : i = t.l.length := by omega
      have HRN : Hid (R = n) := Lib.hid (by rw [hst.out.2.2, prt_end (by omega)])
      subst hie
      clear hlt
      go_wp2_with fail
      all_goals go_ret
      all_goals rw [HRN.out]
      all_goals exact ⟨rfl, hst.out.1⟩
theorem prt_all : ∀ k, k ≤ 16 → PrtAt k
  | 0, _ => fun t an cn al cl w _ hd => by cases hd
  | k + 1, h => prt_succ h (prt_all k (by omega))
set_option maxRecDepth 100000 in
set_option maxHeartbeats 4000000 in
/-- MAY. -/
theorem rdMay (t : Ty) (an : Option Addr) (cn : Nat) (al : Option Addr) (cl : Nat) (w : World) (h : TyAt w t an cn al cl) (hf : FineT t) :
    Calls Tryd.prog 5 #[tyV t an cn al cl] w fun y w' => y = .returned (.bool (okT t)) ∧ Kept (fun _ => False) w w' := by
  rw [okT_eq]
  have k0 : Kept (fun _ => False) w (w.alloc (.cells #[.int .i64 t.kind, .slice an t.names.length cn, .slice al t.l.length cl, .int .i64 t.r] 25)) := (Kept.refl _ _).new _
  have T0 := BlkAt.new w #[.int .i64 t.kind, .slice an t.names.length cn, .slice al t.l.length cl, .int .i64 t.r] 25
  have HK0 := Lib.hid k0
  have HT0 := Lib.hid T0
  have HX : Hid (∀ w', Kept (fun _ => False) w w' → Calls Tryd.prog 19 #[tyV t an cn al cl, .int .i64 0] w' fun y w'' => y = .returned (.bool (deepK 16 t)) ∧ Kept (fun _ => False) w' w'') := Lib.hid fun w' k' => deep_all 16 (Nat.le_refl _) t an cn al cl w' (h.kept k') hf
  have HP : Hid (deepK 16 t = true → ∀ w', Kept (fun _ => False) w w' → Calls Tryd.prog 20 #[tyV t an cn al cl] w' fun y w'' => y = .returned (.int .i64 (prtK 16 t : Nat)) ∧ Kept (fun _ => False) w' w'') := Lib.hid fun hd w' k' => prt_all 16 (Nat.le_refl _) t an cn al cl w' (h.kept k') hd
  unfold okR
  clear h hf k0 T0
  revert HX HP
  generalize deepK 16 t = d
  intro HX HP
  cases d
  · rw [Bool.false_and]
    go_enter Tryd.func5, Tryd.ntmps5
    go_wp2_with (first
      | (go_at_call 19; refine (HX.out _ HK0.out).mono ?_; rintro y w1 ⟨rfl, k1⟩))
    go_ret
    exact ⟨rfl, HK0.out.trans k1⟩
  · rw [Bool.true_and]
    have HP2 := Lib.hid (HP.out rfl)
    clear HP
    revert HP2
    generalize prtK 16 t = p
    intro HP2
    go_enter Tryd.func5, Tryd.ntmps5
    go_wp2_with (first
      | (go_at_call 20; refine (HP2.out _ (HK0.out.trans k1)).mono ?_; rintro y w2 ⟨rfl, k2⟩)
      | (go_at_call 19; refine (HX.out _ HK0.out).mono ?_; rintro y w1 ⟨rfl, k1⟩; have T1 := HT0.out.kept (F := fun _ => False) k1 id; obtain ⟨t0, t1, t2, t3⟩ := boxT_cells T1; clear HX))
    go_ret
    exact ⟨by first | rfl | (simp; done) | (simp; omega), (HK0.out.trans k1).trans k2⟩
end Go.Proofs.YtlkbgdhlbdjbiaaDoor
