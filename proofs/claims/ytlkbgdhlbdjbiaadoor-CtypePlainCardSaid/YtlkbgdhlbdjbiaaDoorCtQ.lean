/- ctype: each type's size is told to a closure. -/
import Derived.Test.YtlkbgdhlbdjbiaaDoorCtP
set_option linter.unusedVariables false
set_option linter.unusedSimpArgs false
namespace Go.Proofs.YtlkbgdhlbdjbiaaDoor
open Go.RowKit
open Lex Ct

namespace Ct
/-- Types that may be looked into: so deep, so wide. -/
def fitK : Nat → Ty → Prop
  | 0, t => t.kind = 0
  | k + 1, t => t.kind = 0 ∨ (t.names.length ≤ 64 ∧ t.l.length ≤ 64 ∧ ∀ x ∈ t.l, fitK k x)
theorem okW_len {k : Int} {n m : Nat} (h : okW k n m = true) : n ≤ 64 ∧ m ≤ 64 := by
  unfold okW at h
  repeat' split at h
  all_goals (try simp at h)
  all_goals omega
theorem fit_zero {k : Nat} {t : Ty} (h : t.kind = 0) : fitK k t := by
  cases k with
  | zero => exact h
  | succ k => exact .inl h
theorem deepK_fit : ∀ {k : Nat} {t : Ty}, deepK k t = true → fitK k t
  | 0, t, h => by cases h
  | k + 1, t, h => by
    have h0 := h
    unfold deepK at h
    simp only [Bool.and_eq_true, List.all_eq_true, Bool.or_eq_true] at h
    have hs := h.1.1
    unfold shapedB at hs
    simp only [Bool.and_eq_true] at hs
    have hl := okW_len hs.1
    refine .inr ⟨hl.1, hl.2, fun x hx => ?_⟩
    rcases h.2 x hx with h1 | h1
    · exact fit_zero (isNone_kind h1.2)
    · exact deepK_fit h1
/-- What is asked of a type ahead of its size. -/
structure Fit (k : Nat) (t : Ty) : Prop where
  fit : fitK k t
  cnt : t.kind ≠ 0 → cntK k t ≤ 500
theorem le_sum : ∀ {l : List Nat} {x : Nat}, x ∈ l → x ≤ l.sum
  | [], x, h => by cases h
  | y :: r, x, h => by
    rw [List.sum_cons]
    rcases List.mem_cons.1 h with e | h
    · omega
    · have := le_sum h; omega
theorem Fit.child {k : Nat} {t x : Ty} (h : Fit (k + 1) t) (h0 : t.kind ≠ 0) (hx : x ∈ plainL t) : Fit k x := by
  have hz : x.kind = 0 → Fit k x := fun e => ⟨fit_zero e, fun q => absurd e q⟩
  by_cases hk : x.kind = 0
  · exact hz hk
  · have hl : x ∈ t.l := by
      unfold plainL at hx
      split at hx
      · rw [(List.mem_replicate.1 hx).2] at hk
        exact absurd rfl hk
      · split at hx
        · rcases List.mem_cons.1 hx with e | e
          · rw [e] at hk; exact absurd rfl hk
          · exact e
        · exact hx
    rcases h.fit with hf | ⟨_, _, hf⟩
    · exact absurd hf h0
    · refine ⟨hf x hl, fun _ => ?_⟩
      have h5 := h.cnt h0
      rw [cntK_succ] at h5
      have h6 : cntK k x ≤ csum k t.l := by
        unfold csum
        have hm : cntK k x ∈ t.l.map fun x => if x.kind = 0 then 0 else cntK k x := List.mem_map.2 ⟨x, hl, by rw [if_neg hk]⟩
        exact le_sum hm
      omega
theorem plainL_l (t : Ty) (h : t.kind = 13 ∨ t.kind = 14) : plainL t = t.l := by
  unfold plainL
  rw [if_neg (by omega), if_neg (by omega)]
theorem plainL_len {k : Nat} {t : Ty} (h : Fit (k + 1) t) (h0 : t.kind ≠ 0) : (plainL t).length ≤ 64 ∧ t.names.length ≤ 64 ∧ t.l.length ≤ 64 := by
  rcases h.fit with hf | ⟨h1, h2, _⟩
  · exact absurd hf h0
  · refine ⟨?_, h1, h2⟩
    unfold plainL
    split
    · rw [List.length_replicate]; exact h1
    · split
      · rename_i h3
        rw [List.length_cons, h3.2]
        omega
      · exact h2
end Ct
def LieAt (k : Nat) : Prop := ∀ (t : Ty) (an : Option Addr) (cn : Nat) (al : Option Addr) (cl : Nat) (w : World), TyAt w t an cn al cl → Fit k t →
  Calls Tryd.prog 32 #[tyV t an cn al cl] w fun y w' => y = .returned (cV (lieK k t)) ∧ Kept (fun _ => False) w w'
theorem lie_small {k : Nat} {x : Ty} (h : Fit k x) : (lieK k x).1 < 8192 ∧ (lieK k x).1 ≤ 9000 ∧ (lieK k x).2 < 8192 := by
  have hg := lieK_good k x
  have ha := hg.al.le
  by_cases h0 : x.kind = 0
  · rw [hg.none h0]; decide
  · have := hg.some h0
    have := h.cnt h0
    omega
set_option maxRecDepth 100000 in
set_option maxHeartbeats 8000000 in
theorem rdEach (k : Nat) (HLie : LieAt k) (l : List Ty) (a : Option Addr) (cap fid B : Nat) (lb : Array Value) (Inv : Nat → World → Prop) (w : World) (eg : ∀ args w, (callFunc fid args).run Tryd.prog w = .ok (.enter fid args) w)
    (hl : LiesU (· < B) w (tysU l) (.slice a l.length cap)) (hfit : ∀ x ∈ l, Fit k x)
    (hcall : ∀ (i : Nat) (x : Ty), l[i]? = some x → ∀ w1, Kept (B ≤ ·) w w1 → Inv i w1 → Calls Tryd.prog fid (#[.int .i64 ((lieK k x).1 : Int), .int .i64 ((lieK k x).2 : Int)] ++ lb) w1 fun y w2 => y = .returned (.tuple #[]) ∧ Kept (B ≤ ·) w1 w2 ∧ Inv (i + 1) w2)
    (hst : ∀ i w1 w2, Inv i w1 → Kept (fun _ => False) w1 w2 → Inv i w2) (h0 : Inv 0 w) :
    Calls Tryd.prog 45 #[.slice a l.length cap, .func (.func fid) #[] lb] w fun y w' => y = .returned (.tuple #[]) ∧ Kept (B ≤ ·) w w' ∧ Inv l.length w' := by
  have hbd := row_bound hl
  have hlen : (l.length : Int) ≤ 9223372036854775807 := by omega
  have HL := Lib.hid hl
  have HF := Lib.hid hfit
  have HC := Lib.hid hcall
  have HS := Lib.hid hst
  have H0 := Lib.hid h0
  have HI := Lib.hid HLie
  clear hl hfit hcall hst h0 hbd HLie
  go_enter Tryd.func45, Tryd.ntmps45
  go_wp2_with fail
  go_loopw [9] (fun v wr => ∃ i : Nat, v = .int .i64 i ∧ i ≤ l.length ∧ Hid (Kept (B ≤ ·) w wr ∧ Inv i wr)) (fun v _ => l.length - (intOf v).toNat)
  case atStart => exact ⟨0, rfl, Nat.zero_le _, Lib.hid ⟨Kept.refl _ _, H0.out⟩⟩
  case round =>
    clear H0
    obtain ⟨i, rfl, hi, hrs⟩ := hrel
    by_cases hlt : i < l.length
    · obtain ⟨x, hx⟩ : ∃ x, l[i]? = some x := ⟨_, List.getElem?_eq_getElem hlt⟩
      obtain ⟨g, o, ax, cx, ay, cy, rfl, _, hgl, htx, c0, c1, c2, c3⟩ := row_in (HL.out.past hrs.out.1 (fun i e => e)) hx
      have hxf := HF.out x (List.mem_of_getElem? hx)
      have hsm := lie_small hxf
      have HX : Hid (∀ w', Kept (fun _ => False) wr w' → Calls Tryd.prog 32 #[tyV x ax cx ay cy] w' fun y w'' => y = .returned (cV (lieK k x)) ∧ Kept (fun _ => False) w' w'') := Lib.hid fun w' k' => HI.out x ax cx ay cy w' (htx.any.kept k') hxf
      have HCX := Lib.hid (HC.out i x hx)
      have hre := conv_back hsm.1
      have him := conv_back hsm.2.2
      have kx : Kept (fun _ => False) wr (wr.alloc (.cells #[.int .i64 x.kind, .slice ax x.names.length cx, .slice ay x.l.length cy, .int .i64 x.r] 25)) := (Kept.refl _ _).new _
      have HKX := Lib.hid kx
      have hltI : ((i : Int) < (l.length : Int)) = True := by simp; omega
      clear hx htx hxf hsm kx hgl
      revert HX HCX hre him
      generalize lieK k x = p
      intro HX HCX hre him
      obtain ⟨p1, p2⟩ := p
      unfold cV at HX
      simp only at HX HCX hre him
      revert HX hre him
      generalize flt p1 = f1
      generalize flt p2 = f2
      intro HX hre him
      go_wp2_with (first
        | (go_at_fn fid; refine (HCX.out _ (hrs.out.1.trans ((HKX.out.trans k1).any)) (HS.out _ _ _ hrs.out.2 (HKX.out.trans k1))).mono ?_; rintro y w2 ⟨rfl, k2, hv2⟩)
        | (go_at_call 32; refine (HX.out _ HKX.out).mono ?_; rintro y w1 ⟨rfl, k1⟩))
      exact ⟨⟨i + 1, by go_num, by omega, Lib.hid ⟨(hrs.out.1.trans ((HKX.out.trans k1).any)).trans k2, hv2⟩⟩, by simp [intOf]; omega⟩
    · have hie : i = l.length := by omega
      subst hie
      clear hlt
      go_wp2_with fail
      exact bodyPost_void rfl rfl ⟨rfl, hrs.out.1, hrs.out.2⟩
end Go.Proofs.YtlkbgdhlbdjbiaaDoor
