/- ctype: a function's core type: the project's. -/
import Derived.Test.YtcfakaglmlfkpaaDoorCtRb
import Derived.Deep.RegionHeld3
set_option linter.unusedVariables false
set_option linter.unusedSimpArgs false
namespace Go.Proofs.YtcfakaglmlfkpaaDoor
open Go.RowKit
open Lex Ct

namespace Ct
def argL (s : Sg) : List Int := behL (coreK 16) s.t
def argP (s : Sg) : List Int := if 16 < (argL s).length then [127] else argL s
def ftP (s : Sg) (lower : Bool) : List Int := if (coreK 16 s.r).length ≤ 1 then argP s else if lower then argP s ++ [127] else argP s
def ftR (s : Sg) (lower : Bool) : List Int := if (coreK 16 s.r).length ≤ 1 then coreK 16 s.r else if lower then [] else [127]
theorem okS_parts {s : Sg} (h : okS s = true) : s.t.length ≤ 64 ∧ (∀ t ∈ s.t, okT t = true) ∧ (isNone s.r = true ∨ okT s.r = true) := by
  unfold okS at h
  simp only [Bool.and_eq_true, decide_eq_true_eq, beq_iff_eq, Bool.or_eq_true, List.all_eq_true] at h
  exact ⟨by omega, h.2.2.2.1, h.2.2.2.2⟩
theorem csum_le {k B : Nat} : ∀ (l : List Ty), (∀ x ∈ l, cntK k x ≤ B) → csum k l ≤ B * l.length
  | [], _ => Nat.zero_le _
  | x :: r, h => by
    have h1 := h x List.mem_cons_self
    have h2 := csum_le r fun y hy => h y (List.mem_cons_of_mem _ hy)
    rw [csum_cons, List.length_cons, Nat.mul_succ]
    split <;> omega
theorem okS_fit {s : Sg} (h : okS s = true) : (∀ t ∈ s.t, Fit 16 t ∧ e16K 16 t) ∧ csum 16 s.t ≤ 40000 ∧ Fit 16 s.r ∧ e16K 16 s.r := by
  obtain ⟨h1, h2, h3⟩ := okS_parts h
  refine ⟨fun t ht => ⟨okT_fit (h2 t ht), deepK_e16 (okT_deep (h2 t ht)).1⟩, ?_, ?_⟩
  · have := csum_le (k := 16) (B := 500) s.t fun x hx => (okT_deep (h2 x hx)).2
    omega
  · rcases h3 with h3 | h3
    · exact ⟨⟨fit_zero (isNone_kind h3), fun e => absurd (isNone_kind h3) e⟩, e16_zero (isNone_l h3)⟩
    · exact ⟨okT_fit h3, deepK_e16 (okT_deep h3).1⟩
end Ct
/-- A function's core type, given, and an error. -/
def CoreFR (e : Int) (p r : List Int) (w : World) (y : Ending) (w' : World) : Prop := ∃ ap cp ar cr, y = .returned (.tuple #[.agg #[.slice ap p.length cp, .slice ar r.length cr], .int .i64 e]) ∧ Ints w.heap.size (.slice ap p.length cp) p w' ∧ Ints w.heap.size (.slice ar r.length cr) r w' ∧ Kept (fun _ => False) w w'
theorem rdArgs0 (s : Sg) (h : okS s = true) (aq : Option Addr) (cq : Nat) (w : World) (hr : RowAt w s.t aq cq) :
    Calls Tryd.prog 50 #[.slice aq s.t.length cq] w (CoreR (argL s) w) :=
  rdBehind 16 (cor_all 16) s.t aq cq w hr (fun x hx => ((okS_fit h).1 x hx).1) (okS_fit h).2.1
theorem argL_small {s : Sg} (h : okS s = true) : (argL s).length ≤ 80000 := by
  have h1 := behL_len (coreK_len 16) s.t
  have h2 := (okS_fit h).2.1
  unfold argL
  omega
set_option maxRecDepth 100000 in
set_option maxHeartbeats 4000000 in
/-- ARGS. -/
theorem rdArgs (s : Sg) (ap : Option Addr) (cp : Nat) (aq : Option Addr) (cq : Nat) (an : Option Addr) (cn : Nat) (al : Option Addr) (cl : Nat) (w : World) (h : SgAt w s ap cp aq cq an cn al cl) (hf : FineS s) :
    Calls Tryd.prog 28 #[sgV s ap cp aq cq an cn al cl] w (CoreR (if okS s = true then argL s else []) w) := by
  have k0 : Kept (fun _ => False) w (w.alloc (.cells (sgC s ap cp aq cq an cn al cl) 27)) := (Kept.refl _ _).new _
  have T0 := BlkAt.new w (sgC s ap cp aq cq an cn al cl) 27
  have HK := Lib.hid k0
  have HT := Lib.hid T0
  clear k0 T0
  have HC0 := Lib.hid (fun w' k' => rdCheckSig s ap cp aq cq an cn al cl w' (h.kept k') hf)
  cases ho : okS s
  · rw [ho, if_neg (by decide)] at HC0
    rw [if_neg (by decide)]
    clear h hf ho
    go_enter Tryd.func28, Tryd.ntmps28
    go_wp2_with (first
      | (go_at_call 10; refine (HC0.out _ HK.out).mono ?_; rintro y w1 ⟨rfl, k1⟩))
    go_ret
    exact CoreR.no _ _ (HK.out.trans k1)
  · rw [ho, if_pos rfl] at HC0
    have HL : Hid (∀ w', Kept (fun _ => False) w w' → Calls Tryd.prog 50 #[.slice aq s.t.length cq] w' (CoreR (argL s) w')) := Lib.hid (fun w' k' => rdArgs0 s ho aq cq w' (h.kept k').t)
    rw [if_pos rfl]
    clear h hf ho
    revert HL
    generalize argL s = xs
    intro HL
    go_enter Tryd.func28, Tryd.ntmps28
    go_wp2_with (first
      | (go_at_call 50; refine (HL.out _ (HK.out.trans HK1.out)).mono ?_; rintro y w2 ⟨av, cp2, rfl, h1, h2, k2⟩; have HQ := Lib.hid (And.intro h1 (And.intro h2 k2)); clear h1 h2 k2)
      | (go_at_call 10; refine (HC0.out _ HK.out).mono ?_; rintro y w1 ⟨rfl, k1⟩; have T1 := HT.out.kept (F := fun _ => False) k1 id; obtain ⟨t1, t2, t3, t4, t5, t6⟩ := boxS_cells T1; have HK1 := Lib.hid k1; clear k1))
    go_ret
    exact CoreR.past ⟨av, cp2, rfl, HQ.out.1, HQ.out.2.1, HQ.out.2.2⟩ (HK.out.trans HK1.out)
end Go.Proofs.YtcfakaglmlfkpaaDoor
