/- ctype: a type's core types; Flat, Args. -/
import Derived.Test.YtlkbgdhlbdjbiaaDoorCtX
set_option linter.unusedVariables false
set_option linter.unusedSimpArgs false
namespace Go.Proofs.YtlkbgdhlbdjbiaaDoor
open Go.RowKit
open Lex Ct

theorem CoreR.lit (w : World) (T : Obj) (xs : List Int) (hl : xs.length ≤ maxLen) (hne : xs ≠ []) (cs : Array Value) (hcs : cs.toList = xs.map (Value.int .i64)) :
    CoreR xs w (.returned (.slice (some ⟨w.heap.size + 1, 0, Option.none⟩) xs.length xs.length)) ((w.alloc T).alloc (.cells cs 3)) := by
  refine ⟨some ⟨w.heap.size + 1, 0, Option.none⟩, xs.length, rfl, ?_, fun e => absurd e hne, ((Kept.refl _ _).new _).new _⟩
  have h1 := World.ownsRow_lit (base := w.heap.size) (e := 3) (size := 1) (w.alloc T) cs xs.length (by simp) hl (by rw [← Array.length_toList, hcs, List.length_map, Nat.mul_one])
  rw [World.size_alloc, hcs] at h1
  exact h1
set_option maxRecDepth 100000 in
set_option maxHeartbeats 8000000 in
theorem core_const (kd : Int) (n : List Nm) (l : List Ty) (r : Int) (an : Option Addr) (cn : Nat) (al : Option Addr) (cl : Nat) (w : World) (xs : List Int) (hk : (kd = 0 ∧ xs = []) ∨ ((kd = 8 ∨ kd = 9) ∧ xs = [126]) ∨ ((kd = 11 ∨ kd = 12) ∧ xs = [127, 127])) :
    Calls Tryd.prog 29 #[.agg #[.int .i64 kd, .slice an n.length cn, .slice al l.length cl, .int .i64 r]] w (CoreR xs w) := by
  rcases hk with ⟨rfl, rfl⟩ | ⟨h, rfl⟩ | ⟨h, rfl⟩
  · go_enter Tryd.func29, Tryd.ntmps29
    go_wp2_with fail
    go_ret
    exact CoreR.no _ _ ((Kept.refl _ _).new _)
  · rcases h with rfl | rfl
    all_goals
      go_enter Tryd.func29, Tryd.ntmps29
      go_wp2_with fail
      go_ret
      exact CoreR.lit w _ [126] (by decide) (by decide) _ rfl
  · rcases h with rfl | rfl
    all_goals
      go_enter Tryd.func29, Tryd.ntmps29
      go_wp2_with fail
      go_ret
      exact CoreR.lit w _ [127, 127] (by decide) (by decide) _ rfl
set_option maxRecDepth 100000 in
set_option maxHeartbeats 8000000 in
theorem core_rest (kd : Int) (n : List Nm) (l : List Ty) (r : Int) (an : Option Addr) (cn : Nat) (al : Option Addr) (cl : Nat) (w : World)
    (hk : kd ≠ 0 ∧ kd ≠ 8 ∧ kd ≠ 9 ∧ kd ≠ 11 ∧ kd ≠ 12 ∧ kd ≠ 13 ∧ kd ≠ 14 ∧ kd ≠ 15 ∧ kd ≠ 16 ∧ kd ≠ 17 ∧ kd ≠ 18) :
    Calls Tryd.prog 29 #[.agg #[.int .i64 kd, .slice an n.length cn, .slice al l.length cl, .int .i64 r]] w (CoreR [127] w) := by
  obtain ⟨h0, h8, h9, h11, h12, h13, h14, h15, h16, h17, h18⟩ := hk
  have b0 : (kd == 0) = false := by simpa using h0
  have b8 : (kd == 8) = false := by simpa using h8
  have b9 : (kd == 9) = false := by simpa using h9
  have b11 : (kd == 11) = false := by simpa using h11
  have b12 : (kd == 12) = false := by simpa using h12
  have b13 : (kd == 13) = false := by simpa using h13
  have b14 : (kd == 14) = false := by simpa using h14
  have b15 : (kd == 15) = false := by simpa using h15
  have b16 : (kd == 16) = false := by simpa using h16
  have b17 : (kd == 17) = false := by simpa using h17
  have b18 : (kd == 18) = false := by simpa using h18
  clear h0 h8 h9 h11 h12 h13 h14 h15 h16 h17 h18
  go_enter Tryd.func29, Tryd.ntmps29
  go_wp2_with fail
  go_ret
  exact CoreR.lit w _ [127] (by decide) (by decide) _ rfl
theorem CoreR.past {xs : List Int} {w w1 w' : World} {y : Ending} (h : CoreR xs w1 y w') (k : Kept (fun _ => False) w w1) : CoreR xs w y w' := by
  obtain ⟨av, cap, e, h1, h2, h3⟩ := h
  exact ⟨av, cap, e, Ints.mono h1 k.size, h2, k.trans h3⟩
set_option maxRecDepth 100000 in
set_option maxHeartbeats 8000000 in
theorem core_behind (kd : Int) (n : List Nm) (l : List Ty) (r : Int) (an : Option Addr) (cn : Nat) (al : Option Addr) (cl : Nat) (w : World) (hk : kd = 13 ∨ kd = 14) (xs : List Int)
    (HF : Hid (∀ w', Kept (fun _ => False) w w' → Calls Tryd.prog 42 #[.slice al l.length cl] w' (CoreR xs w'))) :
    Calls Tryd.prog 29 #[.agg #[.int .i64 kd, .slice an n.length cn, .slice al l.length cl, .int .i64 r]] w (CoreR xs w) := by
  have k0 : Kept (fun _ => False) w (w.alloc (.cells #[.int .i64 kd, .slice an n.length cn, .slice al l.length cl, .int .i64 r] 25)) := (Kept.refl _ _).new _
  have HK := Lib.hid k0
  clear k0
  rcases hk with rfl | rfl
  all_goals
    go_enter Tryd.func29, Tryd.ntmps29
    go_wp2_with (first
      | (go_at_call 42; refine (HF.out _ HK.out).mono ?_; rintro y w1 ⟨av, cp, rfl, h1, h2, k1⟩; have HQ := Lib.hid (And.intro h1 (And.intro h2 k1)); clear h1 h2 k1))
    go_ret
    exact CoreR.past ⟨av, cp, rfl, HQ.out.1, HQ.out.2.1, HQ.out.2.2⟩ HK.out
set_option maxRecDepth 100000 in
set_option maxHeartbeats 8000000 in
theorem core_over (kd : Int) (n : List Nm) (l : List Ty) (r : Int) (an : Option Addr) (cn : Nat) (al : Option Addr) (cl : Nat) (w : World) (hk : kd = 15 ∨ kd = 16 ∨ kd = 17 ∨ kd = 18) (x : Ty) (xs : List Int)
    (HP : Hid (∀ w', Kept (fun _ => False) w w' → Calls Tryd.prog 23 #[.agg #[.int .i64 kd, .slice an n.length cn, .slice al l.length cl, .int .i64 r]] w' (PlainR x w')))
    (HC : Hid (∀ w' aq cq, RowAt w' x.l aq cq → Calls Tryd.prog 43 #[.slice aq x.l.length cq] w' (CoreR xs w'))) :
    Calls Tryd.prog 29 #[.agg #[.int .i64 kd, .slice an n.length cn, .slice al l.length cl, .int .i64 r]] w (CoreR xs w) := by
  have k0 : Kept (fun _ => False) w (w.alloc (.cells #[.int .i64 kd, .slice an n.length cn, .slice al l.length cl, .int .i64 r] 25)) := (Kept.refl _ _).new _
  have HK := Lib.hid k0
  clear k0
  rcases hk with rfl | rfl | rfl | rfl
  all_goals
    go_enter Tryd.func29, Tryd.ntmps29
    go_wp2_with (first
      | (go_at_call 43; refine (HC.out _ _ _ HT.out.row).mono ?_; rintro y w2 ⟨av, cp2, rfl, h1, h2, k2⟩; have HQ := Lib.hid (And.intro h1 (And.intro h2 k2)); clear h1 h2 k2)
      | (go_at_call 23; refine (HP.out _ HK.out).mono ?_; rintro y w1 ⟨ap, cp, aq, cq, rfl, ht, k1⟩; have HT := Lib.hid ht; have HK1 := Lib.hid k1; have hfd := fld_ty x.kind (.slice ap x.names.length cp) aq x.l.length cq x.r; clear ht k1))
    go_ret
    exact CoreR.past ⟨av, cp2, rfl, HQ.out.1, HQ.out.2.1, HQ.out.2.2⟩ (HK.out.trans HK1.out)
theorem cor_zero : CorAt 0 := by
  intro t an cn al cl w h hf
  exact core_const t.kind t.names t.l t.r an cn al cl w [] (.inl ⟨hf.fit, rfl⟩)
theorem cor_succ {k : Nat} (IH : CorAt k) : CorAt (k + 1) := by
  intro t an cn al cl w h hf
  by_cases h0 : t.kind = 0
  · rw [(coreK_len (k + 1) t).1 h0]
    exact core_const t.kind t.names t.l t.r an cn al cl w [] (.inl ⟨h0, rfl⟩)
  · have h5 := hf.cnt h0
    rw [cntK_succ] at h5
    by_cases h8 : t.kind = 8 ∨ t.kind = 9
    · have e : coreK (k + 1) t = [126] := by unfold coreK; rw [if_neg h0, if_pos h8]
      rw [e]
      exact core_const t.kind t.names t.l t.r an cn al cl w _ (.inr (.inl ⟨h8, rfl⟩))
    · by_cases h11 : t.kind = 11 ∨ t.kind = 12
      · have e : coreK (k + 1) t = [127, 127] := by unfold coreK; rw [if_neg h0, if_neg h8, if_pos h11]
        rw [e]
        exact core_const t.kind t.names t.l t.r an cn al cl w _ (.inr (.inr ⟨h11, rfl⟩))
      · by_cases h13 : t.kind = 13 ∨ t.kind = 14
        · have e : coreK (k + 1) t = behL (coreK k) t.l := by unfold coreK; rw [if_neg h0, if_neg h8, if_neg h11, if_pos h13]
          rw [e]
          exact core_behind t.kind t.names t.l t.r an cn al cl w h13 _ (Lib.hid fun w' k' => rdBehind k IH t.l al cl w' (h.kept k').row (fun x hx => hf.child h0 (by rw [plainL_l t h13]; exact hx)) (by omega))
        · by_cases h15 : t.kind = 15 ∨ t.kind = 16 ∨ t.kind = 17 ∨ t.kind = 18
          · have e : coreK (k + 1) t = ovF (coreK k) (plainL t) := by unfold coreK; rw [if_neg h0, if_neg h8, if_neg h11, if_neg h13, if_pos h15]
            rw [e]
            refine core_over t.kind t.names t.l t.r an cn al cl w h15 (plainT t) _ (Lib.hid fun w' k' => rdPlain t an cn al cl w' (h.kept k') (by omega) (plainL_len hf h0).2.1) (Lib.hid fun w' aq cq hr => ?_)
            rw [plainT_l] at hr ⊢
            have hp := csum_plain k t
            exact rdOver k IH (plainL t) aq cq w' hr (fun x hx => hf.child h0 hx) (by omega)
          · have e : coreK (k + 1) t = [127] := by unfold coreK; rw [if_neg h0, if_neg h8, if_neg h11, if_neg h13, if_neg h15]
            rw [e]
            exact core_rest t.kind t.names t.l t.r an cn al cl w (by omega)
theorem cor_all : ∀ k, CorAt k
  | 0 => cor_zero
  | k + 1 => cor_succ (cor_all k)
set_option maxRecDepth 100000 in
set_option maxHeartbeats 4000000 in
/-- FLAT. -/
theorem rdFlat (t : Ty) (an : Option Addr) (cn : Nat) (al : Option Addr) (cl : Nat) (w : World) (h : TyAt w t an cn al cl) (hf : FineT t) :
    Calls Tryd.prog 12 #[tyV t an cn al cl] w (CoreR (if okT t = true then coreK 16 t else []) w) := by
  have k0 : Kept (fun _ => False) w (w.alloc (.cells #[.int .i64 t.kind, .slice an t.names.length cn, .slice al t.l.length cl, .int .i64 t.r] 25)) := (Kept.refl _ _).new _
  have T0 := BlkAt.new w #[.int .i64 t.kind, .slice an t.names.length cn, .slice al t.l.length cl, .int .i64 t.r] 25
  have HK := Lib.hid k0
  have HT := Lib.hid T0
  clear k0 T0
  cases ho : okT t
  · have HC := Lib.hid (fun w' k' => rdCheck_no t an cn al cl w' (h.kept k') hf ho)
    rw [if_neg (by decide)]
    clear h hf ho
    go_enter Tryd.func12, Tryd.ntmps12
    go_wp2_with (first
      | (go_at_call 28; refine (HC.out _ HK.out).mono ?_; rintro y w1 ⟨rfl, k1⟩))
    go_ret
    exact CoreR.no _ _ (HK.out.trans k1)
  · have HC := Lib.hid (fun w' k' => rdCheck_ok t an cn al cl w' (h.kept k') hf ho)
    have hft := okT_fit ho
    have HL : Hid (∀ w', Kept (fun _ => False) w w' → Calls Tryd.prog 29 #[tyV t an cn al cl] w' (CoreR (coreK 16 t) w')) := Lib.hid (fun w' k' => cor_all 16 t an cn al cl w' (h.kept k') hft)
    rw [if_pos rfl]
    clear h hf ho hft
    revert HL
    generalize coreK 16 t = xs
    intro HL
    go_enter Tryd.func12, Tryd.ntmps12
    go_wp2_with (first
      | (go_at_call 29; refine (HL.out _ (HK.out.trans HK1.out)).mono ?_; rintro y w2 ⟨av, cp, rfl, h1, h2, k2⟩; have HQ := Lib.hid (And.intro h1 (And.intro h2 k2)); clear h1 h2 k2)
      | (go_at_call 28; refine (HC.out _ HK.out).mono ?_; rintro y w1 ⟨rfl, k1⟩; have T1 := HT.out.kept (F := fun _ => False) k1 id; obtain ⟨t0, t1, t2, t3⟩ := boxT_cells T1; have HK1 := Lib.hid k1; clear k1))
    go_ret
    exact CoreR.past ⟨av, cp, rfl, HQ.out.1, HQ.out.2.1, HQ.out.2.2⟩ (HK.out.trans HK1.out)
end Go.Proofs.YtlkbgdhlbdjbiaaDoor
