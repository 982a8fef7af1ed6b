/- ctype: Places; the examples. -/
import Derived.Test.YtlkbgdhlbdjbiaaDoorCtY
import Derived.Test.YtlkbgdhlbdjbiaaDoorSame
set_option linter.unusedVariables false
set_option linter.unusedSimpArgs false
namespace Go.Proofs.YtlkbgdhlbdjbiaaDoor
open Go.RowKit
open Lex Ct

set_option maxRecDepth 100000 in
set_option maxHeartbeats 4000000 in
theorem rdOf (kd : Int) (a : Option Addr) (n c : Nat) (w : World) :
    Calls Tryd.prog 21 #[.int .i64 kd, .slice a n c] w fun y w' => y = .returned (.agg #[.int .i64 kd, .slice none 0 0, .slice a n c, .int .i64 0]) ∧ w' = w.alloc (.cells #[.int .i64 kd, .slice none 0 0, .slice a n c, .int .i64 0] 25) := by
  go_enter Tryd.func21, Tryd.ntmps21
  go_wp2_with fail
  exact bodyPost_ret (v := .agg #[.int .i64 kd, .slice none 0 0, .slice a n c, .int .i64 0]) (by simp [results, Tryd.results21, go_sem]) rfl ⟨rfl, rfl⟩
/-- A row of numbers, given. -/
def IntR (xs : List Int) (w : World) (y : Ending) (w' : World) : Prop := ∃ av cap, y = .returned (.slice av xs.length cap) ∧ Ints w.heap.size (.slice av xs.length cap) xs w' ∧ Kept (fun _ => False) w w'
theorem CoreR.int {xs : List Int} {w w' : World} {y : Ending} (h : CoreR xs w y w') : IntR xs w y w' := by
  obtain ⟨av, cap, e, h1, _, h3⟩ := h
  exact ⟨av, cap, e, h1, h3⟩
def ints (l : List Nat) : List Int := l.map fun n : Nat => ((n : Nat) : Int)
theorem FieldsR.open {pl : List Nat} {V : Nat × Nat} {w w' : World} {y : Ending} (h : FieldsR pl V w y w') : ∃ av cap, y = .returned (.tuple #[.slice av (ints pl).length cap, cV V]) ∧ Ints w.heap.size (.slice av (ints pl).length cap) (ints pl) w' ∧ Kept (fun _ => False) w w' := by
  obtain ⟨v, e, h1, h2⟩ := h
  have hl : (ints pl).length = pl.length := by unfold ints; rw [List.length_map]
  have hm : (ints pl).map (Value.int .i64) = pl.map fun n => Value.int .i64 (n : Nat) := by unfold ints; rw [List.map_map]; rfl
  unfold Ints
  rw [hl, hm]
  rcases h1.2 with ⟨e2, e3⟩ | ⟨g, cap, cur, e2, _⟩
  · subst e2
    rw [e3] at h1 ⊢
    exact ⟨none, 0, e, h1, h2⟩
  · subst e2
    exact ⟨_, cap, e, h1, h2⟩
theorem fld_kd (kd : Int) (vn : Value) (a : Option Addr) (m c : Nat) (r : Int) : ∀ w : World, (Instr.field 25 (.agg #[.int .i64 kd, vn, .slice a m c, .int .i64 r]) 0).run Tryd.prog w = .ok (.int .i64 kd) w := fun _ => by kernel_rfl
theorem plainT_kind (t : Ty) : (plainT t).kind = if t.kind = 14 then 13 else if t.kind = 16 then 15 else if t.kind = 17 ∧ t.l.length = 1 then 15 else if t.kind = 18 ∧ t.l.length = 2 then 15 else t.kind := by
  unfold plainT
  repeat' split
  all_goals rfl
def placesL (t : Ty) : List Nat := if okT t = true ∧ (t.kind = 13 ∨ t.kind = 14) then (fldS (lieK 15) t.l).1 else []
set_option maxRecDepth 100000 in
set_option maxHeartbeats 4000000 in
/-- PLACES. -/
theorem rdPlaces (t : Ty) (an : Option Addr) (cn : Nat) (al : Option Addr) (cl : Nat) (w : World) (h : TyAt w t an cn al cl) (hf : FineT t) (hp : okT t = true → ∀ w', Kept (fun _ => False) w w' → Calls Tryd.prog 23 #[tyV t an cn al cl] w' (PlainR (plainT t) w')) :
    Calls Tryd.prog 17 #[tyV t an cn al cl] w (IntR (ints (placesL t)) w) := by
  have k0 : Kept (fun _ => False) w (w.alloc (.cells #[.int .i64 t.kind, .slice an t.names.length cn, .slice al t.l.length cl, .int .i64 t.r] 25)) := (Kept.refl _ _).new _
  have T0 := BlkAt.new w #[.int .i64 t.kind, .slice an t.names.length cn, .slice al t.l.length cl, .int .i64 t.r] 25
  have HK := Lib.hid k0
  have HT := Lib.hid T0
  clear k0 T0
  have hno : ∀ w', Kept (fun _ => False) w w' → IntR (ints []) w (.returned (.slice none 0 0)) w' := fun w' k' => (CoreR.no w w' k').int
  have HNO := Lib.hid hno
  clear hno
  unfold placesL
  cases ho : okT t
  · have HC := Lib.hid (fun w' k' => rdCheck_no t an cn al cl w' (h.kept k') hf ho)
    rw [if_neg (fun e => by cases e.1)]
    clear h hf ho hp
    go_enter Tryd.func17, Tryd.ntmps17
    go_wp2_with (first
      | (go_at_call 28; refine (HC.out _ HK.out).mono ?_; rintro y w1 ⟨rfl, k1⟩))
    go_ret
    exact HNO.out _ (HK.out.trans k1)
  · have HC := Lib.hid (fun w' k' => rdCheck_ok t an cn al cl w' (h.kept k') hf ho)
    have HP := Lib.hid (hp ho)
    clear hp
    by_cases hk : t.kind = 13 ∨ t.kind = 14
    · rw [if_pos ⟨rfl, hk⟩]
      have hpk : (plainT t).kind = 13 := by rw [plainT_kind]; rcases hk with e | e <;> rw [e] <;> rfl
      have hb : ((plainT t).kind != 13) = false := by rw [hpk]; rfl
      have HF := Lib.hid (fun w' (k' : Kept (fun _ => False) w w') => fields_of 15 (lie_all 15) t al cl (okT_fit ho) hk w' (h.kept k').row)
      clear h hf ho hk hpk
      revert HP hb
      generalize plainT t = x
      intro HP hb
      revert HF
      generalize (fldS (lieK 15) t.l).1 = pl
      generalize fldV (lieK 15) t.l = V
      intro HF
      go_enter Tryd.func17, Tryd.ntmps17
      go_wp2_with (first
        | (go_at_call 33; refine (HF.out _ ((HK.out.trans HK1.out).trans HK2.out)).mono ?_; intro y w3 hq; obtain ⟨av, cp3, rfl, h1, k3⟩ := FieldsR.open hq; have HQ := Lib.hid (And.intro h1 k3); clear h1 k3 hq)
        | (go_at_call 23; refine (HP.out _ (HK.out.trans HK1.out)).mono ?_; rintro y w2 ⟨ap, cp, aq, cq, rfl, ht, k2⟩; have HK2 := Lib.hid k2; have hfd := fld_kd x.kind (.slice ap x.names.length cp) aq x.l.length cq x.r; have T2 := HT1.out.kept (F := fun _ => False) k2 id; obtain ⟨u0, u1, u2, u3⟩ := boxT_cells T2; clear ht k2 T2)
        | (go_at_call 28; refine (HC.out _ HK.out).mono ?_; rintro y w1 ⟨rfl, k1⟩; have T1 := HT.out.kept (F := fun _ => False) k1 id; obtain ⟨t0, t1, t2, t3⟩ := boxT_cells T1; have HK1 := Lib.hid k1; have HT1 := Lib.hid T1; clear k1 T1))
      go_ret
      exact ⟨av, cp3, rfl, Ints.mono HQ.out.1 (((HK.out.trans HK1.out).trans HK2.out).size), ((HK.out.trans HK1.out).trans HK2.out).trans HQ.out.2⟩
    · rw [if_neg (fun e => hk e.2)]
      have hb : ((plainT t).kind != 13) = true := by
        rw [plainT_kind]
        have h13 : t.kind ≠ 13 := fun e => hk (.inl e)
        have h14 : t.kind ≠ 14 := fun e => hk (.inr e)
        rw [if_neg h14]
        repeat' split
        all_goals (simp; try exact h13)
      clear h hf ho hk
      revert HP hb
      generalize plainT t = x
      intro HP hb
      go_enter Tryd.func17, Tryd.ntmps17
      go_wp2_with (first
        | (go_at_call 23; refine (HP.out _ (HK.out.trans HK1.out)).mono ?_; rintro y w2 ⟨ap, cp, aq, cq, rfl, ht, k2⟩; have HK2 := Lib.hid k2; have hfd := fld_kd x.kind (.slice ap x.names.length cp) aq x.l.length cq x.r; clear ht k2)
        | (go_at_call 28; refine (HC.out _ HK.out).mono ?_; rintro y w1 ⟨rfl, k1⟩; have T1 := HT.out.kept (F := fun _ => False) k1 id; obtain ⟨t0, t1, t2, t3⟩ := boxT_cells T1; have HK1 := Lib.hid k1; clear k1 T1))
      go_ret
      exact HNO.out _ ((HK.out.trans HK1.out).trans HK2.out)
end Go.Proofs.YtlkbgdhlbdjbiaaDoor
