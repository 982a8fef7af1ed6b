/- CtypeChecks: the walk. -/
import Derived.Test.YtcfakaglmlfkpaaDoorCtAw
import Derived.Test.YtcfakaglmlfkpaaDoorOrd
set_option linter.unusedVariables false
set_option linter.unusedSimpArgs false
namespace Go.Proofs.YtcfakaglmlfkpaaDoor
open Go.RowKit
open Lex Ct

theorem rdCheckSig_is (s : Sg) (ap : Option Addr) (cp : Nat) (aq : Option Addr) (cq : Nat) (an : Option Addr) (cn : Nat) (al : Option Addr) (cl : Nat) (w : World) (h : SgAt w s ap cp aq cq an cn al cl) (hf : FineS s) (b : Bool) (hb : okS s = b) :
    Calls Tryd.prog 10 #[sgV s ap cp aq cq an cn al cl] w fun y w' => y = .returned (.int .i64 (if b = true then 0 else 1)) ∧ Kept (fun _ => False) w w' := by
  subst hb
  exact rdCheckSig s ap cp aq cq an cn al cl w h hf
theorem rdCheck_is (t : Ty) (an : Option Addr) (cn : Nat) (al : Option Addr) (cl : Nat) (w : World) (h : TyAt w t an cn al cl) (hf : FineT t) (b : Bool) (hb : okT t = b) :
    Calls Tryd.prog 8 #[tyV t an cn al cl] w fun y w' => y = .returned (.int .i64 (if b = true then 0 else 1)) ∧ Kept (fun _ => False) w w' := by
  subst hb
  exact rdCheck t an cn al cl w h hf
theorem rdMaySig_is (s : Sg) (ap : Option Addr) (cp : Nat) (aq : Option Addr) (cq : Nat) (an : Option Addr) (cn : Nat) (al : Option Addr) (cl : Nat) (w : World) (h : SgAt w s ap cp aq cq an cn al cl) (hf : FineS s) (b : Bool) (hb : okS s = b) :
    Calls Tryd.prog 11 #[sgV s ap cp aq cq an cn al cl] w fun y w' => y = .returned (.bool b) ∧ Kept (fun _ => False) w w' := by
  subst hb
  exact rdMaySig s ap cp aq cq an cn al cl w h hf
set_option maxRecDepth 100000 in
set_option maxHeartbeats 8000000 in
theorem CtypeChecks_walk (t : Ty) (an : Option Addr) (cn : Nat) (al : Option Addr) (cl : Nat) (s : Sg) (ap : Option Addr) (cp : Nat) (aq : Option Addr) (cq : Nat) (bn : Option Addr) (dn : Nat) (bl : Option Addr) (dl : Nat) (w : World)
    (ht : TyAt w t an cn al cl) (hft : FineT t) (hs : SgAt w s ap cp aq cq bn dn bl dl) (hfs : FineS s) :
    Calls Tryd.prog 3 #[tyV t an cn al cl, sgV s ap cp aq cq bn dn bl dl] w fun y w' => y = .returned (.bool true) ∧ Kept (fun _ => False) w w' := by
  have q0 : Kept (fun _ => False) w ((w.alloc (.cells #[.int .i64 t.kind, .slice an t.names.length cn, .slice al t.l.length cl, .int .i64 t.r] 25)).alloc (.cells (sgC s ap cp aq cq bn dn bl dl) 27)) := ((Kept.refl _ _).new _).new _
  have T0 := (BlkAt.new w #[.int .i64 t.kind, .slice an t.names.length cn, .slice al t.l.length cl, .int .i64 t.r] 25).up (.cells (sgC s ap cp aq cq bn dn bl dl) 27)
  have S0 := BlkAt.new (w.alloc (.cells #[.int .i64 t.kind, .slice an t.names.length cn, .slice al t.l.length cl, .int .i64 t.r] 25)) (sgC s ap cp aq cq bn dn bl dl) 27
  rw [World.size_alloc] at S0
  have HW : Hid (∀ w', Kept (fun _ => False) ((w.alloc (.cells #[.int .i64 t.kind, .slice an t.names.length cn, .slice al t.l.length cl, .int .i64 t.r] 25)).alloc (.cells (sgC s ap cp aq cq bn dn bl dl) 27)) w' →
      w'.cell? ⟨w.heap.size, 0, none⟩ = some (.int .i64 t.kind) ∧ w'.cell? ⟨w.heap.size, 1, none⟩ = some (.slice an t.names.length cn) ∧ w'.cell? ⟨w.heap.size, 2, none⟩ = some (.slice al t.l.length cl) ∧ w'.cell? ⟨w.heap.size, 3, none⟩ = some (.int .i64 t.r) ∧
      w'.cell? ⟨w.heap.size + 1, 0, none⟩ = some (.string (strOfNums s.name)) ∧ w'.cell? ⟨w.heap.size + 1, 1, none⟩ = some (.slice ap s.p.length cp) ∧ w'.cell? ⟨w.heap.size + 1, 2, none⟩ = some (.slice aq s.t.length cq) ∧ w'.cell? ⟨w.heap.size + 1, 3, none⟩ = some (.int .i64 s.r.kind) ∧ w'.cell? ⟨w.heap.size + 1, 4, none⟩ = some (.slice bn s.r.names.length dn) ∧ w'.cell? ⟨w.heap.size + 1, 5, none⟩ = some (.slice bl s.r.l.length dl) ∧ w'.cell? ⟨w.heap.size + 1, 6, none⟩ = some (.int .i64 s.r.r)) := Lib.hid fun w' k => by
    have T := T0.kept k id
    have S := S0.kept k id
    exact ⟨T.cell 0, T.cell 1, T.cell 2, T.cell 3, S.cell 0, S.cell 1, S.cell 2, S.cell 3, S.cell 4, S.cell 5, S.cell 6⟩
  have HQ := Lib.hid q0
  have HAW := Lib.hid (fun w => awake_any w)
  clear T0 S0 q0
  cases ho : okT t
  · cases hos : okS s
    all_goals
      have HC := Lib.hid (fun w' k => rdCheck_is t an cn al cl w' (ht.kept (HQ.out.trans k)) hft _ ho)
      have HM := Lib.hid (fun w' k => rdMay_is t an cn al cl w' (ht.kept (HQ.out.trans k)) hft _ ho)
      have HCS := Lib.hid (fun w' k => rdCheckSig_is s ap cp aq cq bn dn bl dl w' (hs.kept (HQ.out.trans k)) hfs _ hos)
      have HMS := Lib.hid (fun w' k => rdMaySig_is s ap cp aq cq bn dn bl dl w' (hs.kept (HQ.out.trans k)) hfs _ hos)
      simp only [if_true, Bool.false_eq_true, if_false] at HC HCS
      have q0 : Kept (fun _ => False) ((w.alloc (.cells #[.int .i64 t.kind, .slice an t.names.length cn, .slice al t.l.length cl, .int .i64 t.r] 25)).alloc (.cells (sgC s ap cp aq cq bn dn bl dl) 27)) ((w.alloc (.cells #[.int .i64 t.kind, .slice an t.names.length cn, .slice al t.l.length cl, .int .i64 t.r] 25)).alloc (.cells (sgC s ap cp aq cq bn dn bl dl) 27)).drew := (Kept.refl _ _).drew
      have E0 := Lib.hid (HW.out _ q0)
      clear ho hos
      go_enter Tryd.func3, Tryd.ntmps3
      go_wp2_with fail
      go_region_held3 (fun w' => w'.cell? ⟨w.heap.size, 0, none⟩ = some (.int .i64 t.kind) ∧ w'.cell? ⟨w.heap.size, 1, none⟩ = some (.slice an t.names.length cn) ∧ w'.cell? ⟨w.heap.size, 2, none⟩ = some (.slice al t.l.length cl) ∧ w'.cell? ⟨w.heap.size, 3, none⟩ = some (.int .i64 t.r) ∧
          w'.cell? ⟨w.heap.size + 1, 0, none⟩ = some (.string (strOfNums s.name)) ∧ w'.cell? ⟨w.heap.size + 1, 1, none⟩ = some (.slice ap s.p.length cp) ∧ w'.cell? ⟨w.heap.size + 1, 2, none⟩ = some (.slice aq s.t.length cq) ∧ w'.cell? ⟨w.heap.size + 1, 3, none⟩ = some (.int .i64 s.r.kind) ∧ w'.cell? ⟨w.heap.size + 1, 4, none⟩ = some (.slice bn s.r.names.length dn) ∧ w'.cell? ⟨w.heap.size + 1, 5, none⟩ = some (.slice bl s.r.l.length dl) ∧ w'.cell? ⟨w.heap.size + 1, 6, none⟩ = some (.int .i64 s.r.r))
        (first | exact E0.out | exact HW.out _ q0)
        (first
          | (go_at_call 8; refine (HC.out _ q0).mono ?_; rintro y w1 ⟨rfl, k1⟩; replace q0 := q0.trans k1; clear k1)
          | (go_at_call 9; refine (HM.out _ q0).mono ?_; rintro y w1 ⟨rfl, k1⟩; replace q0 := q0.trans k1; clear k1)
          | (go_at_call 10; refine (HCS.out _ q0).mono ?_; rintro y w1 ⟨rfl, k1⟩; replace q0 := q0.trans k1; clear k1)
          | (go_at_call 11; refine (HMS.out _ q0).mono ?_; rintro y w1 ⟨rfl, k1⟩; replace q0 := q0.trans k1; clear k1)
          | (go_at_call 12; refine (HAW.out _).mono ?_; rintro y w1 ⟨rfl, k1⟩; replace q0 := q0.trans k1; clear k1))
      all_goals go_wp2_with fail
      all_goals go_ret
      all_goals exact ⟨rfl, HQ.out.trans q0⟩
  · cases hos : okS s
    · have HC := Lib.hid (fun w' k => rdCheck_is t an cn al cl w' (ht.kept (HQ.out.trans k)) hft _ ho)
      have HM := Lib.hid (fun w' k => rdMay_is t an cn al cl w' (ht.kept (HQ.out.trans k)) hft _ ho)
      have HCS := Lib.hid (fun w' k => rdCheckSig_is s ap cp aq cq bn dn bl dl w' (hs.kept (HQ.out.trans k)) hfs _ hos)
      have HMS := Lib.hid (fun w' k => rdMaySig_is s ap cp aq cq bn dn bl dl w' (hs.kept (HQ.out.trans k)) hfs _ hos)
      simp only [if_true, Bool.false_eq_true, if_false] at HC HCS
      have q0 : Kept (fun _ => False) ((w.alloc (.cells #[.int .i64 t.kind, .slice an t.names.length cn, .slice al t.l.length cl, .int .i64 t.r] 25)).alloc (.cells (sgC s ap cp aq cq bn dn bl dl) 27)) ((w.alloc (.cells #[.int .i64 t.kind, .slice an t.names.length cn, .slice al t.l.length cl, .int .i64 t.r] 25)).alloc (.cells (sgC s ap cp aq cq bn dn bl dl) 27)).drew := (Kept.refl _ _).drew
      have E0 := Lib.hid (HW.out _ q0)
      clear ho hos
      go_enter Tryd.func3, Tryd.ntmps3
      go_wp2_with fail
      refine wp_region_noPanic ?_
      refine anyU_start (fun w' : World => w'.cell? ⟨w.heap.size, 0, none⟩ = some (.int .i64 t.kind) ∧ w'.cell? ⟨w.heap.size, 1, none⟩ = some (.slice an t.names.length cn) ∧ w'.cell? ⟨w.heap.size, 2, none⟩ = some (.slice al t.l.length cl) ∧ w'.cell? ⟨w.heap.size, 3, none⟩ = some (.int .i64 t.r) ∧ w'.cell? ⟨w.heap.size + 1, 0, none⟩ = some (.string (strOfNums s.name)) ∧ w'.cell? ⟨w.heap.size + 1, 1, none⟩ = some (.slice ap s.p.length cp) ∧ w'.cell? ⟨w.heap.size + 1, 2, none⟩ = some (.slice aq s.t.length cq) ∧ w'.cell? ⟨w.heap.size + 1, 3, none⟩ = some (.int .i64 s.r.kind) ∧ w'.cell? ⟨w.heap.size + 1, 4, none⟩ = some (.slice bn s.r.names.length dn) ∧ w'.cell? ⟨w.heap.size + 1, 5, none⟩ = some (.slice bl s.r.l.length dl) ∧ w'.cell? ⟨w.heap.size + 1, 6, none⟩ = some (.int .i64 s.r.r)) 27 (by kernel_rfl) ?_
      have hS : (fun w' : World => w'.cell? ⟨w.heap.size, 0, none⟩ = some (.int .i64 t.kind) ∧ w'.cell? ⟨w.heap.size, 1, none⟩ = some (.slice an t.names.length cn) ∧ w'.cell? ⟨w.heap.size, 2, none⟩ = some (.slice al t.l.length cl) ∧ w'.cell? ⟨w.heap.size, 3, none⟩ = some (.int .i64 t.r) ∧ w'.cell? ⟨w.heap.size + 1, 0, none⟩ = some (.string (strOfNums s.name)) ∧ w'.cell? ⟨w.heap.size + 1, 1, none⟩ = some (.slice ap s.p.length cp) ∧ w'.cell? ⟨w.heap.size + 1, 2, none⟩ = some (.slice aq s.t.length cq) ∧ w'.cell? ⟨w.heap.size + 1, 3, none⟩ = some (.int .i64 s.r.kind) ∧ w'.cell? ⟨w.heap.size + 1, 4, none⟩ = some (.slice bn s.r.names.length dn) ∧ w'.cell? ⟨w.heap.size + 1, 5, none⟩ = some (.slice bl s.r.l.length dl) ∧ w'.cell? ⟨w.heap.size + 1, 6, none⟩ = some (.int .i64 s.r.r)) _ := E0.out
      refine anyU_take (i := 0) (tyV t an cn al cl) rfl (by decide) (by kernel_rfl) (by kernel_rfl) (by kernel_rfl) (by kernel_rfl) (fun _ _ _ h => h) (Or.inl ⟨by kernel_rfl, fun W hW => by obtain ⟨z0, z1, z2, z3, z4, z5, z6, z7, z8, z9, z10⟩ := hW; go_simp⟩) hS ?_
      try simp only [Act.put, List.setIfInBounds_toArray, List.set_cons_zero, List.set_cons_succ]
      refine anyU_take (i := 3) (tyV t an cn al cl) rfl (by decide) (by kernel_rfl) (by kernel_rfl) (by kernel_rfl) (by kernel_rfl) (fun _ _ _ h => h) (Or.inl ⟨by kernel_rfl, fun W hW => by obtain ⟨z0, z1, z2, z3, z4, z5, z6, z7, z8, z9, z10⟩ := hW; go_simp⟩) hS ?_
      try simp only [Act.put, List.setIfInBounds_toArray, List.set_cons_zero, List.set_cons_succ]
      refine anyU_one (i := 1) (by kernel_rfl) rfl (fun K hK => ?_)
      go_simp
      refine (HC.out _ q0).mono ?_
      rintro y w1 ⟨rfl, k1⟩
      replace q0 := q0.trans k1
      clear k1
      dsimp only
      refine hK.out _ _ (fun _ => HW.out _ q0) ?_
      try clear hS
      clear hK
      have hS : (fun w' : World => w'.cell? ⟨w.heap.size, 0, none⟩ = some (.int .i64 t.kind) ∧ w'.cell? ⟨w.heap.size, 1, none⟩ = some (.slice an t.names.length cn) ∧ w'.cell? ⟨w.heap.size, 2, none⟩ = some (.slice al t.l.length cl) ∧ w'.cell? ⟨w.heap.size, 3, none⟩ = some (.int .i64 t.r) ∧ w'.cell? ⟨w.heap.size + 1, 0, none⟩ = some (.string (strOfNums s.name)) ∧ w'.cell? ⟨w.heap.size + 1, 1, none⟩ = some (.slice ap s.p.length cp) ∧ w'.cell? ⟨w.heap.size + 1, 2, none⟩ = some (.slice aq s.t.length cq) ∧ w'.cell? ⟨w.heap.size + 1, 3, none⟩ = some (.int .i64 s.r.kind) ∧ w'.cell? ⟨w.heap.size + 1, 4, none⟩ = some (.slice bn s.r.names.length dn) ∧ w'.cell? ⟨w.heap.size + 1, 5, none⟩ = some (.slice bl s.r.l.length dl) ∧ w'.cell? ⟨w.heap.size + 1, 6, none⟩ = some (.int .i64 s.r.r)) _ := HW.out _ q0
      refine anyU_take (i := 2) (.bool true) rfl (by decide) (by kernel_rfl) (by kernel_rfl) (by kernel_rfl) (by kernel_rfl) (fun _ _ _ h => h) (Or.inl ⟨by kernel_rfl, fun W hW => by obtain ⟨z0, z1, z2, z3, z4, z5, z6, z7, z8, z9, z10⟩ := hW; go_simp⟩) hS ?_
      try simp only [Act.put, List.setIfInBounds_toArray, List.set_cons_zero, List.set_cons_succ]
      refine anyU_one (i := 4) (by kernel_rfl) rfl (fun K hK => ?_)
      go_simp
      refine (HM.out _ q0).mono ?_
      rintro y w1 ⟨rfl, k1⟩
      replace q0 := q0.trans k1
      clear k1
      dsimp only
      refine hK.out _ _ (fun _ => HW.out _ q0) ?_
      try clear hS
      clear hK
      have hS : (fun w' : World => w'.cell? ⟨w.heap.size, 0, none⟩ = some (.int .i64 t.kind) ∧ w'.cell? ⟨w.heap.size, 1, none⟩ = some (.slice an t.names.length cn) ∧ w'.cell? ⟨w.heap.size, 2, none⟩ = some (.slice al t.l.length cl) ∧ w'.cell? ⟨w.heap.size, 3, none⟩ = some (.int .i64 t.r) ∧ w'.cell? ⟨w.heap.size + 1, 0, none⟩ = some (.string (strOfNums s.name)) ∧ w'.cell? ⟨w.heap.size + 1, 1, none⟩ = some (.slice ap s.p.length cp) ∧ w'.cell? ⟨w.heap.size + 1, 2, none⟩ = some (.slice aq s.t.length cq) ∧ w'.cell? ⟨w.heap.size + 1, 3, none⟩ = some (.int .i64 s.r.kind) ∧ w'.cell? ⟨w.heap.size + 1, 4, none⟩ = some (.slice bn s.r.names.length dn) ∧ w'.cell? ⟨w.heap.size + 1, 5, none⟩ = some (.slice bl s.r.l.length dl) ∧ w'.cell? ⟨w.heap.size + 1, 6, none⟩ = some (.int .i64 s.r.r)) _ := HW.out _ q0
      refine anyU_take (i := 5) (.bool true) rfl (by decide) (by kernel_rfl) (by kernel_rfl) (by kernel_rfl) (by kernel_rfl) (fun _ _ _ h => h) (Or.inl ⟨by kernel_rfl, fun W hW => by obtain ⟨z0, z1, z2, z3, z4, z5, z6, z7, z8, z9, z10⟩ := hW; go_simp⟩) hS ?_
      try simp only [Act.put, List.setIfInBounds_toArray, List.set_cons_zero, List.set_cons_succ]
      refine anyU_take (i := 6) (.bool true) rfl (by decide) (by kernel_rfl) (by kernel_rfl) (by kernel_rfl) (by kernel_rfl) (fun _ _ _ h => h) (Or.inl ⟨by kernel_rfl, fun W hW => by obtain ⟨z0, z1, z2, z3, z4, z5, z6, z7, z8, z9, z10⟩ := hW; go_simp⟩) hS ?_
      try simp only [Act.put, List.setIfInBounds_toArray, List.set_cons_zero, List.set_cons_succ]
      refine anyU_take (i := 7) (tyV t an cn al cl) rfl (by decide) (by kernel_rfl) (by kernel_rfl) (by kernel_rfl) (by kernel_rfl) (fun _ _ _ h => h) (Or.inl ⟨by kernel_rfl, fun W hW => by obtain ⟨z0, z1, z2, z3, z4, z5, z6, z7, z8, z9, z10⟩ := hW; go_simp⟩) hS ?_
      try simp only [Act.put, List.setIfInBounds_toArray, List.set_cons_zero, List.set_cons_succ]
      refine anyU_one (i := 8) (by kernel_rfl) rfl (fun K hK => ?_)
      go_simp
      refine (HC.out _ q0).mono ?_
      rintro y w1 ⟨rfl, k1⟩
      replace q0 := q0.trans k1
      clear k1
      dsimp only
      refine hK.out _ _ (fun _ => HW.out _ q0) ?_
      try clear hS
      clear hK
      have hS : (fun w' : World => w'.cell? ⟨w.heap.size, 0, none⟩ = some (.int .i64 t.kind) ∧ w'.cell? ⟨w.heap.size, 1, none⟩ = some (.slice an t.names.length cn) ∧ w'.cell? ⟨w.heap.size, 2, none⟩ = some (.slice al t.l.length cl) ∧ w'.cell? ⟨w.heap.size, 3, none⟩ = some (.int .i64 t.r) ∧ w'.cell? ⟨w.heap.size + 1, 0, none⟩ = some (.string (strOfNums s.name)) ∧ w'.cell? ⟨w.heap.size + 1, 1, none⟩ = some (.slice ap s.p.length cp) ∧ w'.cell? ⟨w.heap.size + 1, 2, none⟩ = some (.slice aq s.t.length cq) ∧ w'.cell? ⟨w.heap.size + 1, 3, none⟩ = some (.int .i64 s.r.kind) ∧ w'.cell? ⟨w.heap.size + 1, 4, none⟩ = some (.slice bn s.r.names.length dn) ∧ w'.cell? ⟨w.heap.size + 1, 5, none⟩ = some (.slice bl s.r.l.length dl) ∧ w'.cell? ⟨w.heap.size + 1, 6, none⟩ = some (.int .i64 s.r.r)) _ := HW.out _ q0
      refine anyU_take (i := 9) (.bool true) rfl (by decide) (by kernel_rfl) (by kernel_rfl) (by kernel_rfl) (by kernel_rfl) (fun _ _ _ h => h) (Or.inl ⟨by kernel_rfl, fun W hW => by obtain ⟨z0, z1, z2, z3, z4, z5, z6, z7, z8, z9, z10⟩ := hW; go_simp⟩) hS ?_
      try simp only [Act.put, List.setIfInBounds_toArray, List.set_cons_zero, List.set_cons_succ]
      refine anyU_take (i := 10) (.bool true) rfl (by decide) (by kernel_rfl) (by kernel_rfl) (by kernel_rfl) (by kernel_rfl) (fun _ _ _ h => h) (Or.inl ⟨by kernel_rfl, fun W hW => by obtain ⟨z0, z1, z2, z3, z4, z5, z6, z7, z8, z9, z10⟩ := hW; go_simp⟩) hS ?_
      try simp only [Act.put, List.setIfInBounds_toArray, List.set_cons_zero, List.set_cons_succ]
      refine anyU_take (i := 11) undef rfl (by decide) (by kernel_rfl) (by kernel_rfl) (by kernel_rfl) (by kernel_rfl) (fun _ _ _ h => h) (Or.inr ⟨by kernel_rfl, by kernel_rfl⟩) hS ?_
      try simp only [Act.put, List.setIfInBounds_toArray, List.set_cons_zero, List.set_cons_succ]
      refine anyU_take (i := 12) undef rfl (by decide) (by kernel_rfl) (by kernel_rfl) (by kernel_rfl) (by kernel_rfl) (fun _ _ _ h => h) (Or.inr ⟨by kernel_rfl, by kernel_rfl⟩) hS ?_
      try simp only [Act.put, List.setIfInBounds_toArray, List.set_cons_zero, List.set_cons_succ]
      refine anyU_take (i := 13) undef rfl (by decide) (by kernel_rfl) (by kernel_rfl) (by kernel_rfl) (by kernel_rfl) (fun _ _ _ h => h) (Or.inr ⟨by kernel_rfl, by kernel_rfl⟩) hS ?_
      try simp only [Act.put, List.setIfInBounds_toArray, List.set_cons_zero, List.set_cons_succ]
      refine anyU_take (i := 14) (.bool true) rfl (by decide) (by kernel_rfl) (by kernel_rfl) (by kernel_rfl) (by kernel_rfl) (fun _ _ _ h => h) (Or.inl ⟨by kernel_rfl, fun W hW => by obtain ⟨z0, z1, z2, z3, z4, z5, z6, z7, z8, z9, z10⟩ := hW; go_simp⟩) hS ?_
      try simp only [Act.put, List.setIfInBounds_toArray, List.set_cons_zero, List.set_cons_succ]
      refine anyU_take (i := 15) (.bool true) rfl (by decide) (by kernel_rfl) (by kernel_rfl) (by kernel_rfl) (by kernel_rfl) (fun _ _ _ h => h) (Or.inl ⟨by kernel_rfl, fun W hW => by obtain ⟨z0, z1, z2, z3, z4, z5, z6, z7, z8, z9, z10⟩ := hW; go_simp⟩) hS ?_
      try simp only [Act.put, List.setIfInBounds_toArray, List.set_cons_zero, List.set_cons_succ]
      refine anyU_take (i := 16) (.bool true) rfl (by decide) (by kernel_rfl) (by kernel_rfl) (by kernel_rfl) (by kernel_rfl) (fun _ _ _ h => h) (Or.inl ⟨by kernel_rfl, fun W hW => by obtain ⟨z0, z1, z2, z3, z4, z5, z6, z7, z8, z9, z10⟩ := hW; go_simp⟩) hS ?_
      try simp only [Act.put, List.setIfInBounds_toArray, List.set_cons_zero, List.set_cons_succ]
      refine anyU_take (i := 17) (sgV s ap cp aq cq bn dn bl dl) rfl (by decide) (by kernel_rfl) (by kernel_rfl) (by kernel_rfl) (by kernel_rfl) (fun _ _ _ h => h) (Or.inl ⟨by kernel_rfl, fun W hW => by obtain ⟨z0, z1, z2, z3, z4, z5, z6, z7, z8, z9, z10⟩ := hW; go_simp⟩) hS ?_
      try simp only [Act.put, List.setIfInBounds_toArray, List.set_cons_zero, List.set_cons_succ]
      refine anyU_take (i := 20) (sgV s ap cp aq cq bn dn bl dl) rfl (by decide) (by kernel_rfl) (by kernel_rfl) (by kernel_rfl) (by kernel_rfl) (fun _ _ _ h => h) (Or.inl ⟨by kernel_rfl, fun W hW => by obtain ⟨z0, z1, z2, z3, z4, z5, z6, z7, z8, z9, z10⟩ := hW; go_simp⟩) hS ?_
      try simp only [Act.put, List.setIfInBounds_toArray, List.set_cons_zero, List.set_cons_succ]
      refine anyU_one (i := 18) (by kernel_rfl) rfl (fun K hK => ?_)
      go_simp
      refine (HCS.out _ q0).mono ?_
      rintro y w1 ⟨rfl, k1⟩
      replace q0 := q0.trans k1
      clear k1
      dsimp only
      refine hK.out _ _ (fun _ => HW.out _ q0) ?_
      try clear hS
      clear hK
      have hS : (fun w' : World => w'.cell? ⟨w.heap.size, 0, none⟩ = some (.int .i64 t.kind) ∧ w'.cell? ⟨w.heap.size, 1, none⟩ = some (.slice an t.names.length cn) ∧ w'.cell? ⟨w.heap.size, 2, none⟩ = some (.slice al t.l.length cl) ∧ w'.cell? ⟨w.heap.size, 3, none⟩ = some (.int .i64 t.r) ∧ w'.cell? ⟨w.heap.size + 1, 0, none⟩ = some (.string (strOfNums s.name)) ∧ w'.cell? ⟨w.heap.size + 1, 1, none⟩ = some (.slice ap s.p.length cp) ∧ w'.cell? ⟨w.heap.size + 1, 2, none⟩ = some (.slice aq s.t.length cq) ∧ w'.cell? ⟨w.heap.size + 1, 3, none⟩ = some (.int .i64 s.r.kind) ∧ w'.cell? ⟨w.heap.size + 1, 4, none⟩ = some (.slice bn s.r.names.length dn) ∧ w'.cell? ⟨w.heap.size + 1, 5, none⟩ = some (.slice bl s.r.l.length dl) ∧ w'.cell? ⟨w.heap.size + 1, 6, none⟩ = some (.int .i64 s.r.r)) _ := HW.out _ q0
      refine anyU_take (i := 19) (.bool false) rfl (by decide) (by kernel_rfl) (by kernel_rfl) (by kernel_rfl) (by kernel_rfl) (fun _ _ _ h => h) (Or.inl ⟨by kernel_rfl, fun W hW => by obtain ⟨z0, z1, z2, z3, z4, z5, z6, z7, z8, z9, z10⟩ := hW; go_simp⟩) hS ?_
      try simp only [Act.put, List.setIfInBounds_toArray, List.set_cons_zero, List.set_cons_succ]
      refine anyU_one (i := 21) (by kernel_rfl) rfl (fun K hK => ?_)
      go_simp
      refine (HMS.out _ q0).mono ?_
      rintro y w1 ⟨rfl, k1⟩
      replace q0 := q0.trans k1
      clear k1
      dsimp only
      refine hK.out _ _ (fun _ => HW.out _ q0) ?_
      try clear hS
      clear hK
      have hS : (fun w' : World => w'.cell? ⟨w.heap.size, 0, none⟩ = some (.int .i64 t.kind) ∧ w'.cell? ⟨w.heap.size, 1, none⟩ = some (.slice an t.names.length cn) ∧ w'.cell? ⟨w.heap.size, 2, none⟩ = some (.slice al t.l.length cl) ∧ w'.cell? ⟨w.heap.size, 3, none⟩ = some (.int .i64 t.r) ∧ w'.cell? ⟨w.heap.size + 1, 0, none⟩ = some (.string (strOfNums s.name)) ∧ w'.cell? ⟨w.heap.size + 1, 1, none⟩ = some (.slice ap s.p.length cp) ∧ w'.cell? ⟨w.heap.size + 1, 2, none⟩ = some (.slice aq s.t.length cq) ∧ w'.cell? ⟨w.heap.size + 1, 3, none⟩ = some (.int .i64 s.r.kind) ∧ w'.cell? ⟨w.heap.size + 1, 4, none⟩ = some (.slice bn s.r.names.length dn) ∧ w'.cell? ⟨w.heap.size + 1, 5, none⟩ = some (.slice bl s.r.l.length dl) ∧ w'.cell? ⟨w.heap.size + 1, 6, none⟩ = some (.int .i64 s.r.r)) _ := HW.out _ q0
      refine anyU_take (i := 22) (.bool true) rfl (by decide) (by kernel_rfl) (by kernel_rfl) (by kernel_rfl) (by kernel_rfl) (fun _ _ _ h => h) (Or.inl ⟨by kernel_rfl, fun W hW => by obtain ⟨z0, z1, z2, z3, z4, z5, z6, z7, z8, z9, z10⟩ := hW; go_simp⟩) hS ?_
      try simp only [Act.put, List.setIfInBounds_toArray, List.set_cons_zero, List.set_cons_succ]
      refine anyU_take (i := 23) (.bool true) rfl (by decide) (by kernel_rfl) (by kernel_rfl) (by kernel_rfl) (by kernel_rfl) (fun _ _ _ h => h) (Or.inl ⟨by kernel_rfl, fun W hW => by obtain ⟨z0, z1, z2, z3, z4, z5, z6, z7, z8, z9, z10⟩ := hW; go_simp⟩) hS ?_
      try simp only [Act.put, List.setIfInBounds_toArray, List.set_cons_zero, List.set_cons_succ]
      refine anyU_take (i := 24) (.bool true) rfl (by decide) (by kernel_rfl) (by kernel_rfl) (by kernel_rfl) (by kernel_rfl) (fun _ _ _ h => h) (Or.inl ⟨by kernel_rfl, fun W hW => by obtain ⟨z0, z1, z2, z3, z4, z5, z6, z7, z8, z9, z10⟩ := hW; go_simp⟩) hS ?_
      try simp only [Act.put, List.setIfInBounds_toArray, List.set_cons_zero, List.set_cons_succ]
      refine anyU_one (i := 25) (by kernel_rfl) rfl (fun K hK => ?_)
      go_simp
      refine (HAW.out _).mono ?_
      rintro y w1 ⟨rfl, k1⟩
      replace q0 := q0.trans k1
      clear k1
      dsimp only
      refine hK.out _ _ (fun _ => HW.out _ q0) ?_
      try clear hS
      clear hK
      have hS : (fun w' : World => w'.cell? ⟨w.heap.size, 0, none⟩ = some (.int .i64 t.kind) ∧ w'.cell? ⟨w.heap.size, 1, none⟩ = some (.slice an t.names.length cn) ∧ w'.cell? ⟨w.heap.size, 2, none⟩ = some (.slice al t.l.length cl) ∧ w'.cell? ⟨w.heap.size, 3, none⟩ = some (.int .i64 t.r) ∧ w'.cell? ⟨w.heap.size + 1, 0, none⟩ = some (.string (strOfNums s.name)) ∧ w'.cell? ⟨w.heap.size + 1, 1, none⟩ = some (.slice ap s.p.length cp) ∧ w'.cell? ⟨w.heap.size + 1, 2, none⟩ = some (.slice aq s.t.length cq) ∧ w'.cell? ⟨w.heap.size + 1, 3, none⟩ = some (.int .i64 s.r.kind) ∧ w'.cell? ⟨w.heap.size + 1, 4, none⟩ = some (.slice bn s.r.names.length dn) ∧ w'.cell? ⟨w.heap.size + 1, 5, none⟩ = some (.slice bl s.r.l.length dl) ∧ w'.cell? ⟨w.heap.size + 1, 6, none⟩ = some (.int .i64 s.r.r)) _ := HW.out _ q0
      refine anyU_take (i := 26) (.bool true) rfl (by decide) (by kernel_rfl) (by kernel_rfl) (by kernel_rfl) (by kernel_rfl) (fun _ _ _ h => h) (Or.inl ⟨by kernel_rfl, fun W hW => by obtain ⟨z0, z1, z2, z3, z4, z5, z6, z7, z8, z9, z10⟩ := hW; go_simp⟩) hS ?_
      try simp only [Act.put, List.setIfInBounds_toArray, List.set_cons_zero, List.set_cons_succ]
      refine anyU_one (i := 27) (by kernel_rfl) rfl (fun K hK => ?_)
      go_simp
      refine hK.out _ _ (fun q => absurd q (by decide)) ?_
      clear hK
      refine anyU_done (by kernel_rfl) (NoPanic.normal ?_)
      go_wp2_with fail
      go_ret
      exact ⟨rfl, HQ.out.trans q0⟩
    · have HC := Lib.hid (fun w' k => rdCheck_is t an cn al cl w' (ht.kept (HQ.out.trans k)) hft _ ho)
      have HM := Lib.hid (fun w' k => rdMay_is t an cn al cl w' (ht.kept (HQ.out.trans k)) hft _ ho)
      have HCS := Lib.hid (fun w' k => rdCheckSig_is s ap cp aq cq bn dn bl dl w' (hs.kept (HQ.out.trans k)) hfs _ hos)
      have HMS := Lib.hid (fun w' k => rdMaySig_is s ap cp aq cq bn dn bl dl w' (hs.kept (HQ.out.trans k)) hfs _ hos)
      simp only [if_true, Bool.false_eq_true, if_false] at HC HCS
      have q0 : Kept (fun _ => False) ((w.alloc (.cells #[.int .i64 t.kind, .slice an t.names.length cn, .slice al t.l.length cl, .int .i64 t.r] 25)).alloc (.cells (sgC s ap cp aq cq bn dn bl dl) 27)) ((w.alloc (.cells #[.int .i64 t.kind, .slice an t.names.length cn, .slice al t.l.length cl, .int .i64 t.r] 25)).alloc (.cells (sgC s ap cp aq cq bn dn bl dl) 27)).drew := (Kept.refl _ _).drew
      have E0 := Lib.hid (HW.out _ q0)
      clear ho hos
      go_enter Tryd.func3, Tryd.ntmps3
      go_wp2_with fail
      refine wp_region_noPanic ?_
      refine anyU_start (fun w' : World => w'.cell? ⟨w.heap.size, 0, none⟩ = some (.int .i64 t.kind) ∧ w'.cell? ⟨w.heap.size, 1, none⟩ = some (.slice an t.names.length cn) ∧ w'.cell? ⟨w.heap.size, 2, none⟩ = some (.slice al t.l.length cl) ∧ w'.cell? ⟨w.heap.size, 3, none⟩ = some (.int .i64 t.r) ∧ w'.cell? ⟨w.heap.size + 1, 0, none⟩ = some (.string (strOfNums s.name)) ∧ w'.cell? ⟨w.heap.size + 1, 1, none⟩ = some (.slice ap s.p.length cp) ∧ w'.cell? ⟨w.heap.size + 1, 2, none⟩ = some (.slice aq s.t.length cq) ∧ w'.cell? ⟨w.heap.size + 1, 3, none⟩ = some (.int .i64 s.r.kind) ∧ w'.cell? ⟨w.heap.size + 1, 4, none⟩ = some (.slice bn s.r.names.length dn) ∧ w'.cell? ⟨w.heap.size + 1, 5, none⟩ = some (.slice bl s.r.l.length dl) ∧ w'.cell? ⟨w.heap.size + 1, 6, none⟩ = some (.int .i64 s.r.r)) 27 (by kernel_rfl) ?_
      have hS : (fun w' : World => w'.cell? ⟨w.heap.size, 0, none⟩ = some (.int .i64 t.kind) ∧ w'.cell? ⟨w.heap.size, 1, none⟩ = some (.slice an t.names.length cn) ∧ w'.cell? ⟨w.heap.size, 2, none⟩ = some (.slice al t.l.length cl) ∧ w'.cell? ⟨w.heap.size, 3, none⟩ = some (.int .i64 t.r) ∧ w'.cell? ⟨w.heap.size + 1, 0, none⟩ = some (.string (strOfNums s.name)) ∧ w'.cell? ⟨w.heap.size + 1, 1, none⟩ = some (.slice ap s.p.length cp) ∧ w'.cell? ⟨w.heap.size + 1, 2, none⟩ = some (.slice aq s.t.length cq) ∧ w'.cell? ⟨w.heap.size + 1, 3, none⟩ = some (.int .i64 s.r.kind) ∧ w'.cell? ⟨w.heap.size + 1, 4, none⟩ = some (.slice bn s.r.names.length dn) ∧ w'.cell? ⟨w.heap.size + 1, 5, none⟩ = some (.slice bl s.r.l.length dl) ∧ w'.cell? ⟨w.heap.size + 1, 6, none⟩ = some (.int .i64 s.r.r)) _ := E0.out
      refine anyU_take (i := 0) (tyV t an cn al cl) rfl (by decide) (by kernel_rfl) (by kernel_rfl) (by kernel_rfl) (by kernel_rfl) (fun _ _ _ h => h) (Or.inl ⟨by kernel_rfl, fun W hW => by obtain ⟨z0, z1, z2, z3, z4, z5, z6, z7, z8, z9, z10⟩ := hW; go_simp⟩) hS ?_
      try simp only [Act.put, List.setIfInBounds_toArray, List.set_cons_zero, List.set_cons_succ]
      refine anyU_take (i := 3) (tyV t an cn al cl) rfl (by decide) (by kernel_rfl) (by kernel_rfl) (by kernel_rfl) (by kernel_rfl) (fun _ _ _ h => h) (Or.inl ⟨by kernel_rfl, fun W hW => by obtain ⟨z0, z1, z2, z3, z4, z5, z6, z7, z8, z9, z10⟩ := hW; go_simp⟩) hS ?_
      try simp only [Act.put, List.setIfInBounds_toArray, List.set_cons_zero, List.set_cons_succ]
      refine anyU_one (i := 1) (by kernel_rfl) rfl (fun K hK => ?_)
      go_simp
      refine (HC.out _ q0).mono ?_
      rintro y w1 ⟨rfl, k1⟩
      replace q0 := q0.trans k1
      clear k1
      dsimp only
      refine hK.out _ _ (fun _ => HW.out _ q0) ?_
      try clear hS
      clear hK
      have hS : (fun w' : World => w'.cell? ⟨w.heap.size, 0, none⟩ = some (.int .i64 t.kind) ∧ w'.cell? ⟨w.heap.size, 1, none⟩ = some (.slice an t.names.length cn) ∧ w'.cell? ⟨w.heap.size, 2, none⟩ = some (.slice al t.l.length cl) ∧ w'.cell? ⟨w.heap.size, 3, none⟩ = some (.int .i64 t.r) ∧ w'.cell? ⟨w.heap.size + 1, 0, none⟩ = some (.string (strOfNums s.name)) ∧ w'.cell? ⟨w.heap.size + 1, 1, none⟩ = some (.slice ap s.p.length cp) ∧ w'.cell? ⟨w.heap.size + 1, 2, none⟩ = some (.slice aq s.t.length cq) ∧ w'.cell? ⟨w.heap.size + 1, 3, none⟩ = some (.int .i64 s.r.kind) ∧ w'.cell? ⟨w.heap.size + 1, 4, none⟩ = some (.slice bn s.r.names.length dn) ∧ w'.cell? ⟨w.heap.size + 1, 5, none⟩ = some (.slice bl s.r.l.length dl) ∧ w'.cell? ⟨w.heap.size + 1, 6, none⟩ = some (.int .i64 s.r.r)) _ := HW.out _ q0
      refine anyU_take (i := 2) (.bool true) rfl (by decide) (by kernel_rfl) (by kernel_rfl) (by kernel_rfl) (by kernel_rfl) (fun _ _ _ h => h) (Or.inl ⟨by kernel_rfl, fun W hW => by obtain ⟨z0, z1, z2, z3, z4, z5, z6, z7, z8, z9, z10⟩ := hW; go_simp⟩) hS ?_
      try simp only [Act.put, List.setIfInBounds_toArray, List.set_cons_zero, List.set_cons_succ]
      refine anyU_one (i := 4) (by kernel_rfl) rfl (fun K hK => ?_)
      go_simp
      refine (HM.out _ q0).mono ?_
      rintro y w1 ⟨rfl, k1⟩
      replace q0 := q0.trans k1
      clear k1
      dsimp only
      refine hK.out _ _ (fun _ => HW.out _ q0) ?_
      try clear hS
      clear hK
      have hS : (fun w' : World => w'.cell? ⟨w.heap.size, 0, none⟩ = some (.int .i64 t.kind) ∧ w'.cell? ⟨w.heap.size, 1, none⟩ = some (.slice an t.names.length cn) ∧ w'.cell? ⟨w.heap.size, 2, none⟩ = some (.slice al t.l.length cl) ∧ w'.cell? ⟨w.heap.size, 3, none⟩ = some (.int .i64 t.r) ∧ w'.cell? ⟨w.heap.size + 1, 0, none⟩ = some (.string (strOfNums s.name)) ∧ w'.cell? ⟨w.heap.size + 1, 1, none⟩ = some (.slice ap s.p.length cp) ∧ w'.cell? ⟨w.heap.size + 1, 2, none⟩ = some (.slice aq s.t.length cq) ∧ w'.cell? ⟨w.heap.size + 1, 3, none⟩ = some (.int .i64 s.r.kind) ∧ w'.cell? ⟨w.heap.size + 1, 4, none⟩ = some (.slice bn s.r.names.length dn) ∧ w'.cell? ⟨w.heap.size + 1, 5, none⟩ = some (.slice bl s.r.l.length dl) ∧ w'.cell? ⟨w.heap.size + 1, 6, none⟩ = some (.int .i64 s.r.r)) _ := HW.out _ q0
      refine anyU_take (i := 5) (.bool true) rfl (by decide) (by kernel_rfl) (by kernel_rfl) (by kernel_rfl) (by kernel_rfl) (fun _ _ _ h => h) (Or.inl ⟨by kernel_rfl, fun W hW => by obtain ⟨z0, z1, z2, z3, z4, z5, z6, z7, z8, z9, z10⟩ := hW; go_simp⟩) hS ?_
      try simp only [Act.put, List.setIfInBounds_toArray, List.set_cons_zero, List.set_cons_succ]
      refine anyU_take (i := 6) (.bool true) rfl (by decide) (by kernel_rfl) (by kernel_rfl) (by kernel_rfl) (by kernel_rfl) (fun _ _ _ h => h) (Or.inl ⟨by kernel_rfl, fun W hW => by obtain ⟨z0, z1, z2, z3, z4, z5, z6, z7, z8, z9, z10⟩ := hW; go_simp⟩) hS ?_
      try simp only [Act.put, List.setIfInBounds_toArray, List.set_cons_zero, List.set_cons_succ]
      refine anyU_take (i := 7) (tyV t an cn al cl) rfl (by decide) (by kernel_rfl) (by kernel_rfl) (by kernel_rfl) (by kernel_rfl) (fun _ _ _ h => h) (Or.inl ⟨by kernel_rfl, fun W hW => by obtain ⟨z0, z1, z2, z3, z4, z5, z6, z7, z8, z9, z10⟩ := hW; go_simp⟩) hS ?_
      try simp only [Act.put, List.setIfInBounds_toArray, List.set_cons_zero, List.set_cons_succ]
      refine anyU_one (i := 8) (by kernel_rfl) rfl (fun K hK => ?_)
      go_simp
      refine (HC.out _ q0).mono ?_
      rintro y w1 ⟨rfl, k1⟩
      replace q0 := q0.trans k1
      clear k1
      dsimp only
      refine hK.out _ _ (fun _ => HW.out _ q0) ?_
      try clear hS
      clear hK
      have hS : (fun w' : World => w'.cell? ⟨w.heap.size, 0, none⟩ = some (.int .i64 t.kind) ∧ w'.cell? ⟨w.heap.size, 1, none⟩ = some (.slice an t.names.length cn) ∧ w'.cell? ⟨w.heap.size, 2, none⟩ = some (.slice al t.l.length cl) ∧ w'.cell? ⟨w.heap.size, 3, none⟩ = some (.int .i64 t.r) ∧ w'.cell? ⟨w.heap.size + 1, 0, none⟩ = some (.string (strOfNums s.name)) ∧ w'.cell? ⟨w.heap.size + 1, 1, none⟩ = some (.slice ap s.p.length cp) ∧ w'.cell? ⟨w.heap.size + 1, 2, none⟩ = some (.slice aq s.t.length cq) ∧ w'.cell? ⟨w.heap.size + 1, 3, none⟩ = some (.int .i64 s.r.kind) ∧ w'.cell? ⟨w.heap.size + 1, 4, none⟩ = some (.slice bn s.r.names.length dn) ∧ w'.cell? ⟨w.heap.size + 1, 5, none⟩ = some (.slice bl s.r.l.length dl) ∧ w'.cell? ⟨w.heap.size + 1, 6, none⟩ = some (.int .i64 s.r.r)) _ := HW.out _ q0
      refine anyU_take (i := 9) (.bool true) rfl (by decide) (by kernel_rfl) (by kernel_rfl) (by kernel_rfl) (by kernel_rfl) (fun _ _ _ h => h) (Or.inl ⟨by kernel_rfl, fun W hW => by obtain ⟨z0, z1, z2, z3, z4, z5, z6, z7, z8, z9, z10⟩ := hW; go_simp⟩) hS ?_
      try simp only [Act.put, List.setIfInBounds_toArray, List.set_cons_zero, List.set_cons_succ]
      refine anyU_take (i := 10) (.bool true) rfl (by decide) (by kernel_rfl) (by kernel_rfl) (by kernel_rfl) (by kernel_rfl) (fun _ _ _ h => h) (Or.inl ⟨by kernel_rfl, fun W hW => by obtain ⟨z0, z1, z2, z3, z4, z5, z6, z7, z8, z9, z10⟩ := hW; go_simp⟩) hS ?_
      try simp only [Act.put, List.setIfInBounds_toArray, List.set_cons_zero, List.set_cons_succ]
      refine anyU_take (i := 11) undef rfl (by decide) (by kernel_rfl) (by kernel_rfl) (by kernel_rfl) (by kernel_rfl) (fun _ _ _ h => h) (Or.inr ⟨by kernel_rfl, by kernel_rfl⟩) hS ?_
      try simp only [Act.put, List.setIfInBounds_toArray, List.set_cons_zero, List.set_cons_succ]
      refine anyU_take (i := 12) undef rfl (by decide) (by kernel_rfl) (by kernel_rfl) (by kernel_rfl) (by kernel_rfl) (fun _ _ _ h => h) (Or.inr ⟨by kernel_rfl, by kernel_rfl⟩) hS ?_
      try simp only [Act.put, List.setIfInBounds_toArray, List.set_cons_zero, List.set_cons_succ]
      refine anyU_take (i := 13) undef rfl (by decide) (by kernel_rfl) (by kernel_rfl) (by kernel_rfl) (by kernel_rfl) (fun _ _ _ h => h) (Or.inr ⟨by kernel_rfl, by kernel_rfl⟩) hS ?_
      try simp only [Act.put, List.setIfInBounds_toArray, List.set_cons_zero, List.set_cons_succ]
      refine anyU_take (i := 14) (.bool true) rfl (by decide) (by kernel_rfl) (by kernel_rfl) (by kernel_rfl) (by kernel_rfl) (fun _ _ _ h => h) (Or.inl ⟨by kernel_rfl, fun W hW => by obtain ⟨z0, z1, z2, z3, z4, z5, z6, z7, z8, z9, z10⟩ := hW; go_simp⟩) hS ?_
      try simp only [Act.put, List.setIfInBounds_toArray, List.set_cons_zero, List.set_cons_succ]
      refine anyU_take (i := 15) (.bool true) rfl (by decide) (by kernel_rfl) (by kernel_rfl) (by kernel_rfl) (by kernel_rfl) (fun _ _ _ h => h) (Or.inl ⟨by kernel_rfl, fun W hW => by obtain ⟨z0, z1, z2, z3, z4, z5, z6, z7, z8, z9, z10⟩ := hW; go_simp⟩) hS ?_
      try simp only [Act.put, List.setIfInBounds_toArray, List.set_cons_zero, List.set_cons_succ]
      refine anyU_take (i := 16) (.bool true) rfl (by decide) (by kernel_rfl) (by kernel_rfl) (by kernel_rfl) (by kernel_rfl) (fun _ _ _ h => h) (Or.inl ⟨by kernel_rfl, fun W hW => by obtain ⟨z0, z1, z2, z3, z4, z5, z6, z7, z8, z9, z10⟩ := hW; go_simp⟩) hS ?_
      try simp only [Act.put, List.setIfInBounds_toArray, List.set_cons_zero, List.set_cons_succ]
      refine anyU_take (i := 17) (sgV s ap cp aq cq bn dn bl dl) rfl (by decide) (by kernel_rfl) (by kernel_rfl) (by kernel_rfl) (by kernel_rfl) (fun _ _ _ h => h) (Or.inl ⟨by kernel_rfl, fun W hW => by obtain ⟨z0, z1, z2, z3, z4, z5, z6, z7, z8, z9, z10⟩ := hW; go_simp⟩) hS ?_
      try simp only [Act.put, List.setIfInBounds_toArray, List.set_cons_zero, List.set_cons_succ]
      refine anyU_take (i := 20) (sgV s ap cp aq cq bn dn bl dl) rfl (by decide) (by kernel_rfl) (by kernel_rfl) (by kernel_rfl) (by kernel_rfl) (fun _ _ _ h => h) (Or.inl ⟨by kernel_rfl, fun W hW => by obtain ⟨z0, z1, z2, z3, z4, z5, z6, z7, z8, z9, z10⟩ := hW; go_simp⟩) hS ?_
      try simp only [Act.put, List.setIfInBounds_toArray, List.set_cons_zero, List.set_cons_succ]
      refine anyU_one (i := 18) (by kernel_rfl) rfl (fun K hK => ?_)
      go_simp
      refine (HCS.out _ q0).mono ?_
      rintro y w1 ⟨rfl, k1⟩
      replace q0 := q0.trans k1
      clear k1
      dsimp only
      refine hK.out _ _ (fun _ => HW.out _ q0) ?_
      try clear hS
      clear hK
      have hS : (fun w' : World => w'.cell? ⟨w.heap.size, 0, none⟩ = some (.int .i64 t.kind) ∧ w'.cell? ⟨w.heap.size, 1, none⟩ = some (.slice an t.names.length cn) ∧ w'.cell? ⟨w.heap.size, 2, none⟩ = some (.slice al t.l.length cl) ∧ w'.cell? ⟨w.heap.size, 3, none⟩ = some (.int .i64 t.r) ∧ w'.cell? ⟨w.heap.size + 1, 0, none⟩ = some (.string (strOfNums s.name)) ∧ w'.cell? ⟨w.heap.size + 1, 1, none⟩ = some (.slice ap s.p.length cp) ∧ w'.cell? ⟨w.heap.size + 1, 2, none⟩ = some (.slice aq s.t.length cq) ∧ w'.cell? ⟨w.heap.size + 1, 3, none⟩ = some (.int .i64 s.r.kind) ∧ w'.cell? ⟨w.heap.size + 1, 4, none⟩ = some (.slice bn s.r.names.length dn) ∧ w'.cell? ⟨w.heap.size + 1, 5, none⟩ = some (.slice bl s.r.l.length dl) ∧ w'.cell? ⟨w.heap.size + 1, 6, none⟩ = some (.int .i64 s.r.r)) _ := HW.out _ q0
      refine anyU_take (i := 19) (.bool true) rfl (by decide) (by kernel_rfl) (by kernel_rfl) (by kernel_rfl) (by kernel_rfl) (fun _ _ _ h => h) (Or.inl ⟨by kernel_rfl, fun W hW => by obtain ⟨z0, z1, z2, z3, z4, z5, z6, z7, z8, z9, z10⟩ := hW; go_simp⟩) hS ?_
      try simp only [Act.put, List.setIfInBounds_toArray, List.set_cons_zero, List.set_cons_succ]
      refine anyU_one (i := 21) (by kernel_rfl) rfl (fun K hK => ?_)
      go_simp
      refine (HMS.out _ q0).mono ?_
      rintro y w1 ⟨rfl, k1⟩
      replace q0 := q0.trans k1
      clear k1
      dsimp only
      refine hK.out _ _ (fun _ => HW.out _ q0) ?_
      try clear hS
      clear hK
      have hS : (fun w' : World => w'.cell? ⟨w.heap.size, 0, none⟩ = some (.int .i64 t.kind) ∧ w'.cell? ⟨w.heap.size, 1, none⟩ = some (.slice an t.names.length cn) ∧ w'.cell? ⟨w.heap.size, 2, none⟩ = some (.slice al t.l.length cl) ∧ w'.cell? ⟨w.heap.size, 3, none⟩ = some (.int .i64 t.r) ∧ w'.cell? ⟨w.heap.size + 1, 0, none⟩ = some (.string (strOfNums s.name)) ∧ w'.cell? ⟨w.heap.size + 1, 1, none⟩ = some (.slice ap s.p.length cp) ∧ w'.cell? ⟨w.heap.size + 1, 2, none⟩ = some (.slice aq s.t.length cq) ∧ w'.cell? ⟨w.heap.size + 1, 3, none⟩ = some (.int .i64 s.r.kind) ∧ w'.cell? ⟨w.heap.size + 1, 4, none⟩ = some (.slice bn s.r.names.length dn) ∧ w'.cell? ⟨w.heap.size + 1, 5, none⟩ = some (.slice bl s.r.l.length dl) ∧ w'.cell? ⟨w.heap.size + 1, 6, none⟩ = some (.int .i64 s.r.r)) _ := HW.out _ q0
      refine anyU_take (i := 22) (.bool true) rfl (by decide) (by kernel_rfl) (by kernel_rfl) (by kernel_rfl) (by kernel_rfl) (fun _ _ _ h => h) (Or.inl ⟨by kernel_rfl, fun W hW => by obtain ⟨z0, z1, z2, z3, z4, z5, z6, z7, z8, z9, z10⟩ := hW; go_simp⟩) hS ?_
      try simp only [Act.put, List.setIfInBounds_toArray, List.set_cons_zero, List.set_cons_succ]
      refine anyU_take (i := 23) (.bool true) rfl (by decide) (by kernel_rfl) (by kernel_rfl) (by kernel_rfl) (by kernel_rfl) (fun _ _ _ h => h) (Or.inl ⟨by kernel_rfl, fun W hW => by obtain ⟨z0, z1, z2, z3, z4, z5, z6, z7, z8, z9, z10⟩ := hW; go_simp⟩) hS ?_
      try simp only [Act.put, List.setIfInBounds_toArray, List.set_cons_zero, List.set_cons_succ]
      refine anyU_take (i := 24) (.bool true) rfl (by decide) (by kernel_rfl) (by kernel_rfl) (by kernel_rfl) (by kernel_rfl) (fun _ _ _ h => h) (Or.inl ⟨by kernel_rfl, fun W hW => by obtain ⟨z0, z1, z2, z3, z4, z5, z6, z7, z8, z9, z10⟩ := hW; go_simp⟩) hS ?_
      try simp only [Act.put, List.setIfInBounds_toArray, List.set_cons_zero, List.set_cons_succ]
      refine anyU_one (i := 25) (by kernel_rfl) rfl (fun K hK => ?_)
      go_simp
      refine (HAW.out _).mono ?_
      rintro y w1 ⟨rfl, k1⟩
      replace q0 := q0.trans k1
      clear k1
      dsimp only
      refine hK.out _ _ (fun _ => HW.out _ q0) ?_
      try clear hS
      clear hK
      have hS : (fun w' : World => w'.cell? ⟨w.heap.size, 0, none⟩ = some (.int .i64 t.kind) ∧ w'.cell? ⟨w.heap.size, 1, none⟩ = some (.slice an t.names.length cn) ∧ w'.cell? ⟨w.heap.size, 2, none⟩ = some (.slice al t.l.length cl) ∧ w'.cell? ⟨w.heap.size, 3, none⟩ = some (.int .i64 t.r) ∧ w'.cell? ⟨w.heap.size + 1, 0, none⟩ = some (.string (strOfNums s.name)) ∧ w'.cell? ⟨w.heap.size + 1, 1, none⟩ = some (.slice ap s.p.length cp) ∧ w'.cell? ⟨w.heap.size + 1, 2, none⟩ = some (.slice aq s.t.length cq) ∧ w'.cell? ⟨w.heap.size + 1, 3, none⟩ = some (.int .i64 s.r.kind) ∧ w'.cell? ⟨w.heap.size + 1, 4, none⟩ = some (.slice bn s.r.names.length dn) ∧ w'.cell? ⟨w.heap.size + 1, 5, none⟩ = some (.slice bl s.r.l.length dl) ∧ w'.cell? ⟨w.heap.size + 1, 6, none⟩ = some (.int .i64 s.r.r)) _ := HW.out _ q0
      refine anyU_take (i := 26) (.bool true) rfl (by decide) (by kernel_rfl) (by kernel_rfl) (by kernel_rfl) (by kernel_rfl) (fun _ _ _ h => h) (Or.inl ⟨by kernel_rfl, fun W hW => by obtain ⟨z0, z1, z2, z3, z4, z5, z6, z7, z8, z9, z10⟩ := hW; go_simp⟩) hS ?_
      try simp only [Act.put, List.setIfInBounds_toArray, List.set_cons_zero, List.set_cons_succ]
      refine anyU_one (i := 27) (by kernel_rfl) rfl (fun K hK => ?_)
      go_simp
      refine hK.out _ _ (fun q => absurd q (by decide)) ?_
      clear hK
      refine anyU_done (by kernel_rfl) (NoPanic.normal ?_)
      go_wp2_with fail
      go_ret
      exact ⟨rfl, HQ.out.trans q0⟩
end Go.Proofs.YtcfakaglmlfkpaaDoor
