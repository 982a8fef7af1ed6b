/- ctype: how a type lies. -/
import Derived.Test.YtlkbgdhlbdjbiaaDoorCtR
set_option linter.unusedVariables false
set_option linter.unusedSimpArgs false
namespace Go.Proofs.YtlkbgdhlbdjbiaaDoor
open Go.RowKit
open Lex Ct

theorem fld_ty (kd : Int) (vn : Value) (a : Option Addr) (m c : Nat) (r : Int) : ∀ w : World, (Instr.field 25 (.agg #[.int .i64 kd, vn, .slice a m c, .int .i64 r]) 2).run Tryd.prog w = .ok (.slice a m c) w := fun _ => by kernel_rfl
set_option maxRecDepth 100000 in
set_option maxHeartbeats 8000000 in
theorem lies_const (t : Ty) (an : Option Addr) (cn : Nat) (al : Option Addr) (cl : Nat) (k : Nat) (w : World) (hk : t.kind = 0 ∨ t.kind = 1 ∨ t.kind = 2 ∨ t.kind = 3 ∨ t.kind = 4 ∨ t.kind = 5 ∨ t.kind = 8 ∨ t.kind = 9 ∨ t.kind = 11 ∨ t.kind = 12) :
    Calls Tryd.prog 32 #[tyV t an cn al cl] w fun y w' => y = .returned (cV (lieK (k + 1) t)) ∧ Kept (fun _ => False) w w' := by
  cases t with
  | mk kd n l r =>
    have hk' : kd = 0 ∨ kd = 1 ∨ kd = 2 ∨ kd = 3 ∨ kd = 4 ∨ kd = 5 ∨ kd = 8 ∨ kd = 9 ∨ kd = 11 ∨ kd = 12 := hk
    clear hk
    show Calls _ _ #[.agg #[.int .i64 kd, .slice an n.length cn, .slice al l.length cl, .int .i64 r]] _ _
    rcases hk' with rfl | rfl | rfl | rfl | rfl | rfl | rfl | rfl | rfl | rfl
    · rw [show lieK (k + 1) (.mk 0 n l r) = (0, 1) from rfl, cV_01]
      go_enter Tryd.func32, Tryd.ntmps32
      go_wp2_with fail
      go_ret
      exact ⟨rfl, (Kept.refl _ _).new _⟩
    · rw [show lieK (k + 1) (.mk 1 n l r) = (1, 1) from rfl, cV_11]
      go_enter Tryd.func32, Tryd.ntmps32
      go_wp2_with fail
      go_ret
      exact ⟨rfl, (Kept.refl _ _).new _⟩
    · rw [show lieK (k + 1) (.mk 2 n l r) = (1, 1) from rfl, cV_11]
      go_enter Tryd.func32, Tryd.ntmps32
      go_wp2_with fail
      go_ret
      exact ⟨rfl, (Kept.refl _ _).new _⟩
    · rw [show lieK (k + 1) (.mk 3 n l r) = (1, 1) from rfl, cV_11]
      go_enter Tryd.func32, Tryd.ntmps32
      go_wp2_with fail
      go_ret
      exact ⟨rfl, (Kept.refl _ _).new _⟩
    · rw [show lieK (k + 1) (.mk 4 n l r) = (2, 2) from rfl, cV_22]
      go_enter Tryd.func32, Tryd.ntmps32
      go_wp2_with fail
      go_ret
      exact ⟨rfl, (Kept.refl _ _).new _⟩
    · rw [show lieK (k + 1) (.mk 5 n l r) = (2, 2) from rfl, cV_22]
      go_enter Tryd.func32, Tryd.ntmps32
      go_wp2_with fail
      go_ret
      exact ⟨rfl, (Kept.refl _ _).new _⟩
    · rw [show lieK (k + 1) (.mk 8 n l r) = (8, 8) from rfl, cV_88]
      go_enter Tryd.func32, Tryd.ntmps32
      go_wp2_with fail
      go_ret
      exact ⟨rfl, (Kept.refl _ _).new _⟩
    · rw [show lieK (k + 1) (.mk 9 n l r) = (8, 8) from rfl, cV_88]
      go_enter Tryd.func32, Tryd.ntmps32
      go_wp2_with fail
      go_ret
      exact ⟨rfl, (Kept.refl _ _).new _⟩
    · rw [show lieK (k + 1) (.mk 11 n l r) = (8, 4) from rfl, cV_84]
      go_enter Tryd.func32, Tryd.ntmps32
      go_wp2_with fail
      go_ret
      exact ⟨rfl, (Kept.refl _ _).new _⟩
    · rw [show lieK (k + 1) (.mk 12 n l r) = (8, 4) from rfl, cV_84]
      go_enter Tryd.func32, Tryd.ntmps32
      go_wp2_with fail
      go_ret
      exact ⟨rfl, (Kept.refl _ _).new _⟩
set_option maxRecDepth 100000 in
set_option maxHeartbeats 8000000 in
theorem lies_rest (kd : Int) (n : List Nm) (l : List Ty) (r : Int) (an : Option Addr) (cn : Nat) (al : Option Addr) (cl : Nat) (k : Nat) (w : World)
    (hk : kd ≠ 0 ∧ kd ≠ 1 ∧ kd ≠ 2 ∧ kd ≠ 3 ∧ kd ≠ 4 ∧ kd ≠ 5 ∧ kd ≠ 8 ∧ kd ≠ 9 ∧ kd ≠ 11 ∧ kd ≠ 12 ∧ kd ≠ 19 ∧ kd ≠ 13 ∧ kd ≠ 14 ∧ kd ≠ 15 ∧ kd ≠ 16 ∧ kd ≠ 17 ∧ kd ≠ 18) :
    Calls Tryd.prog 32 #[.agg #[.int .i64 kd, .slice an n.length cn, .slice al l.length cl, .int .i64 r]] w fun y w' => y = .returned (cV (4, 4)) ∧ Kept (fun _ => False) w w' := by
  rw [cV_44]
  obtain ⟨h0, h1, h2, h3, h4, h5, h8, h9, h11, h12, h19, h13, h14, h15, h16, h17, h18⟩ := hk
  have b0 : (kd == 0) = false := by simpa using h0
  have b1 : (kd == 1) = false := by simpa using h1
  have b2 : (kd == 2) = false := by simpa using h2
  have b3 : (kd == 3) = false := by simpa using h3
  have b4 : (kd == 4) = false := by simpa using h4
  have b5 : (kd == 5) = false := by simpa using h5
  have b8 : (kd == 8) = false := by simpa using h8
  have b9 : (kd == 9) = false := by simpa using h9
  have b11 : (kd == 11) = false := by simpa using h11
  have b12 : (kd == 12) = false := by simpa using h12
  have b19 : (kd == 19) = false := by simpa using h19
  have b13 : (kd == 13) = false := by simpa using h13
  have b14 : (kd == 14) = false := by simpa using h14
  have b15 : (kd == 15) = false := by simpa using h15
  have b16 : (kd == 16) = false := by simpa using h16
  have b17 : (kd == 17) = false := by simpa using h17
  have b18 : (kd == 18) = false := by simpa using h18
  clear h0 h1 h2 h3 h4 h5 h8 h9 h11 h12 h19 h13 h14 h15 h16 h17 h18
  go_enter Tryd.func32, Tryd.ntmps32
  go_wp2_with fail
  go_ret
  exact ⟨rfl, (Kept.refl _ _).new _⟩
set_option maxRecDepth 100000 in
set_option maxHeartbeats 8000000 in
theorem lies_flags (n : List Nm) (l : List Ty) (r : Int) (an : Option Addr) (cn : Nat) (al : Option Addr) (cl : Nat) (w : World) :
    Calls Tryd.prog 32 #[.agg #[.int .i64 19, .slice an n.length cn, .slice al l.length cl, .int .i64 r]] w fun y w' => y = .returned (cV (flg n.length)) ∧ Kept (fun _ => False) w w' := by
  have HF := Lib.hid (rdFlagBytes n.length)
  go_enter Tryd.func32, Tryd.ntmps32
  go_wp2_with (first
    | (go_at_call 44; refine (HF.out _).mono ?_; rintro y w1 ⟨rfl, rfl⟩))
  go_ret
  exact ⟨rfl, (Kept.refl _ _).new _⟩
set_option maxRecDepth 100000 in
set_option maxHeartbeats 8000000 in
theorem lies_fields (kd : Int) (n : List Nm) (l : List Ty) (r : Int) (an : Option Addr) (cn : Nat) (al : Option Addr) (cl : Nat) (w : World) (hk : kd = 13 ∨ kd = 14) (pl : List Nat) (V : Nat × Nat)
    (HF : Hid (∀ w', Kept (fun _ => False) w w' → Calls Tryd.prog 33 #[.slice al l.length cl] w' (FieldsR pl V w'))) :
    Calls Tryd.prog 32 #[.agg #[.int .i64 kd, .slice an n.length cn, .slice al l.length cl, .int .i64 r]] w fun y w' => y = .returned (cV V) ∧ Kept (fun _ => False) w w' := by
  have k0 : Kept (fun _ => False) w (w.alloc (.cells #[.int .i64 kd, .slice an n.length cn, .slice al l.length cl, .int .i64 r] 25)) := (Kept.refl _ _).new _
  have HK := Lib.hid k0
  clear k0
  rcases hk with rfl | rfl
  all_goals
    go_enter Tryd.func32, Tryd.ntmps32
    go_wp2_with (first
      | (go_at_call 33; refine (HF.out _ HK.out).mono ?_; rintro y w1 ⟨v, rfl, _, k1⟩))
    go_ret
    exact ⟨rfl, HK.out.trans k1⟩
set_option maxRecDepth 100000 in
set_option maxHeartbeats 8000000 in
theorem lies_cases (kd : Int) (n : List Nm) (l : List Ty) (r : Int) (an : Option Addr) (cn : Nat) (al : Option Addr) (cl : Nat) (w : World) (hk : kd = 15 ∨ kd = 16 ∨ kd = 17 ∨ kd = 18) (x : Ty) (A : Nat) (V : Nat × Nat)
    (HP : Hid (∀ w', Kept (fun _ => False) w w' → Calls Tryd.prog 23 #[.agg #[.int .i64 kd, .slice an n.length cn, .slice al l.length cl, .int .i64 r]] w' (PlainR x w')))
    (HC : Hid (∀ w' aq cq, RowAt w' x.l aq cq → Calls Tryd.prog 34 #[.slice aq x.l.length cq] w' fun y w'' => y = .returned (.tuple #[.int .i64 (A : Int), cV V]) ∧ Kept (fun _ => False) w' w'')) :
    Calls Tryd.prog 32 #[.agg #[.int .i64 kd, .slice an n.length cn, .slice al l.length cl, .int .i64 r]] w fun y w' => y = .returned (cV V) ∧ Kept (fun _ => False) w w' := by
  have k0 : Kept (fun _ => False) w (w.alloc (.cells #[.int .i64 kd, .slice an n.length cn, .slice al l.length cl, .int .i64 r] 25)) := (Kept.refl _ _).new _
  have HK := Lib.hid k0
  clear k0
  rcases hk with rfl | rfl | rfl | rfl
  all_goals
    go_enter Tryd.func32, Tryd.ntmps32
    go_wp2_with (first
      | (go_at_call 34; refine (HC.out _ _ _ HT.out.row).mono ?_; rintro y w2 ⟨rfl, k2⟩)
      | (go_at_call 23; refine (HP.out _ HK.out).mono ?_; rintro y w1 ⟨ap, cp, aq, cq, rfl, ht, k1⟩; have HT := Lib.hid ht; have hfd := fld_ty x.kind (.slice ap x.names.length cp) aq x.l.length cq x.r; clear ht))
    go_ret
    exact ⟨rfl, (HK.out.trans k1).trans k2⟩
theorem csum_append (k : Nat) : ∀ (a b : List Ty), csum k (a ++ b) = csum k a + csum k b
  | [], b => by show csum k b = 0 + csum k b; omega
  | x :: r, b => by rw [List.cons_append, csum_cons, csum_cons, csum_append k r b, Nat.add_assoc]
theorem csum_take (k i : Nat) (l : List Ty) : csum k (l.take i) ≤ csum k l := by
  have := csum_append k (l.take i) (l.drop i)
  rw [List.take_append_drop] at this
  omega
/-- The fields of a type that may be looked into. -/
theorem fields_of (k : Nat) (HLie : LieAt k) (t : Ty) (al : Option Addr) (cl : Nat) (hf : Fit (k + 1) t) (h0 : t.kind = 13 ∨ t.kind = 14) (w : World) (h : RowAt w t.l al cl) :
    Calls Tryd.prog 33 #[.slice al t.l.length cl] w (FieldsR (fldS (lieK k) t.l).1 (fldV (lieK k) t.l) w) := by
  have hk0 : t.kind ≠ 0 := by omega
  have h5 := hf.cnt hk0
  rw [cntK_succ] at h5
  have hgd := fun l => fld_good (lieK_good k) l ([], 0, 1) 0 (.inl rfl) (Nat.zero_le _)
  refine rdFields k HLie t.l al cl w h (fun x hx => hf.child hk0 (by rw [plainL_l t h0]; exact hx)) (hgd t.l).1 (plainL_len hf hk0).2.2 fun i => ?_
  have h1 : (fldS (lieK k) (t.l.take i)).2.1 ≤ 15 * (0 + csum k (t.l.take i)) := (hgd (t.l.take i)).2
  have h2 := csum_take k i t.l
  omega
/-- The cases of a type that may be looked into, as it is plain. -/
theorem cases_of (k : Nat) (HLie : LieAt k) (t : Ty) (hf : Fit (k + 1) t) (hk0 : t.kind ≠ 0) (w : World) (aq : Option Addr) (cq : Nat) (h : RowAt w (plainT t).l aq cq) :
    Calls Tryd.prog 34 #[.slice aq (plainT t).l.length cq] w fun y w' => y = .returned (.tuple #[.int .i64 (casAt (lieK k) (plainL t) : Nat), cV (casV (lieK k) (plainL t))]) ∧ Kept (fun _ => False) w w' := by
  have h5 := hf.cnt hk0
  rw [cntK_succ] at h5
  have hp := csum_plain k t
  have hgd := cas_good (lieK_good k) (plainL t) (0, 1) 0 (.inl rfl) (.inl rfl)
  rw [plainT_l] at h ⊢
  refine rdCases k HLie (plainL t) aq cq w h (fun x hx => hf.child hk0 hx) hgd.1 ?_
  have h1 : casS (lieK k) (plainL t) = (0, 1) ∨ (casS (lieK k) (plainL t)).1 + 7 ≤ 15 * (0 + csum k (plainL t)) := hgd.2
  rcases h1 with h1 | h1
  · rw [h1]; omega
  · omega
theorem lie_zero : LieAt 0 := by
  intro t an cn al cl w h hf
  have h0 : t.kind = 0 := hf.fit
  have := lies_const t an cn al cl 0 w (.inl h0)
  unfold lieK at this
  rw [if_pos h0] at this
  exact this
theorem lie_succ {k : Nat} (IH : LieAt k) : LieAt (k + 1) := by
  intro t an cn al cl w h hf
  by_cases hc : t.kind = 0 ∨ t.kind = 1 ∨ t.kind = 2 ∨ t.kind = 3 ∨ t.kind = 4 ∨ t.kind = 5 ∨ t.kind = 8 ∨ t.kind = 9 ∨ t.kind = 11 ∨ t.kind = 12
  · exact lies_const t an cn al cl k w hc
  · have hk0 : t.kind ≠ 0 := by omega
    by_cases h19 : t.kind = 19
    · have e : lieK (k + 1) t = flg t.names.length := by
        unfold lieK
        rw [if_neg (by omega), if_neg (by omega), if_neg (by omega), if_neg (by omega), if_neg (by omega), if_pos h19]
      rw [e]
      have := lies_flags t.names t.l t.r an cn al cl w
      rw [← h19] at this
      exact this
    · by_cases hfd : t.kind = 13 ∨ t.kind = 14
      · have e : lieK (k + 1) t = fldV (lieK k) t.l := by
          unfold lieK
          rw [if_neg (by omega), if_neg (by omega), if_neg (by omega), if_neg (by omega), if_neg (by omega), if_neg (by omega), if_pos hfd]
        rw [e]
        exact lies_fields t.kind t.names t.l t.r an cn al cl w hfd _ _ (Lib.hid fun w' k' => fields_of k IH t al cl hf hfd w' (h.kept k').row)
      · by_cases hcs : t.kind = 15 ∨ t.kind = 16 ∨ t.kind = 17 ∨ t.kind = 18
        · have e : lieK (k + 1) t = casV (lieK k) (plainL t) := by
            unfold lieK
            rw [if_neg (by omega), if_neg (by omega), if_neg (by omega), if_neg (by omega), if_neg (by omega), if_neg (by omega), if_neg (by omega), if_pos hcs]
          rw [e]
          exact lies_cases t.kind t.names t.l t.r an cn al cl w hcs (plainT t) (casAt (lieK k) (plainL t)) _
            (Lib.hid fun w' k' => rdPlain t an cn al cl w' (h.kept k') (by omega) (plainL_len hf hk0).2.1)
            (Lib.hid fun w' aq cq hr => cases_of k IH t hf hk0 w' aq cq hr)
        · have e : lieK (k + 1) t = (4, 4) := by
            unfold lieK
            rw [if_neg (by omega), if_neg (by omega), if_neg (by omega), if_neg (by omega), if_neg (by omega), if_neg (by omega), if_neg (by omega), if_neg (by omega)]
          rw [e]
          exact lies_rest t.kind t.names t.l t.r an cn al cl k w (by omega)
theorem lie_all : ∀ k, LieAt k
  | 0 => lie_zero
  | k + 1 => lie_succ (lie_all k)
theorem okT_fit {t : Ty} (h : okT t = true) : Fit 16 t := ⟨deepK_fit (okT_deep h).1, fun _ => (okT_deep h).2⟩
set_option maxRecDepth 100000 in
set_option maxHeartbeats 4000000 in
/-- SIZE, and ALIGN. -/
theorem rdSize (t : Ty) (an : Option Addr) (cn : Nat) (al : Option Addr) (cl : Nat) (w : World) (h : TyAt w t an cn al cl) (hf : FineT t) :
    Calls Tryd.prog 14 #[tyV t an cn al cl] w fun y w' => y = .returned (.int .i64 (if okT t = true then (lieK 16 t).1 else 0 : Nat)) ∧ Kept (fun _ => False) w w' := by
  have k0 : Kept (fun _ => False) w (w.alloc (.cells #[.int .i64 t.kind, .slice an t.names.length cn, .slice al t.l.length cl, .int .i64 t.r] 25)) := (Kept.refl _ _).new _
  have T0 := BlkAt.new w #[.int .i64 t.kind, .slice an t.names.length cn, .slice al t.l.length cl, .int .i64 t.r] 25
  have HK := Lib.hid k0
  have HT := Lib.hid T0
  clear k0 T0
  cases ho : okT t
  · have HC := Lib.hid (fun w' k' => rdCheck_no t an cn al cl w' (h.kept k') hf ho)
    rw [if_neg (by decide)]
    clear h hf ho
    go_enter Tryd.func14, Tryd.ntmps14
    go_wp2_with (first
      | (go_at_call 28; refine (HC.out _ HK.out).mono ?_; rintro y w1 ⟨rfl, k1⟩))
    go_ret
    exact ⟨rfl, HK.out.trans k1⟩
  · have HC := Lib.hid (fun w' k' => rdCheck_ok t an cn al cl w' (h.kept k') hf ho)
    have hft := okT_fit ho
    have HL := Lib.hid (fun w' k' => lie_all 16 t an cn al cl w' (h.kept k') hft)
    have hre := conv_back (lie_small hft).1
    rw [if_pos rfl]
    clear h hf ho hft
    revert HL hre
    generalize lieK 16 t = p
    obtain ⟨p1, p2⟩ := p
    intro HL hre
    unfold cV at HL
    simp only at HL hre ⊢
    revert HL hre
    generalize flt p1 = f1
    generalize flt p2 = f2
    intro HL hre
    go_enter Tryd.func14, Tryd.ntmps14
    go_wp2_with (first
      | (go_at_call 32; refine (HL.out _ (HK.out.trans k1)).mono ?_; rintro y w2 ⟨rfl, k2⟩)
      | (go_at_call 28; refine (HC.out _ HK.out).mono ?_; rintro y w1 ⟨rfl, k1⟩; have T1 := HT.out.kept (F := fun _ => False) k1 id; obtain ⟨t0, t1, t2, t3⟩ := boxT_cells T1))
    go_ret
    exact ⟨rfl, (HK.out.trans k1).trans k2⟩
set_option maxRecDepth 100000 in
set_option maxHeartbeats 4000000 in
theorem rdAlign (t : Ty) (an : Option Addr) (cn : Nat) (al : Option Addr) (cl : Nat) (w : World) (h : TyAt w t an cn al cl) (hf : FineT t) :
    Calls Tryd.prog 16 #[tyV t an cn al cl] w fun y w' => y = .returned (.int .i64 (if okT t = true then (lieK 16 t).2 else 0 : Nat)) ∧ Kept (fun _ => False) w w' := by
  have k0 : Kept (fun _ => False) w (w.alloc (.cells #[.int .i64 t.kind, .slice an t.names.length cn, .slice al t.l.length cl, .int .i64 t.r] 25)) := (Kept.refl _ _).new _
  have T0 := BlkAt.new w #[.int .i64 t.kind, .slice an t.names.length cn, .slice al t.l.length cl, .int .i64 t.r] 25
  have HK := Lib.hid k0
  have HT := Lib.hid T0
  clear k0 T0
  cases ho : okT t
  · have HC := Lib.hid (fun w' k' => rdCheck_no t an cn al cl w' (h.kept k') hf ho)
    rw [if_neg (by decide)]
    clear h hf ho
    go_enter Tryd.func16, Tryd.ntmps16
    go_wp2_with (first
      | (go_at_call 28; refine (HC.out _ HK.out).mono ?_; rintro y w1 ⟨rfl, k1⟩))
    go_ret
    exact ⟨rfl, HK.out.trans k1⟩
  · have HC := Lib.hid (fun w' k' => rdCheck_ok t an cn al cl w' (h.kept k') hf ho)
    have hft := okT_fit ho
    have HL := Lib.hid (fun w' k' => lie_all 16 t an cn al cl w' (h.kept k') hft)
    have hre := conv_back (lie_small hft).2.2
    rw [if_pos rfl]
    clear h hf ho hft
    revert HL hre
    generalize lieK 16 t = p
    obtain ⟨p1, p2⟩ := p
    intro HL hre
    unfold cV at HL
    simp only at HL hre ⊢
    revert HL hre
    generalize flt p1 = f1
    generalize flt p2 = f2
    intro HL hre
    go_enter Tryd.func16, Tryd.ntmps16
    go_wp2_with (first
      | (go_at_call 32; refine (HL.out _ (HK.out.trans k1)).mono ?_; rintro y w2 ⟨rfl, k2⟩)
      | (go_at_call 28; refine (HC.out _ HK.out).mono ?_; rintro y w1 ⟨rfl, k1⟩; have T1 := HT.out.kept (F := fun _ => False) k1 id; obtain ⟨t0, t1, t2, t3⟩ := boxT_cells T1))
    go_ret
    exact ⟨rfl, (HK.out.trans k1).trans k2⟩
end Go.Proofs.YtlkbgdhlbdjbiaaDoor
