/- value: the reference's Inside. -/
import Derived.Test.YtikgkjkgdlnekaaGreatDoorVbI
import Derived.Test.YtikgkjkgdlnekaaGreatDoorCtGG
import Derived.Test.YtikgkjkgdlnekaaGreatDoorKitI
import Derived.Deep.RegionHeld3
set_option linter.unusedVariables false
set_option linter.unusedSimpArgs false
namespace Go.Proofs.YtikgkjkgdlnekaaGreatDoor
open Go.RowKit
open Lex Ct

/-- THE REFERENCE'S PLAIN, of a type that may be. -/
theorem rdRefPlainD (kk : Nat) (t : Ty) (ho : deepK (kk + 1) t = true) (hn : t.names.length ≤ 64) (hl : t.l.length ≤ 64) (an : Option Addr) (cn : Nat) (al : Option Addr) (cl : Nat) (w : World) (h : TyAt w t an cn al cl) :
    Calls Tryz.prog 39 #[tyV t an cn al cl] w (PlainR (plainT t) w) := by
  have hw := deep_shape ho
  cases t with
  | mk k n l r =>
    have hn : n.length ≤ 64 := hn
    have hl : l.length ≤ 64 := hl
    by_cases h14 : k = 14
    · subst h14
      have := rp_14 n l r an cn al cl w h hl
      rw [show plainT (.mk 14 n l r) = .mk 13 ((List.range l.length).map digs) l 0 from if_pos rfl]
      exact this
    by_cases h16 : k = 16
    · subst h16
      have := rp_16 n l r an cn al cl w h hn
      rw [show plainT (.mk 16 n l r) = .mk 15 n (List.replicate n.length .zero) 0 from (if_neg (fun q => absurd (show (16 : Int) = 14 from q) (by decide))).trans (if_pos rfl)]
      exact this
    by_cases h17 : k = 17
    · subst h17
      have hl1 : l.length = 1 := by
        simp [okW] at hw
        exact hw.2
      obtain ⟨x, rfl⟩ := List.length_eq_one_iff.1 hl1
      have := rp_17 n x r an cn al cl w h
      rw [show plainT (.mk 17 n [x] r) = .mk 15 [nmNone, nmSome] [.zero, x] 0 from (if_neg (fun q => absurd (show (17 : Int) = 14 from q) (by decide))).trans ((if_neg (fun q => absurd (show (17 : Int) = 16 from q) (by decide))).trans (if_pos ⟨rfl, rfl⟩))]
      exact this
    by_cases h18 : k = 18
    · subst h18
      have hl2 : l.length = 2 := by
        simp [okW] at hw
        exact hw.2
      have := rp_18 n l r an cn al cl w h
      rw [show plainT (.mk 18 n l r) = .mk 15 [nmOk, nmError] l 0 from (if_neg (fun q => absurd (show (18 : Int) = 14 from q) (by decide))).trans ((if_neg (fun q => absurd (show (18 : Int) = 16 from q) (by decide))).trans ((if_neg (fun q => absurd (show (18 : Int) = 17 from q.1) (by decide))).trans (if_pos ⟨rfl, hl2⟩)))]
      exact this
    have e : plainT (.mk k n l r) = .mk k n l r := (if_neg h14).trans ((if_neg h16).trans ((if_neg (fun q => h17 q.1)).trans (if_neg (fun q => h18 q.1))))
    rw [e]
    exact rp_same (.mk k n l r) an cn al cl w h (beq_eq_false_iff_ne.2 h14) (beq_eq_false_iff_ne.2 h16) (beq_eq_false_iff_ne.2 h17) (beq_eq_false_iff_ne.2 h18)

def InsR (o : Option (List Ty)) (w : World) (y : Ending) (w' : World) : Prop := ∃ (ts : List Ty) (a : Option Addr) (cap : Nat) (b : Bool), y = .returned (.tuple #[.slice a ts.length cap, .bool b]) ∧ RowAt w' ts a cap ∧ (o = none → b = false) ∧ (∀ l, o = some l → b = true ∧ ts = l) ∧ Kept (fun _ => False) w w'
theorem rowAt_nil (w : World) : RowAt w [] none 0 := ⟨liesU_nil _ _⟩
theorem insR_some {w w' : World} {ts : List Ty} {a : Option Addr} {cap : Nat} (h : RowAt w' ts a cap) (k : Kept (fun _ => False) w w') : InsR (some ts) w (.returned (.tuple #[.slice a ts.length cap, .bool true])) w' := ⟨ts, a, cap, true, rfl, h, (fun e => by cases e), (fun l e => ⟨rfl, Option.some.inj e⟩), k⟩
theorem insR_none {w w' : World} {ts : List Ty} {a : Option Addr} {cap : Nat} (h : RowAt w' ts a cap) (k : Kept (fun _ => False) w w') : InsR none w (.returned (.tuple #[.slice a ts.length cap, .bool false])) w' := ⟨ts, a, cap, false, rfl, h, (fun _ => rfl), (fun l e => by cases e), k⟩
set_option maxRecDepth 100000 in
set_option maxHeartbeats 4000000 in
theorem ins_13n (names : List Nm) (l : List Ty) (r : Int) (an : Option Addr) (cn : Nat) (al : Option Addr) (cl : Nat) (n : Int) (s : List Int) (vl : List Vl) (sa : Option Addr) (sc : Nat) (av : Option Addr) (cv : Nat) (w : World) (h : RowAt w l al cl) (hn : (n == 0) = false) :
    Calls Tryz.prog 21 #[.agg #[.int .i64 13, .slice an names.length cn, .slice al l.length cl, .int .i64 r], .agg #[.int .i64 n, .slice sa s.length sc, .slice av vl.length cv]] w (InsR none w) := by
  have HR := Lib.hid h
  have HK0 := Lib.hid (((Kept.refl (fun _ => False) w).new (.cells #[.int .i64 13, .slice an names.length cn, .slice al l.length cl, .int .i64 r] 25)).new (.cells #[.int .i64 n, .slice sa s.length sc, .slice av vl.length cv] 29))
  clear h
  go_enter Tryz.func21, Tryz.ntmps21
  go_wp2_with fail
  go_quiet (fail)
  go_wp2
  exact bodyPost_ret (v := .tuple #[.slice al l.length cl, .bool false]) (by simp [results, Tryz.results21, go_sem]) rfl (insR_none (HR.out.kept (HK0.out.trans (Kept.of_below (below_drewN (Below.refl _ _) _)))) (HK0.out.trans (Kept.of_below (below_drewN (Below.refl _ _) _))))
set_option maxRecDepth 100000 in
set_option maxHeartbeats 4000000 in
theorem ins_13e (names : List Nm) (l : List Ty) (r : Int) (an : Option Addr) (cn : Nat) (al : Option Addr) (cl : Nat) (n : Int) (s : List Int) (vl : List Vl) (sa : Option Addr) (sc : Nat) (av : Option Addr) (cv : Nat) (w : World) (h : RowAt w l al cl) (hn : (n == 0) = true) (he : ((vl.length : Int) == (l.length : Int)) = true) :
    Calls Tryz.prog 21 #[.agg #[.int .i64 13, .slice an names.length cn, .slice al l.length cl, .int .i64 r], .agg #[.int .i64 n, .slice sa s.length sc, .slice av vl.length cv]] w (InsR (some l) w) := by
  have HR := Lib.hid h
  have HK0 := Lib.hid (((Kept.refl (fun _ => False) w).new (.cells #[.int .i64 13, .slice an names.length cn, .slice al l.length cl, .int .i64 r] 25)).new (.cells #[.int .i64 n, .slice sa s.length sc, .slice av vl.length cv] 29))
  clear h
  go_enter Tryz.func21, Tryz.ntmps21
  go_wp2_with fail
  go_quiet (fail)
  go_wp2
  exact bodyPost_ret (v := .tuple #[.slice al l.length cl, .bool true]) (by simp [results, Tryz.results21, go_sem]) rfl (insR_some (HR.out.kept (HK0.out.trans (Kept.of_below (below_drewN (Below.refl _ _) _)))) (HK0.out.trans (Kept.of_below (below_drewN (Below.refl _ _) _))))
set_option maxRecDepth 100000 in
set_option maxHeartbeats 4000000 in
theorem ins_13x (names : List Nm) (l : List Ty) (r : Int) (an : Option Addr) (cn : Nat) (al : Option Addr) (cl : Nat) (n : Int) (s : List Int) (vl : List Vl) (sa : Option Addr) (sc : Nat) (av : Option Addr) (cv : Nat) (w : World) (h : RowAt w l al cl) (hn : (n == 0) = true) (he : ((vl.length : Int) == (l.length : Int)) = false) :
    Calls Tryz.prog 21 #[.agg #[.int .i64 13, .slice an names.length cn, .slice al l.length cl, .int .i64 r], .agg #[.int .i64 n, .slice sa s.length sc, .slice av vl.length cv]] w (InsR none w) := by
  have HR := Lib.hid h
  have HK0 := Lib.hid (((Kept.refl (fun _ => False) w).new (.cells #[.int .i64 13, .slice an names.length cn, .slice al l.length cl, .int .i64 r] 25)).new (.cells #[.int .i64 n, .slice sa s.length sc, .slice av vl.length cv] 29))
  clear h
  go_enter Tryz.func21, Tryz.ntmps21
  go_wp2_with fail
  go_quiet (fail)
  go_wp2
  exact bodyPost_ret (v := .tuple #[.slice al l.length cl, .bool false]) (by simp [results, Tryz.results21, go_sem]) rfl (insR_none (HR.out.kept (HK0.out.trans (Kept.of_below (below_drewN (Below.refl _ _) _)))) (HK0.out.trans (Kept.of_below (below_drewN (Below.refl _ _) _))))
set_option maxRecDepth 100000 in
set_option maxHeartbeats 4000000 in
theorem ins_14n (names : List Nm) (l : List Ty) (r : Int) (an : Option Addr) (cn : Nat) (al : Option Addr) (cl : Nat) (n : Int) (s : List Int) (vl : List Vl) (sa : Option Addr) (sc : Nat) (av : Option Addr) (cv : Nat) (w : World) (h : RowAt w l al cl) (hn : (n == 0) = false) :
    Calls Tryz.prog 21 #[.agg #[.int .i64 14, .slice an names.length cn, .slice al l.length cl, .int .i64 r], .agg #[.int .i64 n, .slice sa s.length sc, .slice av vl.length cv]] w (InsR none w) := by
  have HR := Lib.hid h
  have HK0 := Lib.hid (((Kept.refl (fun _ => False) w).new (.cells #[.int .i64 14, .slice an names.length cn, .slice al l.length cl, .int .i64 r] 25)).new (.cells #[.int .i64 n, .slice sa s.length sc, .slice av vl.length cv] 29))
  clear h
  go_enter Tryz.func21, Tryz.ntmps21
  go_wp2_with fail
  go_quiet (fail)
  go_wp2
  exact bodyPost_ret (v := .tuple #[.slice al l.length cl, .bool false]) (by simp [results, Tryz.results21, go_sem]) rfl (insR_none (HR.out.kept (HK0.out.trans (Kept.of_below (below_drewN (Below.refl _ _) _)))) (HK0.out.trans (Kept.of_below (below_drewN (Below.refl _ _) _))))
set_option maxRecDepth 100000 in
set_option maxHeartbeats 4000000 in
theorem ins_14e (names : List Nm) (l : List Ty) (r : Int) (an : Option Addr) (cn : Nat) (al : Option Addr) (cl : Nat) (n : Int) (s : List Int) (vl : List Vl) (sa : Option Addr) (sc : Nat) (av : Option Addr) (cv : Nat) (w : World) (h : RowAt w l al cl) (hn : (n == 0) = true) (he : ((vl.length : Int) == (l.length : Int)) = true) :
    Calls Tryz.prog 21 #[.agg #[.int .i64 14, .slice an names.length cn, .slice al l.length cl, .int .i64 r], .agg #[.int .i64 n, .slice sa s.length sc, .slice av vl.length cv]] w (InsR (some l) w) := by
  have HR := Lib.hid h
  have HK0 := Lib.hid (((Kept.refl (fun _ => False) w).new (.cells #[.int .i64 14, .slice an names.length cn, .slice al l.length cl, .int .i64 r] 25)).new (.cells #[.int .i64 n, .slice sa s.length sc, .slice av vl.length cv] 29))
  clear h
  go_enter Tryz.func21, Tryz.ntmps21
  go_wp2_with fail
  go_quiet (fail)
  go_wp2
  exact bodyPost_ret (v := .tuple #[.slice al l.length cl, .bool true]) (by simp [results, Tryz.results21, go_sem]) rfl (insR_some (HR.out.kept (HK0.out.trans (Kept.of_below (below_drewN (Below.refl _ _) _)))) (HK0.out.trans (Kept.of_below (below_drewN (Below.refl _ _) _))))
set_option maxRecDepth 100000 in
set_option maxHeartbeats 4000000 in
theorem ins_14x (names : List Nm) (l : List Ty) (r : Int) (an : Option Addr) (cn : Nat) (al : Option Addr) (cl : Nat) (n : Int) (s : List Int) (vl : List Vl) (sa : Option Addr) (sc : Nat) (av : Option Addr) (cv : Nat) (w : World) (h : RowAt w l al cl) (hn : (n == 0) = true) (he : ((vl.length : Int) == (l.length : Int)) = false) :
    Calls Tryz.prog 21 #[.agg #[.int .i64 14, .slice an names.length cn, .slice al l.length cl, .int .i64 r], .agg #[.int .i64 n, .slice sa s.length sc, .slice av vl.length cv]] w (InsR none w) := by
  have HR := Lib.hid h
  have HK0 := Lib.hid (((Kept.refl (fun _ => False) w).new (.cells #[.int .i64 14, .slice an names.length cn, .slice al l.length cl, .int .i64 r] 25)).new (.cells #[.int .i64 n, .slice sa s.length sc, .slice av vl.length cv] 29))
  clear h
  go_enter Tryz.func21, Tryz.ntmps21
  go_wp2_with fail
  go_quiet (fail)
  go_wp2
  exact bodyPost_ret (v := .tuple #[.slice al l.length cl, .bool false]) (by simp [results, Tryz.results21, go_sem]) rfl (insR_none (HR.out.kept (HK0.out.trans (Kept.of_below (below_drewN (Below.refl _ _) _)))) (HK0.out.trans (Kept.of_below (below_drewN (Below.refl _ _) _))))
set_option maxRecDepth 100000 in
set_option maxHeartbeats 4000000 in
theorem ins_rae (names : List Nm) (l : List Ty) (r : Int) (an : Option Addr) (cn : Nat) (al : Option Addr) (cl : Nat) (n : Int) (s : List Int) (vl : List Vl) (sa : Option Addr) (sc : Nat) (av : Option Addr) (cv : Nat) (w : World) (k : Int) (h12 : (k == 12) = false) (h13 : (k == 13) = false) (h14 : (k == 14) = false) (h15 : decide (k ≥ 15) = false) (he : (vl.length == 0) = true) :
    Calls Tryz.prog 21 #[.agg #[.int .i64 k, .slice an names.length cn, .slice al l.length cl, .int .i64 r], .agg #[.int .i64 n, .slice sa s.length sc, .slice av vl.length cv]] w (InsR (some []) w) := by
  have HK0 := Lib.hid (((Kept.refl (fun _ => False) w).new (.cells #[.int .i64 k, .slice an names.length cn, .slice al l.length cl, .int .i64 r] 25)).new (.cells #[.int .i64 n, .slice sa s.length sc, .slice av vl.length cv] 29))
  go_enter Tryz.func21, Tryz.ntmps21
  go_wp2_with fail
  go_quiet (fail)
  go_wp2
  exact bodyPost_ret (v := .tuple #[.slice none 0 0, .bool true]) (by simp [results, Tryz.results21, go_sem, (show vl = [] by simpa using he)]) rfl (insR_some (ts := []) (rowAt_nil _) (HK0.out.trans (Kept.of_below (below_drewN (Below.refl _ _) _))))
set_option maxRecDepth 100000 in
set_option maxHeartbeats 4000000 in
theorem ins_rax (names : List Nm) (l : List Ty) (r : Int) (an : Option Addr) (cn : Nat) (al : Option Addr) (cl : Nat) (n : Int) (s : List Int) (vl : List Vl) (sa : Option Addr) (sc : Nat) (av : Option Addr) (cv : Nat) (w : World) (k : Int) (h12 : (k == 12) = false) (h13 : (k == 13) = false) (h14 : (k == 14) = false) (h15 : decide (k ≥ 15) = false) (he : (vl.length == 0) = false) :
    Calls Tryz.prog 21 #[.agg #[.int .i64 k, .slice an names.length cn, .slice al l.length cl, .int .i64 r], .agg #[.int .i64 n, .slice sa s.length sc, .slice av vl.length cv]] w (InsR none w) := by
  have HK0 := Lib.hid (((Kept.refl (fun _ => False) w).new (.cells #[.int .i64 k, .slice an names.length cn, .slice al l.length cl, .int .i64 r] 25)).new (.cells #[.int .i64 n, .slice sa s.length sc, .slice av vl.length cv] 29))
  go_enter Tryz.func21, Tryz.ntmps21
  go_wp2_with fail
  go_quiet (fail)
  go_wp2
  exact bodyPost_ret (v := .tuple #[.slice none 0 0, .bool false]) (by simp [results, Tryz.results21, go_sem, (show ¬ vl = [] by simpa using he)]) rfl (insR_none (ts := []) (rowAt_nil _) (HK0.out.trans (Kept.of_below (below_drewN (Below.refl _ _) _))))
set_option maxRecDepth 100000 in
set_option maxHeartbeats 4000000 in
theorem ins_rbe (names : List Nm) (l : List Ty) (r : Int) (an : Option Addr) (cn : Nat) (al : Option Addr) (cl : Nat) (n : Int) (s : List Int) (vl : List Vl) (sa : Option Addr) (sc : Nat) (av : Option Addr) (cv : Nat) (w : World) (k : Int) (h12 : (k == 12) = false) (h13 : (k == 13) = false) (h14 : (k == 14) = false) (h15 : decide (k ≥ 15) = true) (h18 : decide (k ≤ 18) = false) (he : (vl.length == 0) = true) :
    Calls Tryz.prog 21 #[.agg #[.int .i64 k, .slice an names.length cn, .slice al l.length cl, .int .i64 r], .agg #[.int .i64 n, .slice sa s.length sc, .slice av vl.length cv]] w (InsR (some []) w) := by
  have HK0 := Lib.hid (((Kept.refl (fun _ => False) w).new (.cells #[.int .i64 k, .slice an names.length cn, .slice al l.length cl, .int .i64 r] 25)).new (.cells #[.int .i64 n, .slice sa s.length sc, .slice av vl.length cv] 29))
  go_enter Tryz.func21, Tryz.ntmps21
  go_wp2_with fail
  go_quiet (fail)
  go_wp2
  exact bodyPost_ret (v := .tuple #[.slice none 0 0, .bool true]) (by simp [results, Tryz.results21, go_sem, (show vl = [] by simpa using he)]) rfl (insR_some (ts := []) (rowAt_nil _) (HK0.out.trans (Kept.of_below (below_drewN (Below.refl _ _) _))))
set_option maxRecDepth 100000 in
set_option maxHeartbeats 4000000 in
theorem ins_rbx (names : List Nm) (l : List Ty) (r : Int) (an : Option Addr) (cn : Nat) (al : Option Addr) (cl : Nat) (n : Int) (s : List Int) (vl : List Vl) (sa : Option Addr) (sc : Nat) (av : Option Addr) (cv : Nat) (w : World) (k : Int) (h12 : (k == 12) = false) (h13 : (k == 13) = false) (h14 : (k == 14) = false) (h15 : decide (k ≥ 15) = true) (h18 : decide (k ≤ 18) = false) (he : (vl.length == 0) = false) :
    Calls Tryz.prog 21 #[.agg #[.int .i64 k, .slice an names.length cn, .slice al l.length cl, .int .i64 r], .agg #[.int .i64 n, .slice sa s.length sc, .slice av vl.length cv]] w (InsR none w) := by
  have HK0 := Lib.hid (((Kept.refl (fun _ => False) w).new (.cells #[.int .i64 k, .slice an names.length cn, .slice al l.length cl, .int .i64 r] 25)).new (.cells #[.int .i64 n, .slice sa s.length sc, .slice av vl.length cv] 29))
  go_enter Tryz.func21, Tryz.ntmps21
  go_wp2_with fail
  go_quiet (fail)
  go_wp2
  exact bodyPost_ret (v := .tuple #[.slice none 0 0, .bool false]) (by simp [results, Tryz.results21, go_sem, (show ¬ vl = [] by simpa using he)]) rfl (insR_none (ts := []) (rowAt_nil _) (HK0.out.trans (Kept.of_below (below_drewN (Below.refl _ _) _))))
set_option maxRecDepth 100000 in
set_option maxHeartbeats 8000000 in
theorem ins_v_neg (names : List Nm) (l : List Ty) (r : Int) (an : Option Addr) (cn : Nat) (al : Option Addr) (cl : Nat) (n : Int) (s : List Int) (vl : List Vl) (sa : Option Addr) (sc : Nat) (av : Option Addr) (cv : Nat) (w : World) (k : Int) (h12 : (k == 12) = false) (h13 : (k == 13) = false) (h14 : (k == 14) = false) (h15 : decide (k ≥ 15) = true) (h18 : decide (k ≤ 18) = true) (x : Ty) (HP : Hid (∀ w', Kept (fun _ => False) w w' → Calls Tryz.prog 39 #[.agg #[.int .i64 k, .slice an names.length cn, .slice al l.length cl, .int .i64 r]] w' (PlainR x w'))) (hn : decide (n < 0) = true) :
    Calls Tryz.prog 21 #[.agg #[.int .i64 k, .slice an names.length cn, .slice al l.length cl, .int .i64 r], .agg #[.int .i64 n, .slice sa s.length sc, .slice av vl.length cv]] w (InsR none w) := by
  have k0 : Kept (fun _ => False) w ((w.alloc (.cells #[.int .i64 k, .slice an names.length cn, .slice al l.length cl, .int .i64 r] 25)).alloc (.cells #[.int .i64 n, .slice sa s.length sc, .slice av vl.length cv] 29)) := ((Kept.refl _ _).new _).new _
  have HK := Lib.hid k0
  have V0 := BlkAt.new (w.alloc (.cells #[.int .i64 k, .slice an names.length cn, .slice al l.length cl, .int .i64 r] 25)) #[.int .i64 n, .slice sa s.length sc, .slice av vl.length cv] 29
  rw [World.size_alloc] at V0
  have HV := Lib.hid V0
  clear k0 V0
  go_enter Tryz.func21, Tryz.ntmps21
  go_wp2_with (first
    | (go_at_call 39
       refine (HP.out _ HK.out).mono ?_
       rintro yy w1 ⟨ap, cp, aq, cq, rfl, ht, k1⟩
       have HK1 := Lib.hid (HK.out.trans k1)
       have HT1 := Lib.hid ht
       have HV1 := Lib.hid (HV.out.kept (F := fun _ => False) k1 id)
       have g0 := cell_box (HV1.out.cell 0) (.cells #[.int .i64 x.kind, .slice ap x.names.length cp, .slice aq x.l.length cq, .int .i64 x.r] 25)
       have g2 := cell_box (HV1.out.cell 2) (.cells #[.int .i64 x.kind, .slice ap x.names.length cp, .slice aq x.l.length cq, .int .i64 x.r] 25)
       clear k1 ht))
  have kk := HK1.out.new (.cells #[.int .i64 x.kind, .slice ap x.names.length cp, .slice aq x.l.length cq, .int .i64 x.r] 25)
  exact bodyPost_ret (v := .tuple #[.slice none 0 0, .bool false]) (by simp [results, Tryz.results21, go_sem]) rfl (insR_none (ts := []) (rowAt_nil _) kk)
set_option maxRecDepth 100000 in
set_option maxHeartbeats 8000000 in
theorem ins_v_big (names : List Nm) (l : List Ty) (r : Int) (an : Option Addr) (cn : Nat) (al : Option Addr) (cl : Nat) (n : Int) (s : List Int) (vl : List Vl) (sa : Option Addr) (sc : Nat) (av : Option Addr) (cv : Nat) (w : World) (k : Int) (h12 : (k == 12) = false) (h13 : (k == 13) = false) (h14 : (k == 14) = false) (h15 : decide (k ≥ 15) = true) (h18 : decide (k ≤ 18) = true) (x : Ty) (HP : Hid (∀ w', Kept (fun _ => False) w w' → Calls Tryz.prog 39 #[.agg #[.int .i64 k, .slice an names.length cn, .slice al l.length cl, .int .i64 r]] w' (PlainR x w'))) (hn : decide (n < 0) = false) (hb : decide (n ≥ (x.l.length : Int)) = true) :
    Calls Tryz.prog 21 #[.agg #[.int .i64 k, .slice an names.length cn, .slice al l.length cl, .int .i64 r], .agg #[.int .i64 n, .slice sa s.length sc, .slice av vl.length cv]] w (InsR none w) := by
  have k0 : Kept (fun _ => False) w ((w.alloc (.cells #[.int .i64 k, .slice an names.length cn, .slice al l.length cl, .int .i64 r] 25)).alloc (.cells #[.int .i64 n, .slice sa s.length sc, .slice av vl.length cv] 29)) := ((Kept.refl _ _).new _).new _
  have HK := Lib.hid k0
  have V0 := BlkAt.new (w.alloc (.cells #[.int .i64 k, .slice an names.length cn, .slice al l.length cl, .int .i64 r] 25)) #[.int .i64 n, .slice sa s.length sc, .slice av vl.length cv] 29
  rw [World.size_alloc] at V0
  have HV := Lib.hid V0
  clear k0 V0
  go_enter Tryz.func21, Tryz.ntmps21
  go_wp2_with (first
    | (go_at_call 39
       refine (HP.out _ HK.out).mono ?_
       rintro yy w1 ⟨ap, cp, aq, cq, rfl, ht, k1⟩
       have HK1 := Lib.hid (HK.out.trans k1)
       have HT1 := Lib.hid ht
       have HV1 := Lib.hid (HV.out.kept (F := fun _ => False) k1 id)
       have g0 := cell_box (HV1.out.cell 0) (.cells #[.int .i64 x.kind, .slice ap x.names.length cp, .slice aq x.l.length cq, .int .i64 x.r] 25)
       have g2 := cell_box (HV1.out.cell 2) (.cells #[.int .i64 x.kind, .slice ap x.names.length cp, .slice aq x.l.length cq, .int .i64 x.r] 25)
       clear k1 ht))
  have kk := HK1.out.new (.cells #[.int .i64 x.kind, .slice ap x.names.length cp, .slice aq x.l.length cq, .int .i64 x.r] 25)
  exact bodyPost_ret (v := .tuple #[.slice none 0 0, .bool false]) (by simp [results, Tryz.results21, go_sem]) rfl (insR_none (ts := []) (rowAt_nil _) kk)
set_option maxRecDepth 100000 in
set_option maxHeartbeats 8000000 in
theorem ins_v0e (names : List Nm) (l : List Ty) (r : Int) (an : Option Addr) (cn : Nat) (al : Option Addr) (cl : Nat) (n : Int) (s : List Int) (vl : List Vl) (sa : Option Addr) (sc : Nat) (av : Option Addr) (cv : Nat) (w : World) (k : Int) (h12 : (k == 12) = false) (h13 : (k == 13) = false) (h14 : (k == 14) = false) (h15 : decide (k ≥ 15) = true) (h18 : decide (k ≤ 18) = true) (x : Ty) (HP : Hid (∀ w', Kept (fun _ => False) w w' → Calls Tryz.prog 39 #[.agg #[.int .i64 k, .slice an names.length cn, .slice al l.length cl, .int .i64 r]] w' (PlainR x w'))) (m : Nat) (hnm : n = (m : Int)) (y : Ty) (hy : x.l[m]? = some y) (hk0 : (y.kind != 0) = false) (he : (vl.length == 0) = true) :
    Calls Tryz.prog 21 #[.agg #[.int .i64 k, .slice an names.length cn, .slice al l.length cl, .int .i64 r], .agg #[.int .i64 n, .slice sa s.length sc, .slice av vl.length cv]] w (InsR (some []) w) := by
  subst hnm
  have k0 : Kept (fun _ => False) w ((w.alloc (.cells #[.int .i64 k, .slice an names.length cn, .slice al l.length cl, .int .i64 r] 25)).alloc (.cells #[.int .i64 (m : Int), .slice sa s.length sc, .slice av vl.length cv] 29)) := ((Kept.refl _ _).new _).new _
  have HK := Lib.hid k0
  have V0 := BlkAt.new (w.alloc (.cells #[.int .i64 k, .slice an names.length cn, .slice al l.length cl, .int .i64 r] 25)) #[.int .i64 (m : Int), .slice sa s.length sc, .slice av vl.length cv] 29
  rw [World.size_alloc] at V0
  have HV := Lib.hid V0
  clear k0 V0
  have hn0 : decide ((m : Int) < 0) = false := by simp
  have hb0 : decide ((m : Int) ≥ (x.l.length : Int)) = false := by have := (List.getElem?_eq_some_iff.1 hy).1; simp; omega
  have hm : m < x.l.length := (List.getElem?_eq_some_iff.1 hy).1
  have HY := Lib.hid hy
  clear hy
  go_enter Tryz.func21, Tryz.ntmps21
  go_wp2_with (first
    | (go_at_call 39
       refine (HP.out _ HK.out).mono ?_
       rintro yy w1 ⟨ap, cp, aq, cq, rfl, ht, k1⟩
       have HK1 := Lib.hid (HK.out.trans k1)
       have HT1 := Lib.hid ht
       have HV1 := Lib.hid (HV.out.kept (F := fun _ => False) k1 id)
       obtain ⟨yg, yo, yn, ynn, yl, yln, rfl, hyg, hyt, d0, d1, d2, d3⟩ := ht.row.at HY.out
       have HYT := Lib.hid hyt
       have g0 := cell_box (HV1.out.cell 0) (.cells #[.int .i64 x.kind, .slice ap x.names.length cp, .slice (some ⟨yg, yo, none⟩) x.l.length cq, .int .i64 x.r] 25)
       have g2 := cell_box (HV1.out.cell 2) (.cells #[.int .i64 x.kind, .slice ap x.names.length cp, .slice (some ⟨yg, yo, none⟩) x.l.length cq, .int .i64 x.r] 25)
       have HYG := Lib.hid hyg
       have e0 := cell_box d0 (.cells #[.int .i64 x.kind, .slice ap x.names.length cp, .slice (some ⟨yg, yo, none⟩) x.l.length cq, .int .i64 x.r] 25)
       have e1 := cell_box d1 (.cells #[.int .i64 x.kind, .slice ap x.names.length cp, .slice (some ⟨yg, yo, none⟩) x.l.length cq, .int .i64 x.r] 25)
       have e2 := cell_box d2 (.cells #[.int .i64 x.kind, .slice ap x.names.length cp, .slice (some ⟨yg, yo, none⟩) x.l.length cq, .int .i64 x.r] 25)
       have e3 := cell_box d3 (.cells #[.int .i64 x.kind, .slice ap x.names.length cp, .slice (some ⟨yg, yo, none⟩) x.l.length cq, .int .i64 x.r] 25)
       clear k1 ht hyt hyg d0 d1 d2 d3))
  go_quiet (fail)
  go_wp2
  exact bodyPost_ret (v := .tuple #[.slice none 0 0, .bool true]) (by simp [results, Tryz.results21, go_sem, (show vl = [] by simpa using he)]) rfl (insR_some (ts := []) (rowAt_nil _) ((HK1.out.new (.cells #[.int .i64 x.kind, .slice ap x.names.length cp, .slice (some ⟨yg, yo, none⟩) x.l.length cq, .int .i64 x.r] 25)).trans (Kept.of_below (below_drewN (Below.refl _ _) _))))
set_option maxRecDepth 100000 in
set_option maxHeartbeats 8000000 in
theorem ins_v0x (names : List Nm) (l : List Ty) (r : Int) (an : Option Addr) (cn : Nat) (al : Option Addr) (cl : Nat) (n : Int) (s : List Int) (vl : List Vl) (sa : Option Addr) (sc : Nat) (av : Option Addr) (cv : Nat) (w : World) (k : Int) (h12 : (k == 12) = false) (h13 : (k == 13) = false) (h14 : (k == 14) = false) (h15 : decide (k ≥ 15) = true) (h18 : decide (k ≤ 18) = true) (x : Ty) (HP : Hid (∀ w', Kept (fun _ => False) w w' → Calls Tryz.prog 39 #[.agg #[.int .i64 k, .slice an names.length cn, .slice al l.length cl, .int .i64 r]] w' (PlainR x w'))) (m : Nat) (hnm : n = (m : Int)) (y : Ty) (hy : x.l[m]? = some y) (hk0 : (y.kind != 0) = false) (he : (vl.length == 0) = false) :
    Calls Tryz.prog 21 #[.agg #[.int .i64 k, .slice an names.length cn, .slice al l.length cl, .int .i64 r], .agg #[.int .i64 n, .slice sa s.length sc, .slice av vl.length cv]] w (InsR none w) := by
  subst hnm
  have k0 : Kept (fun _ => False) w ((w.alloc (.cells #[.int .i64 k, .slice an names.length cn, .slice al l.length cl, .int .i64 r] 25)).alloc (.cells #[.int .i64 (m : Int), .slice sa s.length sc, .slice av vl.length cv] 29)) := ((Kept.refl _ _).new _).new _
  have HK := Lib.hid k0
  have V0 := BlkAt.new (w.alloc (.cells #[.int .i64 k, .slice an names.length cn, .slice al l.length cl, .int .i64 r] 25)) #[.int .i64 (m : Int), .slice sa s.length sc, .slice av vl.length cv] 29
  rw [World.size_alloc] at V0
  have HV := Lib.hid V0
  clear k0 V0
  have hn0 : decide ((m : Int) < 0) = false := by simp
  have hb0 : decide ((m : Int) ≥ (x.l.length : Int)) = false := by have := (List.getElem?_eq_some_iff.1 hy).1; simp; omega
  have hm : m < x.l.length := (List.getElem?_eq_some_iff.1 hy).1
  have HY := Lib.hid hy
  clear hy
  go_enter Tryz.func21, Tryz.ntmps21
  go_wp2_with (first
    | (go_at_call 39
       refine (HP.out _ HK.out).mono ?_
       rintro yy w1 ⟨ap, cp, aq, cq, rfl, ht, k1⟩
       have HK1 := Lib.hid (HK.out.trans k1)
       have HT1 := Lib.hid ht
       have HV1 := Lib.hid (HV.out.kept (F := fun _ => False) k1 id)
       obtain ⟨yg, yo, yn, ynn, yl, yln, rfl, hyg, hyt, d0, d1, d2, d3⟩ := ht.row.at HY.out
       have HYT := Lib.hid hyt
       have g0 := cell_box (HV1.out.cell 0) (.cells #[.int .i64 x.kind, .slice ap x.names.length cp, .slice (some ⟨yg, yo, none⟩) x.l.length cq, .int .i64 x.r] 25)
       have g2 := cell_box (HV1.out.cell 2) (.cells #[.int .i64 x.kind, .slice ap x.names.length cp, .slice (some ⟨yg, yo, none⟩) x.l.length cq, .int .i64 x.r] 25)
       have HYG := Lib.hid hyg
       have e0 := cell_box d0 (.cells #[.int .i64 x.kind, .slice ap x.names.length cp, .slice (some ⟨yg, yo, none⟩) x.l.length cq, .int .i64 x.r] 25)
       have e1 := cell_box d1 (.cells #[.int .i64 x.kind, .slice ap x.names.length cp, .slice (some ⟨yg, yo, none⟩) x.l.length cq, .int .i64 x.r] 25)
       have e2 := cell_box d2 (.cells #[.int .i64 x.kind, .slice ap x.names.length cp, .slice (some ⟨yg, yo, none⟩) x.l.length cq, .int .i64 x.r] 25)
       have e3 := cell_box d3 (.cells #[.int .i64 x.kind, .slice ap x.names.length cp, .slice (some ⟨yg, yo, none⟩) x.l.length cq, .int .i64 x.r] 25)
       clear k1 ht hyt hyg d0 d1 d2 d3))
  go_quiet (fail)
  go_wp2
  exact bodyPost_ret (v := .tuple #[.slice none 0 0, .bool false]) (by simp [results, Tryz.results21, go_sem, (show ¬ vl = [] by simpa using he)]) rfl (insR_none (ts := []) (rowAt_nil _) ((HK1.out.new (.cells #[.int .i64 x.kind, .slice ap x.names.length cp, .slice (some ⟨yg, yo, none⟩) x.l.length cq, .int .i64 x.r] 25)).trans (Kept.of_below (below_drewN (Below.refl _ _) _))))
set_option maxRecDepth 100000 in
set_option maxHeartbeats 8000000 in
theorem ins_v1e (names : List Nm) (l : List Ty) (r : Int) (an : Option Addr) (cn : Nat) (al : Option Addr) (cl : Nat) (n : Int) (s : List Int) (vl : List Vl) (sa : Option Addr) (sc : Nat) (av : Option Addr) (cv : Nat) (w : World) (k : Int) (h12 : (k == 12) = false) (h13 : (k == 13) = false) (h14 : (k == 14) = false) (h15 : decide (k ≥ 15) = true) (h18 : decide (k ≤ 18) = true) (x : Ty) (HP : Hid (∀ w', Kept (fun _ => False) w w' → Calls Tryz.prog 39 #[.agg #[.int .i64 k, .slice an names.length cn, .slice al l.length cl, .int .i64 r]] w' (PlainR x w'))) (m : Nat) (hnm : n = (m : Int)) (y : Ty) (hy : x.l[m]? = some y) (hk0 : (y.kind != 0) = true) (he : ((vl.length : Int) == 1) = true) :
    Calls Tryz.prog 21 #[.agg #[.int .i64 k, .slice an names.length cn, .slice al l.length cl, .int .i64 r], .agg #[.int .i64 n, .slice sa s.length sc, .slice av vl.length cv]] w (InsR (some [y]) w) := by
  subst hnm
  have k0 : Kept (fun _ => False) w ((w.alloc (.cells #[.int .i64 k, .slice an names.length cn, .slice al l.length cl, .int .i64 r] 25)).alloc (.cells #[.int .i64 (m : Int), .slice sa s.length sc, .slice av vl.length cv] 29)) := ((Kept.refl _ _).new _).new _
  have HK := Lib.hid k0
  have V0 := BlkAt.new (w.alloc (.cells #[.int .i64 k, .slice an names.length cn, .slice al l.length cl, .int .i64 r] 25)) #[.int .i64 (m : Int), .slice sa s.length sc, .slice av vl.length cv] 29
  rw [World.size_alloc] at V0
  have HV := Lib.hid V0
  clear k0 V0
  have hn0 : decide ((m : Int) < 0) = false := by simp
  have hb0 : decide ((m : Int) ≥ (x.l.length : Int)) = false := by have := (List.getElem?_eq_some_iff.1 hy).1; simp; omega
  have hm : m < x.l.length := (List.getElem?_eq_some_iff.1 hy).1
  have HY := Lib.hid hy
  clear hy
  go_enter Tryz.func21, Tryz.ntmps21
  obtain ⟨i0, hi, hz0, hz1, hz2⟩ := info_ty
  have HB := Lib.hid (And.intro hz0 (And.intro hz1 hz2))
  clear hz0 hz1 hz2
  go_wp2_with (first
    | (at_builtin
       refine wpList_append_lies _ rfl _ _ 23 rfl w1.heap.size 25 i0 (.agg #[.int .i64 0, .slice none 0 0, .slice none 0 0, .int .i64 0]) 4 64 Tryz.underlying23 hi HB.out.1 HB.out.2.1 HB.out.2.2 rfl (by decide) (.slice none 0 0) 0 [] rfl (World.ownsRow_nil _ _ _ _) ⟨w1.heap.size + 1, 0, none⟩ 1 1 [.int .i64 y.kind, .slice yn y.names.length ynn, .slice yl y.l.length yln, .int .i64 y.r] rfl rfl (World.news_of_block (cs := #[.int .i64 y.kind, .slice yn y.names.length ynn, .slice yl y.l.length yln, .int .i64 y.r]) (by have := BlkAt.new (w1.alloc (.cells #[.int .i64 x.kind, .slice ap x.names.length cp, .slice (some ⟨yg, yo, none⟩) x.l.length cq, .int .i64 x.r] 25)) #[.int .i64 y.kind, .slice yn y.names.length ynn, .slice yl y.l.length yln, .int .i64 y.r] 25; rw [World.size_alloc] at this; exact this)) (by simp [Value.oneCell']) (by decide) (by decide) (by decide) (by rw [World.size_alloc, World.size_alloc]; omega) _ rfl ?_
       intro g5 cap5 w5 hown5 hgrow hat hlt5
       have k5 : Kept (fun _ => False) w1 w5 := (((Kept.refl _ w1).new (.cells #[.int .i64 x.kind, .slice ap x.names.length cp, .slice (some ⟨yg, yo, none⟩) x.l.length cq, .int .i64 x.r] 25)).new (.cells #[.int .i64 y.kind, .slice yn y.names.length ynn, .slice yl y.l.length yln, .int .i64 y.r] 25)).trans ((Kept.grow hgrow).mono (fun b e => by cases e))
       rw [Nat.zero_add, List.nil_append] at hown5
       have HR5 : Hid (RowAt w5 [y] (some ⟨g5, 0, none⟩) cap5) := Lib.hid ⟨row_lies hown5 (by rw [encTys_one]; exact ty_lies (HYT.out.kept k5).n (HYT.out.kept k5).l) (encTys_length [y]) (fun _ _ => trivial)⟩
       have HK5 := Lib.hid k5
       have v5 := (HV1.out.kept (F := fun _ => False) k5 id).cell 2
       simp at v5
       clear hown5 hgrow hat hlt5 k5)
    | (go_at_call 39
       refine (HP.out _ HK.out).mono ?_
       rintro yy w1 ⟨ap, cp, aq, cq, rfl, ht, k1⟩
       have HK1 := Lib.hid (HK.out.trans k1)
       have HT1 := Lib.hid ht
       have HV1 := Lib.hid (HV.out.kept (F := fun _ => False) k1 id)
       obtain ⟨yg, yo, yn, ynn, yl, yln, rfl, hyg, hyt, d0, d1, d2, d3⟩ := ht.row.at HY.out
       have HYT := Lib.hid hyt
       have g0 := cell_box (HV1.out.cell 0) (.cells #[.int .i64 x.kind, .slice ap x.names.length cp, .slice (some ⟨yg, yo, none⟩) x.l.length cq, .int .i64 x.r] 25)
       have g2 := cell_box (HV1.out.cell 2) (.cells #[.int .i64 x.kind, .slice ap x.names.length cp, .slice (some ⟨yg, yo, none⟩) x.l.length cq, .int .i64 x.r] 25)
       have HYG := Lib.hid hyg
       have e0 := cell_box d0 (.cells #[.int .i64 x.kind, .slice ap x.names.length cp, .slice (some ⟨yg, yo, none⟩) x.l.length cq, .int .i64 x.r] 25)
       have e1 := cell_box d1 (.cells #[.int .i64 x.kind, .slice ap x.names.length cp, .slice (some ⟨yg, yo, none⟩) x.l.length cq, .int .i64 x.r] 25)
       have e2 := cell_box d2 (.cells #[.int .i64 x.kind, .slice ap x.names.length cp, .slice (some ⟨yg, yo, none⟩) x.l.length cq, .int .i64 x.r] 25)
       have e3 := cell_box d3 (.cells #[.int .i64 x.kind, .slice ap x.names.length cp, .slice (some ⟨yg, yo, none⟩) x.l.length cq, .int .i64 x.r] 25)
       clear k1 ht hyt hyg d0 d1 d2 d3))
  go_quiet (fail)
  go_wp2
  exact bodyPost_ret (v := .tuple #[.slice (some ⟨g5, 0, none⟩) 1 cap5, .bool true]) (by simp [results, Tryz.results21, go_sem]) rfl (insR_some (ts := [y]) (HR5.out.kept (Kept.of_below (below_drewN (Below.refl _ _) _))) ((HK1.out.trans HK5.out).trans (Kept.of_below (below_drewN (Below.refl _ _) _))))
set_option maxRecDepth 100000 in
set_option maxHeartbeats 8000000 in
theorem ins_v1x (names : List Nm) (l : List Ty) (r : Int) (an : Option Addr) (cn : Nat) (al : Option Addr) (cl : Nat) (n : Int) (s : List Int) (vl : List Vl) (sa : Option Addr) (sc : Nat) (av : Option Addr) (cv : Nat) (w : World) (k : Int) (h12 : (k == 12) = false) (h13 : (k == 13) = false) (h14 : (k == 14) = false) (h15 : decide (k ≥ 15) = true) (h18 : decide (k ≤ 18) = true) (x : Ty) (HP : Hid (∀ w', Kept (fun _ => False) w w' → Calls Tryz.prog 39 #[.agg #[.int .i64 k, .slice an names.length cn, .slice al l.length cl, .int .i64 r]] w' (PlainR x w'))) (m : Nat) (hnm : n = (m : Int)) (y : Ty) (hy : x.l[m]? = some y) (hk0 : (y.kind != 0) = true) (he : ((vl.length : Int) == 1) = false) :
    Calls Tryz.prog 21 #[.agg #[.int .i64 k, .slice an names.length cn, .slice al l.length cl, .int .i64 r], .agg #[.int .i64 n, .slice sa s.length sc, .slice av vl.length cv]] w (InsR none w) := by
  subst hnm
  have k0 : Kept (fun _ => False) w ((w.alloc (.cells #[.int .i64 k, .slice an names.length cn, .slice al l.length cl, .int .i64 r] 25)).alloc (.cells #[.int .i64 (m : Int), .slice sa s.length sc, .slice av vl.length cv] 29)) := ((Kept.refl _ _).new _).new _
  have HK := Lib.hid k0
  have V0 := BlkAt.new (w.alloc (.cells #[.int .i64 k, .slice an names.length cn, .slice al l.length cl, .int .i64 r] 25)) #[.int .i64 (m : Int), .slice sa s.length sc, .slice av vl.length cv] 29
  rw [World.size_alloc] at V0
  have HV := Lib.hid V0
  clear k0 V0
  have hn0 : decide ((m : Int) < 0) = false := by simp
  have hb0 : decide ((m : Int) ≥ (x.l.length : Int)) = false := by have := (List.getElem?_eq_some_iff.1 hy).1; simp; omega
  have hm : m < x.l.length := (List.getElem?_eq_some_iff.1 hy).1
  have HY := Lib.hid hy
  clear hy
  go_enter Tryz.func21, Tryz.ntmps21
  obtain ⟨i0, hi, hz0, hz1, hz2⟩ := info_ty
  have HB := Lib.hid (And.intro hz0 (And.intro hz1 hz2))
  clear hz0 hz1 hz2
  go_wp2_with (first
    | (at_builtin
       refine wpList_append_lies _ rfl _ _ 23 rfl w1.heap.size 25 i0 (.agg #[.int .i64 0, .slice none 0 0, .slice none 0 0, .int .i64 0]) 4 64 Tryz.underlying23 hi HB.out.1 HB.out.2.1 HB.out.2.2 rfl (by decide) (.slice none 0 0) 0 [] rfl (World.ownsRow_nil _ _ _ _) ⟨w1.heap.size + 1, 0, none⟩ 1 1 [.int .i64 y.kind, .slice yn y.names.length ynn, .slice yl y.l.length yln, .int .i64 y.r] rfl rfl (World.news_of_block (cs := #[.int .i64 y.kind, .slice yn y.names.length ynn, .slice yl y.l.length yln, .int .i64 y.r]) (by have := BlkAt.new (w1.alloc (.cells #[.int .i64 x.kind, .slice ap x.names.length cp, .slice (some ⟨yg, yo, none⟩) x.l.length cq, .int .i64 x.r] 25)) #[.int .i64 y.kind, .slice yn y.names.length ynn, .slice yl y.l.length yln, .int .i64 y.r] 25; rw [World.size_alloc] at this; exact this)) (by simp [Value.oneCell']) (by decide) (by decide) (by decide) (by rw [World.size_alloc, World.size_alloc]; omega) _ rfl ?_
       intro g5 cap5 w5 hown5 hgrow hat hlt5
       have k5 : Kept (fun _ => False) w1 w5 := (((Kept.refl _ w1).new (.cells #[.int .i64 x.kind, .slice ap x.names.length cp, .slice (some ⟨yg, yo, none⟩) x.l.length cq, .int .i64 x.r] 25)).new (.cells #[.int .i64 y.kind, .slice yn y.names.length ynn, .slice yl y.l.length yln, .int .i64 y.r] 25)).trans ((Kept.grow hgrow).mono (fun b e => by cases e))
       rw [Nat.zero_add, List.nil_append] at hown5
       have HR5 : Hid (RowAt w5 [y] (some ⟨g5, 0, none⟩) cap5) := Lib.hid ⟨row_lies hown5 (by rw [encTys_one]; exact ty_lies (HYT.out.kept k5).n (HYT.out.kept k5).l) (encTys_length [y]) (fun _ _ => trivial)⟩
       have HK5 := Lib.hid k5
       have v5 := (HV1.out.kept (F := fun _ => False) k5 id).cell 2
       simp at v5
       clear hown5 hgrow hat hlt5 k5)
    | (go_at_call 39
       refine (HP.out _ HK.out).mono ?_
       rintro yy w1 ⟨ap, cp, aq, cq, rfl, ht, k1⟩
       have HK1 := Lib.hid (HK.out.trans k1)
       have HT1 := Lib.hid ht
       have HV1 := Lib.hid (HV.out.kept (F := fun _ => False) k1 id)
       obtain ⟨yg, yo, yn, ynn, yl, yln, rfl, hyg, hyt, d0, d1, d2, d3⟩ := ht.row.at HY.out
       have HYT := Lib.hid hyt
       have g0 := cell_box (HV1.out.cell 0) (.cells #[.int .i64 x.kind, .slice ap x.names.length cp, .slice (some ⟨yg, yo, none⟩) x.l.length cq, .int .i64 x.r] 25)
       have g2 := cell_box (HV1.out.cell 2) (.cells #[.int .i64 x.kind, .slice ap x.names.length cp, .slice (some ⟨yg, yo, none⟩) x.l.length cq, .int .i64 x.r] 25)
       have HYG := Lib.hid hyg
       have e0 := cell_box d0 (.cells #[.int .i64 x.kind, .slice ap x.names.length cp, .slice (some ⟨yg, yo, none⟩) x.l.length cq, .int .i64 x.r] 25)
       have e1 := cell_box d1 (.cells #[.int .i64 x.kind, .slice ap x.names.length cp, .slice (some ⟨yg, yo, none⟩) x.l.length cq, .int .i64 x.r] 25)
       have e2 := cell_box d2 (.cells #[.int .i64 x.kind, .slice ap x.names.length cp, .slice (some ⟨yg, yo, none⟩) x.l.length cq, .int .i64 x.r] 25)
       have e3 := cell_box d3 (.cells #[.int .i64 x.kind, .slice ap x.names.length cp, .slice (some ⟨yg, yo, none⟩) x.l.length cq, .int .i64 x.r] 25)
       clear k1 ht hyt hyg d0 d1 d2 d3))
  go_quiet (fail)
  go_wp2
  exact bodyPost_ret (v := .tuple #[.slice (some ⟨g5, 0, none⟩) 1 cap5, .bool false]) (by simp [results, Tryz.results21, go_sem]) rfl (insR_none (ts := [y]) (HR5.out.kept (Kept.of_below (below_drewN (Below.refl _ _) _))) ((HK1.out.trans HK5.out).trans (Kept.of_below (below_drewN (Below.refl _ _) _))))
end Go.Proofs.YtikgkjkgdlnekaaGreatDoor
