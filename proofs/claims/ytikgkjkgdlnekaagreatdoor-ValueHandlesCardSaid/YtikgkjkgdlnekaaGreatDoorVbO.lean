/- value: the reference's Parts, Check. -/
import Derived.Test.YtikgkjkgdlnekaaGreatDoorVbN
import Derived.Test.YtikgkjkgdlnekaaGreatDoorVbJ
import Derived.Test.YtikgkjkgdlnekaaGreatDoorCtFK
set_option linter.unusedVariables false
set_option linter.unusedSimpArgs false
namespace Go.Proofs.YtikgkjkgdlnekaaGreatDoor
open Go.RowKit
open Lex Ct

set_option maxRecDepth 100000 in
set_option maxHeartbeats 4000000 in
theorem pa_1 (names : List Nm) (l : List Ty) (r : Int) (an : Option Addr) (cn : Nat) (al : Option Addr) (cl : Nat) (n : Int) (s : List Int) (vl : List Vl) (sa : Option Addr) (sc : Nat) (av : Option Addr) (cv : Nat) (w : World) (k : Int) (hw : wholeK k n = 1) :
    Calls Tryz.prog 20 #[.agg #[.int .i64 k, .slice an names.length cn, .slice al l.length cl, .int .i64 r], .agg #[.int .i64 n, .slice sa s.length sc, .slice av vl.length cv]] w (CntR (0) w) := by
  have k0 : Kept (fun _ => False) w ((w.alloc (.cells #[.int .i64 k, .slice an names.length cn, .slice al l.length cl, .int .i64 r] 25)).alloc (.cells #[.int .i64 n, .slice sa s.length sc, .slice av vl.length cv] 29)) := ((Kept.refl _ _).new _).new _
  have T0 := (BlkAt.new w #[.int .i64 k, .slice an names.length cn, .slice al l.length cl, .int .i64 r] 25).kept (F := fun _ => False) ((Kept.refl _ _).new (.cells #[.int .i64 n, .slice sa s.length sc, .slice av vl.length cv] 29)) id
  have V0 := BlkAt.new (w.alloc (.cells #[.int .i64 k, .slice an names.length cn, .slice al l.length cl, .int .i64 r] 25)) #[.int .i64 n, .slice sa s.length sc, .slice av vl.length cv] 29
  rw [World.size_alloc] at V0
  have HT := Lib.hid T0
  have HV := Lib.hid V0
  have HK := Lib.hid k0
  have HW : Hid (∀ w', Calls Tryz.prog 36 #[.int .i64 k, .int .i64 n] w' (WhoR 1 w')) := Lib.hid (fun w' => hw ▸ rdWhole k n w')
  unfold WhoR at HW
  clear k0 T0 V0 hw
  go_enter Tryz.func20, Tryz.ntmps20
  go_wp2_with (first
    | (go_at_call 36
       refine (HW.out _).mono ?_
       rintro y w1 ⟨rfl, k1⟩
       have HT1 := Lib.hid (HT.out.kept (F := fun _ => False) k1 id)
       have HV1 := Lib.hid (HV.out.kept (F := fun _ => False) k1 id)
       obtain ⟨t0, t1, t2, t3⟩ := box4_cells' HT1.out
       obtain ⟨v0, v1, v2⟩ := box3_cells HV1.out
       have HK1 := Lib.hid (HK.out.trans k1)
       clear k1))
  go_ret
  exact ⟨rfl, HK1.out⟩
set_option maxRecDepth 100000 in
set_option maxHeartbeats 4000000 in
theorem pa_2s (names : List Nm) (l : List Ty) (r : Int) (an : Option Addr) (cn : Nat) (al : Option Addr) (cl : Nat) (n : Int) (s : List Int) (vl : List Vl) (sa : Option Addr) (sc : Nat) (av : Option Addr) (cv : Nat) (w : World) (k : Int) (hs : decide (0 < s.length) = true) (hw : wholeK k n = 2) :
    Calls Tryz.prog 20 #[.agg #[.int .i64 k, .slice an names.length cn, .slice al l.length cl, .int .i64 r], .agg #[.int .i64 n, .slice sa s.length sc, .slice av vl.length cv]] w (CntR (0) w) := by
  have k0 : Kept (fun _ => False) w ((w.alloc (.cells #[.int .i64 k, .slice an names.length cn, .slice al l.length cl, .int .i64 r] 25)).alloc (.cells #[.int .i64 n, .slice sa s.length sc, .slice av vl.length cv] 29)) := ((Kept.refl _ _).new _).new _
  have T0 := (BlkAt.new w #[.int .i64 k, .slice an names.length cn, .slice al l.length cl, .int .i64 r] 25).kept (F := fun _ => False) ((Kept.refl _ _).new (.cells #[.int .i64 n, .slice sa s.length sc, .slice av vl.length cv] 29)) id
  have V0 := BlkAt.new (w.alloc (.cells #[.int .i64 k, .slice an names.length cn, .slice al l.length cl, .int .i64 r] 25)) #[.int .i64 n, .slice sa s.length sc, .slice av vl.length cv] 29
  rw [World.size_alloc] at V0
  have HT := Lib.hid T0
  have HV := Lib.hid V0
  have HK := Lib.hid k0
  have HW : Hid (∀ w', Calls Tryz.prog 36 #[.int .i64 k, .int .i64 n] w' (WhoR 2 w')) := Lib.hid (fun w' => hw ▸ rdWhole k n w')
  unfold WhoR at HW
  clear k0 T0 V0 hw
  go_enter Tryz.func20, Tryz.ntmps20
  go_wp2_with (first
    | (go_at_call 36
       refine (HW.out _).mono ?_
       rintro y w1 ⟨rfl, k1⟩
       have HT1 := Lib.hid (HT.out.kept (F := fun _ => False) k1 id)
       have HV1 := Lib.hid (HV.out.kept (F := fun _ => False) k1 id)
       obtain ⟨t0, t1, t2, t3⟩ := box4_cells' HT1.out
       obtain ⟨v0, v1, v2⟩ := box3_cells HV1.out
       have HK1 := Lib.hid (HK.out.trans k1)
       clear k1))
  go_ret
  exact ⟨rfl, HK1.out⟩
set_option maxRecDepth 100000 in
set_option maxHeartbeats 4000000 in
theorem pa_2l (names : List Nm) (l : List Ty) (r : Int) (an : Option Addr) (cn : Nat) (al : Option Addr) (cl : Nat) (n : Int) (s : List Int) (vl : List Vl) (sa : Option Addr) (sc : Nat) (av : Option Addr) (cv : Nat) (w : World) (k : Int) (hs : decide (0 < s.length) = false) (hl : decide (0 < vl.length) = true) (hw : wholeK k n = 2) :
    Calls Tryz.prog 20 #[.agg #[.int .i64 k, .slice an names.length cn, .slice al l.length cl, .int .i64 r], .agg #[.int .i64 n, .slice sa s.length sc, .slice av vl.length cv]] w (CntR (0) w) := by
  have k0 : Kept (fun _ => False) w ((w.alloc (.cells #[.int .i64 k, .slice an names.length cn, .slice al l.length cl, .int .i64 r] 25)).alloc (.cells #[.int .i64 n, .slice sa s.length sc, .slice av vl.length cv] 29)) := ((Kept.refl _ _).new _).new _
  have T0 := (BlkAt.new w #[.int .i64 k, .slice an names.length cn, .slice al l.length cl, .int .i64 r] 25).kept (F := fun _ => False) ((Kept.refl _ _).new (.cells #[.int .i64 n, .slice sa s.length sc, .slice av vl.length cv] 29)) id
  have V0 := BlkAt.new (w.alloc (.cells #[.int .i64 k, .slice an names.length cn, .slice al l.length cl, .int .i64 r] 25)) #[.int .i64 n, .slice sa s.length sc, .slice av vl.length cv] 29
  rw [World.size_alloc] at V0
  have HT := Lib.hid T0
  have HV := Lib.hid V0
  have HK := Lib.hid k0
  have HW : Hid (∀ w', Calls Tryz.prog 36 #[.int .i64 k, .int .i64 n] w' (WhoR 2 w')) := Lib.hid (fun w' => hw ▸ rdWhole k n w')
  unfold WhoR at HW
  clear k0 T0 V0 hw
  go_enter Tryz.func20, Tryz.ntmps20
  go_wp2_with (first
    | (go_at_call 36
       refine (HW.out _).mono ?_
       rintro y w1 ⟨rfl, k1⟩
       have HT1 := Lib.hid (HT.out.kept (F := fun _ => False) k1 id)
       have HV1 := Lib.hid (HV.out.kept (F := fun _ => False) k1 id)
       obtain ⟨t0, t1, t2, t3⟩ := box4_cells' HT1.out
       obtain ⟨v0, v1, v2⟩ := box3_cells HV1.out
       have HK1 := Lib.hid (HK.out.trans k1)
       clear k1))
  go_ret
  exact ⟨rfl, HK1.out⟩
set_option maxRecDepth 100000 in
set_option maxHeartbeats 4000000 in
theorem pa_2 (names : List Nm) (l : List Ty) (r : Int) (an : Option Addr) (cn : Nat) (al : Option Addr) (cl : Nat) (n : Int) (s : List Int) (vl : List Vl) (sa : Option Addr) (sc : Nat) (av : Option Addr) (cv : Nat) (w : World) (k : Int) (hs : decide (0 < s.length) = false) (hl : decide (0 < vl.length) = false) (hw : wholeK k n = 2) :
    Calls Tryz.prog 20 #[.agg #[.int .i64 k, .slice an names.length cn, .slice al l.length cl, .int .i64 r], .agg #[.int .i64 n, .slice sa s.length sc, .slice av vl.length cv]] w (CntR (1) w) := by
  have k0 : Kept (fun _ => False) w ((w.alloc (.cells #[.int .i64 k, .slice an names.length cn, .slice al l.length cl, .int .i64 r] 25)).alloc (.cells #[.int .i64 n, .slice sa s.length sc, .slice av vl.length cv] 29)) := ((Kept.refl _ _).new _).new _
  have T0 := (BlkAt.new w #[.int .i64 k, .slice an names.length cn, .slice al l.length cl, .int .i64 r] 25).kept (F := fun _ => False) ((Kept.refl _ _).new (.cells #[.int .i64 n, .slice sa s.length sc, .slice av vl.length cv] 29)) id
  have V0 := BlkAt.new (w.alloc (.cells #[.int .i64 k, .slice an names.length cn, .slice al l.length cl, .int .i64 r] 25)) #[.int .i64 n, .slice sa s.length sc, .slice av vl.length cv] 29
  rw [World.size_alloc] at V0
  have HT := Lib.hid T0
  have HV := Lib.hid V0
  have HK := Lib.hid k0
  have HW : Hid (∀ w', Calls Tryz.prog 36 #[.int .i64 k, .int .i64 n] w' (WhoR 2 w')) := Lib.hid (fun w' => hw ▸ rdWhole k n w')
  unfold WhoR at HW
  clear k0 T0 V0 hw
  go_enter Tryz.func20, Tryz.ntmps20
  go_wp2_with (first
    | (go_at_call 36
       refine (HW.out _).mono ?_
       rintro y w1 ⟨rfl, k1⟩
       have HT1 := Lib.hid (HT.out.kept (F := fun _ => False) k1 id)
       have HV1 := Lib.hid (HV.out.kept (F := fun _ => False) k1 id)
       obtain ⟨t0, t1, t2, t3⟩ := box4_cells' HT1.out
       obtain ⟨v0, v1, v2⟩ := box3_cells HV1.out
       have HK1 := Lib.hid (HK.out.trans k1)
       clear k1))
  go_ret
  exact ⟨rfl, HK1.out⟩
set_option maxRecDepth 100000 in
set_option maxHeartbeats 4000000 in
theorem pa_10n (names : List Nm) (l : List Ty) (r : Int) (an : Option Addr) (cn : Nat) (al : Option Addr) (cl : Nat) (n : Int) (s : List Int) (vl : List Vl) (sa : Option Addr) (sc : Nat) (av : Option Addr) (cv : Nat) (w : World) (hsc : Utf.scal n = false) (hw : wholeK 10 n = 0) :
    Calls Tryz.prog 20 #[.agg #[.int .i64 10, .slice an names.length cn, .slice al l.length cl, .int .i64 r], .agg #[.int .i64 n, .slice sa s.length sc, .slice av vl.length cv]] w (CntR (0) w) := by
  have k0 : Kept (fun _ => False) w ((w.alloc (.cells #[.int .i64 10, .slice an names.length cn, .slice al l.length cl, .int .i64 r] 25)).alloc (.cells #[.int .i64 n, .slice sa s.length sc, .slice av vl.length cv] 29)) := ((Kept.refl _ _).new _).new _
  have T0 := (BlkAt.new w #[.int .i64 10, .slice an names.length cn, .slice al l.length cl, .int .i64 r] 25).kept (F := fun _ => False) ((Kept.refl _ _).new (.cells #[.int .i64 n, .slice sa s.length sc, .slice av vl.length cv] 29)) id
  have V0 := BlkAt.new (w.alloc (.cells #[.int .i64 10, .slice an names.length cn, .slice al l.length cl, .int .i64 r] 25)) #[.int .i64 n, .slice sa s.length sc, .slice av vl.length cv] 29
  rw [World.size_alloc] at V0
  have HT := Lib.hid T0
  have HV := Lib.hid V0
  have HK := Lib.hid k0
  have HW : Hid (∀ w', Calls Tryz.prog 36 #[.int .i64 10, .int .i64 n] w' (WhoR 0 w')) := Lib.hid (fun w' => hw ▸ rdWhole 10 n w')
  unfold WhoR at HW
  have HSC : Hid (∀ w', Calls Tryz.prog 37 #[.int .i64 n] w' fun e w'' => e = .returned (.bool false) ∧ w' = w'') := Lib.hid (fun w' => hsc ▸ refScalar_any n w')
  clear hsc
  clear k0 T0 V0 hw
  go_enter Tryz.func20, Tryz.ntmps20
  go_wp2_with (first
    | (go_at_call 36
       refine (HW.out _).mono ?_
       rintro y w1 ⟨rfl, k1⟩
       have HT1 := Lib.hid (HT.out.kept (F := fun _ => False) k1 id)
       have HV1 := Lib.hid (HV.out.kept (F := fun _ => False) k1 id)
       obtain ⟨t0, t1, t2, t3⟩ := box4_cells' HT1.out
       obtain ⟨v0, v1, v2⟩ := box3_cells HV1.out
       have HK1 := Lib.hid (HK.out.trans k1)
       clear k1)
    | (go_at_call 37; refine (HSC.out _).mono ?_; rintro y w2 ⟨rfl, rfl⟩))
  go_ret
  exact ⟨rfl, HK1.out⟩
set_option maxRecDepth 100000 in
set_option maxHeartbeats 4000000 in
theorem pa_10s (names : List Nm) (l : List Ty) (r : Int) (an : Option Addr) (cn : Nat) (al : Option Addr) (cl : Nat) (n : Int) (s : List Int) (vl : List Vl) (sa : Option Addr) (sc : Nat) (av : Option Addr) (cv : Nat) (w : World) (hsc : Utf.scal n = true) (hs : decide (0 < s.length) = true) (hw : wholeK 10 n = 0) :
    Calls Tryz.prog 20 #[.agg #[.int .i64 10, .slice an names.length cn, .slice al l.length cl, .int .i64 r], .agg #[.int .i64 n, .slice sa s.length sc, .slice av vl.length cv]] w (CntR (0) w) := by
  have k0 : Kept (fun _ => False) w ((w.alloc (.cells #[.int .i64 10, .slice an names.length cn, .slice al l.length cl, .int .i64 r] 25)).alloc (.cells #[.int .i64 n, .slice sa s.length sc, .slice av vl.length cv] 29)) := ((Kept.refl _ _).new _).new _
  have T0 := (BlkAt.new w #[.int .i64 10, .slice an names.length cn, .slice al l.length cl, .int .i64 r] 25).kept (F := fun _ => False) ((Kept.refl _ _).new (.cells #[.int .i64 n, .slice sa s.length sc, .slice av vl.length cv] 29)) id
  have V0 := BlkAt.new (w.alloc (.cells #[.int .i64 10, .slice an names.length cn, .slice al l.length cl, .int .i64 r] 25)) #[.int .i64 n, .slice sa s.length sc, .slice av vl.length cv] 29
  rw [World.size_alloc] at V0
  have HT := Lib.hid T0
  have HV := Lib.hid V0
  have HK := Lib.hid k0
  have HW : Hid (∀ w', Calls Tryz.prog 36 #[.int .i64 10, .int .i64 n] w' (WhoR 0 w')) := Lib.hid (fun w' => hw ▸ rdWhole 10 n w')
  unfold WhoR at HW
  have HSC : Hid (∀ w', Calls Tryz.prog 37 #[.int .i64 n] w' fun e w'' => e = .returned (.bool true) ∧ w' = w'') := Lib.hid (fun w' => hsc ▸ refScalar_any n w')
  clear hsc
  clear k0 T0 V0 hw
  go_enter Tryz.func20, Tryz.ntmps20
  go_wp2_with (first
    | (go_at_call 36
       refine (HW.out _).mono ?_
       rintro y w1 ⟨rfl, k1⟩
       have HT1 := Lib.hid (HT.out.kept (F := fun _ => False) k1 id)
       have HV1 := Lib.hid (HV.out.kept (F := fun _ => False) k1 id)
       obtain ⟨t0, t1, t2, t3⟩ := box4_cells' HT1.out
       obtain ⟨v0, v1, v2⟩ := box3_cells HV1.out
       have HK1 := Lib.hid (HK.out.trans k1)
       clear k1)
    | (go_at_call 37; refine (HSC.out _).mono ?_; rintro y w2 ⟨rfl, rfl⟩))
  go_ret
  exact ⟨rfl, HK1.out⟩
set_option maxRecDepth 100000 in
set_option maxHeartbeats 4000000 in
theorem pa_10l (names : List Nm) (l : List Ty) (r : Int) (an : Option Addr) (cn : Nat) (al : Option Addr) (cl : Nat) (n : Int) (s : List Int) (vl : List Vl) (sa : Option Addr) (sc : Nat) (av : Option Addr) (cv : Nat) (w : World) (hsc : Utf.scal n = true) (hs : decide (0 < s.length) = false) (hl : decide (0 < vl.length) = true) (hw : wholeK 10 n = 0) :
    Calls Tryz.prog 20 #[.agg #[.int .i64 10, .slice an names.length cn, .slice al l.length cl, .int .i64 r], .agg #[.int .i64 n, .slice sa s.length sc, .slice av vl.length cv]] w (CntR (0) w) := by
  have k0 : Kept (fun _ => False) w ((w.alloc (.cells #[.int .i64 10, .slice an names.length cn, .slice al l.length cl, .int .i64 r] 25)).alloc (.cells #[.int .i64 n, .slice sa s.length sc, .slice av vl.length cv] 29)) := ((Kept.refl _ _).new _).new _
  have T0 := (BlkAt.new w #[.int .i64 10, .slice an names.length cn, .slice al l.length cl, .int .i64 r] 25).kept (F := fun _ => False) ((Kept.refl _ _).new (.cells #[.int .i64 n, .slice sa s.length sc, .slice av vl.length cv] 29)) id
  have V0 := BlkAt.new (w.alloc (.cells #[.int .i64 10, .slice an names.length cn, .slice al l.length cl, .int .i64 r] 25)) #[.int .i64 n, .slice sa s.length sc, .slice av vl.length cv] 29
  rw [World.size_alloc] at V0
  have HT := Lib.hid T0
  have HV := Lib.hid V0
  have HK := Lib.hid k0
  have HW : Hid (∀ w', Calls Tryz.prog 36 #[.int .i64 10, .int .i64 n] w' (WhoR 0 w')) := Lib.hid (fun w' => hw ▸ rdWhole 10 n w')
  unfold WhoR at HW
  have HSC : Hid (∀ w', Calls Tryz.prog 37 #[.int .i64 n] w' fun e w'' => e = .returned (.bool true) ∧ w' = w'') := Lib.hid (fun w' => hsc ▸ refScalar_any n w')
  clear hsc
  clear k0 T0 V0 hw
  go_enter Tryz.func20, Tryz.ntmps20
  go_wp2_with (first
    | (go_at_call 36
       refine (HW.out _).mono ?_
       rintro y w1 ⟨rfl, k1⟩
       have HT1 := Lib.hid (HT.out.kept (F := fun _ => False) k1 id)
       have HV1 := Lib.hid (HV.out.kept (F := fun _ => False) k1 id)
       obtain ⟨t0, t1, t2, t3⟩ := box4_cells' HT1.out
       obtain ⟨v0, v1, v2⟩ := box3_cells HV1.out
       have HK1 := Lib.hid (HK.out.trans k1)
       clear k1)
    | (go_at_call 37; refine (HSC.out _).mono ?_; rintro y w2 ⟨rfl, rfl⟩))
  go_ret
  exact ⟨rfl, HK1.out⟩
set_option maxRecDepth 100000 in
set_option maxHeartbeats 4000000 in
theorem pa_10 (names : List Nm) (l : List Ty) (r : Int) (an : Option Addr) (cn : Nat) (al : Option Addr) (cl : Nat) (n : Int) (s : List Int) (vl : List Vl) (sa : Option Addr) (sc : Nat) (av : Option Addr) (cv : Nat) (w : World) (hsc : Utf.scal n = true) (hs : decide (0 < s.length) = false) (hl : decide (0 < vl.length) = false) (hw : wholeK 10 n = 0) :
    Calls Tryz.prog 20 #[.agg #[.int .i64 10, .slice an names.length cn, .slice al l.length cl, .int .i64 r], .agg #[.int .i64 n, .slice sa s.length sc, .slice av vl.length cv]] w (CntR (1) w) := by
  have k0 : Kept (fun _ => False) w ((w.alloc (.cells #[.int .i64 10, .slice an names.length cn, .slice al l.length cl, .int .i64 r] 25)).alloc (.cells #[.int .i64 n, .slice sa s.length sc, .slice av vl.length cv] 29)) := ((Kept.refl _ _).new _).new _
  have T0 := (BlkAt.new w #[.int .i64 10, .slice an names.length cn, .slice al l.length cl, .int .i64 r] 25).kept (F := fun _ => False) ((Kept.refl _ _).new (.cells #[.int .i64 n, .slice sa s.length sc, .slice av vl.length cv] 29)) id
  have V0 := BlkAt.new (w.alloc (.cells #[.int .i64 10, .slice an names.length cn, .slice al l.length cl, .int .i64 r] 25)) #[.int .i64 n, .slice sa s.length sc, .slice av vl.length cv] 29
  rw [World.size_alloc] at V0
  have HT := Lib.hid T0
  have HV := Lib.hid V0
  have HK := Lib.hid k0
  have HW : Hid (∀ w', Calls Tryz.prog 36 #[.int .i64 10, .int .i64 n] w' (WhoR 0 w')) := Lib.hid (fun w' => hw ▸ rdWhole 10 n w')
  unfold WhoR at HW
  have HSC : Hid (∀ w', Calls Tryz.prog 37 #[.int .i64 n] w' fun e w'' => e = .returned (.bool true) ∧ w' = w'') := Lib.hid (fun w' => hsc ▸ refScalar_any n w')
  clear hsc
  clear k0 T0 V0 hw
  go_enter Tryz.func20, Tryz.ntmps20
  go_wp2_with (first
    | (go_at_call 36
       refine (HW.out _).mono ?_
       rintro y w1 ⟨rfl, k1⟩
       have HT1 := Lib.hid (HT.out.kept (F := fun _ => False) k1 id)
       have HV1 := Lib.hid (HV.out.kept (F := fun _ => False) k1 id)
       obtain ⟨t0, t1, t2, t3⟩ := box4_cells' HT1.out
       obtain ⟨v0, v1, v2⟩ := box3_cells HV1.out
       have HK1 := Lib.hid (HK.out.trans k1)
       clear k1)
    | (go_at_call 37; refine (HSC.out _).mono ?_; rintro y w2 ⟨rfl, rfl⟩))
  go_ret
  exact ⟨rfl, HK1.out⟩
set_option maxRecDepth 100000 in
set_option maxHeartbeats 4000000 in
theorem pa_11a (names : List Nm) (l : List Ty) (r : Int) (an : Option Addr) (cn : Nat) (al : Option Addr) (cl : Nat) (n : Int) (s : List Int) (vl : List Vl) (sa : Option Addr) (sc : Nat) (av : Option Addr) (cv : Nat) (w : World) (hi : IRowAt w s sa sc) (hsl : s.length ≤ 20000) (hall : s.all Utf.scal = false) (hw : wholeK 11 n = 0) :
    Calls Tryz.prog 20 #[.agg #[.int .i64 11, .slice an names.length cn, .slice al l.length cl, .int .i64 r], .agg #[.int .i64 n, .slice sa s.length sc, .slice av vl.length cv]] w (CntR (0) w) := by
  have k0 : Kept (fun _ => False) w ((w.alloc (.cells #[.int .i64 11, .slice an names.length cn, .slice al l.length cl, .int .i64 r] 25)).alloc (.cells #[.int .i64 n, .slice sa s.length sc, .slice av vl.length cv] 29)) := ((Kept.refl _ _).new _).new _
  have T0 := (BlkAt.new w #[.int .i64 11, .slice an names.length cn, .slice al l.length cl, .int .i64 r] 25).kept (F := fun _ => False) ((Kept.refl _ _).new (.cells #[.int .i64 n, .slice sa s.length sc, .slice av vl.length cv] 29)) id
  have V0 := BlkAt.new (w.alloc (.cells #[.int .i64 11, .slice an names.length cn, .slice al l.length cl, .int .i64 r] 25)) #[.int .i64 n, .slice sa s.length sc, .slice av vl.length cv] 29
  rw [World.size_alloc] at V0
  have HT := Lib.hid T0
  have HV := Lib.hid V0
  have HK := Lib.hid k0
  have HW : Hid (∀ w', Calls Tryz.prog 36 #[.int .i64 11, .int .i64 n] w' (WhoR 0 w')) := Lib.hid (fun w' => hw ▸ rdWhole 11 n w')
  unfold WhoR at HW
  have HIR := Lib.hid hi
  clear hi
  clear k0 T0 V0 hw
  go_enter Tryz.func20, Tryz.ntmps20
  go_wp2_with (first
    | (go_at_call 36
       refine (HW.out _).mono ?_
       rintro y w1 ⟨rfl, k1⟩
       have HT1 := Lib.hid (HT.out.kept (F := fun _ => False) k1 id)
       have HV1 := Lib.hid (HV.out.kept (F := fun _ => False) k1 id)
       obtain ⟨t0, t1, t2, t3⟩ := box4_cells' HT1.out
       obtain ⟨v0, v1, v2⟩ := box3_cells HV1.out
       have HK1 := Lib.hid (HK.out.trans k1)
       clear k1))
  go_loopw [6] (fun u wr => ∃ i : Nat, u = .int .i64 i ∧ i ≤ s.length ∧ wr = w1 ∧ Hid ((s.drop i).all Utf.scal = s.all Utf.scal)) (fun u _ => s.length - (intOf u).toNat)
  case atStart => exact ⟨0, rfl, Nat.zero_le _, rfl, Lib.hid rfl⟩
  case round =>
    obtain ⟨i, rfl, hi, rfl, hst⟩ := hrel
    by_cases hlt : i < s.length
    · obtain ⟨x, hx⟩ : ∃ x, s[i]? = some x := ⟨_, List.getElem?_eq_getElem hlt⟩
      obtain ⟨g, o, rfl, hg, c0⟩ := (HIR.out.kept HK1.out).at hx
      have e1 : s.drop i = x :: s.drop (i + 1) := by
        obtain ⟨hi', e⟩ := List.getElem?_eq_some_iff.1 hx
        rw [← e]
        exact List.drop_eq_getElem_cons hi'
      have e2 := hst.out
      rw [e1, List.all_cons] at e2
      have HS := Lib.hid (fun w => refScalar_any x w)
      have HE := Lib.hid e2
      have hltd : decide (i < s.length) = true := decide_eq_true hlt
      have hwi : IntKind.i64.wrap ((i : Int) + 1) = ((i + 1 : Nat) : Int) := by rw [IntKind.wrap_i64]; omega
      have HLT : Hid (i + 1 ≤ s.length) := Lib.hid hlt
      clear hx hg e1 e2
      by_cases hsx : Utf.scal x = true
      · rw [hsx] at HS HE
        have HE2 : Hid ((s.drop (i + 1)).all Utf.scal = s.all Utf.scal) := Lib.hid (by have := HE.out; rwa [Bool.true_and] at this)
        clear hsx
        go_wp2_with (first
          | (go_at_call 37; refine (HS.out _).mono ?_; rintro y w2 ⟨rfl, rfl⟩))
        exact ⟨⟨i + 1, by first | rw [hwi] | rfl, HLT.out, by first | rfl | trivial, HE2⟩, by have hlt := HLT.out; simp [intOf]; omega⟩
      · rw [Bool.eq_false_iff.2 hsx] at HS HE
        have HE2 : Hid (s.all Utf.scal = false) := Lib.hid (by have := HE.out; rw [Bool.false_and] at this; exact this.symm)
        clear hsx
        go_wp2_with (first
          | (go_at_call 37; refine (HS.out _).mono ?_; rintro y w2 ⟨rfl, rfl⟩))
        go_ret
        exact ⟨rfl, HK1.out⟩
    · have he : i = s.length := by omega
      subst he
      have e1 := hst.out
      rw [List.drop_length] at e1
      have HE : Hid (s.all Utf.scal = true) := Lib.hid e1.symm
      have hltd : decide (s.length < s.length) = false := decide_eq_false hlt
      clear e1 hlt
      exact absurd (hall.symm.trans HE.out) (by decide)
set_option maxRecDepth 100000 in
set_option maxHeartbeats 4000000 in
theorem pa_11n (names : List Nm) (l : List Ty) (r : Int) (an : Option Addr) (cn : Nat) (al : Option Addr) (cl : Nat) (n : Int) (s : List Int) (vl : List Vl) (sa : Option Addr) (sc : Nat) (av : Option Addr) (cv : Nat) (w : World) (hi : IRowAt w s sa sc) (hsl : s.length ≤ 20000) (hn : (n != 0) = true) (hw : wholeK 11 n = 0) :
    Calls Tryz.prog 20 #[.agg #[.int .i64 11, .slice an names.length cn, .slice al l.length cl, .int .i64 r], .agg #[.int .i64 n, .slice sa s.length sc, .slice av vl.length cv]] w (CntR (0) w) := by
  have k0 : Kept (fun _ => False) w ((w.alloc (.cells #[.int .i64 11, .slice an names.length cn, .slice al l.length cl, .int .i64 r] 25)).alloc (.cells #[.int .i64 n, .slice sa s.length sc, .slice av vl.length cv] 29)) := ((Kept.refl _ _).new _).new _
  have T0 := (BlkAt.new w #[.int .i64 11, .slice an names.length cn, .slice al l.length cl, .int .i64 r] 25).kept (F := fun _ => False) ((Kept.refl _ _).new (.cells #[.int .i64 n, .slice sa s.length sc, .slice av vl.length cv] 29)) id
  have V0 := BlkAt.new (w.alloc (.cells #[.int .i64 11, .slice an names.length cn, .slice al l.length cl, .int .i64 r] 25)) #[.int .i64 n, .slice sa s.length sc, .slice av vl.length cv] 29
  rw [World.size_alloc] at V0
  have HT := Lib.hid T0
  have HV := Lib.hid V0
  have HK := Lib.hid k0
  have HW : Hid (∀ w', Calls Tryz.prog 36 #[.int .i64 11, .int .i64 n] w' (WhoR 0 w')) := Lib.hid (fun w' => hw ▸ rdWhole 11 n w')
  unfold WhoR at HW
  have HIR := Lib.hid hi
  clear hi
  clear k0 T0 V0 hw
  go_enter Tryz.func20, Tryz.ntmps20
  go_wp2_with (first
    | (go_at_call 36
       refine (HW.out _).mono ?_
       rintro y w1 ⟨rfl, k1⟩
       have HT1 := Lib.hid (HT.out.kept (F := fun _ => False) k1 id)
       have HV1 := Lib.hid (HV.out.kept (F := fun _ => False) k1 id)
       obtain ⟨t0, t1, t2, t3⟩ := box4_cells' HT1.out
       obtain ⟨v0, v1, v2⟩ := box3_cells HV1.out
       have HK1 := Lib.hid (HK.out.trans k1)
       clear k1))
  go_loopw [6] (fun u wr => ∃ i : Nat, u = .int .i64 i ∧ i ≤ s.length ∧ wr = w1 ∧ Hid ((s.drop i).all Utf.scal = s.all Utf.scal)) (fun u _ => s.length - (intOf u).toNat)
  case atStart => exact ⟨0, rfl, Nat.zero_le _, rfl, Lib.hid rfl⟩
  case round =>
    obtain ⟨i, rfl, hi, rfl, hst⟩ := hrel
    by_cases hlt : i < s.length
    · obtain ⟨x, hx⟩ : ∃ x, s[i]? = some x := ⟨_, List.getElem?_eq_getElem hlt⟩
      obtain ⟨g, o, rfl, hg, c0⟩ := (HIR.out.kept HK1.out).at hx
      have e1 : s.drop i = x :: s.drop (i + 1) := by
        obtain ⟨hi', e⟩ := List.getElem?_eq_some_iff.1 hx
        rw [← e]
        exact List.drop_eq_getElem_cons hi'
      have e2 := hst.out
      rw [e1, List.all_cons] at e2
      have HS := Lib.hid (fun w => refScalar_any x w)
      have HE := Lib.hid e2
      have hltd : decide (i < s.length) = true := decide_eq_true hlt
      have hwi : IntKind.i64.wrap ((i : Int) + 1) = ((i + 1 : Nat) : Int) := by rw [IntKind.wrap_i64]; omega
      have HLT : Hid (i + 1 ≤ s.length) := Lib.hid hlt
      clear hx hg e1 e2
      by_cases hsx : Utf.scal x = true
      · rw [hsx] at HS HE
        have HE2 : Hid ((s.drop (i + 1)).all Utf.scal = s.all Utf.scal) := Lib.hid (by have := HE.out; rwa [Bool.true_and] at this)
        clear hsx
        go_wp2_with (first
          | (go_at_call 37; refine (HS.out _).mono ?_; rintro y w2 ⟨rfl, rfl⟩))
        exact ⟨⟨i + 1, by first | rw [hwi] | rfl, HLT.out, by first | rfl | trivial, HE2⟩, by have hlt := HLT.out; simp [intOf]; omega⟩
      · rw [Bool.eq_false_iff.2 hsx] at HS HE
        have HE2 : Hid (s.all Utf.scal = false) := Lib.hid (by have := HE.out; rw [Bool.false_and] at this; exact this.symm)
        clear hsx
        go_wp2_with (first
          | (go_at_call 37; refine (HS.out _).mono ?_; rintro y w2 ⟨rfl, rfl⟩))
        go_ret
        exact ⟨rfl, HK1.out⟩
    · have he : i = s.length := by omega
      subst he
      have e1 := hst.out
      rw [List.drop_length] at e1
      have HE : Hid (s.all Utf.scal = true) := Lib.hid e1.symm
      have hltd : decide (s.length < s.length) = false := decide_eq_false hlt
      clear e1 hlt
      go_wp2_with fail
      go_ret
      exact ⟨rfl, HK1.out⟩
set_option maxRecDepth 100000 in
set_option maxHeartbeats 4000000 in
theorem pa_11l (names : List Nm) (l : List Ty) (r : Int) (an : Option Addr) (cn : Nat) (al : Option Addr) (cl : Nat) (n : Int) (s : List Int) (vl : List Vl) (sa : Option Addr) (sc : Nat) (av : Option Addr) (cv : Nat) (w : World) (hi : IRowAt w s sa sc) (hsl : s.length ≤ 20000) (hn : (n != 0) = false) (hl : decide (0 < vl.length) = true) (hw : wholeK 11 n = 0) :
    Calls Tryz.prog 20 #[.agg #[.int .i64 11, .slice an names.length cn, .slice al l.length cl, .int .i64 r], .agg #[.int .i64 n, .slice sa s.length sc, .slice av vl.length cv]] w (CntR (0) w) := by
  have k0 : Kept (fun _ => False) w ((w.alloc (.cells #[.int .i64 11, .slice an names.length cn, .slice al l.length cl, .int .i64 r] 25)).alloc (.cells #[.int .i64 n, .slice sa s.length sc, .slice av vl.length cv] 29)) := ((Kept.refl _ _).new _).new _
  have T0 := (BlkAt.new w #[.int .i64 11, .slice an names.length cn, .slice al l.length cl, .int .i64 r] 25).kept (F := fun _ => False) ((Kept.refl _ _).new (.cells #[.int .i64 n, .slice sa s.length sc, .slice av vl.length cv] 29)) id
  have V0 := BlkAt.new (w.alloc (.cells #[.int .i64 11, .slice an names.length cn, .slice al l.length cl, .int .i64 r] 25)) #[.int .i64 n, .slice sa s.length sc, .slice av vl.length cv] 29
  rw [World.size_alloc] at V0
  have HT := Lib.hid T0
  have HV := Lib.hid V0
  have HK := Lib.hid k0
  have HW : Hid (∀ w', Calls Tryz.prog 36 #[.int .i64 11, .int .i64 n] w' (WhoR 0 w')) := Lib.hid (fun w' => hw ▸ rdWhole 11 n w')
  unfold WhoR at HW
  have HIR := Lib.hid hi
  clear hi
  clear k0 T0 V0 hw
  go_enter Tryz.func20, Tryz.ntmps20
  go_wp2_with (first
    | (go_at_call 36
       refine (HW.out _).mono ?_
       rintro y w1 ⟨rfl, k1⟩
       have HT1 := Lib.hid (HT.out.kept (F := fun _ => False) k1 id)
       have HV1 := Lib.hid (HV.out.kept (F := fun _ => False) k1 id)
       obtain ⟨t0, t1, t2, t3⟩ := box4_cells' HT1.out
       obtain ⟨v0, v1, v2⟩ := box3_cells HV1.out
       have HK1 := Lib.hid (HK.out.trans k1)
       clear k1))
  go_loopw [6] (fun u wr => ∃ i : Nat, u = .int .i64 i ∧ i ≤ s.length ∧ wr = w1 ∧ Hid ((s.drop i).all Utf.scal = s.all Utf.scal)) (fun u _ => s.length - (intOf u).toNat)
  case atStart => exact ⟨0, rfl, Nat.zero_le _, rfl, Lib.hid rfl⟩
  case round =>
    obtain ⟨i, rfl, hi, rfl, hst⟩ := hrel
    by_cases hlt : i < s.length
    · obtain ⟨x, hx⟩ : ∃ x, s[i]? = some x := ⟨_, List.getElem?_eq_getElem hlt⟩
      obtain ⟨g, o, rfl, hg, c0⟩ := (HIR.out.kept HK1.out).at hx
      have e1 : s.drop i = x :: s.drop (i + 1) := by
        obtain ⟨hi', e⟩ := List.getElem?_eq_some_iff.1 hx
        rw [← e]
        exact List.drop_eq_getElem_cons hi'
      have e2 := hst.out
      rw [e1, List.all_cons] at e2
      have HS := Lib.hid (fun w => refScalar_any x w)
      have HE := Lib.hid e2
      have hltd : decide (i < s.length) = true := decide_eq_true hlt
      have hwi : IntKind.i64.wrap ((i : Int) + 1) = ((i + 1 : Nat) : Int) := by rw [IntKind.wrap_i64]; omega
      have HLT : Hid (i + 1 ≤ s.length) := Lib.hid hlt
      clear hx hg e1 e2
      by_cases hsx : Utf.scal x = true
      · rw [hsx] at HS HE
        have HE2 : Hid ((s.drop (i + 1)).all Utf.scal = s.all Utf.scal) := Lib.hid (by have := HE.out; rwa [Bool.true_and] at this)
        clear hsx
        go_wp2_with (first
          | (go_at_call 37; refine (HS.out _).mono ?_; rintro y w2 ⟨rfl, rfl⟩))
        exact ⟨⟨i + 1, by first | rw [hwi] | rfl, HLT.out, by first | rfl | trivial, HE2⟩, by have hlt := HLT.out; simp [intOf]; omega⟩
      · rw [Bool.eq_false_iff.2 hsx] at HS HE
        have HE2 : Hid (s.all Utf.scal = false) := Lib.hid (by have := HE.out; rw [Bool.false_and] at this; exact this.symm)
        clear hsx
        go_wp2_with (first
          | (go_at_call 37; refine (HS.out _).mono ?_; rintro y w2 ⟨rfl, rfl⟩))
        go_ret
        exact ⟨rfl, HK1.out⟩
    · have he : i = s.length := by omega
      subst he
      have e1 := hst.out
      rw [List.drop_length] at e1
      have HE : Hid (s.all Utf.scal = true) := Lib.hid e1.symm
      have hltd : decide (s.length < s.length) = false := decide_eq_false hlt
      clear e1 hlt
      go_wp2_with fail
      go_ret
      exact ⟨rfl, HK1.out⟩
set_option maxRecDepth 100000 in
set_option maxHeartbeats 4000000 in
theorem pa_11b (names : List Nm) (l : List Ty) (r : Int) (an : Option Addr) (cn : Nat) (al : Option Addr) (cl : Nat) (n : Int) (s : List Int) (vl : List Vl) (sa : Option Addr) (sc : Nat) (av : Option Addr) (cv : Nat) (w : World) (hi : IRowAt w s sa sc) (hsl : s.length ≤ 20000) (hn : (n != 0) = false) (hl : decide (0 < vl.length) = false) (hb : decide ((s.length : Int) > 1000) = true) (hw : wholeK 11 n = 0) :
    Calls Tryz.prog 20 #[.agg #[.int .i64 11, .slice an names.length cn, .slice al l.length cl, .int .i64 r], .agg #[.int .i64 n, .slice sa s.length sc, .slice av vl.length cv]] w (CntR (0) w) := by
  have k0 : Kept (fun _ => False) w ((w.alloc (.cells #[.int .i64 11, .slice an names.length cn, .slice al l.length cl, .int .i64 r] 25)).alloc (.cells #[.int .i64 n, .slice sa s.length sc, .slice av vl.length cv] 29)) := ((Kept.refl _ _).new _).new _
  have T0 := (BlkAt.new w #[.int .i64 11, .slice an names.length cn, .slice al l.length cl, .int .i64 r] 25).kept (F := fun _ => False) ((Kept.refl _ _).new (.cells #[.int .i64 n, .slice sa s.length sc, .slice av vl.length cv] 29)) id
  have V0 := BlkAt.new (w.alloc (.cells #[.int .i64 11, .slice an names.length cn, .slice al l.length cl, .int .i64 r] 25)) #[.int .i64 n, .slice sa s.length sc, .slice av vl.length cv] 29
  rw [World.size_alloc] at V0
  have HT := Lib.hid T0
  have HV := Lib.hid V0
  have HK := Lib.hid k0
  have HW : Hid (∀ w', Calls Tryz.prog 36 #[.int .i64 11, .int .i64 n] w' (WhoR 0 w')) := Lib.hid (fun w' => hw ▸ rdWhole 11 n w')
  unfold WhoR at HW
  have HIR := Lib.hid hi
  clear hi
  clear k0 T0 V0 hw
  go_enter Tryz.func20, Tryz.ntmps20
  go_wp2_with (first
    | (go_at_call 36
       refine (HW.out _).mono ?_
       rintro y w1 ⟨rfl, k1⟩
       have HT1 := Lib.hid (HT.out.kept (F := fun _ => False) k1 id)
       have HV1 := Lib.hid (HV.out.kept (F := fun _ => False) k1 id)
       obtain ⟨t0, t1, t2, t3⟩ := box4_cells' HT1.out
       obtain ⟨v0, v1, v2⟩ := box3_cells HV1.out
       have HK1 := Lib.hid (HK.out.trans k1)
       clear k1))
  go_loopw [6] (fun u wr => ∃ i : Nat, u = .int .i64 i ∧ i ≤ s.length ∧ wr = w1 ∧ Hid ((s.drop i).all Utf.scal = s.all Utf.scal)) (fun u _ => s.length - (intOf u).toNat)
  case atStart => exact ⟨0, rfl, Nat.zero_le _, rfl, Lib.hid rfl⟩
  case round =>
    obtain ⟨i, rfl, hi, rfl, hst⟩ := hrel
    by_cases hlt : i < s.length
    · obtain ⟨x, hx⟩ : ∃ x, s[i]? = some x := ⟨_, List.getElem?_eq_getElem hlt⟩
      obtain ⟨g, o, rfl, hg, c0⟩ := (HIR.out.kept HK1.out).at hx
      have e1 : s.drop i = x :: s.drop (i + 1) := by
        obtain ⟨hi', e⟩ := List.getElem?_eq_some_iff.1 hx
        rw [← e]
        exact List.drop_eq_getElem_cons hi'
      have e2 := hst.out
      rw [e1, List.all_cons] at e2
      have HS := Lib.hid (fun w => refScalar_any x w)
      have HE := Lib.hid e2
      have hltd : decide (i < s.length) = true := decide_eq_true hlt
      have hwi : IntKind.i64.wrap ((i : Int) + 1) = ((i + 1 : Nat) : Int) := by rw [IntKind.wrap_i64]; omega
      have HLT : Hid (i + 1 ≤ s.length) := Lib.hid hlt
      clear hx hg e1 e2
      by_cases hsx : Utf.scal x = true
      · rw [hsx] at HS HE
        have HE2 : Hid ((s.drop (i + 1)).all Utf.scal = s.all Utf.scal) := Lib.hid (by have := HE.out; rwa [Bool.true_and] at this)
        clear hsx
        go_wp2_with (first
          | (go_at_call 37; refine (HS.out _).mono ?_; rintro y w2 ⟨rfl, rfl⟩))
        exact ⟨⟨i + 1, by first | rw [hwi] | rfl, HLT.out, by first | rfl | trivial, HE2⟩, by have hlt := HLT.out; simp [intOf]; omega⟩
      · rw [Bool.eq_false_iff.2 hsx] at HS HE
        have HE2 : Hid (s.all Utf.scal = false) := Lib.hid (by have := HE.out; rw [Bool.false_and] at this; exact this.symm)
        clear hsx
        go_wp2_with (first
          | (go_at_call 37; refine (HS.out _).mono ?_; rintro y w2 ⟨rfl, rfl⟩))
        go_ret
        exact ⟨rfl, HK1.out⟩
    · have he : i = s.length := by omega
      subst he
      have e1 := hst.out
      rw [List.drop_length] at e1
      have HE : Hid (s.all Utf.scal = true) := Lib.hid e1.symm
      have hltd : decide (s.length < s.length) = false := decide_eq_false hlt
      clear e1 hlt
      go_wp2_with fail
      go_ret
      exact ⟨rfl, HK1.out⟩
set_option maxRecDepth 100000 in
set_option maxHeartbeats 4000000 in
theorem pa_11 (names : List Nm) (l : List Ty) (r : Int) (an : Option Addr) (cn : Nat) (al : Option Addr) (cl : Nat) (n : Int) (s : List Int) (vl : List Vl) (sa : Option Addr) (sc : Nat) (av : Option Addr) (cv : Nat) (w : World) (hi : IRowAt w s sa sc) (hsl : s.length ≤ 20000) (hall : Hid (s.all Utf.scal = true)) (hn : (n != 0) = false) (hl : decide (0 < vl.length) = false) (hb : decide ((s.length : Int) > 1000) = false) (hw : wholeK 11 n = 0) :
    Calls Tryz.prog 20 #[.agg #[.int .i64 11, .slice an names.length cn, .slice al l.length cl, .int .i64 r], .agg #[.int .i64 n, .slice sa s.length sc, .slice av vl.length cv]] w (CntR (1 + s.length) w) := by
  have k0 : Kept (fun _ => False) w ((w.alloc (.cells #[.int .i64 11, .slice an names.length cn, .slice al l.length cl, .int .i64 r] 25)).alloc (.cells #[.int .i64 n, .slice sa s.length sc, .slice av vl.length cv] 29)) := ((Kept.refl _ _).new _).new _
  have T0 := (BlkAt.new w #[.int .i64 11, .slice an names.length cn, .slice al l.length cl, .int .i64 r] 25).kept (F := fun _ => False) ((Kept.refl _ _).new (.cells #[.int .i64 n, .slice sa s.length sc, .slice av vl.length cv] 29)) id
  have V0 := BlkAt.new (w.alloc (.cells #[.int .i64 11, .slice an names.length cn, .slice al l.length cl, .int .i64 r] 25)) #[.int .i64 n, .slice sa s.length sc, .slice av vl.length cv] 29
  rw [World.size_alloc] at V0
  have HT := Lib.hid T0
  have HV := Lib.hid V0
  have HK := Lib.hid k0
  have HW : Hid (∀ w', Calls Tryz.prog 36 #[.int .i64 11, .int .i64 n] w' (WhoR 0 w')) := Lib.hid (fun w' => hw ▸ rdWhole 11 n w')
  unfold WhoR at HW
  have HIR := Lib.hid hi
  clear hi
  clear k0 T0 V0 hw
  go_enter Tryz.func20, Tryz.ntmps20
  go_wp2_with (first
    | (go_at_call 36
       refine (HW.out _).mono ?_
       rintro y w1 ⟨rfl, k1⟩
       have HT1 := Lib.hid (HT.out.kept (F := fun _ => False) k1 id)
       have HV1 := Lib.hid (HV.out.kept (F := fun _ => False) k1 id)
       obtain ⟨t0, t1, t2, t3⟩ := box4_cells' HT1.out
       obtain ⟨v0, v1, v2⟩ := box3_cells HV1.out
       have HK1 := Lib.hid (HK.out.trans k1)
       clear k1))
  go_loopw [6] (fun u wr => ∃ i : Nat, u = .int .i64 i ∧ i ≤ s.length ∧ wr = w1 ∧ Hid ((s.drop i).all Utf.scal = s.all Utf.scal)) (fun u _ => s.length - (intOf u).toNat)
  case atStart => exact ⟨0, rfl, Nat.zero_le _, rfl, Lib.hid rfl⟩
  case round =>
    obtain ⟨i, rfl, hi, rfl, hst⟩ := hrel
    by_cases hlt : i < s.length
    · obtain ⟨x, hx⟩ : ∃ x, s[i]? = some x := ⟨_, List.getElem?_eq_getElem hlt⟩
      obtain ⟨g, o, rfl, hg, c0⟩ := (HIR.out.kept HK1.out).at hx
      have e1 : s.drop i = x :: s.drop (i + 1) := by
        obtain ⟨hi', e⟩ := List.getElem?_eq_some_iff.1 hx
        rw [← e]
        exact List.drop_eq_getElem_cons hi'
      have e2 := hst.out
      rw [e1, List.all_cons] at e2
      have HS := Lib.hid (fun w => refScalar_any x w)
      have HE := Lib.hid e2
      have hltd : decide (i < s.length) = true := decide_eq_true hlt
      have hwi : IntKind.i64.wrap ((i : Int) + 1) = ((i + 1 : Nat) : Int) := by rw [IntKind.wrap_i64]; omega
      have HLT : Hid (i + 1 ≤ s.length) := Lib.hid hlt
      clear hx hg e1 e2
      by_cases hsx : Utf.scal x = true
      · rw [hsx] at HS HE
        have HE2 : Hid ((s.drop (i + 1)).all Utf.scal = s.all Utf.scal) := Lib.hid (by have := HE.out; rwa [Bool.true_and] at this)
        clear hsx
        go_wp2_with (first
          | (go_at_call 37; refine (HS.out _).mono ?_; rintro y w2 ⟨rfl, rfl⟩))
        exact ⟨⟨i + 1, by first | rw [hwi] | rfl, HLT.out, by first | rfl | trivial, HE2⟩, by have hlt := HLT.out; simp [intOf]; omega⟩
      · rw [Bool.eq_false_iff.2 hsx] at HS HE
        have HE2 : Hid (s.all Utf.scal = false) := Lib.hid (by have := HE.out; rw [Bool.false_and] at this; exact this.symm)
        clear hsx
        go_wp2_with (first
          | (go_at_call 37; refine (HS.out _).mono ?_; rintro y w2 ⟨rfl, rfl⟩))
        exact absurd (HE2.out.symm.trans hall.out) (by decide)
    · have he : i = s.length := by omega
      subst he
      have e1 := hst.out
      rw [List.drop_length] at e1
      have HE : Hid (s.all Utf.scal = true) := Lib.hid e1.symm
      have hltd : decide (s.length < s.length) = false := decide_eq_false hlt
      clear e1 hlt
      have hws : IntKind.i64.wrap (1 + (s.length : Int)) = 1 + (s.length : Int) := by rw [IntKind.wrap_i64]; omega
      go_wp2_with fail
      go_ret
      exact ⟨by first | rfl | (refine congrArg (fun c => Ending.returned (.int .i64 c)) ?_; simp; done), HK1.out⟩
set_option maxRecDepth 100000 in
set_option maxHeartbeats 4000000 in
theorem pa_os (names : List Nm) (l : List Ty) (r : Int) (an : Option Addr) (cn : Nat) (al : Option Addr) (cl : Nat) (n : Int) (s : List Int) (vl : List Vl) (sa : Option Addr) (sc : Nat) (av : Option Addr) (cv : Nat) (w : World) (k : Int) (h10 : (k == 10) = false) (h11 : (k == 11) = false) (hs : decide (0 < s.length) = true) (hw : wholeK k n = 0) :
    Calls Tryz.prog 20 #[.agg #[.int .i64 k, .slice an names.length cn, .slice al l.length cl, .int .i64 r], .agg #[.int .i64 n, .slice sa s.length sc, .slice av vl.length cv]] w (CntR (0) w) := by
  have k0 : Kept (fun _ => False) w ((w.alloc (.cells #[.int .i64 k, .slice an names.length cn, .slice al l.length cl, .int .i64 r] 25)).alloc (.cells #[.int .i64 n, .slice sa s.length sc, .slice av vl.length cv] 29)) := ((Kept.refl _ _).new _).new _
  have T0 := (BlkAt.new w #[.int .i64 k, .slice an names.length cn, .slice al l.length cl, .int .i64 r] 25).kept (F := fun _ => False) ((Kept.refl _ _).new (.cells #[.int .i64 n, .slice sa s.length sc, .slice av vl.length cv] 29)) id
  have V0 := BlkAt.new (w.alloc (.cells #[.int .i64 k, .slice an names.length cn, .slice al l.length cl, .int .i64 r] 25)) #[.int .i64 n, .slice sa s.length sc, .slice av vl.length cv] 29
  rw [World.size_alloc] at V0
  have HT := Lib.hid T0
  have HV := Lib.hid V0
  have HK := Lib.hid k0
  have HW : Hid (∀ w', Calls Tryz.prog 36 #[.int .i64 k, .int .i64 n] w' (WhoR 0 w')) := Lib.hid (fun w' => hw ▸ rdWhole k n w')
  unfold WhoR at HW
  clear k0 T0 V0 hw
  go_enter Tryz.func20, Tryz.ntmps20
  go_wp2_with (first
    | (go_at_call 36
       refine (HW.out _).mono ?_
       rintro y w1 ⟨rfl, k1⟩
       have HT1 := Lib.hid (HT.out.kept (F := fun _ => False) k1 id)
       have HV1 := Lib.hid (HV.out.kept (F := fun _ => False) k1 id)
       obtain ⟨t0, t1, t2, t3⟩ := box4_cells' HT1.out
       obtain ⟨v0, v1, v2⟩ := box3_cells HV1.out
       have HK1 := Lib.hid (HK.out.trans k1)
       clear k1))
  go_ret
  exact ⟨rfl, HK1.out⟩
set_option maxRecDepth 100000 in
set_option maxHeartbeats 4000000 in
theorem pa_19n (names : List Nm) (l : List Ty) (r : Int) (an : Option Addr) (cn : Nat) (al : Option Addr) (cl : Nat) (n : Int) (s : List Int) (vl : List Vl) (sa : Option Addr) (sc : Nat) (av : Option Addr) (cv : Nat) (w : World) (hs : decide (0 < s.length) = false) (hnl : names.length ≤ 32) (hn : decide (n < 0) = true) (hw : wholeK 19 n = 0) :
    Calls Tryz.prog 20 #[.agg #[.int .i64 19, .slice an names.length cn, .slice al l.length cl, .int .i64 r], .agg #[.int .i64 n, .slice sa s.length sc, .slice av vl.length cv]] w (CntR (0) w) := by
  have k0 : Kept (fun _ => False) w ((w.alloc (.cells #[.int .i64 19, .slice an names.length cn, .slice al l.length cl, .int .i64 r] 25)).alloc (.cells #[.int .i64 n, .slice sa s.length sc, .slice av vl.length cv] 29)) := ((Kept.refl _ _).new _).new _
  have T0 := (BlkAt.new w #[.int .i64 19, .slice an names.length cn, .slice al l.length cl, .int .i64 r] 25).kept (F := fun _ => False) ((Kept.refl _ _).new (.cells #[.int .i64 n, .slice sa s.length sc, .slice av vl.length cv] 29)) id
  have V0 := BlkAt.new (w.alloc (.cells #[.int .i64 19, .slice an names.length cn, .slice al l.length cl, .int .i64 r] 25)) #[.int .i64 n, .slice sa s.length sc, .slice av vl.length cv] 29
  rw [World.size_alloc] at V0
  have HT := Lib.hid T0
  have HV := Lib.hid V0
  have HK := Lib.hid k0
  have HW : Hid (∀ w', Calls Tryz.prog 36 #[.int .i64 19, .int .i64 n] w' (WhoR 0 w')) := Lib.hid (fun w' => hw ▸ rdWhole 19 n w')
  unfold WhoR at HW
  clear k0 T0 V0 hw
  go_enter Tryz.func20, Tryz.ntmps20
  go_wp2_with (first
    | (go_at_call 36
       refine (HW.out _).mono ?_
       rintro y w1 ⟨rfl, k1⟩
       have HT1 := Lib.hid (HT.out.kept (F := fun _ => False) k1 id)
       have HV1 := Lib.hid (HV.out.kept (F := fun _ => False) k1 id)
       obtain ⟨t0, t1, t2, t3⟩ := box4_cells' HT1.out
       obtain ⟨v0, v1, v2⟩ := box3_cells HV1.out
       have HK1 := Lib.hid (HK.out.trans k1)
       clear k1))
  go_loopw [7, 8] (fun m u wr => ∃ j : Nat, u = .int .i64 j ∧ m = .int .i64 (pw j : Nat) ∧ j ≤ names.length ∧ wr = w1) (fun _ u _ => names.length - (intOf u).toNat)
  case atStart => exact ⟨0, rfl, rfl, Nat.zero_le _, rfl⟩
  case round =>
    obtain ⟨j, rfl, rfl, hj, rfl⟩ := hrel
    by_cases hlt : j < names.length
    · have hp := pow_up j (by omega)
      have hlt' : decide (j < names.length) = true := decide_eq_true hlt
      have hwi : IntKind.i64.wrap ((j : Int) + 1) = ((j + 1 : Nat) : Int) := by rw [IntKind.wrap_i64]; omega
      have HLT : Hid (j + 1 ≤ names.length) := Lib.hid hlt
      go_wp2_with fail
      exact ⟨⟨j + 1, by first | rw [hwi] | rfl, by first | rw [hp] | rfl, HLT.out, by first | rfl | trivial⟩, by have hlt := HLT.out; simp [intOf]; omega⟩
    · have he : j = names.length := by omega
      subst he
      have hlt' : decide (names.length < names.length) = false := decide_eq_false hlt
      clear hlt hj
      go_wp2_with fail
      go_ret
      exact ⟨rfl, HK1.out⟩
set_option maxRecDepth 100000 in
set_option maxHeartbeats 4000000 in
theorem pa_19b (names : List Nm) (l : List Ty) (r : Int) (an : Option Addr) (cn : Nat) (al : Option Addr) (cl : Nat) (n : Int) (s : List Int) (vl : List Vl) (sa : Option Addr) (sc : Nat) (av : Option Addr) (cv : Nat) (w : World) (hs : decide (0 < s.length) = false) (hnl : names.length ≤ 32) (hn : decide (n < 0) = false) (hb : decide (n ≥ ((pw names.length : Nat) : Int)) = true) (hw : wholeK 19 n = 0) :
    Calls Tryz.prog 20 #[.agg #[.int .i64 19, .slice an names.length cn, .slice al l.length cl, .int .i64 r], .agg #[.int .i64 n, .slice sa s.length sc, .slice av vl.length cv]] w (CntR (0) w) := by
  have k0 : Kept (fun _ => False) w ((w.alloc (.cells #[.int .i64 19, .slice an names.length cn, .slice al l.length cl, .int .i64 r] 25)).alloc (.cells #[.int .i64 n, .slice sa s.length sc, .slice av vl.length cv] 29)) := ((Kept.refl _ _).new _).new _
  have T0 := (BlkAt.new w #[.int .i64 19, .slice an names.length cn, .slice al l.length cl, .int .i64 r] 25).kept (F := fun _ => False) ((Kept.refl _ _).new (.cells #[.int .i64 n, .slice sa s.length sc, .slice av vl.length cv] 29)) id
  have V0 := BlkAt.new (w.alloc (.cells #[.int .i64 19, .slice an names.length cn, .slice al l.length cl, .int .i64 r] 25)) #[.int .i64 n, .slice sa s.length sc, .slice av vl.length cv] 29
  rw [World.size_alloc] at V0
  have HT := Lib.hid T0
  have HV := Lib.hid V0
  have HK := Lib.hid k0
  have HW : Hid (∀ w', Calls Tryz.prog 36 #[.int .i64 19, .int .i64 n] w' (WhoR 0 w')) := Lib.hid (fun w' => hw ▸ rdWhole 19 n w')
  unfold WhoR at HW
  clear k0 T0 V0 hw
  go_enter Tryz.func20, Tryz.ntmps20
  go_wp2_with (first
    | (go_at_call 36
       refine (HW.out _).mono ?_
       rintro y w1 ⟨rfl, k1⟩
       have HT1 := Lib.hid (HT.out.kept (F := fun _ => False) k1 id)
       have HV1 := Lib.hid (HV.out.kept (F := fun _ => False) k1 id)
       obtain ⟨t0, t1, t2, t3⟩ := box4_cells' HT1.out
       obtain ⟨v0, v1, v2⟩ := box3_cells HV1.out
       have HK1 := Lib.hid (HK.out.trans k1)
       clear k1))
  go_loopw [7, 8] (fun m u wr => ∃ j : Nat, u = .int .i64 j ∧ m = .int .i64 (pw j : Nat) ∧ j ≤ names.length ∧ wr = w1) (fun _ u _ => names.length - (intOf u).toNat)
  case atStart => exact ⟨0, rfl, rfl, Nat.zero_le _, rfl⟩
  case round =>
    obtain ⟨j, rfl, rfl, hj, rfl⟩ := hrel
    by_cases hlt : j < names.length
    · have hp := pow_up j (by omega)
      have hlt' : decide (j < names.length) = true := decide_eq_true hlt
      have hwi : IntKind.i64.wrap ((j : Int) + 1) = ((j + 1 : Nat) : Int) := by rw [IntKind.wrap_i64]; omega
      have HLT : Hid (j + 1 ≤ names.length) := Lib.hid hlt
      go_wp2_with fail
      exact ⟨⟨j + 1, by first | rw [hwi] | rfl, by first | rw [hp] | rfl, HLT.out, by first | rfl | trivial⟩, by have hlt := HLT.out; simp [intOf]; omega⟩
    · have he : j = names.length := by omega
      subst he
      have hlt' : decide (names.length < names.length) = false := decide_eq_false hlt
      clear hlt hj
      go_wp2_with fail
      go_ret
      exact ⟨rfl, HK1.out⟩
set_option maxRecDepth 100000 in
set_option maxHeartbeats 4000000 in
theorem pa_19l (names : List Nm) (l : List Ty) (r : Int) (an : Option Addr) (cn : Nat) (al : Option Addr) (cl : Nat) (n : Int) (s : List Int) (vl : List Vl) (sa : Option Addr) (sc : Nat) (av : Option Addr) (cv : Nat) (w : World) (hs : decide (0 < s.length) = false) (hnl : names.length ≤ 32) (hn : decide (n < 0) = false) (hb : decide (n ≥ ((pw names.length : Nat) : Int)) = false) (hl : decide (0 < vl.length) = true) (hw : wholeK 19 n = 0) :
    Calls Tryz.prog 20 #[.agg #[.int .i64 19, .slice an names.length cn, .slice al l.length cl, .int .i64 r], .agg #[.int .i64 n, .slice sa s.length sc, .slice av vl.length cv]] w (CntR (0) w) := by
  have k0 : Kept (fun _ => False) w ((w.alloc (.cells #[.int .i64 19, .slice an names.length cn, .slice al l.length cl, .int .i64 r] 25)).alloc (.cells #[.int .i64 n, .slice sa s.length sc, .slice av vl.length cv] 29)) := ((Kept.refl _ _).new _).new _
  have T0 := (BlkAt.new w #[.int .i64 19, .slice an names.length cn, .slice al l.length cl, .int .i64 r] 25).kept (F := fun _ => False) ((Kept.refl _ _).new (.cells #[.int .i64 n, .slice sa s.length sc, .slice av vl.length cv] 29)) id
  have V0 := BlkAt.new (w.alloc (.cells #[.int .i64 19, .slice an names.length cn, .slice al l.length cl, .int .i64 r] 25)) #[.int .i64 n, .slice sa s.length sc, .slice av vl.length cv] 29
  rw [World.size_alloc] at V0
  have HT := Lib.hid T0
  have HV := Lib.hid V0
  have HK := Lib.hid k0
  have HW : Hid (∀ w', Calls Tryz.prog 36 #[.int .i64 19, .int .i64 n] w' (WhoR 0 w')) := Lib.hid (fun w' => hw ▸ rdWhole 19 n w')
  unfold WhoR at HW
  clear k0 T0 V0 hw
  go_enter Tryz.func20, Tryz.ntmps20
  go_wp2_with (first
    | (go_at_call 36
       refine (HW.out _).mono ?_
       rintro y w1 ⟨rfl, k1⟩
       have HT1 := Lib.hid (HT.out.kept (F := fun _ => False) k1 id)
       have HV1 := Lib.hid (HV.out.kept (F := fun _ => False) k1 id)
       obtain ⟨t0, t1, t2, t3⟩ := box4_cells' HT1.out
       obtain ⟨v0, v1, v2⟩ := box3_cells HV1.out
       have HK1 := Lib.hid (HK.out.trans k1)
       clear k1))
  go_loopw [7, 8] (fun m u wr => ∃ j : Nat, u = .int .i64 j ∧ m = .int .i64 (pw j : Nat) ∧ j ≤ names.length ∧ wr = w1) (fun _ u _ => names.length - (intOf u).toNat)
  case atStart => exact ⟨0, rfl, rfl, Nat.zero_le _, rfl⟩
  case round =>
    obtain ⟨j, rfl, rfl, hj, rfl⟩ := hrel
    by_cases hlt : j < names.length
    · have hp := pow_up j (by omega)
      have hlt' : decide (j < names.length) = true := decide_eq_true hlt
      have hwi : IntKind.i64.wrap ((j : Int) + 1) = ((j + 1 : Nat) : Int) := by rw [IntKind.wrap_i64]; omega
      have HLT : Hid (j + 1 ≤ names.length) := Lib.hid hlt
      go_wp2_with fail
      exact ⟨⟨j + 1, by first | rw [hwi] | rfl, by first | rw [hp] | rfl, HLT.out, by first | rfl | trivial⟩, by have hlt := HLT.out; simp [intOf]; omega⟩
    · have he : j = names.length := by omega
      subst he
      have hlt' : decide (names.length < names.length) = false := decide_eq_false hlt
      clear hlt hj
      go_wp2_with fail
      go_ret
      exact ⟨rfl, HK1.out⟩
set_option maxRecDepth 100000 in
set_option maxHeartbeats 4000000 in
theorem pa_19 (names : List Nm) (l : List Ty) (r : Int) (an : Option Addr) (cn : Nat) (al : Option Addr) (cl : Nat) (n : Int) (s : List Int) (vl : List Vl) (sa : Option Addr) (sc : Nat) (av : Option Addr) (cv : Nat) (w : World) (hs : decide (0 < s.length) = false) (hnl : names.length ≤ 32) (hn : decide (n < 0) = false) (hb : decide (n ≥ ((pw names.length : Nat) : Int)) = false) (hl : decide (0 < vl.length) = false) (hw : wholeK 19 n = 0) :
    Calls Tryz.prog 20 #[.agg #[.int .i64 19, .slice an names.length cn, .slice al l.length cl, .int .i64 r], .agg #[.int .i64 n, .slice sa s.length sc, .slice av vl.length cv]] w (CntR (1) w) := by
  have k0 : Kept (fun _ => False) w ((w.alloc (.cells #[.int .i64 19, .slice an names.length cn, .slice al l.length cl, .int .i64 r] 25)).alloc (.cells #[.int .i64 n, .slice sa s.length sc, .slice av vl.length cv] 29)) := ((Kept.refl _ _).new _).new _
  have T0 := (BlkAt.new w #[.int .i64 19, .slice an names.length cn, .slice al l.length cl, .int .i64 r] 25).kept (F := fun _ => False) ((Kept.refl _ _).new (.cells #[.int .i64 n, .slice sa s.length sc, .slice av vl.length cv] 29)) id
  have V0 := BlkAt.new (w.alloc (.cells #[.int .i64 19, .slice an names.length cn, .slice al l.length cl, .int .i64 r] 25)) #[.int .i64 n, .slice sa s.length sc, .slice av vl.length cv] 29
  rw [World.size_alloc] at V0
  have HT := Lib.hid T0
  have HV := Lib.hid V0
  have HK := Lib.hid k0
  have HW : Hid (∀ w', Calls Tryz.prog 36 #[.int .i64 19, .int .i64 n] w' (WhoR 0 w')) := Lib.hid (fun w' => hw ▸ rdWhole 19 n w')
  unfold WhoR at HW
  clear k0 T0 V0 hw
  go_enter Tryz.func20, Tryz.ntmps20
  go_wp2_with (first
    | (go_at_call 36
       refine (HW.out _).mono ?_
       rintro y w1 ⟨rfl, k1⟩
       have HT1 := Lib.hid (HT.out.kept (F := fun _ => False) k1 id)
       have HV1 := Lib.hid (HV.out.kept (F := fun _ => False) k1 id)
       obtain ⟨t0, t1, t2, t3⟩ := box4_cells' HT1.out
       obtain ⟨v0, v1, v2⟩ := box3_cells HV1.out
       have HK1 := Lib.hid (HK.out.trans k1)
       clear k1))
  go_loopw [7, 8] (fun m u wr => ∃ j : Nat, u = .int .i64 j ∧ m = .int .i64 (pw j : Nat) ∧ j ≤ names.length ∧ wr = w1) (fun _ u _ => names.length - (intOf u).toNat)
  case atStart => exact ⟨0, rfl, rfl, Nat.zero_le _, rfl⟩
  case round =>
    obtain ⟨j, rfl, rfl, hj, rfl⟩ := hrel
    by_cases hlt : j < names.length
    · have hp := pow_up j (by omega)
      have hlt' : decide (j < names.length) = true := decide_eq_true hlt
      have hwi : IntKind.i64.wrap ((j : Int) + 1) = ((j + 1 : Nat) : Int) := by rw [IntKind.wrap_i64]; omega
      have HLT : Hid (j + 1 ≤ names.length) := Lib.hid hlt
      go_wp2_with fail
      exact ⟨⟨j + 1, by first | rw [hwi] | rfl, by first | rw [hp] | rfl, HLT.out, by first | rfl | trivial⟩, by have hlt := HLT.out; simp [intOf]; omega⟩
    · have he : j = names.length := by omega
      subst he
      have hlt' : decide (names.length < names.length) = false := decide_eq_false hlt
      clear hlt hj
      go_wp2_with fail
      go_ret
      exact ⟨rfl, HK1.out⟩
set_option maxRecDepth 100000 in
set_option maxHeartbeats 4000000 in
theorem pa_in (names : List Nm) (l : List Ty) (r : Int) (an : Option Addr) (cn : Nat) (al : Option Addr) (cl : Nat) (n : Int) (s : List Int) (vl : List Vl) (sa : Option Addr) (sc : Nat) (av : Option Addr) (cv : Nat) (w : World) (k : Int) (h10 : (k == 10) = false) (h11 : (k == 11) = false) (h19 : (k == 19) = false) (hs : decide (0 < s.length) = false) (z : Nat) (HI : Hid (∀ w', Kept (fun _ => False) w w' → Calls Tryz.prog 38 #[.agg #[.int .i64 k, .slice an names.length cn, .slice al l.length cl, .int .i64 r], .agg #[.int .i64 n, .slice sa s.length sc, .slice av vl.length cv]] w' (CntR z w'))) (hw : wholeK k n = 0) :
    Calls Tryz.prog 20 #[.agg #[.int .i64 k, .slice an names.length cn, .slice al l.length cl, .int .i64 r], .agg #[.int .i64 n, .slice sa s.length sc, .slice av vl.length cv]] w (CntR (z) w) := by
  have k0 : Kept (fun _ => False) w ((w.alloc (.cells #[.int .i64 k, .slice an names.length cn, .slice al l.length cl, .int .i64 r] 25)).alloc (.cells #[.int .i64 n, .slice sa s.length sc, .slice av vl.length cv] 29)) := ((Kept.refl _ _).new _).new _
  have T0 := (BlkAt.new w #[.int .i64 k, .slice an names.length cn, .slice al l.length cl, .int .i64 r] 25).kept (F := fun _ => False) ((Kept.refl _ _).new (.cells #[.int .i64 n, .slice sa s.length sc, .slice av vl.length cv] 29)) id
  have V0 := BlkAt.new (w.alloc (.cells #[.int .i64 k, .slice an names.length cn, .slice al l.length cl, .int .i64 r] 25)) #[.int .i64 n, .slice sa s.length sc, .slice av vl.length cv] 29
  rw [World.size_alloc] at V0
  have HT := Lib.hid T0
  have HV := Lib.hid V0
  have HK := Lib.hid k0
  have HW : Hid (∀ w', Calls Tryz.prog 36 #[.int .i64 k, .int .i64 n] w' (WhoR 0 w')) := Lib.hid (fun w' => hw ▸ rdWhole k n w')
  unfold WhoR at HW
  unfold CntR at HI
  clear k0 T0 V0 hw
  go_enter Tryz.func20, Tryz.ntmps20
  go_wp2_with (first
    | (go_at_call 36
       refine (HW.out _).mono ?_
       rintro y w1 ⟨rfl, k1⟩
       have HT1 := Lib.hid (HT.out.kept (F := fun _ => False) k1 id)
       have HV1 := Lib.hid (HV.out.kept (F := fun _ => False) k1 id)
       obtain ⟨t0, t1, t2, t3⟩ := box4_cells' HT1.out
       obtain ⟨v0, v1, v2⟩ := box3_cells HV1.out
       have HK1 := Lib.hid (HK.out.trans k1)
       clear k1)
    | (go_at_call 38; refine (HI.out _ HK1.out).mono ?_; rintro y w2 ⟨rfl, k2⟩))
  go_ret
  exact ⟨rfl, HK1.out.trans k2⟩
theorem parts_all : ∀ (k : Nat) (t : Ty) (v : Vl), deepK k t = true → LtV v → PartsAt t v (partsK k t v)
  | 0, t, v, hd, _ => by cases hd
  | kk + 1, t, v, hd, hlv => by
    intro an cn al cl sa sc av cv w h hv
    have hw := deep_shape hd
    have hwh := whole_num t v.n
    have hwle : wholeK t.kind v.n ≤ 2 := by unfold wholeK; (repeat' split) <;> omega
    have hlp := hlv.parts
    have HI : Hid (∀ w', Kept (fun _ => False) w w' → Calls Tryz.prog 38 #[tyV t an cn al cl, vlV v sa sc av cv] w' (CntR (match insO t v with | none => 0 | some ts => sumL (partsK kk) ts v.l 1) w')) := Lib.hid (fun w' k' => rdInside0 kk t an cn al cl v sa sc av cv w' (h.kept k') (hv.kept k') hd hlp.2.1 (Lib.hid fun u x hu hx => parts_all kk u x hu (hlp.2.2 x hx)))
    have hI := hv.ints
    have hl19 : t.kind = 19 → t.names.length ≤ 32 := fun e => by
      rw [e] at hw
      simp [okW] at hw
      omega
    have hp : partsK (kk + 1) t v = if wholeK t.kind v.n ≠ 0 then (if wholeK t.kind v.n = 1 ∨ v.s.length ≠ 0 ∨ v.l.length ≠ 0 then 0 else 1)
    else if t.kind = 10 then (if Utf.scal v.n = false ∨ v.s.length ≠ 0 ∨ v.l.length ≠ 0 then 0 else 1)
    else if t.kind = 11 then (if v.s.all Utf.scal = true ∧ v.n = 0 ∧ v.l.length = 0 ∧ v.s.length ≤ 1000 then 1 + v.s.length else 0)
    else if v.s.length ≠ 0 then 0
    else if t.kind = 19 then (if bitsB v.n t.names.length = true ∧ v.l.length = 0 then 1 else 0)
    else match insO t v with
      | none => 0
      | some ts => sumL (partsK kk) ts v.l 1 := rfl
    rw [hp]
    clear hp
    generalize (match insO t v with | none => 0 | some ts => sumL (partsK kk) ts v.l 1) = z at HI
    cases t with
    | mk k names l r =>
    cases v with
    | mk n s vl =>
      have hsl : s.length ≤ 20000 := hlp.1
      have hwh1 : wholeK k n ≤ 2 := hwle
      have hl19 : k = 19 → names.length ≤ 32 := hl19
      have hI : IRowAt w s sa sc := hI
      have HI : Hid (∀ w', Kept (fun _ => False) w w' → Calls Tryz.prog 38 #[.agg #[.int .i64 k, .slice an names.length cn, .slice al l.length cl, .int .i64 r], .agg #[.int .i64 n, .slice sa s.length sc, .slice av vl.length cv]] w' (CntR z w')) := HI
      show Calls Tryz.prog 20 #[.agg #[.int .i64 k, .slice an names.length cn, .slice al l.length cl, .int .i64 r], .agg #[.int .i64 n, .slice sa s.length sc, .slice av vl.length cv]] w (CntR (if wholeK k n ≠ 0 then (if wholeK k n = 1 ∨ s.length ≠ 0 ∨ vl.length ≠ 0 then 0 else 1)
        else if k = 10 then (if Utf.scal n = false ∨ s.length ≠ 0 ∨ vl.length ≠ 0 then 0 else 1)
        else if k = 11 then (if s.all Utf.scal = true ∧ n = 0 ∧ vl.length = 0 ∧ s.length ≤ 1000 then 1 + s.length else 0)
        else if s.length ≠ 0 then 0
        else if k = 19 then (if bitsB n names.length = true ∧ vl.length = 0 then 1 else 0) else z) w)
      clear hw hwh hwle hlp h hv hd hlv
      by_cases hz : wholeK k n ≠ 0
      · rw [if_pos hz]
        by_cases h1 : wholeK k n = 1
        · rw [if_pos (.inl h1)]
          exact pa_1 names l r an cn al cl n s vl sa sc av cv w k h1
        · have h2 : wholeK k n = 2 := by omega
          by_cases hs : s.length = 0
          · by_cases hl : vl.length = 0
            · rw [if_neg (fun q => by rcases q with q | q | q; exact h1 q; exact q hs; exact q hl)]
              exact pa_2 names l r an cn al cl n s vl sa sc av cv w k (decide_eq_false (by omega)) (decide_eq_false (by omega)) h2
            · rw [if_pos (.inr (.inr hl))]
              exact pa_2l names l r an cn al cl n s vl sa sc av cv w k (decide_eq_false (by omega)) (decide_eq_true (by omega)) h2
          · rw [if_pos (.inr (.inl hs))]
            exact pa_2s names l r an cn al cl n s vl sa sc av cv w k (decide_eq_true (by omega)) h2
      rw [if_neg hz]
      have hz0 : wholeK k n = 0 := by omega
      by_cases h10 : k = 10
      · rw [if_pos h10]
        subst h10
        by_cases hc : Utf.scal n = true
        · by_cases hs : s.length = 0
          · by_cases hl : vl.length = 0
            · rw [if_neg (fun q => by rcases q with q | q | q; rw [hc] at q; cases q; exact q hs; exact q hl)]
              exact pa_10 names l r an cn al cl n s vl sa sc av cv w hc (decide_eq_false (by omega)) (decide_eq_false (by omega)) hz0
            · rw [if_pos (.inr (.inr hl))]
              exact pa_10l names l r an cn al cl n s vl sa sc av cv w hc (decide_eq_false (by omega)) (decide_eq_true (by omega)) hz0
          · rw [if_pos (.inr (.inl hs))]
            exact pa_10s names l r an cn al cl n s vl sa sc av cv w hc (decide_eq_true (by omega)) hz0
        · rw [if_pos (.inl (Bool.eq_false_iff.2 hc))]
          exact pa_10n names l r an cn al cl n s vl sa sc av cv w (Bool.eq_false_iff.2 hc) hz0
      rw [if_neg h10]
      by_cases h11 : k = 11
      · rw [if_pos h11]
        subst h11
        by_cases ha : s.all Utf.scal = true
        · by_cases hn : n = 0
          · have bn : (n != 0) = false := by simp [hn]
            by_cases hl : vl.length = 0
            · by_cases hb : s.length ≤ 1000
              · rw [if_pos ⟨ha, hn, hl, hb⟩]
                exact pa_11 names l r an cn al cl n s vl sa sc av cv w hI hsl (Lib.hid ha) bn (decide_eq_false (by omega)) (decide_eq_false (by omega)) hz0
              · rw [if_neg (fun q => hb q.2.2.2)]
                exact pa_11b names l r an cn al cl n s vl sa sc av cv w hI hsl bn (decide_eq_false (by omega)) (decide_eq_true (by omega)) hz0
            · rw [if_neg (fun q => hl q.2.2.1)]
              exact pa_11l names l r an cn al cl n s vl sa sc av cv w hI hsl bn (decide_eq_true (by omega)) hz0
          · have bn : (n != 0) = true := by simp [hn]
            rw [if_neg (fun q => hn q.2.1)]
            exact pa_11n names l r an cn al cl n s vl sa sc av cv w hI hsl bn hz0
        · rw [if_neg (fun q => ha q.1)]
          exact pa_11a names l r an cn al cl n s vl sa sc av cv w hI hsl (Bool.eq_false_iff.2 ha) hz0
      rw [if_neg h11]
      have b10 : (k == 10) = false := by simp [h10]
      have b11 : (k == 11) = false := by simp [h11]
      by_cases hs : s.length = 0
      · rw [if_neg (by omega)]
        have bs : decide (0 < s.length) = false := decide_eq_false (by omega)
        by_cases h19 : k = 19
        · rw [if_pos h19]
          subst h19
          have hnl := hl19 rfl
          have ep : ((pw names.length : Nat) : Int) = ((2 ^ names.length : Nat) : Int) := rfl
          by_cases hn : 0 ≤ n
          · by_cases hb : n < ((pw names.length : Nat) : Int)
            · have hbb : bitsB n names.length = true := decide_eq_true ⟨hn, by rw [← ep]; exact hb⟩
              by_cases hl : vl.length = 0
              · rw [if_pos ⟨hbb, hl⟩]
                exact pa_19 names l r an cn al cl n s vl sa sc av cv w bs hnl (decide_eq_false (by omega)) (decide_eq_false (by omega)) (decide_eq_false (by omega)) hz0
              · rw [if_neg (fun q => hl q.2)]
                exact pa_19l names l r an cn al cl n s vl sa sc av cv w bs hnl (decide_eq_false (by omega)) (decide_eq_false (by omega)) (decide_eq_true (by omega)) hz0
            · rw [if_neg (fun q => hb (by have := of_decide_eq_true q.1; rw [ep]; exact this.2))]
              exact pa_19b names l r an cn al cl n s vl sa sc av cv w bs hnl (decide_eq_false (by omega)) (decide_eq_true (by omega)) hz0
          · rw [if_neg (fun q => hn (of_decide_eq_true q.1).1)]
            exact pa_19n names l r an cn al cl n s vl sa sc av cv w bs hnl (decide_eq_true (by omega)) hz0
        · rw [if_neg h19]
          exact pa_in names l r an cn al cl n s vl sa sc av cv w k b10 b11 (by simp [h19]) bs z HI hz0
      · rw [if_pos hs]
        exact pa_os names l r an cn al cl n s vl sa sc av cv w k b10 b11 (decide_eq_true (by omega)) hz0
set_option maxRecDepth 100000 in
set_option maxHeartbeats 4000000 in
/-- CHECK, the reference's. -/
theorem rdRCheck (t : Ty) (an : Option Addr) (cn : Nat) (al : Option Addr) (cl : Nat) (v : Vl) (sa : Option Addr) (sc : Nat) (av : Option Addr) (cv : Nat) (w : World) (h : TyAt w t an cn al cl) (hf : FineT t) (hv : VlAt w v sa sc av cv) (hl : LtV v) :
    Calls Tryz.prog 8 #[tyV t an cn al cl, vlV v sa sc av cv] w (ChkR (chkV t v) w) := by
  have k0 : Kept (fun _ => False) w ((w.alloc (.cells #[.int .i64 t.kind, .slice an t.names.length cn, .slice al t.l.length cl, .int .i64 t.r] 25)).alloc (.cells #[.int .i64 v.n, .slice sa v.s.length sc, .slice av v.l.length cv] 29)) := ((Kept.refl _ _).new _).new _
  have T0 := (BlkAt.new w #[.int .i64 t.kind, .slice an t.names.length cn, .slice al t.l.length cl, .int .i64 t.r] 25).kept (F := fun _ => False) ((Kept.refl _ _).new (.cells #[.int .i64 v.n, .slice sa v.s.length sc, .slice av v.l.length cv] 29)) id
  have V0 := BlkAt.new (w.alloc (.cells #[.int .i64 t.kind, .slice an t.names.length cn, .slice al t.l.length cl, .int .i64 t.r] 25)) #[.int .i64 v.n, .slice sa v.s.length sc, .slice av v.l.length cv] 29
  rw [World.size_alloc] at V0
  have HT := Lib.hid T0
  have HV := Lib.hid V0
  have HK := Lib.hid k0
  have HM := Lib.hid (fun w' (k : Kept (fun _ => False) w w') => rdMay t an cn al cl w' (h.kept k) hf)
  unfold chkV
  by_cases ho : okT t = true
  · rw [if_neg (by rw [ho]; decide)]
    have HP : Hid (∀ w', Kept (fun _ => False) w w' → Calls Tryz.prog 20 #[tyV t an cn al cl, vlV v sa sc av cv] w' (CntR (partsK 16 t v) w')) := Lib.hid (fun w' k => parts_all 16 t v (okT_deep ho).1 hl an cn al cl sa sc av cv w' (h.kept k) (hv.kept k))
    rw [ho] at HM
    generalize partsK 16 t v = p at HP
    unfold CntR at HP
    clear h hf hv hl k0 T0 V0 ho
    by_cases hp : p = 0
    · rw [if_pos hp]
      subst hp
      go_enter Tryz.func8, Tryz.ntmps8
      go_wp2_with (first
        | (go_at_call 20; refine (HP.out _ HK1.out).mono ?_; rintro y w2 ⟨rfl, k2⟩)
        | (go_at_call 19
           refine (HM.out _ HK.out).mono ?_
           rintro y w1 ⟨rfl, k1⟩
           have HT1 := Lib.hid (HT.out.kept (F := fun _ => False) k1 id)
           have HV1 := Lib.hid (HV.out.kept (F := fun _ => False) k1 id)
           obtain ⟨t0, t1, t2, t3⟩ := box4_cells' HT1.out
           obtain ⟨v0, v1, v2⟩ := box3_cells HV1.out
           have HK1 := Lib.hid (HK.out.trans k1)
           clear k1))
      go_ret
      exact ⟨rfl, HK1.out.trans k2⟩
    · rw [if_neg hp]
      have bp : ((p : Int) == 0) = false := by simp [hp]
      clear hp
      go_enter Tryz.func8, Tryz.ntmps8
      go_wp2_with (first
        | (go_at_call 20; refine (HP.out _ HK1.out).mono ?_; rintro y w2 ⟨rfl, k2⟩)
        | (go_at_call 19
           refine (HM.out _ HK.out).mono ?_
           rintro y w1 ⟨rfl, k1⟩
           have HT1 := Lib.hid (HT.out.kept (F := fun _ => False) k1 id)
           have HV1 := Lib.hid (HV.out.kept (F := fun _ => False) k1 id)
           obtain ⟨t0, t1, t2, t3⟩ := box4_cells' HT1.out
           obtain ⟨v0, v1, v2⟩ := box3_cells HV1.out
           have HK1 := Lib.hid (HK.out.trans k1)
           clear k1))
      go_ret
      exact ⟨rfl, HK1.out.trans k2⟩
  · rw [if_pos (Bool.eq_false_iff.2 ho)]
    rw [Bool.eq_false_iff.2 ho] at HM
    clear h hf hv hl k0 T0 V0 ho
    go_enter Tryz.func8, Tryz.ntmps8
    go_wp2_with (first
      | (go_at_call 19; refine (HM.out _ HK.out).mono ?_; rintro y w1 ⟨rfl, k1⟩))
    go_ret
    exact ⟨rfl, HK.out.trans k1⟩
end Go.Proofs.YtikgkjkgdlnekaaGreatDoor
