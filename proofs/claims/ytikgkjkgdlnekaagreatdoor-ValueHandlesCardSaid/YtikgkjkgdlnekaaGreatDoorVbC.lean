/- value: shaped. -/
import Derived.Test.YtikgkjkgdlnekaaGreatDoorVbB
import Derived.Test.YtikgkjkgdlnekaaGreatDoorCtWC
import Derived.Deep.RegionHeld3
set_option linter.unusedVariables false
set_option linter.unusedSimpArgs false
namespace Go.Proofs.YtikgkjkgdlnekaaGreatDoor
open Go.RowKit
open Ct

namespace Ct
def shapedV (t : Ty) (v : Vl) : Bool :=
  if t.kind = 11 then v.n == 0 && (isTextB v.s && v.l.length == 0)
  else if v.s.length ≠ 0 then false
  else if t.kind = 12 then v.n == 0 && decide (v.l.length ≤ 1000)
  else if t.kind = 13 ∨ t.kind = 14 then v.n == 0 && v.l.length == t.l.length
  else if t.kind = 15 then decide (0 ≤ v.n ∧ v.n < t.l.length) && (v.l.length == heldK (t.l.getD v.n.toNat .zero))
  else numB t v.n && v.l.length == 0
end Ct
def ShaR (b : Bool) (w : World) (y : Ending) (w' : World) : Prop := y = .returned (.bool b) ∧ Kept (fun _ => False) w w'
set_option maxRecDepth 100000 in
set_option maxHeartbeats 4000000 in
theorem sha_s (names : List Nm) (l : List Ty) (r : Int) (an : Option Addr) (cn : Nat) (al : Option Addr) (cl : Nat) (n : Int) (s : List Int) (vl : List Vl) (sa : Option Addr) (sc : Nat) (av : Option Addr) (cv : Nat) (w : World) (k : Int) (h11 : (k != 11) = true) (hs : decide (0 < s.length) = true) :
    Calls Tryz.prog 48 #[.agg #[.int .i64 k, .slice an names.length cn, .slice al l.length cl, .int .i64 r], .agg #[.int .i64 n, .slice sa s.length sc, .slice av vl.length cv]] w (ShaR false w) := by
  have k0 : Kept (fun _ => False) w ((w.alloc (.cells #[.int .i64 k, .slice an names.length cn, .slice al l.length cl, .int .i64 r] 25)).alloc (.cells #[.int .i64 n, .slice sa s.length sc, .slice av vl.length cv] 29)) := ((Kept.refl _ _).new _).new _
  have HK := Lib.hid k0
  clear k0
  go_enter Tryz.func48, Tryz.ntmps48
  go_wp2_with fail
  go_ret
  exact ⟨rfl, HK.out⟩
set_option maxRecDepth 100000 in
set_option maxHeartbeats 4000000 in
theorem sha_11ne (names : List Nm) (l : List Ty) (r : Int) (an : Option Addr) (cn : Nat) (al : Option Addr) (cl : Nat) (n : Int) (s : List Int) (vl : List Vl) (sa : Option Addr) (sc : Nat) (av : Option Addr) (cv : Nat) (w : World) (hn : (n == 0) = false) (hs : decide (0 < s.length) = false) :
    Calls Tryz.prog 48 #[.agg #[.int .i64 11, .slice an names.length cn, .slice al l.length cl, .int .i64 r], .agg #[.int .i64 n, .slice sa s.length sc, .slice av vl.length cv]] w (ShaR false w) := by
  have k0 : Kept (fun _ => False) w ((w.alloc (.cells #[.int .i64 11, .slice an names.length cn, .slice al l.length cl, .int .i64 r] 25)).alloc (.cells #[.int .i64 n, .slice sa s.length sc, .slice av vl.length cv] 29)) := ((Kept.refl _ _).new _).new _
  have HK := Lib.hid k0
  clear k0
  go_enter Tryz.func48, Tryz.ntmps48
  go_wp2_with fail
  go_ret
  exact ⟨rfl, HK.out⟩
set_option maxRecDepth 100000 in
set_option maxHeartbeats 4000000 in
theorem sha_11te (names : List Nm) (l : List Ty) (r : Int) (an : Option Addr) (cn : Nat) (al : Option Addr) (cl : Nat) (n : Int) (s : List Int) (vl : List Vl) (sa : Option Addr) (sc : Nat) (av : Option Addr) (cv : Nat) (w : World) (hn : (n == 0) = true) (hs : decide (0 < s.length) = false) (hi : IRowAt w s sa sc) (ht : isTextB s = true) :
    Calls Tryz.prog 48 #[.agg #[.int .i64 11, .slice an names.length cn, .slice al l.length cl, .int .i64 r], .agg #[.int .i64 n, .slice sa s.length sc, .slice av vl.length cv]] w (ShaR (vl.length == 0) w) := by
  have HT : Hid (∀ w', Kept (fun _ => False) w w' → Calls Tryz.prog 69 #[.slice sa s.length sc] w' fun e w'' => e = .returned (.bool true) ∧ w' = w'') := Lib.hid (fun w' k => ht ▸ rdIsText s sa sc w' (hi.kept k))
  clear hi ht
  have k0 : Kept (fun _ => False) w ((w.alloc (.cells #[.int .i64 11, .slice an names.length cn, .slice al l.length cl, .int .i64 r] 25)).alloc (.cells #[.int .i64 n, .slice sa s.length sc, .slice av vl.length cv] 29)) := ((Kept.refl _ _).new _).new _
  have HK := Lib.hid k0
  clear k0
  go_enter Tryz.func48, Tryz.ntmps48
  go_wp2_with (first
    | (go_at_call 69; refine (HT.out _ HK.out).mono ?_; rintro y w1 ⟨rfl, rfl⟩))
  go_ret
  exact ⟨by first | rfl | (refine congrArg (fun c => Ending.returned (.bool c)) ?_; simp; done) | (refine congrArg (fun c => Ending.returned (.bool c)) ?_; rw [Bool.eq_iff_iff]; first | (simp; done) | (simp; omega)), HK.out⟩
set_option maxRecDepth 100000 in
set_option maxHeartbeats 4000000 in
theorem sha_11fe (names : List Nm) (l : List Ty) (r : Int) (an : Option Addr) (cn : Nat) (al : Option Addr) (cl : Nat) (n : Int) (s : List Int) (vl : List Vl) (sa : Option Addr) (sc : Nat) (av : Option Addr) (cv : Nat) (w : World) (hn : (n == 0) = true) (hs : decide (0 < s.length) = false) (hi : IRowAt w s sa sc) (ht : isTextB s = false) :
    Calls Tryz.prog 48 #[.agg #[.int .i64 11, .slice an names.length cn, .slice al l.length cl, .int .i64 r], .agg #[.int .i64 n, .slice sa s.length sc, .slice av vl.length cv]] w (ShaR false w) := by
  have HT : Hid (∀ w', Kept (fun _ => False) w w' → Calls Tryz.prog 69 #[.slice sa s.length sc] w' fun e w'' => e = .returned (.bool false) ∧ w' = w'') := Lib.hid (fun w' k => ht ▸ rdIsText s sa sc w' (hi.kept k))
  clear hi ht
  have k0 : Kept (fun _ => False) w ((w.alloc (.cells #[.int .i64 11, .slice an names.length cn, .slice al l.length cl, .int .i64 r] 25)).alloc (.cells #[.int .i64 n, .slice sa s.length sc, .slice av vl.length cv] 29)) := ((Kept.refl _ _).new _).new _
  have HK := Lib.hid k0
  clear k0
  go_enter Tryz.func48, Tryz.ntmps48
  go_wp2_with (first
    | (go_at_call 69; refine (HT.out _ HK.out).mono ?_; rintro y w1 ⟨rfl, rfl⟩))
  go_ret
  exact ⟨by first | rfl | (refine congrArg (fun c => Ending.returned (.bool c)) ?_; simp; done) | (refine congrArg (fun c => Ending.returned (.bool c)) ?_; rw [Bool.eq_iff_iff]; first | (simp; done) | (simp; omega)), HK.out⟩
set_option maxRecDepth 100000 in
set_option maxHeartbeats 4000000 in
theorem sha_11nf (names : List Nm) (l : List Ty) (r : Int) (an : Option Addr) (cn : Nat) (al : Option Addr) (cl : Nat) (n : Int) (s : List Int) (vl : List Vl) (sa : Option Addr) (sc : Nat) (av : Option Addr) (cv : Nat) (w : World) (hn : (n == 0) = false) (hs : decide (0 < s.length) = true) :
    Calls Tryz.prog 48 #[.agg #[.int .i64 11, .slice an names.length cn, .slice al l.length cl, .int .i64 r], .agg #[.int .i64 n, .slice sa s.length sc, .slice av vl.length cv]] w (ShaR false w) := by
  have k0 : Kept (fun _ => False) w ((w.alloc (.cells #[.int .i64 11, .slice an names.length cn, .slice al l.length cl, .int .i64 r] 25)).alloc (.cells #[.int .i64 n, .slice sa s.length sc, .slice av vl.length cv] 29)) := ((Kept.refl _ _).new _).new _
  have HK := Lib.hid k0
  clear k0
  go_enter Tryz.func48, Tryz.ntmps48
  go_wp2_with fail
  go_ret
  exact ⟨rfl, HK.out⟩
set_option maxRecDepth 100000 in
set_option maxHeartbeats 4000000 in
theorem sha_11tf (names : List Nm) (l : List Ty) (r : Int) (an : Option Addr) (cn : Nat) (al : Option Addr) (cl : Nat) (n : Int) (s : List Int) (vl : List Vl) (sa : Option Addr) (sc : Nat) (av : Option Addr) (cv : Nat) (w : World) (hn : (n == 0) = true) (hs : decide (0 < s.length) = true) (hi : IRowAt w s sa sc) (ht : isTextB s = true) :
    Calls Tryz.prog 48 #[.agg #[.int .i64 11, .slice an names.length cn, .slice al l.length cl, .int .i64 r], .agg #[.int .i64 n, .slice sa s.length sc, .slice av vl.length cv]] w (ShaR (vl.length == 0) w) := by
  have HT : Hid (∀ w', Kept (fun _ => False) w w' → Calls Tryz.prog 69 #[.slice sa s.length sc] w' fun e w'' => e = .returned (.bool true) ∧ w' = w'') := Lib.hid (fun w' k => ht ▸ rdIsText s sa sc w' (hi.kept k))
  clear hi ht
  have k0 : Kept (fun _ => False) w ((w.alloc (.cells #[.int .i64 11, .slice an names.length cn, .slice al l.length cl, .int .i64 r] 25)).alloc (.cells #[.int .i64 n, .slice sa s.length sc, .slice av vl.length cv] 29)) := ((Kept.refl _ _).new _).new _
  have HK := Lib.hid k0
  clear k0
  go_enter Tryz.func48, Tryz.ntmps48
  go_wp2_with (first
    | (go_at_call 69; refine (HT.out _ HK.out).mono ?_; rintro y w1 ⟨rfl, rfl⟩))
  go_ret
  exact ⟨by first | rfl | (refine congrArg (fun c => Ending.returned (.bool c)) ?_; simp; done) | (refine congrArg (fun c => Ending.returned (.bool c)) ?_; rw [Bool.eq_iff_iff]; first | (simp; done) | (simp; omega)), HK.out⟩
set_option maxRecDepth 100000 in
set_option maxHeartbeats 4000000 in
theorem sha_11ff (names : List Nm) (l : List Ty) (r : Int) (an : Option Addr) (cn : Nat) (al : Option Addr) (cl : Nat) (n : Int) (s : List Int) (vl : List Vl) (sa : Option Addr) (sc : Nat) (av : Option Addr) (cv : Nat) (w : World) (hn : (n == 0) = true) (hs : decide (0 < s.length) = true) (hi : IRowAt w s sa sc) (ht : isTextB s = false) :
    Calls Tryz.prog 48 #[.agg #[.int .i64 11, .slice an names.length cn, .slice al l.length cl, .int .i64 r], .agg #[.int .i64 n, .slice sa s.length sc, .slice av vl.length cv]] w (ShaR false w) := by
  have HT : Hid (∀ w', Kept (fun _ => False) w w' → Calls Tryz.prog 69 #[.slice sa s.length sc] w' fun e w'' => e = .returned (.bool false) ∧ w' = w'') := Lib.hid (fun w' k => ht ▸ rdIsText s sa sc w' (hi.kept k))
  clear hi ht
  have k0 : Kept (fun _ => False) w ((w.alloc (.cells #[.int .i64 11, .slice an names.length cn, .slice al l.length cl, .int .i64 r] 25)).alloc (.cells #[.int .i64 n, .slice sa s.length sc, .slice av vl.length cv] 29)) := ((Kept.refl _ _).new _).new _
  have HK := Lib.hid k0
  clear k0
  go_enter Tryz.func48, Tryz.ntmps48
  go_wp2_with (first
    | (go_at_call 69; refine (HT.out _ HK.out).mono ?_; rintro y w1 ⟨rfl, rfl⟩))
  go_ret
  exact ⟨by first | rfl | (refine congrArg (fun c => Ending.returned (.bool c)) ?_; simp; done) | (refine congrArg (fun c => Ending.returned (.bool c)) ?_; rw [Bool.eq_iff_iff]; first | (simp; done) | (simp; omega)), HK.out⟩
set_option maxRecDepth 100000 in
set_option maxHeartbeats 4000000 in
theorem sha_12n (names : List Nm) (l : List Ty) (r : Int) (an : Option Addr) (cn : Nat) (al : Option Addr) (cl : Nat) (n : Int) (s : List Int) (vl : List Vl) (sa : Option Addr) (sc : Nat) (av : Option Addr) (cv : Nat) (w : World) (hn : (n == 0) = false) (hs : decide (0 < s.length) = false) :
    Calls Tryz.prog 48 #[.agg #[.int .i64 12, .slice an names.length cn, .slice al l.length cl, .int .i64 r], .agg #[.int .i64 n, .slice sa s.length sc, .slice av vl.length cv]] w (ShaR false w) := by
  have k0 : Kept (fun _ => False) w ((w.alloc (.cells #[.int .i64 12, .slice an names.length cn, .slice al l.length cl, .int .i64 r] 25)).alloc (.cells #[.int .i64 n, .slice sa s.length sc, .slice av vl.length cv] 29)) := ((Kept.refl _ _).new _).new _
  have HK := Lib.hid k0
  clear k0
  go_enter Tryz.func48, Tryz.ntmps48
  go_wp2_with fail
  go_ret
  exact ⟨rfl, HK.out⟩
set_option maxRecDepth 100000 in
set_option maxHeartbeats 4000000 in
theorem sha_12e (names : List Nm) (l : List Ty) (r : Int) (an : Option Addr) (cn : Nat) (al : Option Addr) (cl : Nat) (n : Int) (s : List Int) (vl : List Vl) (sa : Option Addr) (sc : Nat) (av : Option Addr) (cv : Nat) (w : World) (hn : (n == 0) = true) (hs : decide (0 < s.length) = false) :
    Calls Tryz.prog 48 #[.agg #[.int .i64 12, .slice an names.length cn, .slice al l.length cl, .int .i64 r], .agg #[.int .i64 n, .slice sa s.length sc, .slice av vl.length cv]] w (ShaR (decide (vl.length ≤ 1000)) w) := by
  have k0 : Kept (fun _ => False) w ((w.alloc (.cells #[.int .i64 12, .slice an names.length cn, .slice al l.length cl, .int .i64 r] 25)).alloc (.cells #[.int .i64 n, .slice sa s.length sc, .slice av vl.length cv] 29)) := ((Kept.refl _ _).new _).new _
  have HK := Lib.hid k0
  clear k0
  go_enter Tryz.func48, Tryz.ntmps48
  go_wp2_with fail
  go_ret
  exact ⟨by first | rfl | (refine congrArg (fun c => Ending.returned (.bool c)) ?_; simp; done) | (refine congrArg (fun c => Ending.returned (.bool c)) ?_; rw [Bool.eq_iff_iff]; first | (simp; done) | (simp; omega)), HK.out⟩
set_option maxRecDepth 100000 in
set_option maxHeartbeats 4000000 in
theorem sha_13n (names : List Nm) (l : List Ty) (r : Int) (an : Option Addr) (cn : Nat) (al : Option Addr) (cl : Nat) (n : Int) (s : List Int) (vl : List Vl) (sa : Option Addr) (sc : Nat) (av : Option Addr) (cv : Nat) (w : World) (hn : (n == 0) = false) (hs : decide (0 < s.length) = false) :
    Calls Tryz.prog 48 #[.agg #[.int .i64 13, .slice an names.length cn, .slice al l.length cl, .int .i64 r], .agg #[.int .i64 n, .slice sa s.length sc, .slice av vl.length cv]] w (ShaR false w) := by
  have k0 : Kept (fun _ => False) w ((w.alloc (.cells #[.int .i64 13, .slice an names.length cn, .slice al l.length cl, .int .i64 r] 25)).alloc (.cells #[.int .i64 n, .slice sa s.length sc, .slice av vl.length cv] 29)) := ((Kept.refl _ _).new _).new _
  have HK := Lib.hid k0
  clear k0
  go_enter Tryz.func48, Tryz.ntmps48
  go_wp2_with fail
  go_ret
  exact ⟨rfl, HK.out⟩
set_option maxRecDepth 100000 in
set_option maxHeartbeats 4000000 in
theorem sha_13e (names : List Nm) (l : List Ty) (r : Int) (an : Option Addr) (cn : Nat) (al : Option Addr) (cl : Nat) (n : Int) (s : List Int) (vl : List Vl) (sa : Option Addr) (sc : Nat) (av : Option Addr) (cv : Nat) (w : World) (hn : (n == 0) = true) (hs : decide (0 < s.length) = false) :
    Calls Tryz.prog 48 #[.agg #[.int .i64 13, .slice an names.length cn, .slice al l.length cl, .int .i64 r], .agg #[.int .i64 n, .slice sa s.length sc, .slice av vl.length cv]] w (ShaR (vl.length == l.length) w) := by
  have k0 : Kept (fun _ => False) w ((w.alloc (.cells #[.int .i64 13, .slice an names.length cn, .slice al l.length cl, .int .i64 r] 25)).alloc (.cells #[.int .i64 n, .slice sa s.length sc, .slice av vl.length cv] 29)) := ((Kept.refl _ _).new _).new _
  have HK := Lib.hid k0
  clear k0
  go_enter Tryz.func48, Tryz.ntmps48
  go_wp2_with fail
  go_ret
  exact ⟨by first | rfl | (refine congrArg (fun c => Ending.returned (.bool c)) ?_; simp; done) | (refine congrArg (fun c => Ending.returned (.bool c)) ?_; rw [Bool.eq_iff_iff]; first | (simp; done) | (simp; omega)), HK.out⟩
set_option maxRecDepth 100000 in
set_option maxHeartbeats 4000000 in
theorem sha_14n (names : List Nm) (l : List Ty) (r : Int) (an : Option Addr) (cn : Nat) (al : Option Addr) (cl : Nat) (n : Int) (s : List Int) (vl : List Vl) (sa : Option Addr) (sc : Nat) (av : Option Addr) (cv : Nat) (w : World) (hn : (n == 0) = false) (hs : decide (0 < s.length) = false) :
    Calls Tryz.prog 48 #[.agg #[.int .i64 14, .slice an names.length cn, .slice al l.length cl, .int .i64 r], .agg #[.int .i64 n, .slice sa s.length sc, .slice av vl.length cv]] w (ShaR false w) := by
  have k0 : Kept (fun _ => False) w ((w.alloc (.cells #[.int .i64 14, .slice an names.length cn, .slice al l.length cl, .int .i64 r] 25)).alloc (.cells #[.int .i64 n, .slice sa s.length sc, .slice av vl.length cv] 29)) := ((Kept.refl _ _).new _).new _
  have HK := Lib.hid k0
  clear k0
  go_enter Tryz.func48, Tryz.ntmps48
  go_wp2_with fail
  go_ret
  exact ⟨rfl, HK.out⟩
set_option maxRecDepth 100000 in
set_option maxHeartbeats 4000000 in
theorem sha_14e (names : List Nm) (l : List Ty) (r : Int) (an : Option Addr) (cn : Nat) (al : Option Addr) (cl : Nat) (n : Int) (s : List Int) (vl : List Vl) (sa : Option Addr) (sc : Nat) (av : Option Addr) (cv : Nat) (w : World) (hn : (n == 0) = true) (hs : decide (0 < s.length) = false) :
    Calls Tryz.prog 48 #[.agg #[.int .i64 14, .slice an names.length cn, .slice al l.length cl, .int .i64 r], .agg #[.int .i64 n, .slice sa s.length sc, .slice av vl.length cv]] w (ShaR (vl.length == l.length) w) := by
  have k0 : Kept (fun _ => False) w ((w.alloc (.cells #[.int .i64 14, .slice an names.length cn, .slice al l.length cl, .int .i64 r] 25)).alloc (.cells #[.int .i64 n, .slice sa s.length sc, .slice av vl.length cv] 29)) := ((Kept.refl _ _).new _).new _
  have HK := Lib.hid k0
  clear k0
  go_enter Tryz.func48, Tryz.ntmps48
  go_wp2_with fail
  go_ret
  exact ⟨by first | rfl | (refine congrArg (fun c => Ending.returned (.bool c)) ?_; simp; done) | (refine congrArg (fun c => Ending.returned (.bool c)) ?_; rw [Bool.eq_iff_iff]; first | (simp; done) | (simp; omega)), HK.out⟩
set_option maxRecDepth 100000 in
set_option maxHeartbeats 4000000 in
theorem sha_15n (names : List Nm) (l : List Ty) (r : Int) (an : Option Addr) (cn : Nat) (al : Option Addr) (cl : Nat) (n : Int) (s : List Int) (vl : List Vl) (sa : Option Addr) (sc : Nat) (av : Option Addr) (cv : Nat) (w : World) (hn : decide (n ≥ 0) = false) (hs : decide (0 < s.length) = false) :
    Calls Tryz.prog 48 #[.agg #[.int .i64 15, .slice an names.length cn, .slice al l.length cl, .int .i64 r], .agg #[.int .i64 n, .slice sa s.length sc, .slice av vl.length cv]] w (ShaR false w) := by
  have k0 : Kept (fun _ => False) w ((w.alloc (.cells #[.int .i64 15, .slice an names.length cn, .slice al l.length cl, .int .i64 r] 25)).alloc (.cells #[.int .i64 n, .slice sa s.length sc, .slice av vl.length cv] 29)) := ((Kept.refl _ _).new _).new _
  have HK := Lib.hid k0
  clear k0
  go_enter Tryz.func48, Tryz.ntmps48
  go_wp2_with fail
  go_quiet (fail)
  go_wp2
  go_ret
  exact ⟨rfl, HK.out.trans (Kept.of_below (below_drewN (Below.refl _ _) _))⟩
set_option maxRecDepth 100000 in
set_option maxHeartbeats 4000000 in
theorem sha_15o (names : List Nm) (l : List Ty) (r : Int) (an : Option Addr) (cn : Nat) (al : Option Addr) (cl : Nat) (n : Int) (s : List Int) (vl : List Vl) (sa : Option Addr) (sc : Nat) (av : Option Addr) (cv : Nat) (w : World) (hn : decide (n ≥ 0) = true) (hl : decide (n < (l.length : Int)) = false) (hs : decide (0 < s.length) = false) :
    Calls Tryz.prog 48 #[.agg #[.int .i64 15, .slice an names.length cn, .slice al l.length cl, .int .i64 r], .agg #[.int .i64 n, .slice sa s.length sc, .slice av vl.length cv]] w (ShaR false w) := by
  have k0 : Kept (fun _ => False) w ((w.alloc (.cells #[.int .i64 15, .slice an names.length cn, .slice al l.length cl, .int .i64 r] 25)).alloc (.cells #[.int .i64 n, .slice sa s.length sc, .slice av vl.length cv] 29)) := ((Kept.refl _ _).new _).new _
  have HK := Lib.hid k0
  clear k0
  go_enter Tryz.func48, Tryz.ntmps48
  go_wp2_with fail
  go_quiet (fail)
  go_wp2
  go_ret
  exact ⟨rfl, HK.out.trans (Kept.of_below (below_drewN (Below.refl _ _) _))⟩
set_option maxRecDepth 100000 in
set_option maxHeartbeats 8000000 in
theorem sha_15i (names : List Nm) (l : List Ty) (r : Int) (an : Option Addr) (cn : Nat) (al : Option Addr) (cl : Nat) (n : Int) (s : List Int) (vl : List Vl) (sa : Option Addr) (sc : Nat) (av : Option Addr) (cv : Nat) (w : World) (m : Nat) (x : Ty) (hn : n = (m : Int)) (hr : RowAt w l al cl) (hx : l[m]? = some x) (hs : decide (0 < s.length) = false) :
    Calls Tryz.prog 48 #[.agg #[.int .i64 15, .slice an names.length cn, .slice al l.length cl, .int .i64 r], .agg #[.int .i64 n, .slice sa s.length sc, .slice av vl.length cv]] w (ShaR (vl.length == heldK x) w) := by
  subst hn
  obtain ⟨g, o, ap, cp, aq, cq, rfl, hg, ht, d0, d1, d2, d3⟩ := hr.at hx
  have hlen : m < l.length := (List.getElem?_eq_some_iff.1 hx).1
  have hb1 : decide ((m : Int) ≥ 0) = true := by simp
  have hb2 : decide ((m : Int) < (l.length : Int)) = true := by simp; omega
  have k0 : Kept (fun _ => False) w ((w.alloc (.cells #[.int .i64 15, .slice an names.length cn, .slice (some ⟨g, o, none⟩) l.length cl, .int .i64 r] 25)).alloc (.cells #[.int .i64 (m : Int), .slice sa s.length sc, .slice av vl.length cv] 29)) := ((Kept.refl _ _).new _).new _
  have T1 := (BlkAt.new w #[.int .i64 15, .slice an names.length cn, .slice (some ⟨g, o, none⟩) l.length cl, .int .i64 r] 25).kept (F := fun _ => False) ((Kept.refl _ _).new (.cells #[.int .i64 (m : Int), .slice sa s.length sc, .slice av vl.length cv] 29)) id
  have T2 := BlkAt.new (w.alloc (.cells #[.int .i64 15, .slice an names.length cn, .slice (some ⟨g, o, none⟩) l.length cl, .int .i64 r] 25)) #[.int .i64 (m : Int), .slice sa s.length sc, .slice av vl.length cv] 29
  rw [World.size_alloc] at T2
  have HW : Hid (∀ w', Kept (fun _ => False) ((w.alloc (.cells #[.int .i64 15, .slice an names.length cn, .slice (some ⟨g, o, none⟩) l.length cl, .int .i64 r] 25)).alloc (.cells #[.int .i64 (m : Int), .slice sa s.length sc, .slice av vl.length cv] 29)) w' → w'.cell? ⟨w.heap.size, 2, none⟩ = some (.slice (some ⟨g, o, none⟩) l.length cl) ∧ w'.cell? ⟨w.heap.size + 1, 0, none⟩ = some (.int .i64 (m : Int)) ∧ w'.cell? ⟨w.heap.size + 1, 2, none⟩ = some (.slice av vl.length cv) ∧ w'.cell? ⟨g, o + m * 4, none⟩ = some (.int .i64 x.kind) ∧ w'.cell? ⟨g, o + m * 4 + 1, none⟩ = some (.slice ap x.names.length cp) ∧ w'.cell? ⟨g, o + m * 4 + 2, none⟩ = some (.slice aq x.l.length cq) ∧ w'.cell? ⟨g, o + m * 4 + 3, none⟩ = some (.int .i64 x.r)) := Lib.hid (fun w' k' => by
    have B1 := T1.kept (F := fun _ => False) k' id
    have B2 := T2.kept (F := fun _ => False) k' id
    have kk := k0.trans k'
    exact ⟨B1.cell 2, B2.cell 0, B2.cell 2, (kk.cell1 hg).trans d0, (kk.cell1 hg).trans d1, (kk.cell1 hg).trans d2, (kk.cell1 hg).trans d3⟩)
  have HH := Lib.hid (fun w' => rdHeld x ap cp aq cq w')
  have HK := Lib.hid k0
  have q0 : Kept (fun _ => False) ((w.alloc (.cells #[.int .i64 15, .slice an names.length cn, .slice (some ⟨g, o, none⟩) l.length cl, .int .i64 r] 25)).alloc (.cells #[.int .i64 (m : Int), .slice sa s.length sc, .slice av vl.length cv] 29)) ((w.alloc (.cells #[.int .i64 15, .slice an names.length cn, .slice (some ⟨g, o, none⟩) l.length cl, .int .i64 r] 25)).alloc (.cells #[.int .i64 (m : Int), .slice sa s.length sc, .slice av vl.length cv] 29)).drew := (Kept.refl _ _).drew
  have E0 := Lib.hid (HW.out _ q0)
  clear hr hx hg ht d0 d1 d2 d3 k0 T1 T2
  go_enter Tryz.func48, Tryz.ntmps48
  go_wp2_with fail
  go_region_held3 (fun w' => w'.cell? ⟨w.heap.size, 2, none⟩ = some (.slice (some ⟨g, o, none⟩) l.length cl) ∧ w'.cell? ⟨w.heap.size + 1, 0, none⟩ = some (.int .i64 (m : Int)) ∧ w'.cell? ⟨w.heap.size + 1, 2, none⟩ = some (.slice av vl.length cv) ∧ w'.cell? ⟨g, o + m * 4, none⟩ = some (.int .i64 x.kind) ∧ w'.cell? ⟨g, o + m * 4 + 1, none⟩ = some (.slice ap x.names.length cp) ∧ w'.cell? ⟨g, o + m * 4 + 2, none⟩ = some (.slice aq x.l.length cq) ∧ w'.cell? ⟨g, o + m * 4 + 3, none⟩ = some (.int .i64 x.r))
    (first | exact E0.out | exact HW.out _ q0)
    (first
      | (go_at_call 70; refine (HH.out _).mono ?_; rintro y w3 ⟨rfl, k3⟩
         replace q0 := q0.trans k3
         clear k3 E0))
  all_goals go_wp2_with fail
  all_goals go_ret
  all_goals exact ⟨by first | rfl | (refine congrArg (fun c => Ending.returned (.bool c)) ?_; simp; done) | (refine congrArg (fun c => Ending.returned (.bool c)) ?_; rw [Bool.eq_iff_iff]; first | (simp; done) | (simp; omega)), HK.out.trans q0⟩
set_option maxRecDepth 100000 in
set_option maxHeartbeats 4000000 in
theorem sha_rt (names : List Nm) (l : List Ty) (r : Int) (an : Option Addr) (cn : Nat) (al : Option Addr) (cl : Nat) (n : Int) (s : List Int) (vl : List Vl) (sa : Option Addr) (sc : Nat) (av : Option Addr) (cv : Nat) (w : World) (k : Int) (h11 : (k == 11) = false) (h12 : (k == 12) = false) (h13 : (k == 13) = false) (h14 : (k == 14) = false) (h15 : (k == 15) = false) (hnn : k = 19 → names.length ≤ 32) (hb : numB (.mk k names l r) n = true) (hs : decide (0 < s.length) = false) :
    Calls Tryz.prog 48 #[.agg #[.int .i64 k, .slice an names.length cn, .slice al l.length cl, .int .i64 r], .agg #[.int .i64 n, .slice sa s.length sc, .slice av vl.length cv]] w (ShaR (vl.length == 0) w) := by
  have HT : Hid (∀ w', Calls Tryz.prog 71 #[.agg #[.int .i64 k, .slice an names.length cn, .slice al l.length cl, .int .i64 r], .int .i64 n] w' fun e w'' => e = .returned (.bool true) ∧ Kept (fun _ => False) w' w'') := Lib.hid (fun w' => hb ▸ rdIsNumber (.mk k names l r) an cn al cl n w' hnn)
  have T2 := BlkAt.new (w.alloc (.cells #[.int .i64 k, .slice an names.length cn, .slice al l.length cl, .int .i64 r] 25)) #[.int .i64 n, .slice sa s.length sc, .slice av vl.length cv] 29
  rw [World.size_alloc] at T2
  have HB2 := Lib.hid T2
  clear hb hnn T2
  have k0 : Kept (fun _ => False) w ((w.alloc (.cells #[.int .i64 k, .slice an names.length cn, .slice al l.length cl, .int .i64 r] 25)).alloc (.cells #[.int .i64 n, .slice sa s.length sc, .slice av vl.length cv] 29)) := ((Kept.refl _ _).new _).new _
  have HK := Lib.hid k0
  clear k0
  go_enter Tryz.func48, Tryz.ntmps48
  go_wp2_with (first
    | (go_at_call 71; refine (HT.out _).mono ?_; rintro y w1 ⟨rfl, k1⟩; have HK1 := Lib.hid (HK.out.trans k1); have b2 := (HB2.out.kept (F := fun _ => False) k1 id).cell 2; simp at b2; clear k1))
  go_ret
  exact ⟨by first | rfl | (refine congrArg (fun c => Ending.returned (.bool c)) ?_; simp; done) | (refine congrArg (fun c => Ending.returned (.bool c)) ?_; rw [Bool.eq_iff_iff]; first | (simp; done) | (simp; omega)), HK1.out⟩
set_option maxRecDepth 100000 in
set_option maxHeartbeats 4000000 in
theorem sha_rf (names : List Nm) (l : List Ty) (r : Int) (an : Option Addr) (cn : Nat) (al : Option Addr) (cl : Nat) (n : Int) (s : List Int) (vl : List Vl) (sa : Option Addr) (sc : Nat) (av : Option Addr) (cv : Nat) (w : World) (k : Int) (h11 : (k == 11) = false) (h12 : (k == 12) = false) (h13 : (k == 13) = false) (h14 : (k == 14) = false) (h15 : (k == 15) = false) (hnn : k = 19 → names.length ≤ 32) (hb : numB (.mk k names l r) n = false) (hs : decide (0 < s.length) = false) :
    Calls Tryz.prog 48 #[.agg #[.int .i64 k, .slice an names.length cn, .slice al l.length cl, .int .i64 r], .agg #[.int .i64 n, .slice sa s.length sc, .slice av vl.length cv]] w (ShaR false w) := by
  have HT : Hid (∀ w', Calls Tryz.prog 71 #[.agg #[.int .i64 k, .slice an names.length cn, .slice al l.length cl, .int .i64 r], .int .i64 n] w' fun e w'' => e = .returned (.bool false) ∧ Kept (fun _ => False) w' w'') := Lib.hid (fun w' => hb ▸ rdIsNumber (.mk k names l r) an cn al cl n w' hnn)
  have T2 := BlkAt.new (w.alloc (.cells #[.int .i64 k, .slice an names.length cn, .slice al l.length cl, .int .i64 r] 25)) #[.int .i64 n, .slice sa s.length sc, .slice av vl.length cv] 29
  rw [World.size_alloc] at T2
  have HB2 := Lib.hid T2
  clear hb hnn T2
  have k0 : Kept (fun _ => False) w ((w.alloc (.cells #[.int .i64 k, .slice an names.length cn, .slice al l.length cl, .int .i64 r] 25)).alloc (.cells #[.int .i64 n, .slice sa s.length sc, .slice av vl.length cv] 29)) := ((Kept.refl _ _).new _).new _
  have HK := Lib.hid k0
  clear k0
  go_enter Tryz.func48, Tryz.ntmps48
  go_wp2_with (first
    | (go_at_call 71; refine (HT.out _).mono ?_; rintro y w1 ⟨rfl, k1⟩; have HK1 := Lib.hid (HK.out.trans k1); have b2 := (HB2.out.kept (F := fun _ => False) k1 id).cell 2; simp at b2; clear k1))
  go_ret
  exact ⟨by first | rfl | (refine congrArg (fun c => Ending.returned (.bool c)) ?_; simp; done) | (refine congrArg (fun c => Ending.returned (.bool c)) ?_; rw [Bool.eq_iff_iff]; first | (simp; done) | (simp; omega)), HK1.out⟩
/-- SHAPED. -/
theorem rdShapedV (t : Ty) (an : Option Addr) (cn : Nat) (al : Option Addr) (cl : Nat) (v : Vl) (sa : Option Addr) (sc : Nat) (av : Option Addr) (cv : Nat) (w : World) (h : TyAt w t an cn al cl) (hv : VlAt w v sa sc av cv) (hnn : t.kind = 19 → t.names.length ≤ 32) :
    Calls Tryz.prog 48 #[tyV t an cn al cl, vlV v sa sc av cv] w (ShaR (shapedV t v) w) := by
  cases t with
  | mk k names l r =>
  cases v with
  | mk n s vl =>
    have hr : RowAt w l al cl := h.row
    have hi : IRowAt w s sa sc := hv.ints
    have hnn : k = 19 → names.length ≤ 32 := hnn
    show Calls Tryz.prog 48 #[.agg #[.int .i64 k, .slice an names.length cn, .slice al l.length cl, .int .i64 r], .agg #[.int .i64 n, .slice sa s.length sc, .slice av vl.length cv]] w (ShaR (shapedV (.mk k names l r) (.mk n s vl)) w)
    have hS : shapedV (.mk k names l r) (.mk n s vl) = if k = 11 then n == 0 && (isTextB s && vl.length == 0)
      else if s.length ≠ 0 then false
      else if k = 12 then n == 0 && decide (vl.length ≤ 1000)
      else if k = 13 ∨ k = 14 then n == 0 && vl.length == l.length
      else if k = 15 then decide (0 ≤ n ∧ n < l.length) && (vl.length == heldK (l.getD n.toNat .zero))
      else numB (.mk k names l r) n && vl.length == 0 := rfl
    rw [hS]
    clear hS h hv
    by_cases h11 : k = 11
    · rw [if_pos h11]
      subst h11
      by_cases hs : s.length = 0
      · have bs : decide (0 < s.length) = false := decide_eq_false (by omega)
        by_cases hn : n = 0
        · have bn : (n == 0) = true := by simp [hn]
          rw [bn, Bool.true_and]
          by_cases ht : isTextB s = true
          · rw [ht, Bool.true_and]
            exact sha_11te names l r an cn al cl n s vl sa sc av cv w bn bs hi ht
          · have ht := Bool.eq_false_iff.2 ht
            rw [ht, Bool.false_and]
            exact sha_11fe names l r an cn al cl n s vl sa sc av cv w bn bs hi ht
        · have bn : (n == 0) = false := by simp [hn]
          rw [bn, Bool.false_and]
          exact sha_11ne names l r an cn al cl n s vl sa sc av cv w bn bs
      · have bs : decide (0 < s.length) = true := decide_eq_true (by omega)
        by_cases hn : n = 0
        · have bn : (n == 0) = true := by simp [hn]
          rw [bn, Bool.true_and]
          by_cases ht : isTextB s = true
          · rw [ht, Bool.true_and]
            exact sha_11tf names l r an cn al cl n s vl sa sc av cv w bn bs hi ht
          · have ht := Bool.eq_false_iff.2 ht
            rw [ht, Bool.false_and]
            exact sha_11ff names l r an cn al cl n s vl sa sc av cv w bn bs hi ht
        · have bn : (n == 0) = false := by simp [hn]
          rw [bn, Bool.false_and]
          exact sha_11nf names l r an cn al cl n s vl sa sc av cv w bn bs
    rw [if_neg h11]
    by_cases hs : s.length = 0
    · rw [if_neg (by omega)]
      have bs : decide (0 < s.length) = false := decide_eq_false (by omega)
      clear hs
      by_cases h12 : k = 12
      · rw [if_pos h12]
        subst h12
        by_cases hn : n = 0
        · have bn : (n == 0) = true := by simp [hn]
          rw [bn, Bool.true_and]
          exact sha_12e names l r an cn al cl n s vl sa sc av cv w bn bs
        · have bn : (n == 0) = false := by simp [hn]
          rw [bn, Bool.false_and]
          exact sha_12n names l r an cn al cl n s vl sa sc av cv w bn bs
      rw [if_neg h12]
      by_cases h13 : k = 13 ∨ k = 14
      · rw [if_pos h13]
        by_cases hn : n = 0
        · have bn : (n == 0) = true := by simp [hn]
          rw [bn, Bool.true_and]
          rcases h13 with h13 | h13
          · subst h13; exact sha_13e names l r an cn al cl n s vl sa sc av cv w bn bs
          · subst h13; exact sha_14e names l r an cn al cl n s vl sa sc av cv w bn bs
        · have bn : (n == 0) = false := by simp [hn]
          rw [bn, Bool.false_and]
          rcases h13 with h13 | h13
          · subst h13; exact sha_13n names l r an cn al cl n s vl sa sc av cv w bn bs
          · subst h13; exact sha_14n names l r an cn al cl n s vl sa sc av cv w bn bs
      rw [if_neg h13]
      by_cases h15 : k = 15
      · rw [if_pos h15]
        subst h15
        by_cases h0 : 0 ≤ n
        · obtain ⟨m, hm⟩ := Int.eq_ofNat_of_zero_le h0
          by_cases hl : n < (l.length : Int)
          · rw [decide_eq_true ⟨h0, hl⟩, Bool.true_and]
            have hlt : m < l.length := by omega
            have e : l.getD n.toNat .zero = l[m] := by rw [hm, Int.toNat_natCast, List.getD_eq_getElem?_getD, List.getElem?_eq_getElem hlt]; rfl
            rw [e]
            exact sha_15i names l r an cn al cl n s vl sa sc av cv w m _ hm hr (List.getElem?_eq_getElem hlt) bs
          · rw [decide_eq_false (fun q => hl q.2), Bool.false_and]
            exact sha_15o names l r an cn al cl n s vl sa sc av cv w (by simp; omega) (by simp; omega) bs
        · rw [decide_eq_false (fun q => h0 q.1), Bool.false_and]
          exact sha_15n names l r an cn al cl n s vl sa sc av cv w (by simp; omega) bs
      rw [if_neg h15]
      by_cases hb : numB (.mk k names l r) n = true
      · rw [hb, Bool.true_and]
        exact sha_rt names l r an cn al cl n s vl sa sc av cv w k (by simp [h11]) (by simp [h12]) (by simp; omega) (by simp; omega) (by simp [h15]) hnn hb bs
      · have hb := Bool.eq_false_iff.2 hb
        rw [hb, Bool.false_and]
        exact sha_rf names l r an cn al cl n s vl sa sc av cv w k (by simp [h11]) (by simp [h12]) (by simp; omega) (by simp; omega) (by simp [h15]) hnn hb bs
    · rw [if_pos hs]
      exact sha_s names l r an cn al cl n s vl sa sc av cv w k (by simp [h11]) (decide_eq_true (by omega))
end Go.Proofs.YtikgkjkgdlnekaaGreatDoor
