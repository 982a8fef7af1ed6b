/- value: numbers, characters: what may be. -/
import Derived.Test.YtikgkjkgdlnekaaGreatDoorVaE
import Derived.Test.YtikgkjkgdlnekaaGreatDoorUtfMath
set_option linter.unusedVariables false
set_option linter.unusedSimpArgs false
namespace Go.Proofs.YtikgkjkgdlnekaaGreatDoor
open Go.RowKit
open Ct

theorem scalar_any (p : Int) (w : World) :
    Calls Tryz.prog 88 #[.int .i64 p] w fun e w' => e = .returned (.bool (Utf.scal p)) ∧ w = w' := by
  by_cases h : Utf.scal p = true
  · have h' := Utf.scal_parts h
    rw [h]
    obtain ⟨h1, h2, h3⟩ := h'
    clear h
    rcases h3 with h3 | h3
    all_goals
      go_enter Tryz.func88, Tryz.ntmps88
      go_wp2_with fail
      go_ret
      exact ⟨by first | rfl | (refine congrArg (fun c => Ending.returned (.bool c)) ?_; simp; done) | (refine congrArg (fun c => Ending.returned (.bool c)) ?_; simp; omega), rfl⟩
  · have h' : p < 0 ∨ 1114111 < p ∨ (55296 ≤ p ∧ p ≤ 57343) := by
      have hn : ¬ (0 ≤ p ∧ p ≤ 1114111 ∧ (p < 55296 ∨ 57343 < p)) := fun hp => h (decide_eq_true hp)
      omega
    rw [Bool.eq_false_iff.2 h]
    clear h
    rcases h' with h | h | ⟨h, h2⟩
    all_goals
      go_enter Tryz.func88, Tryz.ntmps88
      go_wp2_with fail
      go_ret
      exact ⟨by first | rfl | (refine congrArg (fun c => Ending.returned (.bool c)) ?_; simp; done) | (refine congrArg (fun c => Ending.returned (.bool c)) ?_; simp; omega), rfl⟩
theorem refScalar_any (p : Int) (w : World) :
    Calls Tryz.prog 37 #[.int .i64 p] w fun e w' => e = .returned (.bool (Utf.scal p)) ∧ w = w' := by
  by_cases h : Utf.scal p = true
  · have h' := Utf.scal_parts h
    rw [h]
    obtain ⟨h1, h2, h3⟩ := h'
    clear h
    rcases h3 with h3 | h3
    all_goals
      go_enter Tryz.func37, Tryz.ntmps37
      go_wp2
      go_ret
      exact ⟨by first | rfl | (refine congrArg (fun c => Ending.returned (.bool c)) ?_; simp; omega), rfl⟩
  · have h' : p < 0 ∨ 1114111 < p ∨ (55296 ≤ p ∧ p ≤ 57343) := by
      have hn : ¬ (0 ≤ p ∧ p ≤ 1114111 ∧ (p < 55296 ∨ 57343 < p)) := fun hp => h (decide_eq_true hp)
      omega
    rw [Bool.eq_false_iff.2 h]
    clear h
    rcases h' with h | h | ⟨h, h2⟩
    all_goals
      go_enter Tryz.func37, Tryz.ntmps37
      go_wp2
      go_ret
      exact ⟨by first | rfl | (refine congrArg (fun c => Ending.returned (.bool c)) ?_; simp; omega), rfl⟩
namespace Ct
def bitsB (n : Int) (k : Nat) : Bool := decide (0 ≤ n ∧ n < ((2 ^ k : Nat) : Int))
end Ct
theorem bits_eq (n : Int) (k : Nat) : (n / 2 ^ k == 0) = bitsB n k := by
  have e : ((2 : Int) ^ k) = ((2 ^ k : Nat) : Int) := by simp
  rw [e]
  have hp : 0 < 2 ^ k := Nat.pow_pos (by decide)
  unfold bitsB
  generalize 2 ^ k = m at hp
  have hm : (0 : Int) < (m : Int) := by omega
  rw [Bool.eq_iff_iff, beq_iff_eq, decide_eq_true_iff]
  constructor
  · intro h
    have h1 := Int.mul_ediv_add_emod n (m : Int)
    have h2 := Int.emod_nonneg n (by omega : (m : Int) ≠ 0)
    have h3 := Int.emod_lt_of_pos n hm
    rw [h, Int.mul_zero, Int.zero_add] at h1
    omega
  · intro h
    exact Int.ediv_eq_zero_of_lt h.1 h.2
theorem rdBits (n : Int) (k : Nat) (hk : k ≤ 32) (w : World) :
    Calls Tryz.prog 23 #[.int .i64 n, .int .i64 (k : Int)] w fun e w' => e = .returned (.bool (bitsB n k)) ∧ w = w' := by
  go_enter Tryz.func23, Tryz.ntmps23
  go_wp2_with fail
  go_ret
  exact ⟨congrArg (fun b => Ending.returned (.bool b)) (bits_eq n k), rfl⟩
namespace Ct
def heldK (t : Ty) : Nat := if t.kind = 0 then 0 else 1
def isTextB (l : List Int) : Bool := l.all Utf.scal && decide (l.length ≤ 1000)
def numB (t : Ty) (n : Int) : Bool :=
  if t.kind = 1 then bitsB n 1
  else if t.kind = 2 then decide (-128 ≤ n ∧ n ≤ 127)
  else if t.kind = 3 then bitsB n 8
  else if t.kind = 4 then decide (-32768 ≤ n ∧ n ≤ 32767)
  else if t.kind = 5 then bitsB n 16
  else if t.kind = 6 then decide (-2147483648 ≤ n ∧ n ≤ 2147483647)
  else if t.kind = 7 ∨ t.kind = 20 ∨ t.kind = 21 then bitsB n 32
  else if t.kind = 10 then Utf.scal n
  else if t.kind = 19 then bitsB n t.names.length
  else decide (t.kind = 8 ∨ t.kind = 9)
end Ct
theorem rdHeld (t : Ty) (an : Option Addr) (cn : Nat) (al : Option Addr) (cl : Nat) (w : World) :
    Calls Tryz.prog 70 #[tyV t an cn al cl] w fun e w' => e = .returned (.int .i64 (heldK t : Nat)) ∧ Kept (fun _ => False) w w' := by
  have k0 : Kept (fun _ => False) w (w.alloc (.cells #[.int .i64 t.kind, .slice an t.names.length cn, .slice al t.l.length cl, .int .i64 t.r] 25)) := (Kept.refl _ _).new _
  have HK := Lib.hid k0
  clear k0
  unfold heldK
  by_cases h : t.kind = 0
  · rw [if_pos h]
    have b0 : (t.kind == 0) = true := by simp [h]
    have HH := Lib.hid h
    clear h
    go_enter Tryz.func70, Tryz.ntmps70
    go_wp2_with fail
    go_ret
    exact ⟨rfl, HK.out⟩
  · rw [if_neg h]
    have b0 : (t.kind == 0) = false := by simp [h]
    have HH := Lib.hid h
    clear h
    go_enter Tryz.func70, Tryz.ntmps70
    go_wp2_with fail
    go_ret
    exact ⟨rfl, HK.out⟩
theorem rdIsText (l : List Int) (a : Option Addr) (ca : Nat) (w : World) (h : IRowAt w l a ca) :
    Calls Tryz.prog 69 #[.slice a l.length ca] w fun e w' => e = .returned (.bool (isTextB l)) ∧ w = w' := by
  have HA := Lib.hid h
  have hb := h.bound
  have hlen : (l.length : Int) ≤ 9223372036854775807 := by omega
  clear h hb
  go_enter Tryz.func69, Tryz.ntmps69
  go_wp2_with fail
  go_loopw [7] (fun u wr => ∃ k : Nat, u = .int .i64 k ∧ k ≤ l.length ∧ wr = w ∧ Hid ((l.drop k).all Utf.scal = l.all Utf.scal)) (fun u _ => l.length - (intOf u).toNat)
  case atStart => exact ⟨0, rfl, Nat.zero_le _, rfl, Lib.hid rfl⟩
  case round =>
    obtain ⟨k, rfl, hk, rfl, hst⟩ := hrel
    by_cases hlt : k < l.length
    · obtain ⟨x, hx⟩ : ∃ x, l[k]? = some x := ⟨_, List.getElem?_eq_getElem hlt⟩
      obtain ⟨g, o, rfl, hg, c0⟩ := HA.out.at hx
      have e1 : l.drop k = x :: l.drop (k + 1) := by
        obtain ⟨hi', e⟩ := List.getElem?_eq_some_iff.1 hx
        rw [← e]
        exact List.drop_eq_getElem_cons hi'
      have e2 := hst.out
      rw [e1, List.all_cons] at e2
      have HS := Lib.hid (fun w => scalar_any x w)
      have HE := Lib.hid e2
      clear hx hg e1 e2
      by_cases hs : Utf.scal x = true
      · rw [hs] at HS HE
        have HE2 : Hid ((l.drop (k + 1)).all Utf.scal = l.all Utf.scal) := Lib.hid (by have := HE.out; rwa [Bool.true_and] at this)
        go_wp2_with (first
          | (go_at_call 88; refine (HS.out _).mono ?_; rintro y w1 ⟨rfl, rfl⟩))
        exact ⟨⟨k + 1, by go_num, hlt, by first | rfl | trivial, HE2⟩, by simp [intOf]; omega⟩
      · rw [Bool.eq_false_iff.2 hs] at HS HE
        have HE2 : Hid (isTextB l = false) := Lib.hid (by have := HE.out; rw [Bool.false_and] at this; unfold isTextB; rw [← this, Bool.false_and])
        clear hs
        go_wp2_with (first
          | (go_at_call 88; refine (HS.out _).mono ?_; rintro y w1 ⟨rfl, rfl⟩))
        go_ret
        exact ⟨by rw [HE2.out]; rfl, rfl⟩
    · have he : k = l.length := by omega
      subst he
      have e1 := hst.out
      rw [List.drop_length] at e1
      have e2 : isTextB l = decide (l.length ≤ 1000) := by unfold isTextB; rw [← e1]; exact Bool.true_and _
      by_cases h1 : l.length ≤ 1000
      · have HE : Hid (isTextB l = true) := Lib.hid (by rw [e2]; simp [h1])
        have b0 : decide ((l.length : Int) ≤ 1000) = true := by simp; omega
        clear e1 e2 hlt hk h1
        go_wp2_with fail
        go_ret
        exact ⟨by rw [HE.out]; rfl, rfl⟩
      · have HE : Hid (isTextB l = false) := Lib.hid (by rw [e2]; simp; omega)
        have b0 : decide ((l.length : Int) ≤ 1000) = false := by simp; omega
        clear e1 e2 hlt hk h1
        go_wp2_with fail
        go_ret
        exact ⟨by rw [HE.out]; rfl, rfl⟩
theorem num_1 (names : List Nm) (l : List Ty) (r : Int) (an : Option Addr) (cn : Nat) (al : Option Addr) (cl : Nat) (n : Int) (w : World) :
    Calls Tryz.prog 71 #[.agg #[.int .i64 1, .slice an names.length cn, .slice al l.length cl, .int .i64 r], .int .i64 n] w fun e w' => e = .returned (.bool (bitsB n 1)) ∧ Kept (fun _ => False) w w' := by
  have k0 : Kept (fun _ => False) w (w.alloc (.cells #[.int .i64 1, .slice an names.length cn, .slice al l.length cl, .int .i64 r] 25)) := (Kept.refl _ _).new _
  have HK := Lib.hid k0
  clear k0
  have HB : Hid (∀ w, Calls Tryz.prog 23 #[.int .i64 n, .int .i64 1] w fun e w' => e = .returned (.bool (bitsB n 1)) ∧ w = w') := Lib.hid (fun w => rdBits n 1 (by decide) w)
  go_enter Tryz.func71, Tryz.ntmps71
  go_wp2_with (first
    | (go_at_call 23; refine (HB.out _).mono ?_; rintro y w1 ⟨rfl, rfl⟩))
  go_ret
  exact ⟨rfl, HK.out⟩
theorem num_3 (names : List Nm) (l : List Ty) (r : Int) (an : Option Addr) (cn : Nat) (al : Option Addr) (cl : Nat) (n : Int) (w : World) :
    Calls Tryz.prog 71 #[.agg #[.int .i64 3, .slice an names.length cn, .slice al l.length cl, .int .i64 r], .int .i64 n] w fun e w' => e = .returned (.bool (bitsB n 8)) ∧ Kept (fun _ => False) w w' := by
  have k0 : Kept (fun _ => False) w (w.alloc (.cells #[.int .i64 3, .slice an names.length cn, .slice al l.length cl, .int .i64 r] 25)) := (Kept.refl _ _).new _
  have HK := Lib.hid k0
  clear k0
  have HB : Hid (∀ w, Calls Tryz.prog 23 #[.int .i64 n, .int .i64 8] w fun e w' => e = .returned (.bool (bitsB n 8)) ∧ w = w') := Lib.hid (fun w => rdBits n 8 (by decide) w)
  go_enter Tryz.func71, Tryz.ntmps71
  go_wp2_with (first
    | (go_at_call 23; refine (HB.out _).mono ?_; rintro y w1 ⟨rfl, rfl⟩))
  go_ret
  exact ⟨rfl, HK.out⟩
theorem num_5 (names : List Nm) (l : List Ty) (r : Int) (an : Option Addr) (cn : Nat) (al : Option Addr) (cl : Nat) (n : Int) (w : World) :
    Calls Tryz.prog 71 #[.agg #[.int .i64 5, .slice an names.length cn, .slice al l.length cl, .int .i64 r], .int .i64 n] w fun e w' => e = .returned (.bool (bitsB n 16)) ∧ Kept (fun _ => False) w w' := by
  have k0 : Kept (fun _ => False) w (w.alloc (.cells #[.int .i64 5, .slice an names.length cn, .slice al l.length cl, .int .i64 r] 25)) := (Kept.refl _ _).new _
  have HK := Lib.hid k0
  clear k0
  have HB : Hid (∀ w, Calls Tryz.prog 23 #[.int .i64 n, .int .i64 16] w fun e w' => e = .returned (.bool (bitsB n 16)) ∧ w = w') := Lib.hid (fun w => rdBits n 16 (by decide) w)
  go_enter Tryz.func71, Tryz.ntmps71
  go_wp2_with (first
    | (go_at_call 23; refine (HB.out _).mono ?_; rintro y w1 ⟨rfl, rfl⟩))
  go_ret
  exact ⟨rfl, HK.out⟩
theorem num_7 (names : List Nm) (l : List Ty) (r : Int) (an : Option Addr) (cn : Nat) (al : Option Addr) (cl : Nat) (n : Int) (w : World) :
    Calls Tryz.prog 71 #[.agg #[.int .i64 7, .slice an names.length cn, .slice al l.length cl, .int .i64 r], .int .i64 n] w fun e w' => e = .returned (.bool (bitsB n 32)) ∧ Kept (fun _ => False) w w' := by
  have k0 : Kept (fun _ => False) w (w.alloc (.cells #[.int .i64 7, .slice an names.length cn, .slice al l.length cl, .int .i64 r] 25)) := (Kept.refl _ _).new _
  have HK := Lib.hid k0
  clear k0
  have HB : Hid (∀ w, Calls Tryz.prog 23 #[.int .i64 n, .int .i64 32] w fun e w' => e = .returned (.bool (bitsB n 32)) ∧ w = w') := Lib.hid (fun w => rdBits n 32 (by decide) w)
  go_enter Tryz.func71, Tryz.ntmps71
  go_wp2_with (first
    | (go_at_call 23; refine (HB.out _).mono ?_; rintro y w1 ⟨rfl, rfl⟩))
  go_ret
  exact ⟨rfl, HK.out⟩
theorem num_20 (names : List Nm) (l : List Ty) (r : Int) (an : Option Addr) (cn : Nat) (al : Option Addr) (cl : Nat) (n : Int) (w : World) :
    Calls Tryz.prog 71 #[.agg #[.int .i64 20, .slice an names.length cn, .slice al l.length cl, .int .i64 r], .int .i64 n] w fun e w' => e = .returned (.bool (bitsB n 32)) ∧ Kept (fun _ => False) w w' := by
  have k0 : Kept (fun _ => False) w (w.alloc (.cells #[.int .i64 20, .slice an names.length cn, .slice al l.length cl, .int .i64 r] 25)) := (Kept.refl _ _).new _
  have HK := Lib.hid k0
  clear k0
  have HB : Hid (∀ w, Calls Tryz.prog 23 #[.int .i64 n, .int .i64 32] w fun e w' => e = .returned (.bool (bitsB n 32)) ∧ w = w') := Lib.hid (fun w => rdBits n 32 (by decide) w)
  go_enter Tryz.func71, Tryz.ntmps71
  go_wp2_with (first
    | (go_at_call 23; refine (HB.out _).mono ?_; rintro y w1 ⟨rfl, rfl⟩))
  go_ret
  exact ⟨rfl, HK.out⟩
theorem num_21 (names : List Nm) (l : List Ty) (r : Int) (an : Option Addr) (cn : Nat) (al : Option Addr) (cl : Nat) (n : Int) (w : World) :
    Calls Tryz.prog 71 #[.agg #[.int .i64 21, .slice an names.length cn, .slice al l.length cl, .int .i64 r], .int .i64 n] w fun e w' => e = .returned (.bool (bitsB n 32)) ∧ Kept (fun _ => False) w w' := by
  have k0 : Kept (fun _ => False) w (w.alloc (.cells #[.int .i64 21, .slice an names.length cn, .slice al l.length cl, .int .i64 r] 25)) := (Kept.refl _ _).new _
  have HK := Lib.hid k0
  clear k0
  have HB : Hid (∀ w, Calls Tryz.prog 23 #[.int .i64 n, .int .i64 32] w fun e w' => e = .returned (.bool (bitsB n 32)) ∧ w = w') := Lib.hid (fun w => rdBits n 32 (by decide) w)
  go_enter Tryz.func71, Tryz.ntmps71
  go_wp2_with (first
    | (go_at_call 23; refine (HB.out _).mono ?_; rintro y w1 ⟨rfl, rfl⟩))
  go_ret
  exact ⟨rfl, HK.out⟩
theorem num_2 (names : List Nm) (l : List Ty) (r : Int) (an : Option Addr) (cn : Nat) (al : Option Addr) (cl : Nat) (n : Int) (w : World) :
    Calls Tryz.prog 71 #[.agg #[.int .i64 2, .slice an names.length cn, .slice al l.length cl, .int .i64 r], .int .i64 n] w fun e w' => e = .returned (.bool (decide (-128 ≤ n ∧ n ≤ 127))) ∧ Kept (fun _ => False) w w' := by
  have k0 : Kept (fun _ => False) w (w.alloc (.cells #[.int .i64 2, .slice an names.length cn, .slice al l.length cl, .int .i64 r] 25)) := (Kept.refl _ _).new _
  have HK := Lib.hid k0
  clear k0
  rcases (show (-128 ≤ n ∧ n ≤ 127) ∨ n < -128 ∨ 127 < n by omega) with h | h | h
  · have HE : Hid (decide (-128 ≤ n ∧ n ≤ 127) = true) := Lib.hid (by simp; omega)
    have b0 : decide (n ≥ -128) = true := by simp; omega
    have b1 : decide (n ≤ 127) = true := by simp; omega
    clear h
    go_enter Tryz.func71, Tryz.ntmps71
    go_wp2_with fail
    go_ret
    exact ⟨by rw [HE.out]; rfl, HK.out⟩
  · have HE : Hid (decide (-128 ≤ n ∧ n ≤ 127) = false) := Lib.hid (by simp; omega)
    have b0 : decide (n ≥ -128) = false := by simp; omega
    clear h
    go_enter Tryz.func71, Tryz.ntmps71
    go_wp2_with fail
    go_ret
    exact ⟨by rw [HE.out]; rfl, HK.out⟩
  · have HE : Hid (decide (-128 ≤ n ∧ n ≤ 127) = false) := Lib.hid (by simp; omega)
    have b0 : decide (n ≥ -128) = true := by simp; omega
    have b1 : decide (n ≤ 127) = false := by simp; omega
    clear h
    go_enter Tryz.func71, Tryz.ntmps71
    go_wp2_with fail
    go_ret
    exact ⟨by rw [HE.out]; rfl, HK.out⟩
theorem num_4 (names : List Nm) (l : List Ty) (r : Int) (an : Option Addr) (cn : Nat) (al : Option Addr) (cl : Nat) (n : Int) (w : World) :
    Calls Tryz.prog 71 #[.agg #[.int .i64 4, .slice an names.length cn, .slice al l.length cl, .int .i64 r], .int .i64 n] w fun e w' => e = .returned (.bool (decide (-32768 ≤ n ∧ n ≤ 32767))) ∧ Kept (fun _ => False) w w' := by
  have k0 : Kept (fun _ => False) w (w.alloc (.cells #[.int .i64 4, .slice an names.length cn, .slice al l.length cl, .int .i64 r] 25)) := (Kept.refl _ _).new _
  have HK := Lib.hid k0
  clear k0
  rcases (show (-32768 ≤ n ∧ n ≤ 32767) ∨ n < -32768 ∨ 32767 < n by omega) with h | h | h
  · have HE : Hid (decide (-32768 ≤ n ∧ n ≤ 32767) = true) := Lib.hid (by simp; omega)
    have b0 : decide (n ≥ -32768) = true := by simp; omega
    have b1 : decide (n ≤ 32767) = true := by simp; omega
    clear h
    go_enter Tryz.func71, Tryz.ntmps71
    go_wp2_with fail
    go_ret
    exact ⟨by rw [HE.out]; rfl, HK.out⟩
  · have HE : Hid (decide (-32768 ≤ n ∧ n ≤ 32767) = false) := Lib.hid (by simp; omega)
    have b0 : decide (n ≥ -32768) = false := by simp; omega
    clear h
    go_enter Tryz.func71, Tryz.ntmps71
    go_wp2_with fail
    go_ret
    exact ⟨by rw [HE.out]; rfl, HK.out⟩
  · have HE : Hid (decide (-32768 ≤ n ∧ n ≤ 32767) = false) := Lib.hid (by simp; omega)
    have b0 : decide (n ≥ -32768) = true := by simp; omega
    have b1 : decide (n ≤ 32767) = false := by simp; omega
    clear h
    go_enter Tryz.func71, Tryz.ntmps71
    go_wp2_with fail
    go_ret
    exact ⟨by rw [HE.out]; rfl, HK.out⟩
theorem num_6 (names : List Nm) (l : List Ty) (r : Int) (an : Option Addr) (cn : Nat) (al : Option Addr) (cl : Nat) (n : Int) (w : World) :
    Calls Tryz.prog 71 #[.agg #[.int .i64 6, .slice an names.length cn, .slice al l.length cl, .int .i64 r], .int .i64 n] w fun e w' => e = .returned (.bool (decide (-2147483648 ≤ n ∧ n ≤ 2147483647))) ∧ Kept (fun _ => False) w w' := by
  have k0 : Kept (fun _ => False) w (w.alloc (.cells #[.int .i64 6, .slice an names.length cn, .slice al l.length cl, .int .i64 r] 25)) := (Kept.refl _ _).new _
  have HK := Lib.hid k0
  clear k0
  rcases (show (-2147483648 ≤ n ∧ n ≤ 2147483647) ∨ n < -2147483648 ∨ 2147483647 < n by omega) with h | h | h
  · have HE : Hid (decide (-2147483648 ≤ n ∧ n ≤ 2147483647) = true) := Lib.hid (by simp; omega)
    have b0 : decide (n ≥ -2147483648) = true := by simp; omega
    have b1 : decide (n ≤ 2147483647) = true := by simp; omega
    clear h
    go_enter Tryz.func71, Tryz.ntmps71
    go_wp2_with fail
    go_ret
    exact ⟨by rw [HE.out]; rfl, HK.out⟩
  · have HE : Hid (decide (-2147483648 ≤ n ∧ n ≤ 2147483647) = false) := Lib.hid (by simp; omega)
    have b0 : decide (n ≥ -2147483648) = false := by simp; omega
    clear h
    go_enter Tryz.func71, Tryz.ntmps71
    go_wp2_with fail
    go_ret
    exact ⟨by rw [HE.out]; rfl, HK.out⟩
  · have HE : Hid (decide (-2147483648 ≤ n ∧ n ≤ 2147483647) = false) := Lib.hid (by simp; omega)
    have b0 : decide (n ≥ -2147483648) = true := by simp; omega
    have b1 : decide (n ≤ 2147483647) = false := by simp; omega
    clear h
    go_enter Tryz.func71, Tryz.ntmps71
    go_wp2_with fail
    go_ret
    exact ⟨by rw [HE.out]; rfl, HK.out⟩
theorem num_10 (names : List Nm) (l : List Ty) (r : Int) (an : Option Addr) (cn : Nat) (al : Option Addr) (cl : Nat) (n : Int) (w : World) :
    Calls Tryz.prog 71 #[.agg #[.int .i64 10, .slice an names.length cn, .slice al l.length cl, .int .i64 r], .int .i64 n] w fun e w' => e = .returned (.bool (Utf.scal n)) ∧ Kept (fun _ => False) w w' := by
  have k0 : Kept (fun _ => False) w (w.alloc (.cells #[.int .i64 10, .slice an names.length cn, .slice al l.length cl, .int .i64 r] 25)) := (Kept.refl _ _).new _
  have HK := Lib.hid k0
  clear k0
  have HB := Lib.hid (fun w => scalar_any n w)
  go_enter Tryz.func71, Tryz.ntmps71
  go_wp2_with (first
    | (go_at_call 88; refine (HB.out _).mono ?_; rintro y w1 ⟨rfl, rfl⟩))
  go_ret
  exact ⟨rfl, HK.out⟩
theorem num_19 (names : List Nm) (l : List Ty) (r : Int) (an : Option Addr) (cn : Nat) (al : Option Addr) (cl : Nat) (n : Int) (w : World) (hn : names.length ≤ 32) :
    Calls Tryz.prog 71 #[.agg #[.int .i64 19, .slice an names.length cn, .slice al l.length cl, .int .i64 r], .int .i64 n] w fun e w' => e = .returned (.bool (bitsB n names.length)) ∧ Kept (fun _ => False) w w' := by
  have k0 : Kept (fun _ => False) w (w.alloc (.cells #[.int .i64 19, .slice an names.length cn, .slice al l.length cl, .int .i64 r] 25)) := (Kept.refl _ _).new _
  have HK := Lib.hid k0
  clear k0
  have HB := Lib.hid (fun w => rdBits n names.length hn w)
  clear hn
  go_enter Tryz.func71, Tryz.ntmps71
  go_wp2_with (first
    | (go_at_call 23; refine (HB.out _).mono ?_; rintro y w1 ⟨rfl, rfl⟩))
  go_ret
  exact ⟨rfl, HK.out⟩
theorem num_8 (names : List Nm) (l : List Ty) (r : Int) (an : Option Addr) (cn : Nat) (al : Option Addr) (cl : Nat) (n : Int) (w : World) :
    Calls Tryz.prog 71 #[.agg #[.int .i64 8, .slice an names.length cn, .slice al l.length cl, .int .i64 r], .int .i64 n] w fun e w' => e = .returned (.bool (true)) ∧ Kept (fun _ => False) w w' := by
  have k0 : Kept (fun _ => False) w (w.alloc (.cells #[.int .i64 8, .slice an names.length cn, .slice al l.length cl, .int .i64 r] 25)) := (Kept.refl _ _).new _
  have HK := Lib.hid k0
  clear k0
  go_enter Tryz.func71, Tryz.ntmps71
  go_wp2_with fail
  go_ret
  exact ⟨rfl, HK.out⟩
theorem num_9 (names : List Nm) (l : List Ty) (r : Int) (an : Option Addr) (cn : Nat) (al : Option Addr) (cl : Nat) (n : Int) (w : World) :
    Calls Tryz.prog 71 #[.agg #[.int .i64 9, .slice an names.length cn, .slice al l.length cl, .int .i64 r], .int .i64 n] w fun e w' => e = .returned (.bool (true)) ∧ Kept (fun _ => False) w w' := by
  have k0 : Kept (fun _ => False) w (w.alloc (.cells #[.int .i64 9, .slice an names.length cn, .slice al l.length cl, .int .i64 r] 25)) := (Kept.refl _ _).new _
  have HK := Lib.hid k0
  clear k0
  go_enter Tryz.func71, Tryz.ntmps71
  go_wp2_with fail
  go_ret
  exact ⟨rfl, HK.out⟩
theorem num_rest (names : List Nm) (l : List Ty) (r : Int) (an : Option Addr) (cn : Nat) (al : Option Addr) (cl : Nat) (n : Int) (w : World) (k : Int) (h1 : (k == 1) = false) (h2 : (k == 2) = false) (h3 : (k == 3) = false) (h4 : (k == 4) = false) (h5 : (k == 5) = false) (h6 : (k == 6) = false) (h7 : (k == 7) = false) (h20 : (k == 20) = false) (h21 : (k == 21) = false) (h10 : (k == 10) = false) (h19 : (k == 19) = false) (h8 : (k == 8) = false) (h9 : (k == 9) = false) :
    Calls Tryz.prog 71 #[.agg #[.int .i64 k, .slice an names.length cn, .slice al l.length cl, .int .i64 r], .int .i64 n] w fun e w' => e = .returned (.bool (false)) ∧ Kept (fun _ => False) w w' := by
  have k0 : Kept (fun _ => False) w (w.alloc (.cells #[.int .i64 k, .slice an names.length cn, .slice al l.length cl, .int .i64 r] 25)) := (Kept.refl _ _).new _
  have HK := Lib.hid k0
  clear k0
  go_enter Tryz.func71, Tryz.ntmps71
  go_wp2_with fail
  go_ret
  exact ⟨rfl, HK.out⟩
/-- IS A NUMBER ONE OF A TYPE. -/
theorem rdIsNumber (t : Ty) (an : Option Addr) (cn : Nat) (al : Option Addr) (cl : Nat) (n : Int) (w : World) (hn : t.kind = 19 → t.names.length ≤ 32) :
    Calls Tryz.prog 71 #[tyV t an cn al cl, .int .i64 n] w fun e w' => e = .returned (.bool (numB t n)) ∧ Kept (fun _ => False) w w' := by
  cases t with
  | mk k names l r =>
    show Calls Tryz.prog 71 #[.agg #[.int .i64 k, .slice an names.length cn, .slice al l.length cl, .int .i64 r], .int .i64 n] w fun e w' => e = .returned (.bool (numB (.mk k names l r) n)) ∧ Kept (fun _ => False) w w'
    by_cases h1 : k = 1
    · subst h1; exact num_1 names l r an cn al cl n w
    by_cases h2 : k = 2
    · subst h2; exact num_2 names l r an cn al cl n w
    by_cases h3 : k = 3
    · subst h3; exact num_3 names l r an cn al cl n w
    by_cases h4 : k = 4
    · subst h4; exact num_4 names l r an cn al cl n w
    by_cases h5 : k = 5
    · subst h5; exact num_5 names l r an cn al cl n w
    by_cases h6 : k = 6
    · subst h6; exact num_6 names l r an cn al cl n w
    by_cases h7 : k = 7
    · subst h7; exact num_7 names l r an cn al cl n w
    by_cases h20 : k = 20
    · subst h20; exact num_20 names l r an cn al cl n w
    by_cases h21 : k = 21
    · subst h21; exact num_21 names l r an cn al cl n w
    by_cases h10 : k = 10
    · subst h10; exact num_10 names l r an cn al cl n w
    by_cases h19 : k = 19
    · subst h19; exact num_19 names l r an cn al cl n w (hn rfl)
    by_cases h8 : k = 8
    · subst h8; exact num_8 names l r an cn al cl n w
    by_cases h9 : k = 9
    · subst h9; exact num_9 names l r an cn al cl n w
    have e : numB (.mk k names l r) n = false := by unfold numB; simp [Ty.kind, h1, h2, h3, h4, h5, h6, h7, h20, h21, h10, h19, h8, h9]
    rw [e]
    exact num_rest names l r an cn al cl n w k (by simp [h1]) (by simp [h2]) (by simp [h3]) (by simp [h4]) (by simp [h5]) (by simp [h6]) (by simp [h7]) (by simp [h20]) (by simp [h21]) (by simp [h10]) (by simp [h19]) (by simp [h8]) (by simp [h9])
end Go.Proofs.YtikgkjkgdlnekaaGreatDoor
