/- value: the reference's whole. -/
import Derived.Test.YtikgkjkgdlnekaaGreatDoorVaE
set_option linter.unusedVariables false
set_option linter.unusedSimpArgs false
namespace Go.Proofs.YtikgkjkgdlnekaaGreatDoor
open Go.RowKit
open Ct

namespace Ct
/-- Is a number one of a kind of whole numbers? 0: the kind is none; 1: no; 2: yes. -/
def wholeK (k n : Int) : Nat :=
  if k = 1 then (if 0 ≤ n ∧ n < 2 then 2 else 1)
  else if k = 2 then (if -128 ≤ n ∧ n < 128 then 2 else 1)
  else if k = 3 then (if 0 ≤ n ∧ n < 256 then 2 else 1)
  else if k = 4 then (if -32768 ≤ n ∧ n < 32768 then 2 else 1)
  else if k = 5 then (if 0 ≤ n ∧ n < 65536 then 2 else 1)
  else if k = 6 then (if -2147483648 ≤ n ∧ n < 2147483648 then 2 else 1)
  else if k = 7 ∨ k = 20 ∨ k = 21 then (if 0 ≤ n ∧ n < 4294967296 then 2 else 1)
  else if k = 8 ∨ k = 9 then 2
  else 0
def pw (j : Nat) : Nat := 2 ^ j
theorem pow_up (j : Nat) (h : j < 32) : IntKind.i64.wrap ((pw j : Int) * 2) = (pw (j + 1) : Nat) := by
  have e : pw (j + 1) = pw j * 2 := Nat.pow_succ 2 j
  have h2 : pw j ≤ 2 ^ 31 := Nat.pow_le_pow_right (by decide) (by omega)
  rw [e, IntKind.wrap_i64]
  generalize pw j = p at h2
  have h3 : (2 : Nat) ^ 31 = 2147483648 := by decide
  omega
end Ct
/-- The row of bits. -/
abbrev bitsC : Array Value := #[.int .i64 0, .int .i64 1, .int .i64 8, .int .i64 8, .int .i64 16, .int .i64 16, .int .i64 32, .int .i64 32, .int .i64 64, .int .i64 64]
def WhoR (x : Nat) (w : World) (y : Ending) (w' : World) : Prop := y = .returned (.int .i64 (x : Nat)) ∧ Kept (fun _ => False) w w'
set_option maxRecDepth 100000 in
set_option maxHeartbeats 8000000 in
theorem whole_1 (n : Int) (x : Nat) (hx : x = if 0 ≤ n ∧ n < 2 then 2 else 1) (w : World) : Calls Tryz.prog 36 #[.int .i64 1, .int .i64 n] w (WhoR x w) := by
  have hW := BlkAt.new w bitsC 3
  have c0 : (w.alloc (.cells bitsC 3)).cell? ⟨w.heap.size, 1, none⟩ = some (.int .i64 1) := hW.cell 1
  have HK : Hid (Kept (fun _ => False) w (w.alloc (.cells bitsC 3))) := Lib.hid ((Kept.refl _ w).new _)
  have HX := Lib.hid hx
  clear hW hx
  go_enter Tryz.func36, Tryz.ntmps36
  go_wp2_with fail
  go_loopw [6, 7] (fun t u wr => ∃ j : Nat, u = .int .i64 j ∧ t = .int .i64 (pw j : Nat) ∧ j ≤ 1 ∧ wr = w.alloc (.cells bitsC 3)) (fun _ u _ => 1 - (intOf u).toNat)
  case atStart => exact ⟨0, rfl, rfl, Nat.zero_le _, rfl⟩
  case round =>
    obtain ⟨j, rfl, rfl, hj, rfl⟩ := hrel
    by_cases hlt : j < 1
    · have hp := pow_up j (by omega)
      have hlt' : decide ((j : Int) < 1) = true := by simp; omega
      go_wp2_with fail
      exact ⟨⟨j + 1, by go_num, by first | rw [hp] | rfl, hlt, by first | rfl | trivial⟩, by simp [intOf]; omega⟩
    · have he : j = 1 := by omega
      subst he
      have ep : ((pw 1 : Nat) : Int) = 2 := by decide
      rw [ep]
      clear hlt hj
      by_cases h1 : 0 ≤ n
      · by_cases h2 : n < 2
        · have HX2 : Hid (x = 2) := Lib.hid (HX.out.trans (if_pos ⟨h1, h2⟩))
          have b1 : decide (n ≥ 0) = true := by simp; omega
          have b2 : decide (n < 2) = true := by simp; omega
          clear h1 h2
          go_wp2_with fail
          go_ret
          exact ⟨by rw [HX2.out]; rfl, HK.out⟩
        · have HX2 : Hid (x = 1) := Lib.hid (HX.out.trans (if_neg fun q => h2 q.2))
          have b1 : decide (n ≥ 0) = true := by simp; omega
          have b2 : decide (n < 2) = false := by simp; omega
          clear h1 h2
          go_wp2_with fail
          go_ret
          exact ⟨by rw [HX2.out]; rfl, HK.out⟩
      · have HX2 : Hid (x = 1) := Lib.hid (HX.out.trans (if_neg fun q => h1 q.1))
        have b1 : decide (n ≥ 0) = false := by simp; omega
        clear h1
        go_wp2_with fail
        go_ret
        exact ⟨by rw [HX2.out]; rfl, HK.out⟩
set_option maxRecDepth 100000 in
set_option maxHeartbeats 8000000 in
theorem whole_2 (n : Int) (x : Nat) (hx : x = if -128 ≤ n ∧ n < 128 then 2 else 1) (w : World) : Calls Tryz.prog 36 #[.int .i64 2, .int .i64 n] w (WhoR x w) := by
  have hW := BlkAt.new w bitsC 3
  have c0 : (w.alloc (.cells bitsC 3)).cell? ⟨w.heap.size, 2, none⟩ = some (.int .i64 8) := hW.cell 2
  have HK : Hid (Kept (fun _ => False) w (w.alloc (.cells bitsC 3))) := Lib.hid ((Kept.refl _ w).new _)
  have HX := Lib.hid hx
  clear hW hx
  go_enter Tryz.func36, Tryz.ntmps36
  go_wp2_with fail
  go_loopw [6, 7] (fun t u wr => ∃ j : Nat, u = .int .i64 j ∧ t = .int .i64 (pw j : Nat) ∧ j ≤ 8 ∧ wr = w.alloc (.cells bitsC 3)) (fun _ u _ => 8 - (intOf u).toNat)
  case atStart => exact ⟨0, rfl, rfl, Nat.zero_le _, rfl⟩
  case round =>
    obtain ⟨j, rfl, rfl, hj, rfl⟩ := hrel
    by_cases hlt : j < 8
    · have hp := pow_up j (by omega)
      have hlt' : decide ((j : Int) < 8) = true := by simp; omega
      go_wp2_with fail
      exact ⟨⟨j + 1, by go_num, by first | rw [hp] | rfl, hlt, by first | rfl | trivial⟩, by simp [intOf]; omega⟩
    · have he : j = 8 := by omega
      subst he
      have ep : ((pw 8 : Nat) : Int) = 256 := by decide
      rw [ep]
      clear hlt hj
      by_cases h1 : -128 ≤ n
      · by_cases h2 : n < 128
        · have HX2 : Hid (x = 2) := Lib.hid (HX.out.trans (if_pos ⟨h1, h2⟩))
          have b1 : decide (n ≥ -128) = true := by simp; omega
          have b2 : decide (n < 128) = true := by simp; omega
          clear h1 h2
          go_wp2_with fail
          go_ret
          exact ⟨by rw [HX2.out]; rfl, HK.out⟩
        · have HX2 : Hid (x = 1) := Lib.hid (HX.out.trans (if_neg fun q => h2 q.2))
          have b1 : decide (n ≥ -128) = true := by simp; omega
          have b2 : decide (n < 128) = false := by simp; omega
          clear h1 h2
          go_wp2_with fail
          go_ret
          exact ⟨by rw [HX2.out]; rfl, HK.out⟩
      · have HX2 : Hid (x = 1) := Lib.hid (HX.out.trans (if_neg fun q => h1 q.1))
        have b1 : decide (n ≥ -128) = false := by simp; omega
        clear h1
        go_wp2_with fail
        go_ret
        exact ⟨by rw [HX2.out]; rfl, HK.out⟩
set_option maxRecDepth 100000 in
set_option maxHeartbeats 8000000 in
theorem whole_3 (n : Int) (x : Nat) (hx : x = if 0 ≤ n ∧ n < 256 then 2 else 1) (w : World) : Calls Tryz.prog 36 #[.int .i64 3, .int .i64 n] w (WhoR x w) := by
  have hW := BlkAt.new w bitsC 3
  have c0 : (w.alloc (.cells bitsC 3)).cell? ⟨w.heap.size, 3, none⟩ = some (.int .i64 8) := hW.cell 3
  have HK : Hid (Kept (fun _ => False) w (w.alloc (.cells bitsC 3))) := Lib.hid ((Kept.refl _ w).new _)
  have HX := Lib.hid hx
  clear hW hx
  go_enter Tryz.func36, Tryz.ntmps36
  go_wp2_with fail
  go_loopw [6, 7] (fun t u wr => ∃ j : Nat, u = .int .i64 j ∧ t = .int .i64 (pw j : Nat) ∧ j ≤ 8 ∧ wr = w.alloc (.cells bitsC 3)) (fun _ u _ => 8 - (intOf u).toNat)
  case atStart => exact ⟨0, rfl, rfl, Nat.zero_le _, rfl⟩
  case round =>
    obtain ⟨j, rfl, rfl, hj, rfl⟩ := hrel
    by_cases hlt : j < 8
    · have hp := pow_up j (by omega)
      have hlt' : decide ((j : Int) < 8) = true := by simp; omega
      go_wp2_with fail
      exact ⟨⟨j + 1, by go_num, by first | rw [hp] | rfl, hlt, by first | rfl | trivial⟩, by simp [intOf]; omega⟩
    · have he : j = 8 := by omega
      subst he
      have ep : ((pw 8 : Nat) : Int) = 256 := by decide
      rw [ep]
      clear hlt hj
      by_cases h1 : 0 ≤ n
      · by_cases h2 : n < 256
        · have HX2 : Hid (x = 2) := Lib.hid (HX.out.trans (if_pos ⟨h1, h2⟩))
          have b1 : decide (n ≥ 0) = true := by simp; omega
          have b2 : decide (n < 256) = true := by simp; omega
          clear h1 h2
          go_wp2_with fail
          go_ret
          exact ⟨by rw [HX2.out]; rfl, HK.out⟩
        · have HX2 : Hid (x = 1) := Lib.hid (HX.out.trans (if_neg fun q => h2 q.2))
          have b1 : decide (n ≥ 0) = true := by simp; omega
          have b2 : decide (n < 256) = false := by simp; omega
          clear h1 h2
          go_wp2_with fail
          go_ret
          exact ⟨by rw [HX2.out]; rfl, HK.out⟩
      · have HX2 : Hid (x = 1) := Lib.hid (HX.out.trans (if_neg fun q => h1 q.1))
        have b1 : decide (n ≥ 0) = false := by simp; omega
        clear h1
        go_wp2_with fail
        go_ret
        exact ⟨by rw [HX2.out]; rfl, HK.out⟩
set_option maxRecDepth 100000 in
set_option maxHeartbeats 8000000 in
theorem whole_4 (n : Int) (x : Nat) (hx : x = if -32768 ≤ n ∧ n < 32768 then 2 else 1) (w : World) : Calls Tryz.prog 36 #[.int .i64 4, .int .i64 n] w (WhoR x w) := by
  have hW := BlkAt.new w bitsC 3
  have c0 : (w.alloc (.cells bitsC 3)).cell? ⟨w.heap.size, 4, none⟩ = some (.int .i64 16) := hW.cell 4
  have HK : Hid (Kept (fun _ => False) w (w.alloc (.cells bitsC 3))) := Lib.hid ((Kept.refl _ w).new _)
  have HX := Lib.hid hx
  clear hW hx
  go_enter Tryz.func36, Tryz.ntmps36
  go_wp2_with fail
  go_loopw [6, 7] (fun t u wr => ∃ j : Nat, u = .int .i64 j ∧ t = .int .i64 (pw j : Nat) ∧ j ≤ 16 ∧ wr = w.alloc (.cells bitsC 3)) (fun _ u _ => 16 - (intOf u).toNat)
  case atStart => exact ⟨0, rfl, rfl, Nat.zero_le _, rfl⟩
  case round =>
    obtain ⟨j, rfl, rfl, hj, rfl⟩ := hrel
    by_cases hlt : j < 16
    · have hp := pow_up j (by omega)
      have hlt' : decide ((j : Int) < 16) = true := by simp; omega
      go_wp2_with fail
      exact ⟨⟨j + 1, by go_num, by first | rw [hp] | rfl, hlt, by first | rfl | trivial⟩, by simp [intOf]; omega⟩
    · have he : j = 16 := by omega
      subst he
      have ep : ((pw 16 : Nat) : Int) = 65536 := by decide
      rw [ep]
      clear hlt hj
      by_cases h1 : -32768 ≤ n
      · by_cases h2 : n < 32768
        · have HX2 : Hid (x = 2) := Lib.hid (HX.out.trans (if_pos ⟨h1, h2⟩))
          have b1 : decide (n ≥ -32768) = true := by simp; omega
          have b2 : decide (n < 32768) = true := by simp; omega
          clear h1 h2
          go_wp2_with fail
          go_ret
          exact ⟨by rw [HX2.out]; rfl, HK.out⟩
        · have HX2 : Hid (x = 1) := Lib.hid (HX.out.trans (if_neg fun q => h2 q.2))
          have b1 : decide (n ≥ -32768) = true := by simp; omega
          have b2 : decide (n < 32768) = false := by simp; omega
          clear h1 h2
          go_wp2_with fail
          go_ret
          exact ⟨by rw [HX2.out]; rfl, HK.out⟩
      · have HX2 : Hid (x = 1) := Lib.hid (HX.out.trans (if_neg fun q => h1 q.1))
        have b1 : decide (n ≥ -32768) = false := by simp; omega
        clear h1
        go_wp2_with fail
        go_ret
        exact ⟨by rw [HX2.out]; rfl, HK.out⟩
set_option maxRecDepth 100000 in
set_option maxHeartbeats 8000000 in
theorem whole_5 (n : Int) (x : Nat) (hx : x = if 0 ≤ n ∧ n < 65536 then 2 else 1) (w : World) : Calls Tryz.prog 36 #[.int .i64 5, .int .i64 n] w (WhoR x w) := by
  have hW := BlkAt.new w bitsC 3
  have c0 : (w.alloc (.cells bitsC 3)).cell? ⟨w.heap.size, 5, none⟩ = some (.int .i64 16) := hW.cell 5
  have HK : Hid (Kept (fun _ => False) w (w.alloc (.cells bitsC 3))) := Lib.hid ((Kept.refl _ w).new _)
  have HX := Lib.hid hx
  clear hW hx
  go_enter Tryz.func36, Tryz.ntmps36
  go_wp2_with fail
  go_loopw [6, 7] (fun t u wr => ∃ j : Nat, u = .int .i64 j ∧ t = .int .i64 (pw j : Nat) ∧ j ≤ 16 ∧ wr = w.alloc (.cells bitsC 3)) (fun _ u _ => 16 - (intOf u).toNat)
  case atStart => exact ⟨0, rfl, rfl, Nat.zero_le _, rfl⟩
  case round =>
    obtain ⟨j, rfl, rfl, hj, rfl⟩ := hrel
    by_cases hlt : j < 16
    · have hp := pow_up j (by omega)
      have hlt' : decide ((j : Int) < 16) = true := by simp; omega
      go_wp2_with fail
      exact ⟨⟨j + 1, by go_num, by first | rw [hp] | rfl, hlt, by first | rfl | trivial⟩, by simp [intOf]; omega⟩
    · have he : j = 16 := by omega
      subst he
      have ep : ((pw 16 : Nat) : Int) = 65536 := by decide
      rw [ep]
      clear hlt hj
      by_cases h1 : 0 ≤ n
      · by_cases h2 : n < 65536
        · have HX2 : Hid (x = 2) := Lib.hid (HX.out.trans (if_pos ⟨h1, h2⟩))
          have b1 : decide (n ≥ 0) = true := by simp; omega
          have b2 : decide (n < 65536) = true := by simp; omega
          clear h1 h2
          go_wp2_with fail
          go_ret
          exact ⟨by rw [HX2.out]; rfl, HK.out⟩
        · have HX2 : Hid (x = 1) := Lib.hid (HX.out.trans (if_neg fun q => h2 q.2))
          have b1 : decide (n ≥ 0) = true := by simp; omega
          have b2 : decide (n < 65536) = false := by simp; omega
          clear h1 h2
          go_wp2_with fail
          go_ret
          exact ⟨by rw [HX2.out]; rfl, HK.out⟩
      · have HX2 : Hid (x = 1) := Lib.hid (HX.out.trans (if_neg fun q => h1 q.1))
        have b1 : decide (n ≥ 0) = false := by simp; omega
        clear h1
        go_wp2_with fail
        go_ret
        exact ⟨by rw [HX2.out]; rfl, HK.out⟩
set_option maxRecDepth 100000 in
set_option maxHeartbeats 8000000 in
theorem whole_6 (n : Int) (x : Nat) (hx : x = if -2147483648 ≤ n ∧ n < 2147483648 then 2 else 1) (w : World) : Calls Tryz.prog 36 #[.int .i64 6, .int .i64 n] w (WhoR x w) := by
  have hW := BlkAt.new w bitsC 3
  have c0 : (w.alloc (.cells bitsC 3)).cell? ⟨w.heap.size, 6, none⟩ = some (.int .i64 32) := hW.cell 6
  have HK : Hid (Kept (fun _ => False) w (w.alloc (.cells bitsC 3))) := Lib.hid ((Kept.refl _ w).new _)
  have HX := Lib.hid hx
  clear hW hx
  go_enter Tryz.func36, Tryz.ntmps36
  go_wp2_with fail
  go_loopw [6, 7] (fun t u wr => ∃ j : Nat, u = .int .i64 j ∧ t = .int .i64 (pw j : Nat) ∧ j ≤ 32 ∧ wr = w.alloc (.cells bitsC 3)) (fun _ u _ => 32 - (intOf u).toNat)
  case atStart => exact ⟨0, rfl, rfl, Nat.zero_le _, rfl⟩
  case round =>
    obtain ⟨j, rfl, rfl, hj, rfl⟩ := hrel
    by_cases hlt : j < 32
    · have hp := pow_up j (by omega)
      have hlt' : decide ((j : Int) < 32) = true := by simp; omega
      go_wp2_with fail
      exact ⟨⟨j + 1, by go_num, by first | rw [hp] | rfl, hlt, by first | rfl | trivial⟩, by simp [intOf]; omega⟩
    · have he : j = 32 := by omega
      subst he
      have ep : ((pw 32 : Nat) : Int) = 4294967296 := by decide
      rw [ep]
      clear hlt hj
      by_cases h1 : -2147483648 ≤ n
      · by_cases h2 : n < 2147483648
        · have HX2 : Hid (x = 2) := Lib.hid (HX.out.trans (if_pos ⟨h1, h2⟩))
          have b1 : decide (n ≥ -2147483648) = true := by simp; omega
          have b2 : decide (n < 2147483648) = true := by simp; omega
          clear h1 h2
          go_wp2_with fail
          go_ret
          exact ⟨by rw [HX2.out]; rfl, HK.out⟩
        · have HX2 : Hid (x = 1) := Lib.hid (HX.out.trans (if_neg fun q => h2 q.2))
          have b1 : decide (n ≥ -2147483648) = true := by simp; omega
          have b2 : decide (n < 2147483648) = false := by simp; omega
          clear h1 h2
          go_wp2_with fail
          go_ret
          exact ⟨by rw [HX2.out]; rfl, HK.out⟩
      · have HX2 : Hid (x = 1) := Lib.hid (HX.out.trans (if_neg fun q => h1 q.1))
        have b1 : decide (n ≥ -2147483648) = false := by simp; omega
        clear h1
        go_wp2_with fail
        go_ret
        exact ⟨by rw [HX2.out]; rfl, HK.out⟩
set_option maxRecDepth 100000 in
set_option maxHeartbeats 8000000 in
theorem whole_7 (n : Int) (x : Nat) (hx : x = if 0 ≤ n ∧ n < 4294967296 then 2 else 1) (w : World) : Calls Tryz.prog 36 #[.int .i64 7, .int .i64 n] w (WhoR x w) := by
  have hW := BlkAt.new w bitsC 3
  have c0 : (w.alloc (.cells bitsC 3)).cell? ⟨w.heap.size, 7, none⟩ = some (.int .i64 32) := hW.cell 7
  have HK : Hid (Kept (fun _ => False) w (w.alloc (.cells bitsC 3))) := Lib.hid ((Kept.refl _ w).new _)
  have HX := Lib.hid hx
  clear hW hx
  go_enter Tryz.func36, Tryz.ntmps36
  go_wp2_with fail
  go_loopw [6, 7] (fun t u wr => ∃ j : Nat, u = .int .i64 j ∧ t = .int .i64 (pw j : Nat) ∧ j ≤ 32 ∧ wr = w.alloc (.cells bitsC 3)) (fun _ u _ => 32 - (intOf u).toNat)
  case atStart => exact ⟨0, rfl, rfl, Nat.zero_le _, rfl⟩
  case round =>
    obtain ⟨j, rfl, rfl, hj, rfl⟩ := hrel
    by_cases hlt : j < 32
    · have hp := pow_up j (by omega)
      have hlt' : decide ((j : Int) < 32) = true := by simp; omega
      go_wp2_with fail
      exact ⟨⟨j + 1, by go_num, by first | rw [hp] | rfl, hlt, by first | rfl | trivial⟩, by simp [intOf]; omega⟩
    · have he : j = 32 := by omega
      subst he
      have ep : ((pw 32 : Nat) : Int) = 4294967296 := by decide
      rw [ep]
      clear hlt hj
      by_cases h1 : 0 ≤ n
      · by_cases h2 : n < 4294967296
        · have HX2 : Hid (x = 2) := Lib.hid (HX.out.trans (if_pos ⟨h1, h2⟩))
          have b1 : decide (n ≥ 0) = true := by simp; omega
          have b2 : decide (n < 4294967296) = true := by simp; omega
          clear h1 h2
          go_wp2_with fail
          go_ret
          exact ⟨by rw [HX2.out]; rfl, HK.out⟩
        · have HX2 : Hid (x = 1) := Lib.hid (HX.out.trans (if_neg fun q => h2 q.2))
          have b1 : decide (n ≥ 0) = true := by simp; omega
          have b2 : decide (n < 4294967296) = false := by simp; omega
          clear h1 h2
          go_wp2_with fail
          go_ret
          exact ⟨by rw [HX2.out]; rfl, HK.out⟩
      · have HX2 : Hid (x = 1) := Lib.hid (HX.out.trans (if_neg fun q => h1 q.1))
        have b1 : decide (n ≥ 0) = false := by simp; omega
        clear h1
        go_wp2_with fail
        go_ret
        exact ⟨by rw [HX2.out]; rfl, HK.out⟩
set_option maxRecDepth 100000 in
set_option maxHeartbeats 8000000 in
theorem whole_20 (n : Int) (x : Nat) (hx : x = if 0 ≤ n ∧ n < 4294967296 then 2 else 1) (w : World) : Calls Tryz.prog 36 #[.int .i64 20, .int .i64 n] w (WhoR x w) := by
  have hW := BlkAt.new w bitsC 3
  have c0 : (w.alloc (.cells bitsC 3)).cell? ⟨w.heap.size, 7, none⟩ = some (.int .i64 32) := hW.cell 7
  have HK : Hid (Kept (fun _ => False) w (w.alloc (.cells bitsC 3))) := Lib.hid ((Kept.refl _ w).new _)
  have HX := Lib.hid hx
  clear hW hx
  go_enter Tryz.func36, Tryz.ntmps36
  go_wp2_with fail
  go_loopw [6, 7] (fun t u wr => ∃ j : Nat, u = .int .i64 j ∧ t = .int .i64 (pw j : Nat) ∧ j ≤ 32 ∧ wr = w.alloc (.cells bitsC 3)) (fun _ u _ => 32 - (intOf u).toNat)
  case atStart => exact ⟨0, rfl, rfl, Nat.zero_le _, rfl⟩
  case round =>
    obtain ⟨j, rfl, rfl, hj, rfl⟩ := hrel
    by_cases hlt : j < 32
    · have hp := pow_up j (by omega)
      have hlt' : decide ((j : Int) < 32) = true := by simp; omega
      go_wp2_with fail
      exact ⟨⟨j + 1, by go_num, by first | rw [hp] | rfl, hlt, by first | rfl | trivial⟩, by simp [intOf]; omega⟩
    · have he : j = 32 := by omega
      subst he
      have ep : ((pw 32 : Nat) : Int) = 4294967296 := by decide
      rw [ep]
      clear hlt hj
      by_cases h1 : 0 ≤ n
      · by_cases h2 : n < 4294967296
        · have HX2 : Hid (x = 2) := Lib.hid (HX.out.trans (if_pos ⟨h1, h2⟩))
          have b1 : decide (n ≥ 0) = true := by simp; omega
          have b2 : decide (n < 4294967296) = true := by simp; omega
          clear h1 h2
          go_wp2_with fail
          go_ret
          exact ⟨by rw [HX2.out]; rfl, HK.out⟩
        · have HX2 : Hid (x = 1) := Lib.hid (HX.out.trans (if_neg fun q => h2 q.2))
          have b1 : decide (n ≥ 0) = true := by simp; omega
          have b2 : decide (n < 4294967296) = false := by simp; omega
          clear h1 h2
          go_wp2_with fail
          go_ret
          exact ⟨by rw [HX2.out]; rfl, HK.out⟩
      · have HX2 : Hid (x = 1) := Lib.hid (HX.out.trans (if_neg fun q => h1 q.1))
        have b1 : decide (n ≥ 0) = false := by simp; omega
        clear h1
        go_wp2_with fail
        go_ret
        exact ⟨by rw [HX2.out]; rfl, HK.out⟩
set_option maxRecDepth 100000 in
set_option maxHeartbeats 8000000 in
theorem whole_21 (n : Int) (x : Nat) (hx : x = if 0 ≤ n ∧ n < 4294967296 then 2 else 1) (w : World) : Calls Tryz.prog 36 #[.int .i64 21, .int .i64 n] w (WhoR x w) := by
  have hW := BlkAt.new w bitsC 3
  have c0 : (w.alloc (.cells bitsC 3)).cell? ⟨w.heap.size, 7, none⟩ = some (.int .i64 32) := hW.cell 7
  have HK : Hid (Kept (fun _ => False) w (w.alloc (.cells bitsC 3))) := Lib.hid ((Kept.refl _ w).new _)
  have HX := Lib.hid hx
  clear hW hx
  go_enter Tryz.func36, Tryz.ntmps36
  go_wp2_with fail
  go_loopw [6, 7] (fun t u wr => ∃ j : Nat, u = .int .i64 j ∧ t = .int .i64 (pw j : Nat) ∧ j ≤ 32 ∧ wr = w.alloc (.cells bitsC 3)) (fun _ u _ => 32 - (intOf u).toNat)
  case atStart => exact ⟨0, rfl, rfl, Nat.zero_le _, rfl⟩
  case round =>
    obtain ⟨j, rfl, rfl, hj, rfl⟩ := hrel
    by_cases hlt : j < 32
    · have hp := pow_up j (by omega)
      have hlt' : decide ((j : Int) < 32) = true := by simp; omega
      go_wp2_with fail
      exact ⟨⟨j + 1, by go_num, by first | rw [hp] | rfl, hlt, by first | rfl | trivial⟩, by simp [intOf]; omega⟩
    · have he : j = 32 := by omega
      subst he
      have ep : ((pw 32 : Nat) : Int) = 4294967296 := by decide
      rw [ep]
      clear hlt hj
      by_cases h1 : 0 ≤ n
      · by_cases h2 : n < 4294967296
        · have HX2 : Hid (x = 2) := Lib.hid (HX.out.trans (if_pos ⟨h1, h2⟩))
          have b1 : decide (n ≥ 0) = true := by simp; omega
          have b2 : decide (n < 4294967296) = true := by simp; omega
          clear h1 h2
          go_wp2_with fail
          go_ret
          exact ⟨by rw [HX2.out]; rfl, HK.out⟩
        · have HX2 : Hid (x = 1) := Lib.hid (HX.out.trans (if_neg fun q => h2 q.2))
          have b1 : decide (n ≥ 0) = true := by simp; omega
          have b2 : decide (n < 4294967296) = false := by simp; omega
          clear h1 h2
          go_wp2_with fail
          go_ret
          exact ⟨by rw [HX2.out]; rfl, HK.out⟩
      · have HX2 : Hid (x = 1) := Lib.hid (HX.out.trans (if_neg fun q => h1 q.1))
        have b1 : decide (n ≥ 0) = false := by simp; omega
        clear h1
        go_wp2_with fail
        go_ret
        exact ⟨by rw [HX2.out]; rfl, HK.out⟩
set_option maxRecDepth 100000 in
set_option maxHeartbeats 8000000 in
theorem whole_8 (n : Int) (w : World) : Calls Tryz.prog 36 #[.int .i64 8, .int .i64 n] w (WhoR 2 w) := by
  have c0 : (w.alloc (.cells bitsC 3)).cell? ⟨w.heap.size, 8, none⟩ = some (.int .i64 64) := (BlkAt.new w bitsC 3).cell 8
  have HK : Hid (Kept (fun _ => False) w (w.alloc (.cells bitsC 3))) := Lib.hid ((Kept.refl _ w).new _)
  go_enter Tryz.func36, Tryz.ntmps36
  go_wp2_with fail
  go_ret
  exact ⟨rfl, HK.out⟩
set_option maxRecDepth 100000 in
set_option maxHeartbeats 8000000 in
theorem whole_9 (n : Int) (w : World) : Calls Tryz.prog 36 #[.int .i64 9, .int .i64 n] w (WhoR 2 w) := by
  have c0 : (w.alloc (.cells bitsC 3)).cell? ⟨w.heap.size, 9, none⟩ = some (.int .i64 64) := (BlkAt.new w bitsC 3).cell 9
  have HK : Hid (Kept (fun _ => False) w (w.alloc (.cells bitsC 3))) := Lib.hid ((Kept.refl _ w).new _)
  go_enter Tryz.func36, Tryz.ntmps36
  go_wp2_with fail
  go_ret
  exact ⟨rfl, HK.out⟩
set_option maxRecDepth 100000 in
set_option maxHeartbeats 8000000 in
theorem whole_none (k n : Int) (w : World) (h20 : (k == 20) = false) (h21 : (k == 21) = false) (h : k < 1 ∨ 9 < k) : Calls Tryz.prog 36 #[.int .i64 k, .int .i64 n] w (WhoR 0 w) := by
  have HK : Hid (Kept (fun _ => False) w (w.alloc (.cells bitsC 3))) := Lib.hid ((Kept.refl _ w).new _)
  by_cases h1 : k < 1
  · have b1 : decide (k < 1) = true := by simp; omega
    clear h h1
    go_enter Tryz.func36, Tryz.ntmps36
    go_wp2_with fail
    go_ret
    exact ⟨rfl, HK.out⟩
  · have b1 : decide (k < 1) = false := by simp; omega
    have b2 : decide (9 < k) = true := by simp; omega
    clear h h1
    go_enter Tryz.func36, Tryz.ntmps36
    go_wp2_with fail
    go_ret
    exact ⟨rfl, HK.out⟩
/-- WHOLE, of any kind, any number. -/
theorem rdWhole (k n : Int) (w : World) : Calls Tryz.prog 36 #[.int .i64 k, .int .i64 n] w (WhoR (wholeK k n) w) := by
  by_cases h1 : k = 1; · subst h1; exact whole_1 n _ rfl w
  by_cases h2 : k = 2; · subst h2; exact whole_2 n _ rfl w
  by_cases h3 : k = 3; · subst h3; exact whole_3 n _ rfl w
  by_cases h4 : k = 4; · subst h4; exact whole_4 n _ rfl w
  by_cases h5 : k = 5; · subst h5; exact whole_5 n _ rfl w
  by_cases h6 : k = 6; · subst h6; exact whole_6 n _ rfl w
  by_cases h7 : k = 7; · subst h7; exact whole_7 n _ rfl w
  by_cases h20 : k = 20; · subst h20; exact whole_20 n _ rfl w
  by_cases h21 : k = 21; · subst h21; exact whole_21 n _ rfl w
  by_cases h8 : k = 8; · subst h8; exact whole_8 n w
  by_cases h9 : k = 9; · subst h9; exact whole_9 n w
  have e : wholeK k n = 0 := by
    unfold wholeK
    rw [if_neg h1, if_neg h2, if_neg h3, if_neg h4, if_neg h5, if_neg h6, if_neg (by omega), if_neg (by omega)]
  rw [e]
  exact whole_none k n w (beq_eq_false_iff_ne.2 h20) (beq_eq_false_iff_ne.2 h21) (by omega)
end Go.Proofs.YtikgkjkgdlnekaaGreatDoor
