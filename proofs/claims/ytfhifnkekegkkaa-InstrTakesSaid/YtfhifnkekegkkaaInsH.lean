/- The reference's readings of two indices, and of a type. -/
import Derived.Test.YtfhifnkekegkkaaInsB
import Derived.Test.YtfhifnkekegkkaaLebRefAll
import Derived.Test.YtfhifnkekegkkaaKitB
import Derived.BigQuiet
import Derived.Deep.QuietTactic
namespace Go.Proofs.Ytfhifnkekegkkaa
open Go.RowKit

open Leb (byt byt_lt byt_get)
theorem uR_size (s : ByteArray) : (uR s).size ≤ s.size := by
  unfold uR
  split
  · rw [ByteArray.size_extract]
    omega
  · exact Nat.zero_le _
def twoTup (s : ByteArray) : Value := if okU s = true then .tuple #[.int .i64 (uN s), .int .i64 (uN (uR s)), .string (uR (uR s)), .int .i64 (uE (uR s))] else .tuple #[.int .i64 0, .int .i64 0, .string ⟨#[]⟩, .int .i64 2]
set_option maxRecDepth 100000 in
theorem refTwo_any (s : ByteArray) (hs : s.size ≤ maxLen) (w : World) :
    Calls Try.prog 80 #[.string s] w fun e w' => e = .returned (twoTup s) ∧ Below w.heap.size w w' := by
  have H1 := Lib.hid (refTakeU_any s hs)
  have H2 := Lib.hid (refTakeU_any (uR s) (Nat.le_trans (uR_size s) hs))
  unfold twoTup
  by_cases hok : okU s = true
  · rw [if_pos hok]
    unfold uTup at H1 H2
    have he : uE s = 0 := by unfold uE; rw [if_pos hok]
    rw [he] at H1
    have hb := Below.refl w.heap.size w
    clear hok he hs
    revert H1 H2
    generalize uN s = a
    generalize uR s = r
    generalize uN r = b
    generalize uR r = t
    generalize uE r = f
    intro H1 H2
    go_enter Try.func80, Try.ntmps80
    go_wp2_with (first
      | (go_at_call 34; refine (H1.out _).mono ?_; rintro e w1 ⟨rfl, hh⟩; replace hb := hb.trans (hh.mono hb.size); clear hh H1)
      | (go_at_call 34; refine (H2.out _).mono ?_; rintro e w1 ⟨rfl, hh⟩; replace hb := hb.trans (hh.mono hb.size); clear hh H2))
    refine bodyPost_ret (v := .tuple #[.int .i64 a, .int .i64 b, .string t, .int .i64 f]) (by simp [results, Try.results80, go_sem]) rfl ⟨rfl, hb⟩
  · rw [if_neg hok]
    rw [uTup_bad (not_true hok)] at H1
    clear hok hs
    go_enter Try.func80, Try.ntmps80
    go_wp2_with (go_at_call 34; refine (H1.out _).mono ?_; rintro e w1 ⟨rfl, hb⟩)
    refine bodyPost_ret (v := .tuple #[.int .i64 0, .int .i64 0, .string ⟨#[]⟩, .int .i64 2]) (by simp [results, Try.results80, go_sem]) rfl ⟨rfl, hb⟩
theorem refByte1_any (n : Int) (w : World) :
    Calls Try.prog 15 #[.int .i64 n] w fun e w' => e = .returned (.string (strOfNums [n % 256])) ∧ Below w.heap.size w w' := by
  have hu : IntKind.u8.wrap n = n % 256 := by
    simp [IntKind.wrap, IntKind.signed, IntKind.bits]
  have hcv := one_conv (n % 256) w
  have HB := Lib.hid ((Below.refl w.heap.size w).alloc (Nat.le_refl _) (.cells #[.int .u8 (n % 256)] 5))
  go_enter Try.func15, Try.ntmps15
  go_wp2_with fail
  go_ret
  exact ⟨rfl, HB.out⟩
/-- What reading a type tells. -/
def typedTup (s : ByteArray) : Value := if s.size = 0 then .tuple #[.int .i64 0, .string ⟨#[]⟩, .int .i64 2] else .tuple #[.int .i64 (typeV (byt s 0)).1, .string (s.extract 1 s.size), .int .i64 (typeV (byt s 0)).2]
set_option maxRecDepth 100000 in
theorem refTyped_any (s : ByteArray) (hs : s.size ≤ maxLen) (w : World) :
    Calls Try.prog 62 #[.string s] w fun e w' => e = .returned (typedTup s) ∧ Below w.heap.size w w' := by
  unfold maxLen at hs
  unfold typedTup
  by_cases h0 : s.size = 0
  · rw [if_pos h0]
    go_enter Try.func62, Try.ntmps62
    go_wp2_with fail
    go_ret3
    exact ⟨rfl, Below.refl _ _⟩
  · rw [if_neg h0]
    have hpos : 0 < s.size := by omega
    have e3 := byt_get s 0 hpos
    have e5 := byt_lt s 0
    have e1 : ((s.size : Int) == 0) = false := eq_no (by omega)
    have b1 : (1 : Int) ≤ s.size := by omega
    have HT := Lib.hid (refType_any (byt s 0 : Nat))
    revert HT
    generalize (typeV (byt s 0 : Nat)).1 = t
    generalize (typeV (byt s 0 : Nat)).2 = f
    intro HT
    go_enter Try.func62, Try.ntmps62
    go_wp2_with (go_at_call 30; refine (HT.out _).mono ?_; rintro e w1 ⟨rfl, hb⟩)
    go_quiet (fail)
    go_wp2
    go_ret3
    exact ⟨rfl, below_drewN hb _⟩
end Go.Proofs.Ytfhifnkekegkkaa
