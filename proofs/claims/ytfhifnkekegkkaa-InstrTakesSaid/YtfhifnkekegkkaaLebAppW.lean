/- The walks of leb's laying: a buffer that grows by a number's bytes. -/
import Derived.Test.YtfhifnkekegkkaaLebPutW
import Derived.KernelRfl
namespace Go.Proofs.Ytfhifnkekegkkaa
open Go.RowKit

def AppRel (base : Nat) (xs : List Int) (n : Int) (w : World) (b q : Value) (wr : World) : Prop :=
  ∃ (ys : List Int) (k : Int) (f : Nat), q = .int .i64 k ∧ 0 ≤ k ∧ k < 128 ^ (f + 1) ∧ k ≤ 9223372036854775807 ∧ ys ++ Leb.putF (f + 1) k = xs ++ Leb.putF 10 n ∧ ys.length + f = xs.length + 9 ∧ Bytes base b ys wr ∧ Below base w wr

theorem app_next {base : Nat} {xs ys : List Int} {n k : Int} {f : Nat} {w wr w1 : World} {b v' : Value} {o : Obj} (hbase : base ≤ w.heap.size) (hk : 127 < k) (hk2 : k ≤ 9223372036854775807) (H1 : k < 128 ^ (f + 1))
    (HY : ys ++ Leb.putF (f + 1) k = xs ++ Leb.putF 10 n) (HL : ys.length + f = xs.length + 9) (hby : Bytes base b ys wr) (hbel : Below base w wr)
    (hown : w1.ownsRow base 5 1 v' (ys.length + 1) (ys.map (Value.int .u8) ++ [.int .u8 (k % 128 + 128)])) (hg : (wr.alloc o).grownBy w1 b.ownBlock) : AppRel base xs n w v' (.int .i64 (k / 128)) w1 := by
  rw [Int.pow_succ] at H1
  obtain ⟨g, rfl⟩ : ∃ g, f = g + 1 := by
    cases f with
    | zero => exfalso; simp at H1; omega
    | succ g => exact ⟨g, rfl⟩
  refine ⟨ys ++ [k % 128 + 128], k / 128, g, rfl, by omega, by omega, by omega, ?_, by simp; omega, Bytes.snoc hown, grown_below hby hbel hbase hg⟩
  rw [← HY, Leb.putF_next _ k (by omega)]
  simp

set_option maxHeartbeats 400000 in
theorem appendU_pos (base : Nat) (v : Value) (xs : List Int) (n : Int) (w : World) (hown : Bytes base v xs w) (hbase : base ≤ w.heap.size) (hx : xs.length ≤ 1000000000) (h0 : 0 ≤ n) (h1 : n ≤ 9223372036854775807) :
    Calls Try.prog 66 #[v, .int .i64 n] w fun e w' => GivesBytes base (xs ++ Leb.putF 10 n) w e w' := by
  obtain ⟨i0, hi, hz0, hz1, hz2⟩ := info_parts info_u8
  have a127 := i64_and127
  have hneg : decide (n < 0) = false := by simp; omega
  go_enter Try.func66, Try.ntmps66
  go_wp2_with fail
  go_loopw [0, 1] (fun b q wr => AppRel base xs n w b q wr) (fun _ q _ => (intOf q).toNat)
  case atStart => exact ⟨xs, n, 9, rfl, h0, by rw [Leb.p10i]; omega, h1, rfl, rfl, hown, Below.refl _ _⟩
  case round =>
    obtain ⟨ys, k, f, rfl, hk0, hk1, hk2, hys, hlen, hby, hbel⟩ := hrel
    have HY := Lib.hid hys
    have HL := Lib.hid hlen
    have H1 := Lib.hid hk1
    have hsz := hbel.size
    have hyl : ys.length ≤ 2000000000 := by omega
    have o128 := u8_or128_right (k % 128) (by omega) (by omega)
    have q3 : ys.length + 1 ≤ maxLen := by unfold maxLen; omega
    have q4 : (ys.length + 1) * 1 ≤ 140737488355328 := by omega
    have q5 : base ≤ wr.heap.size := by omega
    clear hys hlen hk1
    by_cases hk : 127 < k
    · go_wp2_with (at_builtin; refine wpList_append_own _ rfl _ _ 39 rfl base 5 i0 (.int .u8 0) 1 1 Try.underlying39 hi hz0 hz1 hz2 rfl (by decide) _ ys.length (ys.map (Value.int .u8)) rfl (World.ownsRow.alloc hby _) ⟨wr.heap.size, 0, none⟩ 1 1 [.int .u8 (k % 128 + 128)] rfl rfl (cell_one_new _ _ _) (one_u8 _) q3 q4 (le_alloc q5) ?_; intro v' w1 hown1 hg1 _; clear q3 q4 q5)
      exact ⟨app_next hbase hk hk2 H1.out HY.out HL.out hby hbel hown1 hg1, by simp [intOf]; omega⟩
    · go_wp2_with (at_builtin; refine wpList_append_own _ rfl _ _ 39 rfl base 5 i0 (.int .u8 0) 1 1 Try.underlying39 hi hz0 hz1 hz2 rfl (by decide) _ ys.length (ys.map (Value.int .u8)) rfl (World.ownsRow.alloc hby _) ⟨wr.heap.size, 0, none⟩ 1 1 [.int .u8 k] rfl rfl (cell_one_new _ _ _) (one_u8 _) q3 q4 (le_alloc q5) ?_; intro v' w1 hown1 hg1 _; clear q3 q4 q5)
      go_ret
      refine ⟨v', rfl, ?_, grown_below hby hbel hbase hg1⟩
      rw [← HY.out, Leb.putF_last _ k (by omega)]
      exact Bytes.snoc hown1
theorem appendU_neg (base : Nat) (v : Value) (xs : List Int) (n : Int) (w : World) (hown : Bytes base v xs w) (h0 : n < 0) :
    Calls Try.prog 66 #[v, .int .i64 n] w fun e w' => GivesBytes base xs w e w' := by
  go_enter Try.func66, Try.ntmps66
  go_wp2_with fail
  go_ret
  exact ⟨v, rfl, hown, Below.refl _ _⟩
theorem appendU_any (base : Nat) (v : Value) (xs : List Int) (n : Int) (w : World) (hown : Bytes base v xs w) (hbase : base ≤ w.heap.size) (hx : xs.length ≤ 1000000000) (h1 : n ≤ 9223372036854775807) :
    Calls Try.prog 66 #[v, .int .i64 n] w fun e w' => GivesBytes base (xs ++ Leb.putU n) w e w' := by
  unfold Leb.putU
  by_cases h0 : n < 0
  · rw [if_pos h0, List.append_nil]
    exact appendU_neg base v xs n w hown h0
  · rw [if_neg h0]
    exact appendU_pos base v xs n w hown hbase hx (by omega) h1

theorem PutU_any (n : Int) (w : World) (h : n ≤ 9223372036854775807) :
    Calls Try.prog 42 #[.int .i64 n] w fun e w' => e = .returned (.string (strOfNums (Leb.putU n))) ∧ Below w.heap.size w w' := by
  go_enter Try.func42, Try.ntmps42
  go_wp2_with (go_at_call 66; refine (appendU_any w.heap.size _ [] n _ (World.ownsRow_nil _ _ _ _) (Nat.le_refl _) (by simp) h).mono ?_; rintro e w1 ⟨v, rfl, hv, hb⟩; have hc := bytes_conv hv; clear hv)
  go_ret
  exact ⟨rfl, hb⟩

def PutRel (base : Nat) (n : Int) (w : World) (b q : Value) (wr : World) : Prop :=
  ∃ (ys : List Int) (k : Int) (f : Nat), q = .int .i64 k ∧ -64 * 128 ^ f ≤ k ∧ k < 64 * 128 ^ f ∧ -9223372036854775808 ≤ k ∧ k ≤ 9223372036854775807 ∧ ys ++ Leb.putG (f + 1) k = Leb.putG 10 n ∧ ys.length + f = 9 ∧ Bytes base b ys wr ∧ Below base w wr
theorem put_next {base : Nat} {ys : List Int} {n k : Int} {f : Nat} {w wr w1 : World} {b v' : Value} {o : Obj} (hbase : base ≤ w.heap.size) (hk : ¬(-64 ≤ k ∧ k < 64)) (hk1 : -9223372036854775808 ≤ k) (hk2 : k ≤ 9223372036854775807) (H0 : -64 * 128 ^ f ≤ k) (H1 : k < 64 * 128 ^ f)
    (HY : ys ++ Leb.putG (f + 1) k = Leb.putG 10 n) (HL : ys.length + f = 9) (hby : Bytes base b ys wr) (hbel : Below base w wr)
    (hown : w1.ownsRow base 5 1 v' (ys.length + 1) (ys.map (Value.int .u8) ++ [.int .u8 (k % 128 + 128)])) (hg : (wr.alloc o).grownBy w1 b.ownBlock) : PutRel base n w v' (.int .i64 (k / 128)) w1 := by
  obtain ⟨g, rfl⟩ : ∃ g, f = g + 1 := by
    cases f with
    | zero => exfalso; simp at H0 H1; omega
    | succ g => exact ⟨g, rfl⟩
  rw [Int.pow_succ] at H0 H1
  refine ⟨ys ++ [k % 128 + 128], k / 128, g, rfl, ?_, ?_, by omega, by omega, ?_, by simp; omega, Bytes.snoc hown, grown_below hby hbel hbase hg⟩
  · generalize (128 : Int) ^ g = P at *
    omega
  · generalize (128 : Int) ^ g = P at *
    omega
  · rw [← HY, Leb.putG_next _ k hk]
    simp
set_option maxRecDepth 100000 in
theorem PutS_any (n : Int) (w : World) (h1 : -9223372036854775808 ≤ n) (h2 : n ≤ 9223372036854775807) :
    Calls Try.prog 43 #[.int .i64 n] w fun e w' => e = .returned (.string (strOfNums (Leb.putS n))) ∧ Below w.heap.size w w' := by
  obtain ⟨i0, hi, hz0, hz1, hz2⟩ := info_parts info_u8
  have a127 := i64_and127
  go_enter Try.func43, Try.ntmps43
  go_wp2_with fail
  go_loopw [0, 3] (fun q b wr => PutRel w.heap.size n w b q wr) (fun q _ _ => (intOf q).natAbs)
  case atStart => exact ⟨[], n, 9, rfl, by simp; omega, by simp; omega, h1, h2, rfl, rfl, World.ownsRow_nil _ _ _ _, Below.refl _ _⟩
  case round =>
    obtain ⟨ys, k, f, rfl, hk0, hk1, hk2, hk3, hys, hlen, hby, hbel⟩ := hrel
    have HY := Lib.hid hys
    have HL := Lib.hid hlen
    have H0 := Lib.hid hk0
    have H1 := Lib.hid hk1
    have hsz := hbel.size
    have hyl : ys.length ≤ 9 := by omega
    have o128 := u8_or128_right (k % 128) (by omega) (by omega)
    have q3 : ys.length + 1 ≤ maxLen := by unfold maxLen; omega
    have q4 : (ys.length + 1) * 1 ≤ 140737488355328 := by omega
    have q5 : w.heap.size ≤ wr.heap.size := by omega
    clear hys hlen hk1 hk0
    have hcases : k < -64 ∨ (-64 ≤ k ∧ k < 64) ∨ (-64 ≤ k ∧ 63 < k) := by omega
    rcases hcases with hk | ⟨hk, hk'⟩ | ⟨hk, hk'⟩
    · go_wp2_with (at_builtin; refine wpList_append_own _ rfl _ _ 39 rfl w.heap.size 5 i0 (.int .u8 0) 1 1 Try.underlying39 hi hz0 hz1 hz2 rfl (by decide) _ ys.length (ys.map (Value.int .u8)) rfl (World.ownsRow.alloc hby _) ⟨wr.heap.size, 0, none⟩ 1 1 [.int .u8 (k % 128 + 128)] rfl rfl (cell_one_new _ _ _) (one_u8 _) q3 q4 (le_alloc q5) ?_; intro v' w1 hown1 hg1 _; clear q3 q4 q5)
      exact ⟨put_next (Nat.le_refl _) (by omega) hk2 hk3 H0.out H1.out HY.out HL.out hby hbel hown1 hg1, by simp [intOf]; omega⟩
    · go_wp2_with (at_builtin; refine wpList_append_own _ rfl _ _ 39 rfl w.heap.size 5 i0 (.int .u8 0) 1 1 Try.underlying39 hi hz0 hz1 hz2 rfl (by decide) _ ys.length (ys.map (Value.int .u8)) rfl (World.ownsRow.alloc hby _) ⟨wr.heap.size, 0, none⟩ 1 1 [.int .u8 (k % 128)] rfl rfl (cell_one_new _ _ _) (one_u8 _) q3 q4 (le_alloc q5) ?_; intro v' w1 hown1 hg1 _; clear q3 q4 q5; have hc := bytes_conv (Bytes.snoc hown1))
      go_ret
      refine ⟨?_, grown_below hby hbel (Nat.le_refl _) hg1⟩
      have e : Leb.putS n = ys ++ [k % 128] := by rw [← Leb.putG_last f k ⟨hk, hk'⟩]; exact HY.out.symm
      rw [e]
      rfl
    · go_wp2_with (at_builtin; refine wpList_append_own _ rfl _ _ 39 rfl w.heap.size 5 i0 (.int .u8 0) 1 1 Try.underlying39 hi hz0 hz1 hz2 rfl (by decide) _ ys.length (ys.map (Value.int .u8)) rfl (World.ownsRow.alloc hby _) ⟨wr.heap.size, 0, none⟩ 1 1 [.int .u8 (k % 128 + 128)] rfl rfl (cell_one_new _ _ _) (one_u8 _) q3 q4 (le_alloc q5) ?_; intro v' w1 hown1 hg1 _; clear q3 q4 q5)
      exact ⟨put_next (Nat.le_refl _) (by omega) hk2 hk3 H0.out H1.out HY.out HL.out hby hbel hown1 hg1, by simp [intOf]; omega⟩
end Go.Proofs.Ytfhifnkekegkkaa
