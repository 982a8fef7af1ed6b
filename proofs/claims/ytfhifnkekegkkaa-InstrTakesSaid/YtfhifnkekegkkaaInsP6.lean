/- The project's laying of one instruction's numbers. -/
import Derived.Test.YtfhifnkekegkkaaInsP5
import Derived.Test.YtfhifnkekegkkaaInsLP
import Derived.Lib.AppendStr
import Derived.Deep.RegionHeld3
namespace Go.Proofs.Ytfhifnkekegkkaa
open Go.RowKit

namespace Leb
theorem putF_byte (f : Nat) : ∀ (n : Int), 0 ≤ n → ∀ z ∈ putF f n, 0 ≤ z ∧ z < 256 := by
  induction f with
  | zero => intro n _ z hz; simp [putF] at hz
  | succ f ih =>
    intro n h z hz
    by_cases h1 : n < 128
    · rw [putF_last f n h1] at hz
      simp at hz
      omega
    · rw [putF_next f n (by omega)] at hz
      rcases List.mem_cons.1 hz with h2 | h2
      · omega
      · exact ih _ (by omega) z h2
theorem putG_byte (f : Nat) : ∀ (n : Int), ∀ z ∈ putG f n, 0 ≤ z ∧ z < 256 := by
  induction f with
  | zero => intro n z hz; simp [putG] at hz
  | succ f ih =>
    intro n z hz
    by_cases h1 : -64 ≤ n ∧ n < 64
    · rw [putG_last f n h1] at hz
      simp at hz
      omega
    · rw [putG_next f n h1] at hz
      rcases List.mem_cons.1 hz with h2 | h2
      · omega
      · exact ih _ z h2
theorem putU_byte (n : Int) : ∀ z ∈ putU n, 0 ≤ z ∧ z < 256 := by
  unfold putU
  split
  · simp
  · exact putF_byte 10 n (by omega)
theorem putS_byte (n : Int) : ∀ z ∈ putS n, 0 ≤ z ∧ z < 256 := putG_byte 10 n
theorem putS_length (n : Int) : (putS n).length ≤ 10 := putG_length 10 n
end Leb
open Leb (putU putS)
/-- An opcode's bytes. -/
def opB (op : Int) : List Int := if op < 64512 then [op % 256] else 252 :: putU (op - 64512)
/-- Numbers' bytes: how many there are, and they. -/
def allB (n : List Int) : List Int := putU n.length ++ n.flatMap putU
theorem rowL_all (n : List Int) : rowL n.length n n.length = allB n := by unfold rowL allB; rw [List.take_length]
/-- An alignment's bytes, and the memory's. -/
def placeB (b m : Int) : List Int := if m = 0 then putU b else putU (b + 64) ++ putU m
/-- The bytes of an instruction's numbers. -/
def fldB (sh a b m : Int) (n : List Int) : List Int :=
  if sh = 2 ∨ sh = 10 then putS a else if sh = 3 then putU a else if sh = 4 then allB n ++ putU a else if sh = 5 then putU a ++ putU m else if sh = 6 then 1 :: [a % 256]
  else if sh = 7 then placeB b m ++ putU a else if sh = 8 then putU m else if sh = 9 then putU m ++ putU a else if sh = 11 then [112] else []
theorem allB_length (n : List Int) : (allB n).length ≤ 10 + 10 * n.length := by
  unfold allB
  have h1 := Leb.putU_length n.length
  have h2 := flat_length n
  rw [List.length_append]
  omega
theorem opB_length (op : Int) : (opB op).length ≤ 11 := by
  unfold opB
  split
  · simp
  · have := Leb.putU_length (op - 64512)
    rw [List.length_cons]
    omega
theorem placeB_length (b m : Int) : (placeB b m).length ≤ 20 := by
  unfold placeB
  have h1 := Leb.putU_length b
  have h2 := Leb.putU_length (b + 64)
  have h3 := Leb.putU_length m
  split
  · omega
  · rw [List.length_append]; omega
theorem fldB_length (sh a b m : Int) (n : List Int) : (fldB sh a b m n).length ≤ 30 + 10 * n.length := by
  have h1 := Leb.putU_length a
  have h2 := Leb.putU_length m
  have h3 := Leb.putS_length a
  have h4 := allB_length n
  have h5 := placeB_length b m
  unfold fldB
  split
  · omega
  split
  · omega
  split
  · rw [List.length_append]; omega
  split
  · rw [List.length_append]; omega
  split
  · simp only [List.length_cons, List.length_nil]; omega
  split
  · rw [List.length_append]; omega
  split
  · omega
  split
  · rw [List.length_append]; omega
  split
  · simp only [List.length_cons, List.length_nil]; omega
  · simp only [List.length_nil]; omega
theorem app_byte {x y : List Int} (hx : ∀ z ∈ x, 0 ≤ z ∧ z < 256) (hy : ∀ z ∈ y, 0 ≤ z ∧ z < 256) : ∀ z ∈ x ++ y, 0 ≤ z ∧ z < 256 := by
  intro z hz
  rcases List.mem_append.1 hz with h | h
  · exact hx z h
  · exact hy z h
theorem one_byte (c : Int) : ∀ z ∈ [c % 256], 0 ≤ z ∧ z < 256 := by
  intro z hz
  simp at hz
  omega
theorem opB_byte (op : Int) : ∀ z ∈ opB op, 0 ≤ z ∧ z < 256 := by
  unfold opB
  split
  · exact one_byte op
  · exact app_byte (x := [252]) (by simp) (Leb.putU_byte _)
theorem allB_byte (n : List Int) : ∀ z ∈ allB n, 0 ≤ z ∧ z < 256 := by
  unfold allB
  refine app_byte (Leb.putU_byte _) fun z hz => ?_
  obtain ⟨x, _, hx⟩ := List.mem_flatMap.1 hz
  exact Leb.putU_byte x z hx
theorem placeB_byte (b m : Int) : ∀ z ∈ placeB b m, 0 ≤ z ∧ z < 256 := by
  unfold placeB
  split
  · exact Leb.putU_byte _
  · exact app_byte (Leb.putU_byte _) (Leb.putU_byte _)
theorem fldB_byte (sh a b m : Int) (n : List Int) : ∀ z ∈ fldB sh a b m n, 0 ≤ z ∧ z < 256 := by
  unfold fldB
  split
  · exact Leb.putS_byte _
  split
  · exact Leb.putU_byte _
  split
  · exact app_byte (allB_byte _) (Leb.putU_byte _)
  split
  · exact app_byte (Leb.putU_byte _) (Leb.putU_byte _)
  split
  · exact app_byte (x := [1]) (by simp) (one_byte a)
  split
  · exact app_byte (placeB_byte _ _) (Leb.putU_byte _)
  split
  · exact Leb.putU_byte _
  split
  · exact app_byte (Leb.putU_byte _) (Leb.putU_byte _)
  split
  · simp
  · simp
theorem insOne_any (n : Int) (w : World) :
    Calls Try.prog 41 #[.int .i64 n] w fun e w' => e = .returned (.string (strOfNums [n % 256])) ∧ Below w.heap.size w w' := by
  have hu : IntKind.u8.wrap n = n % 256 := by
    simp [IntKind.wrap, IntKind.signed, IntKind.bits]
  have hcv := one_conv (n % 256) w
  have HB := Lib.hid ((Below.refl w.heap.size w).alloc (Nat.le_refl _) (.cells #[.int .u8 (n % 256)] 5))
  go_enter Try.func41, Try.ntmps41
  go_wp2_with fail
  go_ret
  exact ⟨rfl, HB.out⟩
set_option maxRecDepth 100000 in
theorem opcode_any (op : Int) (w : World) (h : op ≤ 9223372036854775807) :
    Calls Try.prog 23 #[.int .i64 op] w fun e w' => e = .returned (.string (strOfNums (opB op))) ∧ Below w.heap.size w w' := by
  have HO := Lib.hid insOne_any
  unfold opB
  by_cases h1 : op < 64512
  · rw [if_pos h1]
    go_enter Try.func23, Try.ntmps23
    go_wp2_with (go_at_call 41; refine (HO.out _ _).mono ?_; rintro e w1 ⟨rfl, hb⟩)
    go_ret
    exact ⟨rfl, hb⟩
  · rw [if_neg h1]
    have HP := Lib.hid (fun w => PutU_any (op - 64512) w (by omega))
    have e1 : IntKind.i64.wrap (op - 64512) = op - 64512 := by rw [IntKind.wrap_i64]; omega
    have hns := strOfNums_size
    have hl := Leb.putU_length (op - 64512)
    have HC := Lib.hid (strOfNums_cons 252 (putU (op - 64512)))
    go_enter Try.func23, Try.ntmps23
    go_wp2_with (first
      | (go_at_call 41; refine (HO.out _ _).mono ?_; rintro e w1 ⟨rfl, hb⟩)
      | (go_at_call 42; refine (HP.out _).mono ?_; rintro e w2 ⟨rfl, hb2⟩))
    go_ret
    exact ⟨by rw [← HC.out]; rfl, hb.trans (hb2.mono hb.size)⟩
set_option maxRecDepth 100000 in
theorem place_any (op a b m : Int) (xn xl xe : Option Addr) (nl ll el nc lc ec : Nat) (w : World) (hb0 : 0 ≤ b) (hb : b ≤ 9223372036854775000) (hm : m ≤ 9223372036854775807) :
    Calls Try.prog 45 #[.agg #[.int .i64 op, .int .i64 a, .int .i64 b, .int .i64 m, .slice xn nl nc, .slice xl ll lc, .slice xe el ec]] w fun e w' => e = .returned (.string (strOfNums (placeB b m))) ∧ Below w.heap.size w w' := by
  have HB0 := Lib.hid ((Below.refl w.heap.size w).alloc (Nat.le_refl _) (.cells #[.int .i64 op, .int .i64 a, .int .i64 b, .int .i64 m, .slice xn nl nc, .slice xl ll lc, .slice xe el ec] 47))
  have D0 : Hid (InsAt (w.alloc (.cells #[.int .i64 op, .int .i64 a, .int .i64 b, .int .i64 m, .slice xn nl nc, .slice xl ll lc, .slice xe el ec] 47)) w.heap.size op a b m xn xl xe nl ll el nc lc ec) := Lib.hid ⟨World.cell?_alloc_mark w _ _ _ 0, World.cell?_alloc_mark w _ _ _ 1, World.cell?_alloc_mark w _ _ _ 2, World.cell?_alloc_mark w _ _ _ 3, World.cell?_alloc_mark w _ _ _ 4, World.cell?_alloc_mark w _ _ _ 5, World.cell?_alloc_mark w _ _ _ 6⟩
  obtain ⟨d0, d1, d2, d3, d4, d5, d6⟩ := D0.out
  unfold placeB
  by_cases h0 : m = 0
  · rw [if_pos h0]
    subst h0
    have HP := Lib.hid (fun w => PutU_any b w (by omega))
    go_enter Try.func45, Try.ntmps45
    go_wp2_with (go_at_call 42; refine (HP.out _).mono ?_; rintro e w2 ⟨rfl, hb2⟩)
    go_ret
    exact ⟨rfl, HB0.out.trans (hb2.mono (by simp))⟩
  · rw [if_neg h0]
    have h1 := eq_no h0
    have HP := Lib.hid (fun w => PutU_any (b + 64) w (by omega))
    have HM := Lib.hid (fun w => PutU_any m w hm)
    have e1 : IntKind.i64.wrap (b + 64) = b + 64 := by rw [IntKind.wrap_i64]; omega
    have hns := strOfNums_size
    have hl := Leb.putU_length (b + 64)
    have hl2 := Leb.putU_length m
    have HC := Lib.hid (strOfNums_app (putU (b + 64)) (putU m))
    have hno : ¬ 9223372036854775807 < (putU (b + 64)).length + (putU m).length := by omega
    have DS : Hid ((w.alloc (.cells #[.int .i64 op, .int .i64 a, .int .i64 b, .int .i64 m, .slice xn nl nc, .slice xl ll lc, .slice xe el ec] 47)).drew.cell? ⟨w.heap.size, 2, none⟩ = some (.int .i64 b) ∧ (w.alloc (.cells #[.int .i64 op, .int .i64 a, .int .i64 b, .int .i64 m, .slice xn nl nc, .slice xl ll lc, .slice xe el ec] 47)).drew.cell? ⟨w.heap.size, 3, none⟩ = some (.int .i64 m)) := Lib.hid ⟨d2, d3⟩
    have hb1 : Below w.heap.size w (w.alloc (.cells #[.int .i64 op, .int .i64 a, .int .i64 b, .int .i64 m, .slice xn nl nc, .slice xl ll lc, .slice xe el ec] 47)).drew := HB0.out.drew
    have hz1 := hb1.size
    clear h0
    go_enter Try.func45, Try.ntmps45
    go_wp2_with fail
    go_region_held3 (fun w' => w'.cell? ⟨w.heap.size, 2, none⟩ = some (.int .i64 b) ∧ w'.cell? ⟨w.heap.size, 3, none⟩ = some (.int .i64 m))
      (first | exact DS.out | exact DS1.out | exact DS2.out)
      (first
        | (go_at_call 42; refine (HP.out _).mono ?_; rintro e w2 ⟨rfl, hb2⟩; have hb3 := hb1.trans (hb2.mono hz1); clear HP
           have DS1 := Lib.hid (And.intro ((hb2.cell (World.block_lt_of_cell? _ _ DS.out.1)).trans DS.out.1) ((hb2.cell (World.block_lt_of_cell? _ _ DS.out.2)).trans DS.out.2)))
        | (go_at_call 42; refine (HM.out _).mono ?_; rintro e w3 ⟨rfl, hb4⟩; have hb5 := hb3.trans (hb4.mono hb3.size); clear HM
           have DS2 := Lib.hid (And.intro ((hb4.cell (World.block_lt_of_cell? _ _ DS1.out.1)).trans DS1.out.1) ((hb4.cell (World.block_lt_of_cell? _ _ DS1.out.2)).trans DS1.out.2))))
    all_goals
      go_wp2_with fail
      go_ret
      exact ⟨congrArg (fun s => Ending.returned (.string s)) HC.out, hb5⟩
end Go.Proofs.Ytfhifnkekegkkaa
