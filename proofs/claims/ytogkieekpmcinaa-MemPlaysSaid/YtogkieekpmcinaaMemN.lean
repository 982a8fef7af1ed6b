/- Deeds: at places that there are, or nearly. -/
import Derived.Test.YtogkieekpmcinaaMemM
namespace Go.Proofs.Ytogkieekpmcinaa
open Go.RowKit

def placeV (n size : Int) : Int := if bits .and .i64 n 64 = 0 then n % 64 else size - n % 32
def aimD (d : DeedL) (size : Int) : DeedL := if d.near = true then { d with at' := placeV d.at' size, p := placeV d.p size, n := d.n % 64 } else d
theorem placeV_in (n size : Int) (h0 : 0 ≤ size) (h1 : size ≤ 1048576) : in64 (placeV n size) := by
  unfold in64 placeV
  split <;> omega
theorem aimD_ok {d : DeedL} (h : d.ok) (size : Int) (h0 : 0 ≤ size) (h1 : size ≤ 1048576) : (aimD d size).ok := by
  unfold aimD
  split
  · exact ⟨placeV_in _ _ h0 h1, placeV_in _ _ h0 h1⟩
  · exact h
theorem and_63' (n : Int) : bits .and .i64 n 63 = n % 64 := i64_mask n 63 6 (by decide) (by decide)
theorem and_31' (n : Int) : bits .and .i64 n 31 = n % 32 := i64_mask n 31 5 (by decide) (by decide)
set_option maxRecDepth 100000 in
theorem place_any (n size : Int) (h0 : 0 ≤ size) (h1 : size ≤ 1048576) (w : World) :
    Calls Try.prog 38 #[.int .i64 n, .int .i64 size] w fun e w' => e = .returned (.int .i64 (placeV n size)) ∧ w = w' := by
  have e1 := and_63' n
  have e2 := and_31' n
  unfold placeV
  by_cases h : bits .and .i64 n 64 = 0
  · rw [if_pos h]
    go_enter Try.func38, Try.ntmps38
    go_wp2_with fail
    go_ret
    exact ⟨rfl, rfl⟩
  · rw [if_neg h]
    have h' : (bits .and .i64 n 64 == 0) = false := by simpa using h
    go_enter Try.func38, Try.ntmps38
    go_wp2_with fail
    go_ret
    exact ⟨rfl, rfl⟩
set_option maxRecDepth 100000 in
set_option maxHeartbeats 1000000 in
theorem aimed_any (d : DeedL) (size : Int) (h0 : 0 ≤ size) (h1 : size ≤ 1048576) (w : World) :
    Calls Try.prog 15 #[d.val, .int .i64 size] w fun e w' => e = .returned (aimD d size).val ∧ Below w.heap.size w w' := by
  obtain ⟨k, o, at', p, v, nn, s, near⟩ := d
  unfold aimD
  have HP := Lib.hid fun n => place_any n size h0 h1
  have e1 := and_63' nn
  have HB : ∀ cs cs' : Array Value, Hid (Below w.heap.size w ((w.alloc (.cells cs 37)).alloc (.cells cs' 37))) := fun cs cs' => Lib.hid (((Below.refl _ _).alloc (Nat.le_refl _) _).alloc (le_alloc (Nat.le_refl _)) _)
  clear h0 h1
  cases near
  · rw [if_neg (show ¬ (false = true) by decide)]
    unfold DeedL.val
    dsimp only
    go_enter Try.func15, Try.ntmps15
    go_wp2_with fail
    refine bodyPost_ret (v := .agg #[.int .i64 k, .int .i64 o, .int .i64 at', .int .i64 p, .int .i64 v, .int .i64 nn, .string s, .bool false]) (by simp [results, Try.results15, go_sem]) rfl ⟨rfl, (HB _ _).out⟩
  · rw [if_pos rfl]
    unfold DeedL.val
    dsimp only
    go_enter Try.func15, Try.ntmps15
    go_wp2_with (go_at_call 38; refine (HP.out _ _).mono ?_; rintro e w2 ⟨rfl, rfl⟩)
    refine bodyPost_ret (v := .agg #[.int .i64 k, .int .i64 o, .int .i64 (placeV at' size), .int .i64 (placeV p size), .int .i64 v, .int .i64 (nn % 64), .string s, .bool true]) (by simp [results, Try.results15, go_sem]) rfl ⟨rfl, (HB _ _).out⟩
end Go.Proofs.Ytogkieekpmcinaa
