/- The walk of the comparison of two rows that are the same. -/
import Derived.Test.YtikgkjkgdlnekaaGreatDoorKitI
namespace Go.Proofs.YtikgkjkgdlnekaaGreatDoor
open Go.RowKit

set_option maxHeartbeats 400000 in
set_option maxRecDepth 100000 in
theorem Same_view (a c : Option Addr) (n cap cap2 : Nat) (xs : List Int) (w : World) (hn : n ≤ 3000) (ha : View w a n xs) (hc : View w c n xs) :
    Calls Tryz.prog 10 #[.slice a n cap, .slice c n cap2] w fun e w' => e = .returned (.bool true) ∧ Below w.heap.size w w' := by
  have HA := Lib.hid ha
  have HC := Lib.hid hc
  have hne : ((n : Int) != (n : Int)) = false := by simp
  clear ha hc
  go_enter Tryz.func10, Tryz.ntmps10
  go_wp2_with fail
  go_loopw [5] (fun i wr => ∃ k : Nat, i = .int .i64 k ∧ k ≤ n ∧ Below w.heap.size w wr) (fun i _ => n - (intOf i).toNat)
  case atStart => exact ⟨0, rfl, by omega, Below.refl _ _⟩
  case round =>
    obtain ⟨k, rfl, hk, hb⟩ := hrel
    by_cases hlt : k < n
    · obtain ⟨b, off, rfl, hca⟩ := HA.out.resolve_left (by omega)
      obtain ⟨d, off2, rfl, hcc⟩ := HC.out.resolve_left (by omega)
      have h1 := hca k hlt
      have h2 := hcc k hlt
      have g1 := (hb.cell (p := ⟨b, off + k, none⟩) (World.block_lt_of_cell? w _ h1)).trans h1
      have g2 := (hb.cell (p := ⟨d, off2 + k, none⟩) (World.block_lt_of_cell? w _ h2)).trans h2
      clear hca hcc h1 h2
      revert g1 g2
      generalize xs.getD k 0 = z
      intro g1 g2
      go_wp2_with fail
      go_quiet (fail)
      go_wp2
      exact ⟨⟨k + 1, by go_num, by omega, below_drewN hb _⟩, by simp [intOf]; omega⟩
    · have hke : k = n := by omega
      subst hke
      go_wp2_with fail
      go_ret
      exact ⟨rfl, hb⟩
theorem Same_any {b1 b2 : Nat} {va vb : Value} {xs : List Int} {w : World} (ha : Ints b1 va xs w) (hc : Ints b2 vb xs w) (hn : xs.length ≤ 3000) :
    Calls Tryz.prog 10 #[va, vb] w fun e w' => e = .returned (.bool true) ∧ Below w.heap.size w w' := by
  obtain ⟨a, cap, rfl, h1⟩ := ha.view
  obtain ⟨c, cap2, rfl, h2⟩ := hc.view
  exact Same_view a c xs.length cap cap2 xs w hn h1 h2

end Go.Proofs.YtikgkjkgdlnekaaGreatDoor
