/- The reference's reading of a block's type. -/
import Derived.Test.YtfhifnkekegkkaaInsH
namespace Go.Proofs.Ytfhifnkekegkkaa
open Go.RowKit
open Leb (byt byt_lt byt_get)

/-- What reading a block's type tells. -/
def blockTup (s : ByteArray) : Value :=
  if 0 < s.size ∧ 64 ≤ byt s 0 ∧ byt s 0 < 128 then (if byt s 0 = 64 then .tuple #[.int .i64 (-64), .string (s.extract 1 s.size), .int .i64 0] else .tuple #[.int .i64 ((byt s 0 : Int) - 128), .string (s.extract 1 s.size), .int .i64 (typeV (byt s 0)).2])
  else .tuple #[.int .i64 (sN s 5 4294967296), .string (sR s 5 4294967296), .int .i64 (if sE s 5 4294967296 = 0 ∧ sN s 5 4294967296 < 0 then 2 else sE s 5 4294967296)]
set_option maxRecDepth 100000 in
set_option maxHeartbeats 1000000 in
theorem refBlock_any (s : ByteArray) (hs : s.size ≤ maxLen) (w : World) :
    Calls Try.prog 79 #[.string s] w fun e w' => e = .returned (blockTup s) ∧ Below w.heap.size w w' := by
  have HS := Lib.hid (refTakeS_any s 33 5 4294967296 (.inr (.inl ⟨rfl, rfl, rfl⟩)) hs)
  have HT := Lib.hid (refType_any (byt s 0 : Nat))
  unfold maxLen at hs
  unfold blockTup
  unfold sTup at HS
  have e5 := byt_lt s 0
  by_cases h0 : 0 < s.size ∧ 64 ≤ byt s 0 ∧ byt s 0 < 128
  · rw [if_pos h0]
    obtain ⟨hpos, g1, g2⟩ := h0
    have e3 := byt_get s 0 hpos
    have b1 : (1 : Int) ≤ s.size := by omega
    clear HS
    revert HT
    generalize (typeV (byt s 0 : Nat)).1 = t
    generalize (typeV (byt s 0 : Nat)).2 = f
    intro HT
    by_cases h64 : byt s 0 = 64
    · rw [if_pos h64]
      have k1 : ((byt s 0 : Nat) : Int) = 64 := by omega
      go_enter Try.func79, Try.ntmps79
      go_wp2_with fail
      go_quiet (fail)
      go_wp2
      go_ret3
      exact ⟨rfl, below_drewN (Below.refl _ _) _⟩
    · rw [if_neg h64]
      have k1 : (((byt s 0 : Nat) : Int) == 64) = false := eq_no (by omega)
      have k2 : IntKind.i64.wrap (((byt s 0 : Nat) : Int) - 128) = ((byt s 0 : Nat) : Int) - 128 := by rw [IntKind.wrap_i64]; omega
      go_enter Try.func79, Try.ntmps79
      go_wp2_with (go_at_call 30; refine (HT.out _).mono ?_; rintro e w1 ⟨rfl, hb⟩)
      go_quiet (fail)
      go_wp2
      go_ret3
      exact ⟨rfl, below_drewN hb _⟩
  · rw [if_neg h0]
    have key : s.size = 0 ∨ (0 < s.size ∧ byt s 0 < 64) ∨ (0 < s.size ∧ 64 ≤ byt s 0 ∧ 128 ≤ byt s 0) := by omega
    revert HS
    generalize sN s 5 4294967296 = n
    generalize sR s 5 4294967296 = r
    generalize sE s 5 4294967296 = f
    intro HS
    clear h0 HT
    have kf : (f = 0 ∧ n < 0) ∨ (f = 0 ∧ ¬ n < 0) ∨ ¬ f = 0 := by omega
    have e3 : ∀ h : 0 < s.size, s[0].toNat = byt s 0 := byt_get s 0
    rcases key with k | ⟨k, k1⟩ | ⟨k, k1, k2⟩
    all_goals
      try have e4 := e3 k
      rcases kf with ⟨rfl, q⟩ | ⟨rfl, q⟩ | q
      · rw [if_pos (And.intro rfl q)]
        clear e3
        go_enter Try.func79, Try.ntmps79
        go_wp2_with (go_at_call 81; refine (HS.out _).mono ?_; rintro e w1 ⟨rfl, hb⟩)
        go_ret3
        exact ⟨rfl, hb⟩
      · rw [if_neg (fun h : (0 : Int) = 0 ∧ n < 0 => q h.2)]
        clear e3
        go_enter Try.func79, Try.ntmps79
        go_wp2_with (go_at_call 81; refine (HS.out _).mono ?_; rintro e w1 ⟨rfl, hb⟩)
        go_ret3
        exact ⟨rfl, hb⟩
      · rw [if_neg (fun h : f = 0 ∧ n < 0 => q h.1)]
        have q2 := eq_no q
        clear e3
        go_enter Try.func79, Try.ntmps79
        go_wp2_with (go_at_call 81; refine (HS.out _).mono ?_; rintro e w1 ⟨rfl, hb⟩)
        go_ret3
        exact ⟨rfl, hb⟩
end Go.Proofs.Ytfhifnkekegkkaa
