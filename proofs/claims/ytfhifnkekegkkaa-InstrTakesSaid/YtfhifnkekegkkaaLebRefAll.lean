/- The walk of the document's own TakeS at ten bytes, and all its answers. -/
import Derived.Test.YtfhifnkekegkkaaLebRefS
namespace Go.Proofs.Ytfhifnkekegkkaa
open Go.RowKit
open Leb (byt len7 lenF sum7 sg7)

set_option maxRecDepth 100000 in
set_option maxHeartbeats 1000000 in
theorem refTakeS_long (s : ByteArray) (hs : s.size ≤ maxLen) (hn : len7 s 10 = 10) (h9 : byt s 9 = 0 ∨ byt s 9 = 127) (w : World) :
    Calls Try.prog 81 #[.string s, .int .i64 64] w fun e w' => e = .returned (sTup s 10 9223372036854775808) ∧ Below w.heap.size w w' := by
  have ht : tenOk s 10 := fun _ => h9
  have hin := sg7_in s 10 (by decide) (by decide) ht
  rw [sTup_good (decide_eq_true (by rw [hn]; exact ⟨by decide, ht, by omega, by omega⟩)), hn]
  have hs' := hs
  unfold maxLen at hs'
  have hle := Leb.len7_le s 10
  rw [hn] at hle
  have hL := Lib.hid (length_any s 10 hs (by decide))
  rw [hn] at hL
  have hpi : 9 < s.size := by omega
  have ep := Leb.byt_get s 9 hpi
  have hstart := last_start s 9
  clear hn ht
  rcases h9 with h9 | h9
  · rw [h9] at ep hstart
    obtain ⟨_, HS⟩ := hstart.resolve_left (fun h => absurd h.1 (by decide))
    go_enter Try.func81, Try.ntmps81
    go_wp2_with (go_at_call 59; refine (hL.out _).mono ?_; rintro e w' ⟨rfl, rfl⟩)
    go_loop [9, 10] (fun v i => DownRel s 10 v i) (fun _ i => (intOf i + 1).toNat)
    case atStart => exact HS.out
    case round =>
      obtain ⟨k, V, j, rfl, rfl, hj, hk, hV⟩ := hrel
      cases k with
      | zero =>
        obtain ⟨rfl, rfl⟩ := down_zero hj hV
        clear hj hV hk
        go_wp2_with fail
        go_quiet (fail)
        go_wp2
        go_ret3
        exact ⟨rfl, below_drewN (Below.refl _ _) _⟩
      | succ m =>
        obtain rfl : j = (m : Int) := by omega
        have hb := down_in s m V _ hV hin
        have hst := Lib.hid (down_step s m V _ hV)
        have hmi : m < s.size := by omega
        have em := Leb.byt_get s m hmi
        have em2 := Leb.byt_lt s m
        have hb2 : -9223372036854775808 ≤ V * 128 ∧ V * 128 ≤ 9223372036854775807 := by omega
        clear hj hV
        go_wp2_with fail
        go_round
        case rel => exact ⟨m, _, _, rfl, rfl, rfl, by omega, hst.out⟩
        case measure => simp [intOf]
  · rw [h9] at ep hstart
    obtain ⟨_, HS⟩ := hstart.resolve_right (fun h => absurd h.1 (by decide))
    go_enter Try.func81, Try.ntmps81
    go_wp2_with (go_at_call 59; refine (hL.out _).mono ?_; rintro e w' ⟨rfl, rfl⟩)
    go_loop [9, 10] (fun v i => DownRel s 10 v i) (fun _ i => (intOf i + 1).toNat)
    case atStart => exact HS.out
    case round =>
      obtain ⟨k, V, j, rfl, rfl, hj, hk, hV⟩ := hrel
      cases k with
      | zero =>
        obtain ⟨rfl, rfl⟩ := down_zero hj hV
        clear hj hV hk
        go_wp2_with fail
        go_quiet (fail)
        go_wp2
        go_ret3
        exact ⟨rfl, below_drewN (Below.refl _ _) _⟩
      | succ m =>
        obtain rfl : j = (m : Int) := by omega
        have hb := down_in s m V _ hV hin
        have hst := Lib.hid (down_step s m V _ hV)
        have hmi : m < s.size := by omega
        have em := Leb.byt_get s m hmi
        have em2 := Leb.byt_lt s m
        have hb2 : -9223372036854775808 ≤ V * 128 ∧ V * 128 ≤ 9223372036854775807 := by omega
        clear hj hV
        go_wp2_with fail
        go_round
        case rel => exact ⟨m, _, _, rfl, rfl, rfl, by omega, hst.out⟩
        case measure => simp [intOf]

theorem refTakeS_any (s : ByteArray) (b : Int) (most : Nat) (half : Int) (hw : Bw b most half) (hs : s.size ≤ maxLen) (w : World) :
    Calls Try.prog 81 #[.string s, .int .i64 b] w fun e w' => e = .returned (sTup s most half) ∧ Below w.heap.size w w' := by
  by_cases h0 : len7 s most = 0
  · exact refTakeS_none s b most half hw hs h0 w
  · by_cases ht : tenOk s (len7 s most)
    · obtain ⟨n, hn⟩ : ∃ n, len7 s most = n + 1 := ⟨len7 s most - 1, by omega⟩
      have hle := Leb.len7_le s most
      rw [hn] at ht hle
      by_cases hr : -half ≤ sg7 s (n + 1) ∧ sg7 s (n + 1) < half
      · by_cases h9 : n < 9
        · exact refTakeS_short s b most half hw hs n hn h9 hr w
        · rcases hw with ⟨rfl, rfl, rfl⟩ | ⟨rfl, rfl, rfl⟩ | ⟨rfl, rfl, rfl⟩
          · omega
          · omega
          · obtain rfl : n = 9 := by omega
            exact refTakeS_long s hs hn (ht rfl) w
      · exact refTakeS_far s b most half hw hs n hn ht hr w
    · exact refTakeS_ten s b most half hw hs ht w
end Go.Proofs.Ytfhifnkekegkkaa
