/- The walk of the statement on what is laid and read. -/
import Derived.Test.YtgacnelpdhmeiaaInsL2
import Derived.Test.YtgacnelpdhmeiaaInsS
namespace Go.Proofs.Ytgacnelpdhmeiaa
open Go.RowKit Go.Deep
open Leb (byt byt_lt byt_get)

theorem cP_of {ls : List Ins} (hok : okL 0 ls = true) (hn : sizL ls ≤ 8192) : (cP 0 0 ls).2 = true := by
  unfold cP
  rw [if_pos ⟨hok, by omega⟩]
/-- What reads, and is behind. -/
theorem Take_yes {s : ByteArray} (hs : s.size ≤ 1000000000) {ls : List Ins} {r : ByteArray} (h : takeT s = .ok (ls, r)) (w : World) :
    Calls Try.prog 20 #[.string s] w fun e w' => ∃ x cap, e = .returned (.tuple #[.slice x ls.length cap, .string r, .int .i64 0]) ∧ Below w.heap.size w w' ∧ InsIn w' x ls.length cap ls := by
  refine (Take_any s hs w).mono ?_
  rintro e w' ⟨x0, len, cap, r', f', rfl, hb, hn, hq⟩
  rw [h] at hq
  obtain ⟨h1, h2, h3⟩ := hq
  replace h3 : OwnP (w.heap.size ≤ ·) w' x0 len cap ls := h3
  have hl := h3.eq
  subst hl
  rw [h1, h2]
  exact ⟨x0, cap, rfl, hb, h3.insIn⟩
set_option maxRecDepth 100000 in
set_option maxHeartbeats 2000000 in
theorem InstrBack_walk (a : Option Addr) (len cap : Nat) (ls : List Ins) (more : ByteArray) (hs : more.size ≤ maxLen) (w : World) (hin : InsIn w a len cap ls) (hwf : wfL ls) :
    Calls Try.prog 6 #[.slice a len cap, .string more] w fun e w' => e = .returned (.bool true) ∧ Below w.heap.size w w' := by
  have HA := Lib.hid awake_any
  have HIN := Lib.hid hin
  have hb := Below.refl w.heap.size w
  unfold maxLen at hs
  by_cases hm : more.size ≤ 1000
  case neg =>
    have hm2 : (1000 : Int) < (more.size : Int) := by omega
    clear hin hwf hm
    go_enter Try.func6, Try.ntmps6
    go_wp2_with (go_at_call 15; refine (HA.out _).mono ?_; rintro e w1 ⟨rfl, k1⟩; replace hb := hb.trans (k1.mono hb.size); clear k1)
    go_ret
    exact ⟨rfl, hb⟩
  have hm2 : ¬ (1000 : Int) < (more.size : Int) := by omega
  cases hc : (cP 0 0 ls).2 with
  | false =>
    have HP := Lib.hid (Put_no hin hwf hc)
    clear hin hwf hc hm
    go_enter Try.func6, Try.ntmps6
    go_wp2_with (first
      | (go_at_call 16; refine HP.out.mono ?_; rintro e w1 ⟨rfl, k1⟩; replace hb := hb.trans (k1.mono hb.size); clear k1)
      | (go_at_call 15; refine (HA.out _).mono ?_; rintro e w1 ⟨rfl, k1⟩; replace hb := hb.trans (k1.mono hb.size); clear k1))
    go_ret
    exact ⟨rfl, hb⟩
  | true =>
    obtain ⟨hok, hn⟩ := cP_yes hc
    have hlen := putL_len 0 ls hok
    have HP := Lib.hid (Put_yes hin hwf hc)
    have HOK := Lib.hid hok
    obtain ⟨bs, hbs⟩ : ∃ bs, bs = putL ls ++ [11] := ⟨_, rfl⟩
    have hbl : bs.length ≤ 100000000 := by rw [hbs, List.length_append, List.length_singleton]; omega
    have hns := strOfNums_size
    have HT := Lib.hid (Take_yes (s := strOfNums bs ++ more) (r := more) (ls := ls) (by rw [size_nums]; omega) (by rw [hbs]; exact take_laid hok (by omega) hwf more))
    rw [← hbs] at HP
    have b2 : ¬ 9223372036854775807 < bs.length + more.size := by omega
    have hle := hin.eq
    clear hin hwf hc hok hn hlen hbs hm
    subst hle
    go_enter Try.func6, Try.ntmps6
    go_wp2_with (first
      | (go_at_call 16; refine HP.out.mono ?_; rintro e w1 ⟨rfl, k1⟩; replace hb := hb.trans (k1.mono hb.size); clear k1)
      | (go_at_call 20; refine (HT.out _).mono ?_; rintro e w1 ⟨x2, cap2, rfl, k1, hin2⟩; replace hb := hb.trans (k1.mono hb.size); have HSM := Lib.hid (insSame_any HOK.out (HIN.out.below hb) hin2); clear k1 hin2)
      | (go_at_call 22; refine HSM.out.mono ?_; rintro e w1 ⟨rfl, k1⟩; replace hb := hb.trans (k1.mono hb.size); clear k1)
      | (go_at_call 15; refine (HA.out _).mono ?_; rintro e w1 ⟨rfl, k1⟩; replace hb := hb.trans (k1.mono hb.size); clear k1))
    all_goals
      go_ret
      exact ⟨rfl, hb⟩
end Go.Proofs.Ytgacnelpdhmeiaa
