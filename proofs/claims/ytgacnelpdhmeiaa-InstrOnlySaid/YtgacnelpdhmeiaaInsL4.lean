/- The walk of the statement on what is read. -/
import Derived.Test.YtgacnelpdhmeiaaInsL3
import Derived.Test.YtgacnelpdhmeiaaInsOn
namespace Go.Proofs.Ytgacnelpdhmeiaa
open Go.RowKit Go.Deep
open Leb (byt byt_lt byt_get)

theorem Take_err {s : ByteArray} (hs : s.size ≤ 1000000000) {f : Int} (h : takeT s = .error f) (w : World) :
    Calls Try.prog 20 #[.string s] w fun e w' => e = .returned (.tuple #[.slice none 0 0, .string ⟨#[]⟩, .int .i64 f]) ∧ f ≠ 0 ∧ Below w.heap.size w w' := by
  refine (Take_any s hs w).mono ?_
  rintro e w' ⟨x0, len, cap, r, f', rfl, hb, hn, hq⟩
  rw [h] at hq
  obtain ⟨h1, h2, h3⟩ := hq
  obtain ⟨rfl, rfl, rfl⟩ := hn (by rw [h1]; exact h2)
  rw [h1, h3]
  exact ⟨rfl, h2, hb⟩
theorem Put_of {ls : List Ins} (hok : okL 0 ls = true) (hn : sizL ls ≤ 8192) (hwf : wfL ls) (x : Option Addr) (len cap : Nat) (w : World) (h : InsIn w x len cap ls) :
    Calls Try.prog 16 #[.slice x len cap] w fun e w' => e = .returned (.tuple #[.string (strOfNums (putL ls ++ [11])), .int .i64 0]) ∧ Below w.heap.size w w' := Put_yes h hwf (cP_of hok hn)
/-- The statement's cases: s0 as it came, s as far as it is looked at. -/
structure Trim (s0 s : ByteArray) : Prop where
  size : s.size ≤ 20000
  le : s.size ≤ s0.size
theorem trim_big {s0 : ByteArray} : Trim s0 (s0.extract 0 20000) := ⟨by rw [ByteArray.size_extract]; omega, by rw [ByteArray.size_extract]; omega⟩
set_option maxRecDepth 100000 in
set_option maxHeartbeats 4000000 in
theorem InstrOnly_big (s0 s : ByteArray) (hs0 : s0.size ≤ 9223372036854775807) (htr : s.size ≤ 20000) (hbig : 20000 < s0.size) (hx : s0.extract 0 20000 = s) (w : World) :
    Calls Try.prog 7 #[.string s0] w fun e w' => e = .returned (.bool true) ∧ Below w.heap.size w w' := by
  have HA := Lib.hid awake_any
  have hb := Below.refl w.heap.size w
  have g1 : (20000 : Int) < (s0.size : Int) := by omega
  have g2 : (20000 : Int) ≤ (s0.size : Int) := by omega
  cases ht : takeT s with
  | error f =>
    have HT := Lib.hid (Take_err (s := s) (by omega) ht)
    clear ht hbig
    go_enter Try.func7, Try.ntmps7
    go_wp2_with (first
      | (go_at_call 20; refine (HT.out _).mono ?_; rintro e w1 ⟨rfl, hf, k1⟩; replace hb := hb.trans (k1.mono hb.size); have hf2 := eq_no hf; have hf3 : (f != 0) = true := (by simpa using hf); clear k1 hf HT)
      | (go_at_call 15; refine (HA.out _).mono ?_; rintro e w1 ⟨rfl, k1⟩; replace hb := hb.trans (k1.mono hb.size); clear k1))
    go_ret
    exact ⟨rfl, hb⟩
  | ok q =>
    obtain ⟨ls, r⟩ := q
    obtain ⟨hok, hwf, hn, hlen⟩ := takeT_only ht
    have HT := Lib.hid (Take_yes (s := s) (by omega) ht)
    have hpl := putL_len 0 ls hok
    have HPU := Lib.hid (Put_of hok hn hwf)
    have HTL : takeT (strOfNums (putL ls ++ [11]) ++ ⟨#[]⟩) = .ok (ls, ⟨#[]⟩) := take_laid hok hn hwf ⟨#[]⟩
    rw [show strOfNums (putL ls ++ [11]) ++ (⟨#[]⟩ : ByteArray) = strOfNums (putL ls ++ [11]) from ByteArray.append_empty] at HTL
    obtain ⟨bs, hbs⟩ : ∃ bs, bs = putL ls ++ [11] := ⟨_, rfl⟩
    rw [← hbs] at HPU HTL hlen
    have hbl : bs.length ≤ 100000000 := by rw [hbs, List.length_append, List.length_singleton]; omega
    have hns := strOfNums_size
    have HT2 := Lib.hid (Take_yes (s := strOfNums bs) (by rw [hns]; omega) HTL)
    have HOK := Lib.hid hok
    have hl1 : (bs.length : Int) ≤ (s.size : Int) - (r.size : Int) := by omega
    have wl : IntKind.i64.wrap ((s.size : Int) - (r.size : Int)) = (s.size : Int) - (r.size : Int) := by rw [IntKind.wrap_i64]; omega
    clear ht hok hwf hn hlen hpl HTL hbs hbig
    go_enter Try.func7, Try.ntmps7
    go_wp2_with (first
      | (go_at_call 20; refine (HT.out _).mono ?_; rintro e w1 ⟨x1, cap1, rfl, k1, hin1⟩; replace hb := hb.trans (k1.mono hb.size); have HIN := Lib.hid hin1; have HP := Lib.hid (HPU.out _ _ _ _ hin1); clear k1 HT hin1)
      | (go_at_call 16; refine HP.out.mono ?_; rintro e w2 ⟨rfl, k2⟩; replace hb := hb.trans (k2.mono hb.size); have HIN2 := Lib.hid (HIN.out.below k2); clear k2)
      | (go_at_call 20; refine (HT2.out _).mono ?_; rintro e w3 ⟨x3, cap3, rfl, k3, hin3⟩; replace hb := hb.trans (k3.mono hb.size); have HSM := Lib.hid (insSame_any HOK.out (HIN2.out.below k3) hin3); clear k3 hin3)
      | (go_at_call 22; refine HSM.out.mono ?_; rintro e w4 ⟨rfl, k4⟩; replace hb := hb.trans (k4.mono hb.size); clear k4)
      | (go_at_call 15; refine (HA.out _).mono ?_; rintro e w1 ⟨rfl, k1⟩; replace hb := hb.trans (k1.mono hb.size); clear k1))
    go_ret
    exact ⟨rfl, hb⟩
set_option maxRecDepth 100000 in
set_option maxHeartbeats 4000000 in
theorem InstrOnly_small (s : ByteArray) (hbig : s.size ≤ 20000) (w : World) :
    Calls Try.prog 7 #[.string s] w fun e w' => e = .returned (.bool true) ∧ Below w.heap.size w w' := by
  have HA := Lib.hid awake_any
  have hb := Below.refl w.heap.size w
  have g1 : ¬ (20000 : Int) < (s.size : Int) := by omega
  cases ht : takeT s with
  | error f =>
    have HT := Lib.hid (Take_err (s := s) (by omega) ht)
    clear ht hbig
    go_enter Try.func7, Try.ntmps7
    go_wp2_with (first
      | (go_at_call 20; refine (HT.out _).mono ?_; rintro e w1 ⟨rfl, hf, k1⟩; replace hb := hb.trans (k1.mono hb.size); have hf2 := eq_no hf; have hf3 : (f != 0) = true := (by simpa using hf); clear k1 hf HT)
      | (go_at_call 15; refine (HA.out _).mono ?_; rintro e w1 ⟨rfl, k1⟩; replace hb := hb.trans (k1.mono hb.size); clear k1))
    go_ret
    exact ⟨rfl, hb⟩
  | ok q =>
    obtain ⟨ls, r⟩ := q
    obtain ⟨hok, hwf, hn, hlen⟩ := takeT_only ht
    have HT := Lib.hid (Take_yes (s := s) (by omega) ht)
    have hpl := putL_len 0 ls hok
    have HPU := Lib.hid (Put_of hok hn hwf)
    have HTL : takeT (strOfNums (putL ls ++ [11]) ++ ⟨#[]⟩) = .ok (ls, ⟨#[]⟩) := take_laid hok hn hwf ⟨#[]⟩
    rw [show strOfNums (putL ls ++ [11]) ++ (⟨#[]⟩ : ByteArray) = strOfNums (putL ls ++ [11]) from ByteArray.append_empty] at HTL
    obtain ⟨bs, hbs⟩ : ∃ bs, bs = putL ls ++ [11] := ⟨_, rfl⟩
    rw [← hbs] at HPU HTL hlen
    have hbl : bs.length ≤ 100000000 := by rw [hbs, List.length_append, List.length_singleton]; omega
    have hns := strOfNums_size
    have HT2 := Lib.hid (Take_yes (s := strOfNums bs) (by rw [hns]; omega) HTL)
    have HOK := Lib.hid hok
    have hl1 : (bs.length : Int) ≤ (s.size : Int) - (r.size : Int) := by omega
    have wl : IntKind.i64.wrap ((s.size : Int) - (r.size : Int)) = (s.size : Int) - (r.size : Int) := by rw [IntKind.wrap_i64]; omega
    clear ht hok hwf hn hlen hpl HTL hbs hbig
    go_enter Try.func7, Try.ntmps7
    go_wp2_with (first
      | (go_at_call 20; refine (HT.out _).mono ?_; rintro e w1 ⟨x1, cap1, rfl, k1, hin1⟩; replace hb := hb.trans (k1.mono hb.size); have HIN := Lib.hid hin1; have HP := Lib.hid (HPU.out _ _ _ _ hin1); clear k1 HT hin1)
      | (go_at_call 16; refine HP.out.mono ?_; rintro e w2 ⟨rfl, k2⟩; replace hb := hb.trans (k2.mono hb.size); have HIN2 := Lib.hid (HIN.out.below k2); clear k2)
      | (go_at_call 20; refine (HT2.out _).mono ?_; rintro e w3 ⟨x3, cap3, rfl, k3, hin3⟩; replace hb := hb.trans (k3.mono hb.size); have HSM := Lib.hid (insSame_any HOK.out (HIN2.out.below k3) hin3); clear k3 hin3)
      | (go_at_call 22; refine HSM.out.mono ?_; rintro e w4 ⟨rfl, k4⟩; replace hb := hb.trans (k4.mono hb.size); clear k4)
      | (go_at_call 15; refine (HA.out _).mono ?_; rintro e w1 ⟨rfl, k1⟩; replace hb := hb.trans (k1.mono hb.size); clear k1))
    go_ret
    exact ⟨rfl, hb⟩
theorem InstrOnly_walk (s0 : ByteArray) (hs0 : s0.size ≤ maxLen) (w : World) :
    Calls Try.prog 7 #[.string s0] w fun e w' => e = .returned (.bool true) ∧ Below w.heap.size w w' := by
  by_cases hbig : 20000 < s0.size
  · exact InstrOnly_big s0 _ (by unfold maxLen at hs0; omega) trim_big.size hbig rfl w
  · exact InstrOnly_small s0 (by omega) w
end Go.Proofs.Ytgacnelpdhmeiaa
