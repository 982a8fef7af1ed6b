/- The walk of the statement on what is read, as the document says. -/
import Derived.Test.YtfhifnkekegkkaaInsR9
import Derived.Test.YtfhifnkekegkkaaInsOn
import Derived.Test.YtfhifnkekegkkaaInsS
import Derived.Test.YtfhifnkekegkkaaInsAw
namespace Go.Proofs.Ytfhifnkekegkkaa
open Go.RowKit Go.Deep

/-- What reads, and is behind. -/
theorem Take_yes6 {s : ByteArray} (hs : s.size ≤ 1000000000) {ls : List Ins} {r : ByteArray} (h : takeT s = .ok (ls, r)) (w : World) :
    Calls Try.prog 10 #[.string s] w fun e w' => ∃ x cap, e = .returned (.tuple #[.slice x ls.length cap, .string r, .int .i64 0]) ∧ Below w.heap.size w w' ∧ InsIn w' x ls.length cap ls := by
  refine (Take_any s hs w).mono ?_
  rintro e w' ⟨x0, len, cap, r', f', rfl, hb, hn, hq⟩
  rw [h] at hq
  obtain ⟨h1, h2, h3⟩ := hq
  replace h3 : OwnP (w.heap.size ≤ ·) w' x0 len cap ls := h3
  have hl := h3.eq
  subst hl
  rw [h1, h2]
  exact ⟨x0, cap, rfl, hb, h3.insIn⟩
theorem Take_err6 {s : ByteArray} (hs : s.size ≤ 1000000000) {f : Int} (h : takeT s = .error f) (w : World) :
    Calls Try.prog 10 #[.string s] w fun e w' => e = .returned (.tuple #[.slice none 0 0, .string ⟨#[]⟩, .int .i64 f]) ∧ f ≠ 0 ∧ Below w.heap.size w w' := by
  refine (Take_any s hs w).mono ?_
  rintro e w' ⟨x0, len, cap, r, f', rfl, hb, hn, hq⟩
  rw [h] at hq
  obtain ⟨h1, h2, h3⟩ := hq
  obtain ⟨rfl, rfl, rfl⟩ := hn (by rw [h1]; exact h2)
  rw [h1, h3]
  exact ⟨rfl, h2, hb⟩

set_option maxRecDepth 100000 in
set_option maxHeartbeats 4000000 in
theorem InstrTakes_big (s0 s : ByteArray) (hs0 : s0.size ≤ 9223372036854775807) (htr : s.size ≤ 20000) (hbig : 20000 < s0.size) (hx : s0.extract 0 20000 = s) (w : World) :
    Calls Try.prog 4 #[.string s0] w fun e w' => e = .returned (.bool true) ∧ Below w.heap.size w w' := by
  have g1 : (20000 : Int) < (s0.size : Int) := by omega
  have g2 : (20000 : Int) ≤ (s0.size : Int) := by omega
  have HA := Lib.hid awake_any
  have hb := Below.refl w.heap.size w
  cases ht : takeT s with
  | error f =>
    have HT := Lib.hid (Take_err6 (s := s) (by omega) ht)
    have HR := Lib.hid (Take5_err (s := s) ht (by omega))
    have HSM := Lib.hid (fun w => insSame_any (d := 0) (ls := []) (x := none) (y := none) (len := 0) (cap := 0) (cap2 := 0) (w := w) (by rw [okL]) ⟨rfl, Nat.le_refl _, by decide, by unfold LiesL; trivial⟩ ⟨rfl, Nat.le_refl _, by decide, by unfold LiesL; trivial⟩)
    clear ht hbig
    go_enter Try.func4, Try.ntmps4
    go_wp2_with (first
      | (go_at_call 10; refine (HT.out _).mono ?_; rintro e w1 ⟨rfl, hf, k1⟩; replace hb := hb.trans (k1.mono hb.size); clear k1 hf HT)
      | (go_at_call 11; refine (HR.out _).mono ?_; rintro e w1 ⟨rfl, hf, k1⟩; replace hb := hb.trans (k1.mono hb.size); clear k1 hf HR)
      | (go_at_call 12; refine (HSM.out _).mono ?_; rintro e w1 ⟨rfl, k1⟩; replace hb := hb.trans (k1.mono hb.size); clear k1)
      | (go_at_call 9; refine (HA.out _).mono ?_; rintro e w1 ⟨rfl, k1⟩; replace hb := hb.trans (k1.mono hb.size); clear k1))
    all_goals
      go_ret
      exact ⟨rfl, hb⟩
  | ok q =>
    obtain ⟨ls, r⟩ := q
    obtain ⟨hok, _⟩ := takeT_only ht
    have HOK := Lib.hid hok
    have HT := Lib.hid (Take_yes6 (s := s) (by omega) ht)
    have HR := Lib.hid (Take5_ok (s := s) ht (by omega))
    clear ht hok hbig
    go_enter Try.func4, Try.ntmps4
    go_wp2_with (first
      | (go_at_call 10; refine (HT.out _).mono ?_; rintro e w1 ⟨x1, cap1, rfl, k1, hin1⟩; replace hb := hb.trans (k1.mono hb.size); have HIN := Lib.hid hin1; clear k1 HT hin1)
      | (go_at_call 11; refine (HR.out _).mono ?_; rintro e w2 ⟨x2, l2, cap2, rfl, k2, ho⟩; replace hb := hb.trans (k2.mono hb.size); have hl2 := ho.eq; subst hl2; have HSM := Lib.hid (insSame_any HOK.out (HIN.out.below k2) ho.insIn); clear k2 HR ho)
      | (go_at_call 12; refine HSM.out.mono ?_; rintro e w3 ⟨rfl, k3⟩; replace hb := hb.trans (k3.mono hb.size); clear k3)
      | (go_at_call 9; refine (HA.out _).mono ?_; rintro e w1 ⟨rfl, k1⟩; replace hb := hb.trans (k1.mono hb.size); clear k1))
    all_goals
      go_ret
      exact ⟨rfl, hb⟩
set_option maxRecDepth 100000 in
set_option maxHeartbeats 4000000 in
theorem InstrTakes_small (s : ByteArray) (htr : s.size ≤ 20000) (w : World) :
    Calls Try.prog 4 #[.string s] w fun e w' => e = .returned (.bool true) ∧ Below w.heap.size w w' := by
  have g1 : ¬ (20000 : Int) < (s.size : Int) := by omega
  have HA := Lib.hid awake_any
  have hb := Below.refl w.heap.size w
  cases ht : takeT s with
  | error f =>
    have HT := Lib.hid (Take_err6 (s := s) (by omega) ht)
    have HR := Lib.hid (Take5_err (s := s) ht (by omega))
    have HSM := Lib.hid (fun w => insSame_any (d := 0) (ls := []) (x := none) (y := none) (len := 0) (cap := 0) (cap2 := 0) (w := w) (by rw [okL]) ⟨rfl, Nat.le_refl _, by decide, by unfold LiesL; trivial⟩ ⟨rfl, Nat.le_refl _, by decide, by unfold LiesL; trivial⟩)
    clear ht 
    go_enter Try.func4, Try.ntmps4
    go_wp2_with (first
      | (go_at_call 10; refine (HT.out _).mono ?_; rintro e w1 ⟨rfl, hf, k1⟩; replace hb := hb.trans (k1.mono hb.size); clear k1 hf HT)
      | (go_at_call 11; refine (HR.out _).mono ?_; rintro e w1 ⟨rfl, hf, k1⟩; replace hb := hb.trans (k1.mono hb.size); clear k1 hf HR)
      | (go_at_call 12; refine (HSM.out _).mono ?_; rintro e w1 ⟨rfl, k1⟩; replace hb := hb.trans (k1.mono hb.size); clear k1)
      | (go_at_call 9; refine (HA.out _).mono ?_; rintro e w1 ⟨rfl, k1⟩; replace hb := hb.trans (k1.mono hb.size); clear k1))
    all_goals
      go_ret
      exact ⟨rfl, hb⟩
  | ok q =>
    obtain ⟨ls, r⟩ := q
    obtain ⟨hok, _⟩ := takeT_only ht
    have HOK := Lib.hid hok
    have HT := Lib.hid (Take_yes6 (s := s) (by omega) ht)
    have HR := Lib.hid (Take5_ok (s := s) ht (by omega))
    clear ht hok 
    go_enter Try.func4, Try.ntmps4
    go_wp2_with (first
      | (go_at_call 10; refine (HT.out _).mono ?_; rintro e w1 ⟨x1, cap1, rfl, k1, hin1⟩; replace hb := hb.trans (k1.mono hb.size); have HIN := Lib.hid hin1; clear k1 HT hin1)
      | (go_at_call 11; refine (HR.out _).mono ?_; rintro e w2 ⟨x2, l2, cap2, rfl, k2, ho⟩; replace hb := hb.trans (k2.mono hb.size); have hl2 := ho.eq; subst hl2; have HSM := Lib.hid (insSame_any HOK.out (HIN.out.below k2) ho.insIn); clear k2 HR ho)
      | (go_at_call 12; refine HSM.out.mono ?_; rintro e w3 ⟨rfl, k3⟩; replace hb := hb.trans (k3.mono hb.size); clear k3)
      | (go_at_call 9; refine (HA.out _).mono ?_; rintro e w1 ⟨rfl, k1⟩; replace hb := hb.trans (k1.mono hb.size); clear k1))
    all_goals
      go_ret
      exact ⟨rfl, hb⟩
theorem InstrTakes_walk (s0 : ByteArray) (hs0 : s0.size ≤ maxLen) (w : World) :
    Calls Try.prog 4 #[.string s0] w fun e w' => e = .returned (.bool true) ∧ Below w.heap.size w w' := by
  by_cases hbig : 20000 < s0.size
  · exact InstrTakes_big s0 _ (by unfold maxLen at hs0; omega) (by rw [ByteArray.size_extract]; omega) hbig rfl w
  · exact InstrTakes_small s0 (by omega) w
end Go.Proofs.Ytfhifnkekegkkaa
