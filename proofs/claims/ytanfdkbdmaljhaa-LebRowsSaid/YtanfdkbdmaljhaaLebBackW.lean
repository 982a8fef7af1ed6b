/- The walk of the statement that what is laid is taken as it was. -/
import Derived.Test.YtanfdkbdmaljhaaLebBackM
namespace Go.Proofs.Ytanfdkbdmaljhaa
open Go.RowKit
open Leb (byt len7 lenF sum7 sg7)

theorem size_laid {l : List Int} {more : ByteArray} (hl : l.length ≤ 10) (hm : more.size ≤ 1000) : (strOfNums l ++ more).size ≤ maxLen := by
  rw [Leb.size_app]
  unfold maxLen
  omega
/-- What each take comes to at n. -/
structure BackAt (n : Int) (more : ByteArray) : Prop where
  s64 : sTup (strOfNums (Leb.putS n) ++ more) 10 9223372036854775808 = .tuple #[.int .i64 n, .string more, .int .i64 0]
  s32 : (-2147483648 ≤ n ∧ n < 2147483648 → sTup (strOfNums (Leb.putS n) ++ more) 5 2147483648 = .tuple #[.int .i64 n, .string more, .int .i64 0])
  s32n : (n < -2147483648 ∨ 2147483648 ≤ n → sTup (strOfNums (Leb.putS n) ++ more) 5 2147483648 = .tuple #[.int .i64 0, .string ⟨#[]⟩, .int .i64 2])
  u : (0 ≤ n ∧ n < 4294967296 → uTup (strOfNums (Leb.putU n) ++ more) = .tuple #[.int .i64 n, .string more, .int .i64 0])
  un : (4294967296 ≤ n → uTup (strOfNums (Leb.putU n) ++ more) = .tuple #[.int .i64 0, .string ⟨#[]⟩, .int .i64 2])
theorem backAt (n : Int) (more : ByteArray) (h0 : -9223372036854775808 ≤ n) (h1 : n ≤ 9223372036854775807) : BackAt n more :=
  ⟨back_64 more h0 h1, fun h => back_32 more h.1 h.2, fun h => back_32_no more h0 h1 h, fun h => back_U more h.1 h.2, fun h => back_U_no more h h1⟩

theorem LebBack_long (n : Int) (more : ByteArray) (hm : 1000 < more.size) (hs : more.size ≤ maxLen) (w : World) :
    Calls Try.prog 5 #[.int .i64 n, .string more] w fun e w' => e = .returned (.bool true) ∧ Below w.heap.size w w' := by
  unfold maxLen at hs
  have hb := Below.refl w.heap.size w
  go_enter Try.func5, Try.ntmps5
  go_wp2_with (go_at_call 14; refine (awake_any _).mono ?_; rintro e w1 ⟨rfl, k1⟩; replace hb := hb.trans (k1.mono hb.size); clear k1)
  go_ret
  exact ⟨rfl, hb⟩

set_option maxRecDepth 100000 in
set_option maxHeartbeats 1000000 in
theorem LebBack_short (n : Int) (more : ByteArray) (h0 : -9223372036854775808 ≤ n) (h1 : n ≤ 9223372036854775807) (hm : more.size ≤ 1000) (w : World) :
    Calls Try.prog 5 #[.int .i64 n, .string more] w fun e w' => e = .returned (.bool true) ∧ Below w.heap.size w w' := by
  have hb := Below.refl w.heap.size w
  have B32 : Hid (Bw 32 5 2147483648) := Lib.hid (.inl ⟨rfl, rfl, rfl⟩)
  have B64 : Hid (Bw 64 10 9223372036854775808) := Lib.hid (.inr (.inr ⟨rfl, rfl, rfl⟩))
  have BK := Lib.hid (backAt n more h0 h1)
  have hz := strOfNums_size
  have hl := Leb.putG_length 10 n
  have hu := Leb.putU_length n
  have HS : Hid ((strOfNums (Leb.putS n) ++ more).size ≤ maxLen) := Lib.hid (size_laid hl hm)
  have HU : Hid ((strOfNums (Leb.putU n) ++ more).size ≤ maxLen) := Lib.hid (size_laid hu hm)
  have hl' : (Leb.putS n).length ≤ 10 := hl
  have H64 := Lib.hid BK.out.s64
  have hc : n < -2147483648 ∨ (-2147483648 ≤ n ∧ n < 0) ∨ (0 ≤ n ∧ n < 2147483648) ∨ (2147483648 ≤ n ∧ n < 4294967296) ∨ 4294967296 ≤ n := by omega
  clear hl
  rcases hc with hc | ⟨hc, hc2⟩ | ⟨hc, hc2⟩ | ⟨hc, hc2⟩ | hc
  · have H32 := Lib.hid (BK.out.s32n (by omega))
    have hneg : Leb.putU n = [] := by unfold Leb.putU; rw [if_pos (by omega)]
    have hse : strOfNums [] = ⟨#[]⟩ := rfl
    go_enter Try.func5, Try.ntmps5
    go_wp2_with (first
      | (go_at_call 12; refine (PutS_any _ _ h0 h1).mono ?_; rintro e w1 ⟨rfl, k1⟩; replace hb := hb.trans (k1.mono hb.size); clear k1)
      | (go_at_call 10; refine (PutU_any _ _ h1).mono ?_; rintro e w1 ⟨rfl, k1⟩; replace hb := hb.trans (k1.mono hb.size); clear k1)
      | (go_at_call 17; refine (TakeS_any _ _ _ _ (by first | exact B32.out | exact B64.out) HS.out _).mono ?_; rintro e w1 ⟨rfl, k1⟩; replace hb := hb.trans (k1.mono hb.size); clear k1; (first | rw [H32.out] | rw [H64.out]))
      | (go_at_call 14; refine (awake_any _).mono ?_; rintro e w1 ⟨rfl, k1⟩; replace hb := hb.trans (k1.mono hb.size); clear k1))
    go_ret
    exact ⟨rfl, hb⟩
  · have H32 := Lib.hid (BK.out.s32 (by omega))
    have hneg : Leb.putU n = [] := by unfold Leb.putU; rw [if_pos (by omega)]
    have hse : strOfNums [] = ⟨#[]⟩ := rfl
    go_enter Try.func5, Try.ntmps5
    go_wp2_with (first
      | (go_at_call 12; refine (PutS_any _ _ h0 h1).mono ?_; rintro e w1 ⟨rfl, k1⟩; replace hb := hb.trans (k1.mono hb.size); clear k1)
      | (go_at_call 10; refine (PutU_any _ _ h1).mono ?_; rintro e w1 ⟨rfl, k1⟩; replace hb := hb.trans (k1.mono hb.size); clear k1)
      | (go_at_call 17; refine (TakeS_any _ _ _ _ (by first | exact B32.out | exact B64.out) HS.out _).mono ?_; rintro e w1 ⟨rfl, k1⟩; replace hb := hb.trans (k1.mono hb.size); clear k1; (first | rw [H32.out] | rw [H64.out]))
      | (go_at_call 14; refine (awake_any _).mono ?_; rintro e w1 ⟨rfl, k1⟩; replace hb := hb.trans (k1.mono hb.size); clear k1))
    go_ret
    exact ⟨rfl, hb⟩
  · have H32 := Lib.hid (BK.out.s32 (by omega))
    have HT := Lib.hid (BK.out.u (by omega))
    go_enter Try.func5, Try.ntmps5
    go_wp2_with (first
      | (go_at_call 12; refine (PutS_any _ _ h0 h1).mono ?_; rintro e w1 ⟨rfl, k1⟩; replace hb := hb.trans (k1.mono hb.size); clear k1)
      | (go_at_call 10; refine (PutU_any _ _ h1).mono ?_; rintro e w1 ⟨rfl, k1⟩; replace hb := hb.trans (k1.mono hb.size); clear k1)
      | (go_at_call 17; refine (TakeS_any _ _ _ _ (by first | exact B32.out | exact B64.out) HS.out _).mono ?_; rintro e w1 ⟨rfl, k1⟩; replace hb := hb.trans (k1.mono hb.size); clear k1; (first | rw [H32.out] | rw [H64.out]))
      | (go_at_call 15; refine (TakeU_any _ HU.out _).mono ?_; rintro e w1 ⟨rfl, k1⟩; replace hb := hb.trans (k1.mono hb.size); clear k1; rw [HT.out])
      | (go_at_call 14; refine (awake_any _).mono ?_; rintro e w1 ⟨rfl, k1⟩; replace hb := hb.trans (k1.mono hb.size); clear k1))
    go_ret
    exact ⟨rfl, hb⟩
  · have H32 := Lib.hid (BK.out.s32n (by omega))
    have HT := Lib.hid (BK.out.u (by omega))
    go_enter Try.func5, Try.ntmps5
    go_wp2_with (first
      | (go_at_call 12; refine (PutS_any _ _ h0 h1).mono ?_; rintro e w1 ⟨rfl, k1⟩; replace hb := hb.trans (k1.mono hb.size); clear k1)
      | (go_at_call 10; refine (PutU_any _ _ h1).mono ?_; rintro e w1 ⟨rfl, k1⟩; replace hb := hb.trans (k1.mono hb.size); clear k1)
      | (go_at_call 17; refine (TakeS_any _ _ _ _ (by first | exact B32.out | exact B64.out) HS.out _).mono ?_; rintro e w1 ⟨rfl, k1⟩; replace hb := hb.trans (k1.mono hb.size); clear k1; (first | rw [H32.out] | rw [H64.out]))
      | (go_at_call 15; refine (TakeU_any _ HU.out _).mono ?_; rintro e w1 ⟨rfl, k1⟩; replace hb := hb.trans (k1.mono hb.size); clear k1; rw [HT.out])
      | (go_at_call 14; refine (awake_any _).mono ?_; rintro e w1 ⟨rfl, k1⟩; replace hb := hb.trans (k1.mono hb.size); clear k1))
    go_ret
    exact ⟨rfl, hb⟩
  · have H32 := Lib.hid (BK.out.s32n (by omega))
    have HT := Lib.hid (BK.out.un (by omega))
    go_enter Try.func5, Try.ntmps5
    go_wp2_with (first
      | (go_at_call 12; refine (PutS_any _ _ h0 h1).mono ?_; rintro e w1 ⟨rfl, k1⟩; replace hb := hb.trans (k1.mono hb.size); clear k1)
      | (go_at_call 10; refine (PutU_any _ _ h1).mono ?_; rintro e w1 ⟨rfl, k1⟩; replace hb := hb.trans (k1.mono hb.size); clear k1)
      | (go_at_call 17; refine (TakeS_any _ _ _ _ (by first | exact B32.out | exact B64.out) HS.out _).mono ?_; rintro e w1 ⟨rfl, k1⟩; replace hb := hb.trans (k1.mono hb.size); clear k1; (first | rw [H32.out] | rw [H64.out]))
      | (go_at_call 15; refine (TakeU_any _ HU.out _).mono ?_; rintro e w1 ⟨rfl, k1⟩; replace hb := hb.trans (k1.mono hb.size); clear k1; rw [HT.out])
      | (go_at_call 14; refine (awake_any _).mono ?_; rintro e w1 ⟨rfl, k1⟩; replace hb := hb.trans (k1.mono hb.size); clear k1))
    go_ret
    exact ⟨rfl, hb⟩
theorem LebBack_walk (n : Int) (more : ByteArray) (h : (Lit.int .i64 n).wf = true) (hs : more.size ≤ maxLen) (w : World) :
    Calls Try.prog 5 #[.int .i64 n, .string more] w fun e w' => e = .returned (.bool true) ∧ Below w.heap.size w w' := by
  obtain ⟨h0, h1⟩ := i64_of_wf h
  by_cases hm : more.size ≤ 1000
  · exact LebBack_short n more h0 h1 hm w
  · exact LebBack_long n more (by omega) hs w
end Go.Proofs.Ytanfdkbdmaljhaa
