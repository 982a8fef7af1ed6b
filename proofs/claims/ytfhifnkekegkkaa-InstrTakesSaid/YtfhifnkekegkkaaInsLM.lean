/- What is laid is taken as it was: on the sums alone (for later layers: no law of layer 1 is named). -/
import Derived.Test.YtfhifnkekegkkaaLebTakeS
namespace Go.Proofs.Ytfhifnkekegkkaa
open Go.RowKit
open Leb (byt len7 lenF sum7 sg7)

theorem okU_parts {s : ByteArray} (h : okU s = true) : len7 s 5 ≠ 0 ∧ sum7 s (len7 s 5) < 4294967296 := of_decide_eq_true h
theorem okS_parts {s : ByteArray} {most : Nat} {half : Int} (h : okS s most half = true) :
    len7 s most ≠ 0 ∧ (len7 s most = 10 → byt s 9 = 0 ∨ byt s 9 = 127) ∧ -half ≤ sg7 s (len7 s most) ∧ sg7 s (len7 s most) < half := of_decide_eq_true h
theorem short_U {s : ByteArray} (h : okU s = true) : (Leb.putU (sum7 s (len7 s 5))).length ≤ len7 s 5 := by
  have h0 := (okU_parts h).1
  have hl := Leb.sum7_lt s (len7 s 5)
  have e : ((128 ^ len7 s 5 : Nat) : Int) = (128 : Int) ^ len7 s 5 := by simp
  unfold Leb.putU
  rw [if_neg (by omega)]
  exact Leb.putF_short 10 _ _ (by omega) (by rw [← e]; omega) (by omega)
theorem short_S {s : ByteArray} (h : okS s 10 9223372036854775808 = true) : (Leb.putS (sg7 s (len7 s 10))).length ≤ len7 s 10 := by
  have h0 := (okS_parts h).1
  have hb : byt s (len7 s 10 - 1) < 128 := by
    rcases Leb.len7_prop s 10 with h1 | ⟨_, _, _, h1, _⟩
    · omega
    · exact h1
  have hr := Leb.sg7_range s (len7 s 10) (by omega) hb
  exact Leb.putG_short 10 _ _ hr.1 hr.2 (by omega)

theorem num_U {s : ByteArray} : ((sum7 s (len7 s 5) : Nat) : Int) ≤ 9223372036854775807 := by
  have := sum7_lt' s (len7 s 5) (by have := (Leb.len7_le s 5).1; omega)
  omega
theorem num_S {s : ByteArray} (h : okS s 10 9223372036854775808 = true) : -9223372036854775808 ≤ sg7 s (len7 s 10) ∧ sg7 s (len7 s 10) ≤ 9223372036854775807 := by
  have := (okS_parts h).2.2
  omega
theorem ok_33 {s : ByteArray} (h : okS s 5 2147483648 = true) : okS s 5 4294967296 = true := by
  obtain ⟨h1, h2, h3, h4⟩ := okS_parts h
  exact decide_eq_true ⟨h1, h2, by omega, by omega⟩
theorem len_64 {s : ByteArray} (h : len7 s 5 ≠ 0) : len7 s 10 = len7 s 5 := by
  rcases Leb.len7_prop s 5 with h0 | ⟨h1, h2, h3, h4, h5⟩
  · exact absurd h0 h
  · exact Leb.len7_of s 10 (len7 s 5) h1 (by omega) h3 h4 h5
theorem ok_64 {s : ByteArray} (h : okS s 5 4294967296 = true) : okS s 10 9223372036854775808 = true := by
  obtain ⟨h1, h2, h3, h4⟩ := okS_parts h
  have h5 := (Leb.len7_le s 5).1
  exact decide_eq_true (by rw [len_64 h1]; exact ⟨h1, fun h => by omega, by omega, by omega⟩)
theorem ext_app (l : List Int) (more : ByteArray) : (strOfNums l ++ more).extract l.length (strOfNums l ++ more).size = more :=
  ByteArray.extract_append_eq_right (strOfNums_size l).symm (ByteArray.size_append)

theorem tenth_laid {n : Int} {more : ByteArray} (h0 : -9223372036854775808 ≤ n) (h1 : n ≤ 9223372036854775807) (hl : (Leb.putS n).length = 10)
    (hL : Leb.Laid (Leb.putS n) more) (hs : sg7 (strOfNums (Leb.putS n) ++ more) (Leb.putS n).length = n) :
    byt (strOfNums (Leb.putS n) ++ more) 9 = 0 ∨ byt (strOfNums (Leb.putS n) ++ more) 9 = 127 := by
  have hb := hL.last
  rw [hl] at hs hb
  generalize strOfNums (Leb.putS n) ++ more = s at *
  have hlt := Leb.sum7_lt s 9
  rw [Leb.p9] at hlt
  rw [show (10 - 1 : Nat) = 9 from rfl] at hb
  have e : byt s 9 % 128 = byt s 9 := Nat.mod_eq_of_lt hb
  rw [Leb.sg10, Leb.sum10, e] at hs
  generalize byt s 9 = B at *
  generalize sum7 s 9 = A at *
  split at hs <;> omega

theorem back_64 {n : Int} (more : ByteArray) (h0 : -9223372036854775808 ≤ n) (h1 : n ≤ 9223372036854775807) :
    sTup (strOfNums (Leb.putS n) ++ more) 10 9223372036854775808 = .tuple #[.int .i64 n, .string more, .int .i64 0] := by
  obtain ⟨hL, hs⟩ := Leb.putS_laid n more h0 h1
  have hlen := hL.len7 10 (Leb.putG_length 10 n)
  have hp := hL.pos
  have hok : okS (strOfNums (Leb.putS n) ++ more) 10 9223372036854775808 = true :=
    decide_eq_true (by rw [hlen, hs]; exact ⟨by omega, fun h => tenth_laid h0 h1 h hL hs, by omega, by omega⟩)
  rw [sTup_good hok, hlen, hs, ext_app]
theorem back_32 {n : Int} (more : ByteArray) (h0 : -2147483648 ≤ n) (h1 : n < 2147483648) :
    sTup (strOfNums (Leb.putS n) ++ more) 5 2147483648 = .tuple #[.int .i64 n, .string more, .int .i64 0] := by
  obtain ⟨hL, hs⟩ := Leb.putS_laid n more (by omega) (by omega)
  have hsh : (Leb.putS n).length ≤ 5 := Leb.putG_short 10 n 5 (by simp; omega) (by simp; omega) (by decide)
  have hlen := hL.len7 5 hsh
  have hp := hL.pos
  have hok : okS (strOfNums (Leb.putS n) ++ more) 5 2147483648 = true :=
    decide_eq_true (by rw [hlen, hs]; exact ⟨by omega, fun h => by omega, by omega, by omega⟩)
  rw [sTup_good hok, hlen, hs, ext_app]
theorem back_32_no {n : Int} (more : ByteArray) (h0 : -9223372036854775808 ≤ n) (h1 : n ≤ 9223372036854775807) (h : n < -2147483648 ∨ 2147483648 ≤ n) :
    sTup (strOfNums (Leb.putS n) ++ more) 5 2147483648 = .tuple #[.int .i64 0, .string ⟨#[]⟩, .int .i64 2] := by
  obtain ⟨hL, hs⟩ := Leb.putS_laid n more h0 h1
  refine sTup_bad (decide_eq_false ?_)
  by_cases hl : (Leb.putS n).length ≤ 5
  · rw [hL.len7 5 hl, hs]
    omega
  · rw [hL.none 5 (by omega)]
    omega
theorem back_U {n : Int} (more : ByteArray) (h0 : 0 ≤ n) (h1 : n < 4294967296) :
    uTup (strOfNums (Leb.putU n) ++ more) = .tuple #[.int .i64 n, .string more, .int .i64 0] := by
  obtain ⟨hL, hs⟩ := Leb.putU_laid n more h0 (by omega)
  have hsh : (Leb.putU n).length ≤ 5 := by
    unfold Leb.putU
    rw [if_neg (by omega)]
    exact Leb.putF_short 10 n 5 h0 (by simp; omega) (by decide)
  have hlen := hL.len7 5 hsh
  have hp := hL.pos
  have hok : okU (strOfNums (Leb.putU n) ++ more) = true := okU_yes (by rw [hlen]; omega) (by rw [hlen]; omega)
  rw [uTup_good hok, hlen, hs, ext_app]
theorem back_U_no {n : Int} (more : ByteArray) (h0 : 4294967296 ≤ n) (h1 : n ≤ 9223372036854775807) :
    uTup (strOfNums (Leb.putU n) ++ more) = .tuple #[.int .i64 0, .string ⟨#[]⟩, .int .i64 2] := by
  obtain ⟨hL, hs⟩ := Leb.putU_laid n more (by omega) h1
  by_cases hl : (Leb.putU n).length ≤ 5
  · exact uTup_bad (okU_big (by rw [hL.len7 5 hl]; omega))
  · exact uTup_bad (okU_none (hL.none 5 (by omega)))
end Go.Proofs.Ytfhifnkekegkkaa
