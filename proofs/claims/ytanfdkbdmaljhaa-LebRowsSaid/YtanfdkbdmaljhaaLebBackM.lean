/- What is laid is taken as it was: on the sums alone. -/
import Derived.Test.YtanfdkbdmaljhaaLebLaws2
namespace Go.Proofs.Ytanfdkbdmaljhaa
open Leb (byt len7 lenF sum7 sg7)

theorem ext_app (l : List Int) (more : ByteArray) : (strOfNums l ++ more).extract l.length (strOfNums l ++ more).size = more :=
  ByteArray.extract_append_eq_right (strOfNums_size l).symm (ByteArray.size_append)

theorem tenth_laid {n : Int} {more : ByteArray} (h0 : -9223372036854775808 ≤ n) (h1 : n ≤ 9223372036854775807) (hl : (Leb.putS n).length = 10)
    (hL : Leb.Laid (Leb.putS n) more) (hs : sg7 (strOfNums (Leb.putS n) ++ more) (Leb.putS n).length = n) :
    byt (strOfNums (Leb.putS n) ++ more) 9 = 0 ∨ byt (strOfNums (Leb.putS n) ++ more) 9 = 127 := by
  have hb := hL.last
  rw [hl] at hs hb
  generalize strOfNums (Leb.putS n) ++ more = s at *
  have hlt := Leb.sum7_lt s 9
  rw [Leb.p9] at hlt
  rw [show (10 - 1 : Nat) = 9 from rfl] at hb
  have e : byt s 9 % 128 = byt s 9 := Nat.mod_eq_of_lt hb
  rw [Leb.sg10, Leb.sum10, e] at hs
  generalize byt s 9 = B at *
  generalize sum7 s 9 = A at *
  split at hs <;> omega

theorem back_64 {n : Int} (more : ByteArray) (h0 : -9223372036854775808 ≤ n) (h1 : n ≤ 9223372036854775807) :
    sTup (strOfNums (Leb.putS n) ++ more) 10 9223372036854775808 = .tuple #[.int .i64 n, .string more, .int .i64 0] := by
  obtain ⟨hL, hs⟩ := Leb.putS_laid n more h0 h1
  have hlen := hL.len7 10 (Leb.putG_length 10 n)
  have hp := hL.pos
  have hok : okS (strOfNums (Leb.putS n) ++ more) 10 9223372036854775808 = true :=
    decide_eq_true (by rw [hlen, hs]; exact ⟨by omega, fun h => tenth_laid h0 h1 h hL hs, by omega, by omega⟩)
  rw [sTup_good hok, hlen, hs, ext_app]
theorem back_32 {n : Int} (more : ByteArray) (h0 : -2147483648 ≤ n) (h1 : n < 2147483648) :
    sTup (strOfNums (Leb.putS n) ++ more) 5 2147483648 = .tuple #[.int .i64 n, .string more, .int .i64 0] := by
  obtain ⟨hL, hs⟩ := Leb.putS_laid n more (by omega) (by omega)
  have hsh : (Leb.putS n).length ≤ 5 := Leb.putG_short 10 n 5 (by simp; omega) (by simp; omega) (by decide)
  have hlen := hL.len7 5 hsh
  have hp := hL.pos
  have hok : okS (strOfNums (Leb.putS n) ++ more) 5 2147483648 = true :=
    decide_eq_true (by rw [hlen, hs]; exact ⟨by omega, fun h => by omega, by omega, by omega⟩)
  rw [sTup_good hok, hlen, hs, ext_app]
theorem back_32_no {n : Int} (more : ByteArray) (h0 : -9223372036854775808 ≤ n) (h1 : n ≤ 9223372036854775807) (h : n < -2147483648 ∨ 2147483648 ≤ n) :
    sTup (strOfNums (Leb.putS n) ++ more) 5 2147483648 = .tuple #[.int .i64 0, .string ⟨#[]⟩, .int .i64 2] := by
  obtain ⟨hL, hs⟩ := Leb.putS_laid n more h0 h1
  refine sTup_bad (decide_eq_false ?_)
  by_cases hl : (Leb.putS n).length ≤ 5
  · rw [hL.len7 5 hl, hs]
    omega
  · rw [hL.none 5 (by omega)]
    omega
theorem back_U {n : Int} (more : ByteArray) (h0 : 0 ≤ n) (h1 : n < 4294967296) :
    uTup (strOfNums (Leb.putU n) ++ more) = .tuple #[.int .i64 n, .string more, .int .i64 0] := by
  obtain ⟨hL, hs⟩ := Leb.putU_laid n more h0 (by omega)
  have hsh : (Leb.putU n).length ≤ 5 := by
    unfold Leb.putU
    rw [if_neg (by omega)]
    exact Leb.putF_short 10 n 5 h0 (by simp; omega) (by decide)
  have hlen := hL.len7 5 hsh
  have hp := hL.pos
  have hok : okU (strOfNums (Leb.putU n) ++ more) = true := okU_yes (by rw [hlen]; omega) (by rw [hlen]; omega)
  rw [uTup_good hok, hlen, hs, ext_app]
theorem back_U_no {n : Int} (more : ByteArray) (h0 : 4294967296 ≤ n) (h1 : n ≤ 9223372036854775807) :
    uTup (strOfNums (Leb.putU n) ++ more) = .tuple #[.int .i64 0, .string ⟨#[]⟩, .int .i64 2] := by
  obtain ⟨hL, hs⟩ := Leb.putU_laid n more (by omega) h1
  by_cases hl : (Leb.putU n).length ≤ 5
  · exact uTup_bad (okU_big (by rw [hL.len7 5 hl]; omega))
  · exact uTup_bad (okU_none (hL.none 5 (by omega)))
end Go.Proofs.Ytanfdkbdmaljhaa
