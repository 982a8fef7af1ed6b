/- The project's loads: what bytes come to. -/
import Derived.Test.YtogkieekpmcinaaMemB
namespace Go.Proofs.Ytogkieekpmcinaa
open Go.RowKit

theorem or_low (x b : Int) (hb : 0 ≤ b ∧ b ≤ 255) : bits .or .i64 (wrap64 (x * 256)) b = wrap64 (wrap64 (x * 256) + b) := by
  obtain ⟨n, rfl⟩ := Int.eq_ofNat_of_zero_le hb.1
  have hn : n < 2 ^ 8 := by omega
  have hx : (BitVec.ofInt 64 (wrap64 (x * 256))).toNat = 2 ^ 8 * ((BitVec.ofInt 64 (wrap64 (x * 256))).toNat / 256) := by
    rw [BitVec.toNat_ofInt]
    have : (wrap64 (x * 256) % ((2 ^ 64 : Nat) : Int)) % 256 = 0 := by
      unfold wrap64
      omega
    omega
  have hy : (BitVec.ofInt 64 (n : Int)).toNat = n := by
    rw [BitVec.toNat_ofInt]
    omega
  have hz : ((BitVec.ofInt 64 (wrap64 (x * 256))).toNat : Int) = wrap64 (x * 256) % 18446744073709551616 := by
    rw [BitVec.toNat_ofInt]
    omega
  show IntKind.i64.wrap ((BitVec.ofInt 64 (wrap64 (x * 256)) ||| BitVec.ofInt 64 (n : Int)).toNat : Nat) = _
  rw [BitVec.toNat_or, hy, hx, ← Nat.two_pow_add_eq_or_of_lt hn, ← hx, IntKind.wrap_i64]
  generalize wrap64 (x * 256) = y at hz ⊢
  generalize (BitVec.ofInt 64 y).toNat = z at hz ⊢
  unfold wrap64
  omega
/-- Where a slice's bytes are read. -/
def Cells (w : World) (x : Option Addr) (bs : List Int) : Prop :=
  bs.length = 0 ∨ ∃ g off, x = some ⟨g, off, none⟩ ∧ ∀ i, i < bs.length → w.cell? ⟨g, off + i, none⟩ = some (.int .u8 (bs.getD i 0))
set_option maxRecDepth 100000 in
set_option maxHeartbeats 1000000 in
theorem number_any (x : Option Addr) (bs : List Int) (cap n : Nat) (w : World) (hb : ∀ z ∈ bs, 0 ≤ z ∧ z ≤ 255) (hn : bs.length = n) (hl : n ≤ 8) (hc : Cells w x bs) :
    Calls Try.prog 40 #[.slice x n cap] w fun e w' => e = .returned (.int .i64 (wrap64 (valB bs))) ∧ w = w' := by
  have HB := Lib.hid hb
  have HC := Lib.hid hc
  have HN := Lib.hid hn
  clear hb hc hn
  go_enter Try.func40, Try.ntmps40
  go_wp2_with fail
  go_loopw [3, 4] (fun vv iv wr => ∃ (i : Nat) (z : Int), iv = .int .i64 z ∧ z = i - 1 ∧ i ≤ n ∧ vv = .int .i64 (wrap64 (valB (bs.drop i))) ∧ w = wr) (fun _ iv _ => ((intOf iv) + 1).toNat)
  case atStart =>
    refine ⟨n, _, rfl, rfl, Nat.le_refl _, ?_, rfl⟩
    rw [List.drop_of_length_le (by rw [HN.out]; omega)]
    exact congrArg (Value.int .i64) (by rw [show valB [] = 0 from rfl]; unfold wrap64; omega)
  case round =>
    obtain ⟨i, z, rfl, hz, hin, rfl, rfl⟩ := hrel
    by_cases h0 : i = 0
    · subst h0
      obtain rfl : z = -1 := by omega
      clear hz
      go_wp2_with fail
      go_ret
      exact ⟨rfl, rfl⟩
    · obtain ⟨j, rfl⟩ : ∃ j, i = j + 1 := ⟨i - 1, by omega⟩
      obtain rfl : z = j := by omega
      clear hz
      have hj : j < bs.length := by have := HN.out; omega
      have hst := valB_step hj
      have hbj := HB.out (bs.getD j 0) (by rw [List.getD_eq_getElem?_getD, List.getElem?_eq_getElem hj]; exact List.getElem_mem _)
      rcases HC.out with h1 | ⟨g, off, rfl, hcell⟩
      · omega
      · have hcj := hcell j hj
        have HO := Lib.hid (or_low (wrap64 (valB (bs.drop (j + 1)))) (bs.getD j 0) hbj)
        have HST := Lib.hid hst
        clear hcell hst h0 hj
        revert hcj HO HST hbj
        generalize bs.getD j 0 = b
        generalize wrap64 (valB (bs.drop (j + 1))) = v
        intro hbj hcj HO HST
        go_wp2_with fail
        exact ⟨⟨j, _, rfl, rfl, by omega, congrArg (Value.int .i64) (HO.out.trans HST.out), trivial⟩, by simp [intOf]⟩
end Go.Proofs.Ytogkieekpmcinaa
