/- The project's stores. -/
import Derived.Test.YtogkieekpmcinaaMemD
namespace Go.Proofs.Ytogkieekpmcinaa
open Go.RowKit

set_option maxRecDepth 100000 in
set_option maxHeartbeats 1000000 in
theorem store_any (a g cap : Nat) (S : List Int) (mo : Int) (op at' v : Int) (w : World) (h : PMem a g cap S mo w) (hat : at' ≤ 9223372036854775807) :
    Calls Try.prog 22 #[.pointer (some ⟨a, 0, none⟩), .int .i64 op, .int .i64 at', .int .i64 v] w fun e w' => e = .returned (.int .i64 (storeT S op at')) ∧ PMem a g cap (storeS S op at' v) mo w' ∧ Kept (· = g) w w' := by
  have hlen := h.len
  have HW := Lib.hid (width_any op w)
  unfold Mem.widthTup at HW
  have hwl := width_le op
  have HP : Hid (∀ k, Calls Try.prog 39 #[.pointer (some ⟨a, 0, none⟩), .int .i64 at', .int .i64 k] w fun e w' => e = .returned (partV (some ⟨g, 0, none⟩) S.length at' k) ∧ w = w') := Lib.hid fun k => part_any a g cap S mo at' k w h hat
  have hw1 : (Mem.width op).2.2 = true → (Mem.width op).1 ≠ 0 := by
    unfold Mem.width
    split
    · have key : ∀ i, i < 19 → Mem.wBytes.getD i 0 ≠ 0 := by decide
      rename_i h
      exact fun _ => key _ (List.idxOf_lt_length_of_mem h)
    · exact fun h => absurd h (by decide)
  unfold storeS storeT storeOk
  revert HW hwl hw1
  generalize (Mem.width op).1 = n
  generalize (Mem.width op).2.1 = ty
  generalize (Mem.width op).2.2 = st
  intro HW hwl hw1
  have H := Lib.hid h
  cases st
  · rw [Bool.false_and, if_neg (by decide), if_neg (by decide)]
    clear h hw1 hwl
    go_enter Try.func22, Try.ntmps22
    go_wp2_with (go_at_call 18; refine HW.out.mono ?_; rintro e w1 ⟨rfl, rfl⟩)
    go_ret
    exact ⟨rfl, H.out, Kept.refl _ _⟩
  · rw [Bool.true_and]
    by_cases hi : inB S.length at' n = true
    · rw [if_pos hi, if_pos hi]
      obtain ⟨i1, i2, i3, i4⟩ : 0 ≤ at' ∧ 0 ≤ n ∧ at' ≤ S.length ∧ n ≤ S.length - at' := of_decide_eq_true hi
      obtain ⟨p, rfl⟩ := Int.eq_ofNat_of_zero_le i1
      obtain ⟨q, rfl⟩ := Int.eq_ofNat_of_zero_le i2
      rw [Int.toNat_natCast, Int.toNat_natCast]
      have hpq : p + q ≤ S.length := by omega
      have HPQ := Lib.hid (HP.out q)
      have hq8 : q ≤ 8 := by omega
      rw [partV_yes (by have := hw1 rfl; omega) hpq] at HPQ
      clear hi i1 i2 i3 i4 HP h hw1 hwl hat
      go_enter Try.func22, Try.ntmps22
      go_wp2_with (first
        | (go_at_call 18; refine HW.out.mono ?_; rintro e w1 ⟨rfl, rfl⟩)
        | (go_at_call 39; refine HPQ.out.mono ?_; rintro e w2 ⟨rfl, rfl⟩))
      go_loopw [34] (fun iv wr => ∃ i : Nat, iv = .int .i64 i ∧ i ≤ q ∧ PMem a g cap (patch S p (leB v i)) mo wr ∧ Kept (· = g) w wr) (fun iv _ => q - (intOf iv).toNat)
      case atStart => exact ⟨0, rfl, by omega, by simpa [leB, patch_nil] using H.out, Kept.refl _ _⟩
      case round =>
        obtain ⟨i, rfl, hiq, hr, hk⟩ := hrel
        have HR := Lib.hid hr
        have HK := Lib.hid hk
        by_cases hlt2 : i < q
        · have hfree := hr.free (p + i)
          have hll := leB_length v i
          have hpl : (patch S p (leB v i)).length = S.length := patch_length (by omega)
          have hcell := hr.cell (i := p + i) (by omega)
          have hfr : g < wr.heap.size := hr.glt
          have hsn := leB_succ v i
          have hps := patch_snoc (S := S) (bs := leB v i) (p := p) (v / 256 ^ i % 256) (by omega)
          rw [hll, ← hsn] at hps
          have HS := Lib.hid (hps ▸ hr.set (i := p + i) (b := v / 256 ^ i % 256) (by omega))
          have HE : Hid (v / 2 ^ (8 * i) % 256 = v / 256 ^ i % 256) := Lib.hid (by rw [Int.pow_mul]; rfl)
          clear hr hk hll hpl hps hsn
          go_wp2_with fail
          rw [HE.out]
          exact ⟨⟨i + 1, by go_num, by omega, HS.out, HK.out.set (p := ⟨g, p + i, none⟩) rfl _⟩, by simp [intOf]; omega⟩
        · have hje : i = q := by omega
          subst hje
          clear hr hk
          go_wp2_with fail
          go_ret
          exact ⟨rfl, HR.out, HK.out⟩
    · rw [if_neg hi, if_neg hi]
      have HI := Lib.hid (HP.out n)
      unfold partV at HI
      rw [not_true hi, if_neg (by decide)] at HI
      clear hi HP h hw1 hwl hat
      go_enter Try.func22, Try.ntmps22
      go_wp2_with (first
        | (go_at_call 18; refine HW.out.mono ?_; rintro e w1 ⟨rfl, rfl⟩)
        | (go_at_call 39; refine HI.out.mono ?_; rintro e w2 ⟨rfl, rfl⟩))
      go_ret
      exact ⟨rfl, H.out, Kept.refl _ _⟩
set_option maxRecDepth 100000 in
set_option maxHeartbeats 1000000 in
theorem fill_any (a g cap : Nat) (S : List Int) (mo : Int) (at' v k : Int) (w : World) (h : PMem a g cap S mo w) (hat : at' ≤ 9223372036854775807) :
    Calls Try.prog 29 #[.pointer (some ⟨a, 0, none⟩), .int .i64 at', .int .i64 v, .int .i64 k] w fun e w' => e = .returned (.int .i64 (fillT S at' k)) ∧ PMem a g cap (fillS S at' v k) mo w' ∧ Kept (· = g) w w' := by
  have hlen := h.len
  have HP := Lib.hid (part_any a g cap S mo at' k w h hat)
  unfold fillS fillT
  have H := Lib.hid h
  by_cases hi : inB S.length at' k = true
  · rw [if_pos hi, if_pos hi]
    obtain ⟨i1, i2, i3, i4⟩ : 0 ≤ at' ∧ 0 ≤ k ∧ at' ≤ S.length ∧ k ≤ S.length - at' := of_decide_eq_true hi
    obtain ⟨p, rfl⟩ := Int.eq_ofNat_of_zero_le i1
    obtain ⟨q, rfl⟩ := Int.eq_ofNat_of_zero_le i2
    rw [Int.toNat_natCast, Int.toNat_natCast]
    have hpq : p + q ≤ S.length := by omega
    by_cases hq : q = 0
    · subst hq
      unfold partV at HP
      rw [if_pos hi, if_pos (show ((0 : Nat) : Int) = 0 from rfl)] at HP
      have HE : Hid (patch S p (List.replicate 0 (v % 256)) = S) := Lib.hid (patch_nil S p)
      rw [HE.out]
      clear hi i1 i2 i3 i4 h hat HE
      go_enter Try.func29, Try.ntmps29
      go_wp2_with (go_at_call 39; refine HP.out.mono ?_; rintro e w2 ⟨rfl, rfl⟩)
      go_loopw [23] (fun iv wr => iv = .int .i64 0 ∧ w = wr) (fun iv _ => 0)
      case atStart => exact ⟨rfl, rfl⟩
      case round =>
        obtain ⟨rfl, rfl⟩ := hrel
        go_wp2_with fail
        go_ret
        exact ⟨rfl, H.out, Kept.refl _ _⟩
    · rw [partV_yes hq hpq] at HP
      obtain ⟨b, hb⟩ : ∃ b, b = v % 256 := ⟨_, rfl⟩
      have hb2 : 0 ≤ b ∧ b ≤ 255 := by omega
      rw [← hb]
      have HB := Lib.hid hb
      clear hi i1 i2 i3 i4 h hat hb
      go_enter Try.func29, Try.ntmps29
      go_wp2_with (go_at_call 39; refine HP.out.mono ?_; rintro e w2 ⟨rfl, rfl⟩)
      go_loopw [23] (fun iv wr => ∃ i : Nat, iv = .int .i64 i ∧ i ≤ q ∧ PMem a g cap (patch S p (List.replicate i b)) mo wr ∧ Kept (· = g) w wr) (fun iv _ => q - (intOf iv).toNat)
      case atStart => exact ⟨0, rfl, by omega, by simpa [patch_nil] using H.out, Kept.refl _ _⟩
      case round =>
        obtain ⟨i, rfl, hiq, hr, hk⟩ := hrel
        have HR := Lib.hid hr
        have HK := Lib.hid hk
        by_cases hlt2 : i < q
        · have hll : (List.replicate i b).length = i := List.length_replicate
          have hpl : (patch S p (List.replicate i b)).length = S.length := patch_length (by omega)
          have hcell := hr.cell (i := p + i) (by omega)
          have hfree := hr.free (p + i)
          have hps := patch_snoc (S := S) (bs := List.replicate i b) (p := p) b (by omega)
          rw [hll, ← List.replicate_succ'] at hps
          have HS := Lib.hid (hps ▸ hr.set (i := p + i) (b := b) hb2)
          have hfr : g < wr.heap.size := hr.glt
          clear hps hr hk hll hpl
          go_wp2_with fail
          rw [← HB.out]
          exact ⟨⟨i + 1, by go_num, by omega, HS.out, HK.out.set (p := ⟨g, p + i, none⟩) rfl _⟩, by simp [intOf]; omega⟩
        · have hje : i = q := by omega
          subst hje
          clear hr hk
          go_wp2_with fail
          go_ret
          exact ⟨rfl, HR.out, HK.out⟩
  · rw [if_neg hi, if_neg hi]
    unfold partV at HP
    rw [if_neg hi] at HP
    clear hi h
    go_enter Try.func29, Try.ntmps29
    go_wp2_with (go_at_call 39; refine HP.out.mono ?_; rintro e w2 ⟨rfl, rfl⟩)
    go_ret
    exact ⟨rfl, H.out, Kept.refl _ _⟩
end Go.Proofs.Ytogkieekpmcinaa
