/- The project's copying. -/
import Derived.Test.YtogkieekpmcinaaMemF
namespace Go.Proofs.Ytogkieekpmcinaa
open Go.RowKit

/-- Copying as the document has it: both parts must be there. -/
theorem copyOk_swap (S : List Int) (at' : Int) (R : List Int) (place k : Int) : copyOk S at' R place k = (inB S.length at' k && inB R.length place k) := Bool.and_comm _ _
theorem partV_some {x : Option Addr} {n : Nat} {at' k : Int} (h : inB n at' k = true) : ∃ y m, partV x n at' k = .tuple #[.slice y m m, .bool true] := by
  unfold partV
  rw [if_pos h]
  exact ⟨_, _, rfl⟩
set_option maxRecDepth 100000 in
set_option maxHeartbeats 1000000 in
theorem copy_any (a g cap : Nat) (S : List Int) (mo : Int) (at' : Int) (a2 g2 cap2 : Nat) (R : List Int) (mo2 : Int) (place k : Int) (w : World) (h : PMem a g cap S mo w) (h2 : PMem a2 g2 cap2 R mo2 w)
    (hat : at' ≤ 9223372036854775807) (hpl : place ≤ 9223372036854775807) :
    Calls Try.prog 24 #[.pointer (some ⟨a, 0, none⟩), .int .i64 at', .pointer (some ⟨a2, 0, none⟩), .int .i64 place, .int .i64 k] w fun e w' => e = .returned (.int .i64 (copyT S at' R place k)) ∧ PMem a g cap (copyS S at' R place k) mo w' ∧ Kept (· = g) w w' := by
  have hlen := h.len
  have hlen2 := h2.len
  have HP := Lib.hid (part_any a g cap S mo at' k w h hat)
  have HP2 := Lib.hid (part_any a2 g2 cap2 R mo2 place k w h2 hpl)
  have H := Lib.hid h
  unfold copyS copyT
  rw [copyOk_swap]
  by_cases hi : inB S.length at' k = true
  · by_cases hj : inB R.length place k = true
    · rw [hi, hj, Bool.true_and, if_pos rfl, if_pos rfl]
      obtain ⟨i1, i2, i3, i4⟩ : 0 ≤ at' ∧ 0 ≤ k ∧ at' ≤ S.length ∧ k ≤ S.length - at' := of_decide_eq_true hi
      obtain ⟨j1, j2, j3, j4⟩ : 0 ≤ place ∧ 0 ≤ k ∧ place ≤ R.length ∧ k ≤ R.length - place := of_decide_eq_true hj
      obtain ⟨p, rfl⟩ := Int.eq_ofNat_of_zero_le i1
      obtain ⟨o, rfl⟩ := Int.eq_ofNat_of_zero_le j1
      obtain ⟨q, rfl⟩ := Int.eq_ofNat_of_zero_le i2
      rw [Int.toNat_natCast, Int.toNat_natCast, Int.toNat_natCast]
      have hpq : p + q ≤ S.length := by omega
      have hoq : o + q ≤ R.length := by omega
      by_cases h0 : q = 0
      · subst h0
        unfold partV at HP HP2
        rw [if_pos hi, if_pos (show ((0 : Nat) : Int) = 0 from rfl)] at HP
        rw [if_pos hj, if_pos (show ((0 : Nat) : Int) = 0 from rfl)] at HP2
        have HE : Hid (patch S p (part R o 0) = S) := Lib.hid (by simp [part, patch])
        rw [HE.out]
        obtain ⟨cur, hcur, _, _⟩ := h.row
        have hrun := fun ty => run_copy_row (P := Try.prog) w 39 39 ty 5 g 0 0 0 ⟨g2, 0, none⟩ 0 0 cur 5 [] Try.underlying39 size_u8 hcur rfl (fun j v hj => by simp at hj) (by simp) (fun v hv => by simp at hv)
        have HROW : Hid (PMem a g cap S mo (w.setRow g (cur.toList.take 0 ++ [] ++ cur.toList.drop (0 + 0)).toArray)) := Lib.hid (h.keep (setRow_other w g a _ h.ne) (by
          rw [setRow_heap w g cur _ _ _ hcur, hcur]
          simp))
        clear hi hj i1 i2 i3 i4 j1 j2 j3 j4 h h2 hcur hat hpl
        go_enter Try.func24, Try.ntmps24
        go_wp2_with (first
          | (go_at_call 39; refine HP.out.mono ?_; rintro e w2 ⟨rfl, rfl⟩; clear HP)
          | (go_at_call 39; refine HP2.out.mono ?_; rintro e w2 ⟨rfl, rfl⟩))
        go_ret
        refine ⟨rfl, ?_, Kept.row (F := (· = g)) (Kept.refl _ _) rfl _⟩
        simpa using HROW.out
      · rw [partV_yes h0 hpq] at HP
        rw [partV_yes h0 hoq] at HP2
        obtain ⟨cur, hcur, hz, ht⟩ := h.row
        have hcap := h.caps
        have hpl2 : (part R o q).length = q := part_length hoq
        have HROW := Lib.hid (h.rowed hcur hz ht (p := p) (bs := part R o q) (by omega) (part_byte h2.byte o q))
        have hrun := fun ty => run_copy_row (P := Try.prog) w 39 39 ty 5 g p q q ⟨g2, o, none⟩ q q cur 5 ((part R o q).map (Value.int .u8)) Try.underlying39 size_u8 hcur (by rw [List.length_map, hpl2]; exact (Nat.min_self q).symm) (fun j v hj => by
          have hj' : j < q := by
            have := (List.getElem?_eq_some_iff.1 hj).1
            rwa [List.length_map, hpl2] at this
          have hadd : (⟨g2, o, none⟩ : Addr).add j = ⟨g2, o + j, none⟩ := by unfold Addr.add; split <;> simp_all
          rw [hadd, h2.cell (by omega), ← part_get (S := R) (at' := o) hj']
          have hj2 : j < (part R o q).length := by omega
          rw [List.getElem?_map, List.getElem?_eq_getElem hj2] at hj
          rw [List.getD_eq_getElem?_getD, List.getElem?_eq_getElem hj2]
          exact hj) (by rw [List.length_map]; omega) (by
          intro v hv
          obtain ⟨z, _, rfl⟩ := List.mem_map.1 hv
          rfl)
        rw [hpl2] at HROW
        simp only [List.length_map, hpl2] at hrun
        clear hi hj i1 i2 i3 i4 j1 j2 j3 j4 h h2 hcur hz ht hcap h0 hpl2 hat hpl
        go_enter Try.func24, Try.ntmps24
        go_wp2_with (first
          | (go_at_call 39; refine HP.out.mono ?_; rintro e w2 ⟨rfl, rfl⟩; clear HP)
          | (go_at_call 39; refine HP2.out.mono ?_; rintro e w2 ⟨rfl, rfl⟩))
        go_ret
        refine ⟨rfl, ?_, Kept.row (F := (· = g)) (Kept.refl _ _) rfl _⟩
        have hr := HROW.out
        try simp only [List.append_assoc] at hr ⊢
        first
          | exact hr
          | simpa using hr
    · rw [hi, not_true hj, Bool.true_and, if_neg (by decide), if_neg (by decide)]
      obtain ⟨x, kk, hx⟩ := partV_some (x := some ⟨g, 0, none⟩) hi
      rw [hx] at HP
      unfold partV at HP2
      rw [if_neg hj] at HP2
      clear hi hj h h2 hx
      go_enter Try.func24, Try.ntmps24
      go_wp2_with (first
        | (go_at_call 39; refine HP.out.mono ?_; rintro e w2 ⟨rfl, rfl⟩; clear HP)
        | (go_at_call 39; refine HP2.out.mono ?_; rintro e w2 ⟨rfl, rfl⟩))
      go_ret
      exact ⟨rfl, H.out, Kept.refl _ _⟩
  · rw [not_true hi, Bool.false_and, if_neg (by decide), if_neg (by decide)]
    unfold partV at HP
    rw [if_neg hi] at HP
    clear hi h h2
    go_enter Try.func24, Try.ntmps24
    go_wp2_with (go_at_call 39; refine HP.out.mono ?_; rintro e w2 ⟨rfl, rfl⟩; clear HP)
    go_ret
    exact ⟨rfl, H.out, Kept.refl _ _⟩
end Go.Proofs.Ytogkieekpmcinaa
