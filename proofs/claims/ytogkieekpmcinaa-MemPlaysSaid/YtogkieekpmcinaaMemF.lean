/- The project's reading, writing and copying of bytes. -/
import Derived.Test.YtogkieekpmcinaaMemE
namespace Go.Proofs.Ytogkieekpmcinaa
open Go.RowKit

theorem PMem.conv {a g cap : Nat} {S : List Int} {mo : Int} {w : World} (h : PMem a g cap S mo w) {p k : Nat} (hk : p + k ≤ S.length) (c : Nat) :
    (convert 39 9 (.slice (some ⟨g, p, none⟩) k c)).run Try.prog w = .ok (.string (strOfNums (part S p k))) w := by
  have hl := part_length hk
  have := run_convert_bytes_arg w 39 5 Try.underlying39 Try.underlying5 g p k c (part S p k) hl (fun i hi => by
    rw [h.cell (by omega)]
    rw [← part_get (at' := p) (k := k) (by omega)]) 9 Try.underlying9
  exact this
set_option maxRecDepth 100000 in
theorem read_any (a g cap : Nat) (S : List Int) (mo : Int) (at' k : Int) (w : World) (h : PMem a g cap S mo w) (hat : at' ≤ 9223372036854775807) :
    Calls Try.prog 21 #[.pointer (some ⟨a, 0, none⟩), .int .i64 at', .int .i64 k] w fun e w' => e = .returned (readTup S at' k) ∧ w = w' := by
  have hn := h.len
  have HP := Lib.hid (part_any a g cap S mo at' k w h hat)
  unfold readTup
  by_cases hi : inB S.length at' k = true
  · rw [if_pos hi]
    obtain ⟨i1, i2, i3, i4⟩ : 0 ≤ at' ∧ 0 ≤ k ∧ at' ≤ S.length ∧ k ≤ S.length - at' := of_decide_eq_true hi
    obtain ⟨p, rfl⟩ := Int.eq_ofNat_of_zero_le i1
    obtain ⟨q, rfl⟩ := Int.eq_ofNat_of_zero_le i2
    rw [Int.toNat_natCast, Int.toNat_natCast]
    have hpq : p + q ≤ S.length := by omega
    by_cases hq : q = 0
    · subst hq
      unfold partV at HP
      rw [if_pos hi, if_pos (show ((0 : Nat) : Int) = 0 from rfl)] at HP
      have hcv : (convert 39 9 (.slice (some ⟨g, 0, none⟩) 0 0)).run Try.prog w = .ok (.string (strOfNums (part S p 0))) w := by
        rw [h.conv (p := 0) (k := 0) (by omega) 0]
        simp [part]
      clear hi i1 i2 i3 i4 h hat
      go_enter Try.func21, Try.ntmps21
      go_wp2_with (go_at_call 39; refine HP.out.mono ?_; rintro e w2 ⟨rfl, rfl⟩)
      go_ret2
      exact ⟨rfl, rfl⟩
    · rw [partV_yes hq hpq] at HP
      have hcv := h.conv hpq q
      clear hi i1 i2 i3 i4 h hat
      go_enter Try.func21, Try.ntmps21
      go_wp2_with (go_at_call 39; refine HP.out.mono ?_; rintro e w2 ⟨rfl, rfl⟩)
      go_ret2
      exact ⟨rfl, rfl⟩
  · rw [if_neg hi]
    unfold partV at HP
    rw [if_neg hi] at HP
    clear hi h
    go_enter Try.func21, Try.ntmps21
    go_wp2_with (go_at_call 39; refine HP.out.mono ?_; rintro e w2 ⟨rfl, rfl⟩)
    go_ret2
    exact ⟨rfl, rfl⟩

/-- The row's first bytes turned, those behind them as they may be. -/
theorem PMem.rowed {a g cap : Nat} {S : List Int} {mo : Int} {w : World} (h : PMem a g cap S mo w) {cur : Array Value} (hcur : w.heap[g]? = some (.cells cur 5 (0, 0))) (hz : cur.size = cap) (ht : cur.toList.take S.length = S.map (Value.int .u8))
    {p : Nat} {bs : List Int} (hp : p + bs.length ≤ S.length) (hb : ∀ z ∈ bs, 0 ≤ z ∧ z ≤ 255) :
    PMem a g cap (patch S p bs) mo (w.setRow g (cur.toList.take p ++ bs.map (Value.int .u8) ++ cur.toList.drop (p + bs.length)).toArray) := by
  have hl := patch_length hp
  have hcap := h.caps
  refine ⟨h.ne, ?_, ⟨?_, .inr ⟨g, cap, _, by rw [hl], Nat.zero_le _, setRow_heap w g cur _ _ _ hcur, by rw [hl]; exact hcap.1, by unfold maxLen; omega, ?_, ?_⟩⟩, patch_byte h.byte hb p, by rw [hl]; exact h.len⟩
  · rw [setRow_other w g a _ h.ne, h.head, hl]
  · rw [List.length_map, Nat.mul_one]
  · simp only [List.size_toArray, List.length_append, List.length_take, List.length_drop, Array.length_toList, List.length_map]
    omega
  · have hlt : cur.toList.length = cap := by rw [Array.length_toList]; exact hz
    rw [Nat.mul_one, hl]
    unfold patch
    rw [List.map_append, List.map_append, List.map_take, List.map_drop, ← ht, List.take_take, Nat.min_eq_left (by omega), List.drop_take]
    have e : (cur.toList.take p ++ bs.map (Value.int .u8)).length = p + bs.length := by
      rw [List.length_append, List.length_take, List.length_map]
      omega
    rw [List.take_append, e, List.take_of_length_le (by rw [e]; omega)]
theorem Lib_byteCells (s : ByteArray) : Lib.byteCells s.data.toList = (bytesL s).map (Value.int .u8) := by unfold bytesL; rw [List.map_map]; rfl
set_option maxRecDepth 100000 in
theorem write_any (a g cap : Nat) (S : List Int) (mo : Int) (at' : Int) (s : ByteArray) (w : World) (h : PMem a g cap S mo w) (hat : at' ≤ 9223372036854775807) :
    Calls Try.prog 28 #[.pointer (some ⟨a, 0, none⟩), .int .i64 at', .string s] w fun e w' => e = .returned (.int .i64 (writeT S at' s)) ∧ PMem a g cap (writeS S at' s) mo w' ∧ Kept (· = g) w w' := by
  have hlen := h.len
  have HP := Lib.hid (part_any a g cap S mo at' s.size w h hat)
  have H := Lib.hid h
  unfold writeS writeT
  by_cases hi : inB S.length at' s.size = true
  · rw [if_pos hi, if_pos hi]
    obtain ⟨i1, i2, i3, i4⟩ : 0 ≤ at' ∧ 0 ≤ (s.size : Int) ∧ at' ≤ S.length ∧ (s.size : Int) ≤ S.length - at' := of_decide_eq_true hi
    obtain ⟨p, rfl⟩ := Int.eq_ofNat_of_zero_le i1
    rw [Int.toNat_natCast]
    have hbl := bytesL_length s
    have hpq : p + s.size ≤ S.length := by omega
    by_cases h0 : s.size = 0
    · unfold partV at HP
      rw [if_pos hi, if_pos (show (s.size : Int) = 0 by omega), show ((s.size : Nat) : Int).toNat = 0 by omega] at HP
      have hbe : bytesL s = [] := List.length_eq_zero_iff.1 (by omega)
      have HPP : Hid (patch S p (bytesL s) = S) := Lib.hid (by rw [hbe, patch_nil])
      have hrun : (∀ ty d dl dc, (Builtin.copy_ #[39, 9] ty #[.slice d dl dc, .string s]).run Try.prog w = .ok (goInt 0) w) := fun ty d dl dc => Lib.run_copy_empty_string w _ _ ty 5 d dl dc s Try.underlying39 rfl h0
      clear hi i1 i2 i3 i4 h hbe hpq hbl h0 hat
      go_enter Try.func28, Try.ntmps28
      go_wp2_with (go_at_call 39; refine HP.out.mono ?_; rintro e w2 ⟨rfl, rfl⟩)
      go_ret
      rw [HPP.out]
      exact ⟨rfl, H.out, Kept.refl _ _⟩
    · rw [partV_yes h0 hpq] at HP
      obtain ⟨cur, hcur, hz, ht⟩ := h.row
      have hcap := h.caps
      have HROW := Lib.hid (h.rowed hcur hz ht (p := p) (bs := bytesL s) (by omega) (bytesL_byte s))
      have hrun := fun ty => Lib.run_copy_row_string w 39 9 ty 5 g p s.size s.size s cur 5 Try.underlying39 size_u8 hcur (by omega) (by omega)
      clear hi i1 i2 i3 i4 h hbl h0 hcap hcur hz ht hat
      go_enter Try.func28, Try.ntmps28
      go_wp2_with (go_at_call 39; refine HP.out.mono ?_; rintro e w2 ⟨rfl, rfl⟩)
      go_ret
      refine ⟨rfl, ?_, Kept.row (F := (· = g)) (Kept.refl _ _) rfl _⟩
      have hr := HROW.out
      rw [bytesL_length] at hr
      have e := Lib_byteCells s
      try simp only [e, List.append_assoc] at hr ⊢
      first
        | exact hr
        | simpa using hr
  · rw [if_neg hi, if_neg hi]
    unfold partV at HP
    rw [if_neg hi] at HP
    clear hi h
    go_enter Try.func28, Try.ntmps28
    go_wp2_with (go_at_call 39; refine HP.out.mono ?_; rintro e w2 ⟨rfl, rfl⟩)
    go_ret
    exact ⟨rfl, H.out, Kept.refl _ _⟩
end Go.Proofs.Ytogkieekpmcinaa
