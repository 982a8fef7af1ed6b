/- The project's memories: where they lie; their bytes, and a part of them. -/
import Derived.Test.YtogkieekpmcinaaMemRefK
namespace Go.Proofs.Ytogkieekpmcinaa
open Go.RowKit

/-- A memory of the project: a pointer to block a, its bytes the first of block g. -/
structure PMem (a g cap : Nat) (S : List Int) (mo : Int) (w : World) : Prop where
  ne : a ≠ g
  head : w.heap[a]? = some (.cells #[.slice (some ⟨g, 0, none⟩) S.length cap, .int .i64 mo] 65)
  own : w.ownsRow 0 5 1 (.slice (some ⟨g, 0, none⟩) S.length cap) S.length (S.map (Value.int .u8))
  byte : ∀ z ∈ S, 0 ≤ z ∧ z ≤ 255
  len : S.length ≤ 1048576
theorem PMem.glt {a g cap : Nat} {S : List Int} {mo : Int} {w : World} (h : PMem a g cap S mo w) : g < w.heap.size := (World.ownsRow.lt h.own g rfl).2
theorem PMem.alt {a g cap : Nat} {S : List Int} {mo : Int} {w : World} (h : PMem a g cap S mo w) : a < w.heap.size := (Array.getElem?_eq_some_iff.1 h.head).1
theorem PMem.caps {a g cap : Nat} {S : List Int} {mo : Int} {w : World} (h : PMem a g cap S mo w) : S.length ≤ cap ∧ cap ≤ 9223372036854775807 := by
  rcases h.own.2 with ⟨h1, _⟩ | ⟨g', c', cur, h1, _, _, h2, h3, _⟩
  · cases h1
  · cases h1
    unfold maxLen at h3
    exact ⟨h2, by omega⟩
theorem PMem.row {a g cap : Nat} {S : List Int} {mo : Int} {w : World} (h : PMem a g cap S mo w) : ∃ cur, w.heap[g]? = some (.cells cur 5 (0, 0)) ∧ cur.size = cap ∧ cur.toList.take S.length = S.map (Value.int .u8) := by
  rcases h.own.2 with ⟨h1, _⟩ | ⟨g', c', cur, h1, _, h4, h2, h3, h5, h6⟩
  · cases h1
  · cases h1
    exact ⟨cur, h4, by omega, by simpa using h6⟩
theorem PMem.keep {a g cap : Nat} {S : List Int} {mo : Int} {w w' : World} (h : PMem a g cap S mo w) (ha : w'.heap[a]? = w.heap[a]?) (hg : w'.heap[g]? = w.heap[g]?) : PMem a g cap S mo w' := by
  refine ⟨h.ne, ha.trans h.head, ⟨h.own.1, ?_⟩, h.byte, h.len⟩
  rcases h.own.2 with h1 | ⟨g', c', cur, h1, h2, h4, h3⟩
  · exact .inl h1
  · cases h1
    exact .inr ⟨g, cap, cur, rfl, h2, hg.trans h4, h3⟩
theorem PMem.kept {F : Nat → Prop} {a g cap : Nat} {S : List Int} {mo : Int} {w w' : World} (h : PMem a g cap S mo w) (k : Kept F w w') (ha : ¬ F a) (hg : ¬ F g) : PMem a g cap S mo w' :=
  h.keep (k.block a h.alt ha) (k.block g h.glt hg)
theorem PMem.slot {a g cap : Nat} {S : List Int} {mo : Int} {w : World} (h : PMem a g cap S mo w) : w.cell? ⟨a, 0, none⟩ = some (.slice (some ⟨g, 0, none⟩) S.length cap) := by
  unfold World.cell?
  rw [h.head]
  rfl
theorem PMem.most {a g cap : Nat} {S : List Int} {mo : Int} {w : World} (h : PMem a g cap S mo w) : w.cell? ⟨a, 1, none⟩ = some (.int .i64 mo) := by
  unfold World.cell?
  rw [h.head]
  rfl
theorem PMem.cell {a g cap : Nat} {S : List Int} {mo : Int} {w : World} (h : PMem a g cap S mo w) {i : Nat} (hi : i < S.length) : w.cell? ⟨g, i, none⟩ = some (.int .u8 (S.getD i 0)) := by
  rw [World.ownsRow.cellAt h.own i (by omega)]
  simp [List.getElem?_eq_getElem hi]
theorem PMem.free {a g cap : Nat} {S : List Int} {mo : Int} {w : World} (h : PMem a g cap S mo w) (i : Nat) : w.frozen? ⟨g, i, none⟩ = false := World.ownsRow.frozenAt h.own i
theorem PMem.set {a g cap : Nat} {S : List Int} {mo : Int} {w : World} (h : PMem a g cap S mo w) {i : Nat} {b : Int} (hb : 0 ≤ b ∧ b ≤ 255) : PMem a g cap (S.set i b) mo (w.setCell ⟨g, i, none⟩ (.int .u8 b)) := by
  refine ⟨h.ne, ?_, ?_, ?_, by rw [List.length_set]; exact h.len⟩
  · rw [Below.heap_setCell _ _ _ _ h.ne, h.head, List.length_set]
  · have := (World.ownsRow.stored h.own i (.int .u8 b)).1
    rw [List.length_set, List.map_set]
    exact this
  · intro z hz
    rcases List.mem_or_eq_of_mem_set hz with h1 | h1
    · exact h.byte z h1
    · rw [h1]; exact hb

set_option maxRecDepth 100000 in
theorem all_any (a g cap : Nat) (S : List Int) (mo : Int) (w : World) (h : PMem a g cap S mo w) :
    Calls Try.prog 42 #[.pointer (some ⟨a, 0, none⟩)] w fun e w' => e = .returned (.slice (some ⟨g, 0, none⟩) S.length cap) ∧ w = w' := by
  have hs := h.slot
  clear h
  go_enter Try.func42, Try.ntmps42
  go_wp2_with fail
  go_ret
  exact ⟨rfl, rfl⟩
theorem all_nil (w : World) :
    Calls Try.prog 42 #[.pointer none] w fun e w' => e = .returned (.slice none 0 0) ∧ w = w' := by
  go_enter Try.func42, Try.ntmps42
  go_wp2_with fail
  go_ret
  exact ⟨rfl, rfl⟩

/-- A part of a slice that lies at x: so many bytes from a place on. -/
def partV (x : Option Addr) (n : Nat) (at' k : Int) : Value :=
  if inB n at' k = true then .tuple #[.slice (if k = 0 then x else x.map (·.add at'.toNat)) k.toNat k.toNat, .bool true] else .tuple #[.slice none 0 0, .bool false]
set_option maxRecDepth 100000 in
set_option maxHeartbeats 1000000 in
theorem part_of (p : Value) (x : Option Addr) (n cap : Nat) (at' k : Int) (hn : n ≤ cap) (hc : cap ≤ 9223372036854775807) (w : World) (hat : at' ≤ 9223372036854775807)
    (ha : Calls Try.prog 42 #[p] w fun e w' => e = .returned (.slice x n cap) ∧ w = w') :
    Calls Try.prog 39 #[p, .int .i64 at', .int .i64 k] w fun e w' => e = .returned (partV x n at' k) ∧ w = w' := by
  have HA := Lib.hid ha
  clear ha
  unfold partV
  by_cases hi : inB n at' k = true
  · rw [if_pos hi]
    obtain ⟨i1, i2, i3, i4⟩ : 0 ≤ at' ∧ 0 ≤ k ∧ at' ≤ n ∧ k ≤ n - at' := of_decide_eq_true hi
    obtain ⟨p, rfl⟩ := Int.eq_ofNat_of_zero_le i1
    obtain ⟨q, rfl⟩ := Int.eq_ofNat_of_zero_le i2
    rw [Int.toNat_natCast, Int.toNat_natCast]
    have hpq : p + q ≤ n := by omega
    clear hi i1 i2 i3 hat
    by_cases hq : q = 0
    · subst hq
      go_enter Try.func39, Try.ntmps39
      go_wp2_with (go_at_call 42; refine HA.out.mono ?_; rintro e w1 ⟨rfl, rfl⟩)
      go_ret2
      exact ⟨rfl, rfl⟩
    · have hq' : ¬ (q : Int) = 0 := by omega
      rw [if_neg hq']
      have e9 : p + q - p = q := Nat.add_sub_cancel_left _ _
      go_enter Try.func39, Try.ntmps39
      go_wp2_with (go_at_call 42; refine HA.out.mono ?_; rintro e w1 ⟨rfl, rfl⟩)
      go_ret2
      exact ⟨by simp only [e9]; first | done | rfl, rfl⟩
  · rw [if_neg hi]
    have key : at' < 0 ∨ (0 ≤ at' ∧ k < 0) ∨ (0 ≤ at' ∧ 0 ≤ k ∧ (n : Int) - at' < k) := by
      by_cases h1 : at' < 0
      · exact .inl h1
      · by_cases h2 : k < 0
        · exact .inr (.inl ⟨by omega, h2⟩)
        · refine .inr (.inr ⟨by omega, by omega, ?_⟩)
          by_cases h3 : (n : Int) - at' < k
          · exact h3
          · exact absurd (decide_eq_true (by omega)) hi
    clear hi
    rcases key with h1 | ⟨h1, h2⟩ | ⟨h1, h2, h3⟩
    all_goals
      go_enter Try.func39, Try.ntmps39
      go_wp2_with (go_at_call 42; refine HA.out.mono ?_; rintro e w1 ⟨rfl, rfl⟩)
      go_ret2
      exact ⟨rfl, rfl⟩
end Go.Proofs.Ytogkieekpmcinaa
