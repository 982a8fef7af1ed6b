/- The reference's memories as blocks, and what is read of them. -/
import Derived.Test.YtogkieekpmcinaaMemRefA
namespace Go.Proofs.Ytogkieekpmcinaa
open Go.RowKit

/-- A memory of the reference: a pointer to block a, its bytes in block g. -/
structure RMem (a g : Nat) (S : List Int) (mx bd : Int) (w : World) : Prop where
  ne : a ≠ g
  head : w.heap[a]? = some (.cells #[.slice (some ⟨g, 0, none⟩) S.length S.length, .int .i64 mx, .int .i64 bd] 41)
  body : w.heap[g]? = some (.cells (S.map (Value.int .u8)).toArray 5)
  byte : ∀ z ∈ S, 0 ≤ z ∧ z ≤ 255
  len : S.length ≤ 1048576
theorem RMem.keep {a g : Nat} {S : List Int} {mx bd : Int} {w w' : World} (h : RMem a g S mx bd w) (ha : w'.heap[a]? = w.heap[a]?) (hg : w'.heap[g]? = w.heap[g]?) : RMem a g S mx bd w' :=
  ⟨h.ne, ha.trans h.head, hg.trans h.body, h.byte, h.len⟩
theorem RMem.slot {a g : Nat} {S : List Int} {mx bd : Int} {w : World} (h : RMem a g S mx bd w) : w.cell? ⟨a, 0, none⟩ = some (.slice (some ⟨g, 0, none⟩) S.length S.length) := by
  unfold World.cell?
  rw [h.head]
  rfl
theorem RMem.max {a g : Nat} {S : List Int} {mx bd : Int} {w : World} (h : RMem a g S mx bd w) : w.cell? ⟨a, 1, none⟩ = some (.int .i64 mx) := by
  unfold World.cell?
  rw [h.head]
  rfl
theorem RMem.cell {a g : Nat} {S : List Int} {mx bd : Int} {w : World} (h : RMem a g S mx bd w) {i : Nat} (hi : i < S.length) : w.cell? ⟨g, i, none⟩ = some (.int .u8 (S.getD i 0)) := by
  unfold World.cell?
  rw [h.body]
  simp [List.getElem?_eq_getElem hi]
theorem RMem.free {a g : Nat} {S : List Int} {mx bd : Int} {w : World} (h : RMem a g S mx bd w) (i : Nat) : w.frozen? ⟨g, i, none⟩ = false := by
  unfold World.frozen?
  rw [h.body]
  simp
/-- A part of a memory. -/
def part (S : List Int) (at' k : Nat) : List Int := (S.drop at').take k
theorem part_length {S : List Int} {at' k : Nat} (h : at' + k ≤ S.length) : (part S at' k).length = k := by
  unfold part
  rw [List.length_take, List.length_drop]
  omega
theorem part_get {S : List Int} {at' k i : Nat} (h : i < k) : (part S at' k).getD i 0 = S.getD (at' + i) 0 := by
  unfold part
  rw [List.getD_eq_getElem?_getD, List.getD_eq_getElem?_getD, List.getElem?_take, if_pos h, List.getElem?_drop]
theorem RMem.conv {a g : Nat} {S : List Int} {mx bd : Int} {w : World} (h : RMem a g S mx bd w) {at' k : Nat} (hk : at' + k ≤ S.length) (cap : Nat) :
    (convert 39 9 (.slice (some ⟨g, at', none⟩) k cap)).run Try.prog w = .ok (.string (strOfNums (part S at' k))) w := by
  have hl := part_length hk
  have := run_convert_bytes_arg w 39 5 Try.underlying39 Try.underlying5 g at' k cap (part S at' k) hl (fun i hi => by
    rw [h.cell (by omega)]
    rw [← part_get (at' := at') (k := k) (by omega)]) 9 Try.underlying9
  exact this
/-- What reading a part tells. -/
def readTup (S : List Int) (at' k : Int) : Value :=
  if inB S.length at' k = true then .tuple #[.string (strOfNums (part S at'.toNat k.toNat)), .int .i64 0] else .tuple #[.string ⟨#[]⟩, .int .i64 4]
set_option maxRecDepth 100000 in
theorem refRead_any (a g : Nat) (S : List Int) (mx bd : Int) (at' k : Int) (w : World) (h : RMem a g S mx bd w) :
    Calls Try.prog 35 #[.pointer (some ⟨a, 0, none⟩), .int .i64 at', .int .i64 k] w fun e w' => e = .returned (readTup S at' k) ∧ w = w' := by
  have hn := h.len
  have HI := Lib.hid (refIn_any a (some ⟨g, 0, none⟩) S.length S.length at' k (by omega) w h.slot)
  have hc := h.slot
  unfold readTup
  by_cases hb : inB S.length at' k = true
  · rw [if_pos hb]
    rw [hb] at HI
    obtain ⟨h1, h2, h3, h4⟩ : 0 ≤ at' ∧ 0 ≤ k ∧ at' ≤ S.length ∧ k ≤ S.length - at' := of_decide_eq_true hb
    obtain ⟨p, rfl⟩ := Int.eq_ofNat_of_zero_le h1
    obtain ⟨q, rfl⟩ := Int.eq_ofNat_of_zero_le h2
    have hpq : p + q ≤ S.length := by omega
    clear hb h1 h2 h3 h4
    rw [Int.toNat_natCast, Int.toNat_natCast]
    by_cases hp : p = S.length
    · obtain rfl : q = 0 := by omega
      subst hp
      have hcv : ∀ cap, (convert 39 9 (.slice (some ⟨g, 0, none⟩) 0 cap)).run Try.prog w = .ok (.string (strOfNums (part S S.length 0))) w := fun cap => by
        have := h.conv (at' := 0) (k := 0) (by omega) cap
        rw [this]
        simp [part]
      have HL := Lib.hid hpq
      clear hpq
      go_enter Try.func35, Try.ntmps35
      go_wp2_with (go_at_call 44; refine HI.out.mono ?_; rintro e w1 ⟨rfl, rfl⟩)
      go_ret2
      exact ⟨rfl, rfl⟩
    · have hcv : ∀ cap, (convert 39 9 (.slice (some ⟨g, p, none⟩) q cap)).run Try.prog w = .ok (.string (strOfNums (part S p q))) w := fun cap => h.conv hpq cap
      have hp' : ¬ S.length = p := fun e => hp e.symm
      go_enter Try.func35, Try.ntmps35
      go_wp2_with (go_at_call 44; refine HI.out.mono ?_; rintro e w1 ⟨rfl, rfl⟩)
      go_ret2
      exact ⟨rfl, rfl⟩
  · rw [if_neg hb]
    rw [not_true hb] at HI
    clear hb
    go_enter Try.func35, Try.ntmps35
    go_wp2_with (go_at_call 44; refine HI.out.mono ?_; rintro e w1 ⟨rfl, rfl⟩)
    go_ret2
    exact ⟨rfl, rfl⟩
end Go.Proofs.Ytogkieekpmcinaa
