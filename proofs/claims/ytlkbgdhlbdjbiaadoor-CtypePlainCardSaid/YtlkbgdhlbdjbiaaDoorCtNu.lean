/- ctype: the names of a tuple's fields: strconv.Itoa below 64; numbers. -/
import Derived.Test.YtlkbgdhlbdjbiaaDoorCtP
set_option linter.unusedVariables false
set_option linter.unusedSimpArgs false
namespace Go.Proofs.YtlkbgdhlbdjbiaaDoor
open Go.RowKit
open Lex Ct

theorem digs_ok {i : Nat} (h : i < 64) : NmOk (digs i) := by
  unfold digs
  split
  · refine ⟨fun x hx => ?_, by unfold maxLen; simp⟩
    obtain rfl := List.mem_singleton.1 hx
    omega
  · refine ⟨fun x hx => ?_, by unfold maxLen; simp⟩
    rcases List.mem_cons.1 hx with rfl | hx
    · omega
    · obtain rfl := List.mem_singleton.1 hx
      omega
set_option maxRecDepth 100000 in
set_option maxHeartbeats 8000000 in
theorem rdSmall (i : Nat) (h : i < 64) (w : World) :
    Calls Tryd.prog 64 #[.int .i64 (i : Int)] w fun y w' => y = .returned (.string (strOfNums (digs i))) ∧ w = w' := by
  by_cases h10 : i < 10
  · have b1 : decide ((i : Int) < 10) = true := by simp; omega
    have c1 : (0 : Int) ≤ (i : Int) := by omega
    have c2 : (i : Int) ≤ (i : Int) + 1 := by omega
    have c3 : (i : Int) + 1 ≤ 36 := by omega
    have c4 : IntKind.i64.wrap ((i : Int) + 1) = (i : Int) + 1 := by rw [IntKind.wrap_i64]; omega
    go_enter Tryd.func64, Tryd.ntmps64
    go_wp2_with fail
    go_ret
    refine ⟨?_, rfl⟩
    have hc : i = 0 ∨ i = 1 ∨ i = 2 ∨ i = 3 ∨ i = 4 ∨ i = 5 ∨ i = 6 ∨ i = 7 ∨ i = 8 ∨ i = 9 := by omega
    clear h h10 b1 c1 c2 c3 c4
    rcases hc with rfl | rfl | rfl | rfl | rfl | rfl | rfl | rfl | rfl | rfl <;> rfl
  · have b1 : decide ((i : Int) < 10) = false := by simp; omega
    have c1 : (0 : Int) ≤ (i : Int) * 2 := by omega
    have c2 : (i : Int) * 2 ≤ (i : Int) * 2 + 2 := by omega
    have c3 : (i : Int) * 2 + 2 ≤ 200 := by omega
    have c5 : IntKind.i64.wrap ((i : Int) * 2) = (i : Int) * 2 := by rw [IntKind.wrap_i64]; omega
    have c4 : IntKind.i64.wrap ((i : Int) * 2 + 2) = (i : Int) * 2 + 2 := by rw [IntKind.wrap_i64]; omega
    go_enter Tryd.func64, Tryd.ntmps64
    go_wp2_with fail
    go_ret
    refine ⟨congrArg (fun s => Ending.returned (Value.string s)) ?_, rfl⟩
    obtain ⟨j, rfl⟩ : ∃ j, i = 10 + j := ⟨i - 10, by omega⟩
    have hj : j < 54 := by omega
    clear h h10 b1 c1 c2 c3 c4 c5
    revert j
    decide +kernel
theorem rdItoa (i : Nat) (h : i < 64) (w : World) :
    Calls Tryd.prog 51 #[.int .i64 (i : Int)] w fun y w' => y = .returned (.string (strOfNums (digs i))) ∧ w = w' := by
  have HS := Lib.hid (rdSmall i h)
  have b1 : decide ((0 : Int) ≤ (i : Int)) = true := by simp
  have b2 : decide ((i : Int) < 100) = true := by simp; omega
  go_enter Tryd.func51, Tryd.ntmps51
  go_wp2_with (first
    | (go_at_call 56; go_enter Tryd.func56, Tryd.ntmps56)
    | (go_at_call 60; go_enter Tryd.func60, Tryd.ntmps60)
    | (go_at_call 64; refine (HS.out _).mono ?_; rintro y w1 ⟨rfl, rfl⟩))
  go_ret
  exact ⟨rfl, rfl⟩
/-- The cells of a tuple's names, i of n written. -/
def numC (n i : Nat) : Array Value := ((List.range n).map fun j => if j < i then Value.string (strOfNums (digs j)) else .string ByteArray.empty).toArray
theorem numC_at {n i : Nat} (h : i < n) : (numC n i)[i]? = some (.string ByteArray.empty) := by
  unfold numC
  rw [List.getElem?_toArray, List.getElem?_map, List.getElem?_range h, Option.map_some, if_neg (Nat.lt_irrefl i)]
theorem numC_put {n i : Nat} : (numC n i).setIfInBounds i (.string (strOfNums (digs i))) = numC n (i + 1) := by
  unfold numC
  rw [List.setIfInBounds_toArray]
  congr 1
  apply List.ext_getElem?
  intro j
  rw [List.getElem?_set]
  by_cases hj : i = j
  · subst hj
    rw [if_pos rfl]
    by_cases hn : i < n
    · rw [List.getElem?_map, List.getElem?_range hn]
      simp [hn]
    · simp [hn]
  · rw [if_neg hj]
    simp only [List.getElem?_map]
    by_cases hn : j < n
    · rw [List.getElem?_range hn]
      simp only [Option.map_some]
      have e : (j < i + 1) = (j < i) := by apply propext; omega
      simp only [e]
    · rw [List.getElem?_eq_none (by simp; omega)]
      rfl
theorem numC_zero (n : Nat) : madeCells #[.string ByteArray.empty] (n * 1) = numC n 0 := by
  unfold madeCells numC
  apply Array.ext'
  rw [Array.toList_map, Array.toList_range, Nat.mul_one]
  apply List.map_congr_left
  intro j _
  simp [Nat.mod_one]
theorem numC_all (w : World) (n : Nat) : LiesL AnyB w (((List.range n).map digs).map .s) (numC n n).toList := by
  unfold numC
  have key : ∀ (l : List Nat), (∀ j ∈ l, j < n) → LiesL AnyB w ((l.map digs).map .s) (l.map fun j => if j < n then Value.string (strOfNums (digs j)) else .string ByteArray.empty) := by
    intro l
    induction l with
    | nil => intro _; exact rfl
    | cons a r ih =>
      intro h
      refine ⟨_, _, rfl, ?_, ih fun j hj => h j (List.mem_cons_of_mem _ hj)⟩
      show LiesU AnyB w (.s (digs a)) (if a < n then Value.string (strOfNums (digs a)) else .string ByteArray.empty)
      rw [if_pos (h a List.mem_cons_self)]
      rfl
  exact key _ fun j hj => List.mem_range.1 hj
theorem info_text : ∃ i, Tryd.prog.info? 9 = some i ∧ i.zero = some (.string ByteArray.empty) ∧ i.size = 1 ∧ i.bytes = 16 := by
  have h0 : (Tryd.prog.info? 9).map (fun i => (i.zero, i.size, i.bytes)) = some (some (.string ByteArray.empty), 1, 16) := by kernel_rfl
  cases h : Tryd.prog.info? 9 with
  | none => rw [h] at h0; cases h0
  | some i =>
    rw [h] at h0
    simp only [Option.map_some, Option.some.injEq, Prod.mk.injEq] at h0
    exact ⟨i, rfl, h0.1, h0.2.1, h0.2.2⟩
theorem make_texts (n : Nat) (hn : n ≤ 64) (w : World) : (Instr.makeSlice 22 (.int .i64 (n : Int)) (.int .i64 (n : Int))).run Tryd.prog w = .ok (.slice (some ⟨w.heap.size, 0, none⟩) n n) (w.alloc (.cells (numC n 0) 9)) := by
  obtain ⟨i, hi, hz, hs, hb⟩ := info_text
  have := run_make (P := Tryd.prog) w 22 9 i _ Tryd.underlying22 hi hz .i64 .i64 n n (by omega) (Int.le_refl _) (by rw [hb]; omega) (by omega)
  rw [hs] at this
  simp only [Int.toNat_natCast] at this
  rw [← numC_zero]
  exact this
set_option maxRecDepth 100000 in
theorem ix_text (b n cap k : Nat) (h : k < n) : ∀ W, (Instr.indexAt 22 (.slice (some ⟨b, 0, none⟩) n cap) (.int .i64 (k : Int))).run Tryd.prog W = .ok (.pointer (some ⟨b, k, none⟩)) W := by
  intro W
  have hz : ∀ W, (Go.sizeOf 9).run Tryd.prog W = .ok 1 W := fun W => by kernel_rfl
  have he : Tryd.prog.elem 22 = 9 := by kernel_rfl
  have ea : (⟨b, 0, none⟩ : Addr).add (((k : Int)).toNat * 1) = ⟨b, k, none⟩ := by rw [Int.toNat_natCast, Nat.mul_one]; unfold Addr.add; split <;> simp_all
  rw [run_indexAt_slice W 22 ⟨b, 0, none⟩ n cap .i64 (k : Int) Tryd.underlying22, if_pos ⟨by omega, by omega⟩, he, hz]
  show Result.ok _ _ = _
  rw [ea]
set_option maxRecDepth 100000 in
set_option maxHeartbeats 8000000 in
/-- The names of a tuple's fields. -/
theorem rdNumbers (n : Nat) (hn : n ≤ 64) (w : World) :
    Calls Tryd.prog 40 #[.int .i64 (n : Int)] w fun y w' => y = .returned (.slice (some ⟨w.heap.size, 0, none⟩) n n) ∧ BlkAt w' w.heap.size (numC n n) 9 ∧ Kept (fun _ => False) w w' := by
  have hmk := make_texts n hn
  have HI := Lib.hid (fun (k : Nat) (h : k < n) W => rdItoa k (by omega) W)
  go_enter Tryd.func40, Tryd.ntmps40
  go_wp2_with fail
  go_loopw [9] (fun i wr => ∃ k : Nat, i = .int .i64 k ∧ k ≤ n ∧ Hid (BlkAt wr w.heap.size (numC n k) 9 ∧ Kept (w.heap.size ≤ ·) w wr)) (fun i _ => n - (intOf i).toNat)
  case atStart => exact ⟨0, rfl, by omega, Lib.hid ⟨BlkAt.new _ _ _, (Kept.refl _ _).new _⟩⟩
  case round =>
    obtain ⟨k, rfl, hk, hst⟩ := hrel
    by_cases hlt : k < n
    · have c0 := hst.out.1.cell k
      rw [numC_at hlt] at c0
      have z0 := hst.out.1.frozen k
      have hix := ix_text w.heap.size n n k hlt
      go_wp2_with (first
        | (go_at_call 51; refine (HI.out k hlt _).mono ?_; rintro y w1 ⟨rfl, rfl⟩))
      refine ⟨⟨k + 1, by go_num, by omega, Lib.hid ⟨?_, hst.out.2.set (p := ⟨w.heap.size, k, none⟩) (Nat.le_refl _) _⟩⟩, by simp [intOf]; omega⟩
      have := hst.out.1.put k (.string (strOfNums (digs k)))
      rwa [numC_put] at this
    · have hke : k = n := by omega
      subst hke
      go_wp2_with fail
      go_ret
      exact ⟨rfl, hst.out.1, hst.out.2.clear (fun i hi e => by have e : w.heap.size ≤ i := e; omega)⟩
end Go.Proofs.YtlkbgdhlbdjbiaaDoor
