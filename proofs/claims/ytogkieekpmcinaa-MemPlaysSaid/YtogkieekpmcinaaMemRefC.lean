/- The reference's stores. -/
import Derived.Test.YtogkieekpmcinaaMemRefB
import Derived.Test.YtogkieekpmcinaaUtfBits
namespace Go.Proofs.Ytogkieekpmcinaa
open Go.RowKit

/-- Of what was there, only these blocks may have turned. -/
structure Kept (F : Nat → Prop) (w w' : World) : Prop where
  os : w'.os = w.os
  tape : w'.tape = w.tape
  output : w'.output = w.output
  size : w.heap.size ≤ w'.heap.size
  block : ∀ k, k < w.heap.size → ¬ F k → w'.heap[k]? = w.heap[k]?
theorem Kept.refl (F : Nat → Prop) (w : World) : Kept F w w := ⟨rfl, rfl, rfl, Nat.le_refl _, fun _ _ _ => rfl⟩
theorem Kept.trans {F : Nat → Prop} {a b c : World} (h : Kept F a b) (k : Kept F b c) : Kept F a c :=
  ⟨k.os.trans h.os, k.tape.trans h.tape, k.output.trans h.output, Nat.le_trans h.size k.size, fun i hi hf => (k.block i (Nat.lt_of_lt_of_le hi h.size) hf).trans (h.block i hi hf)⟩
theorem Kept.of_below {F : Nat → Prop} {w w' : World} (h : Below w.heap.size w w') : Kept F w w' := ⟨h.os, h.tape, h.output, h.size, fun k hk _ => h.block k hk⟩
theorem Kept.set {F : Nat → Prop} {a w : World} (h : Kept F a w) {p : Addr} (hp : F p.block) (u : Value) : Kept F a (w.setCell p u) :=
  h.trans ⟨rfl, rfl, rfl, by simp [World.setCell], fun k _ hf => Below.heap_setCell _ _ _ _ (fun e => hf (e ▸ hp))⟩
theorem Kept.mono {F G : Nat → Prop} {w w' : World} (h : Kept F w w') (hf : ∀ k, F k → G k) : Kept G w w' := ⟨h.os, h.tape, h.output, h.size, fun k hk hg => h.block k hk (fun h => hg (hf k h))⟩
theorem Kept.below {F : Nat → Prop} {B : Nat} {w w' : World} (h : Kept F w w') (hB : B ≤ w.heap.size) (hf : ∀ k, F k → B ≤ k) : Below B w w' :=
  ⟨h.os, h.tape, h.output, h.size, fun k hk => h.block k (by omega) (fun hF => by have := hf k hF; omega)⟩
theorem RMem.lt {a g : Nat} {S : List Int} {mx bd : Int} {w : World} (h : RMem a g S mx bd w) : a < w.heap.size ∧ g < w.heap.size :=
  ⟨(Array.getElem?_eq_some_iff.1 h.head).1, (Array.getElem?_eq_some_iff.1 h.body).1⟩
theorem RMem.kept {F : Nat → Prop} {a g : Nat} {S : List Int} {mx bd : Int} {w w' : World} (h : RMem a g S mx bd w) (k : Kept F w w') (ha : ¬ F a) (hg : ¬ F g) : RMem a g S mx bd w' :=
  h.keep (k.block a h.lt.1 ha) (k.block g h.lt.2 hg)
theorem RMem.set {a g : Nat} {S : List Int} {mx bd : Int} {w : World} (h : RMem a g S mx bd w) {i : Nat} {b : Int} (hb : 0 ≤ b ∧ b ≤ 255) : RMem a g (S.set i b) mx bd (w.setCell ⟨g, i, none⟩ (.int .u8 b)) := by
  refine ⟨h.ne, ?_, ?_, ?_, by rw [List.length_set]; exact h.len⟩
  · rw [Below.heap_setCell _ _ _ _ h.ne, h.head, List.length_set]
  · have hg := h.body
    simp only [World.setCell, Array.getElem?_modify, if_pos, hg, Option.map_some]
    simp [List.map_set]
  · intro z hz
    rcases List.mem_or_eq_of_mem_set hz with h1 | h1
    · exact h.byte z h1
    · rw [h1]; exact hb

/-- Bytes put in the place of others. -/
def patch (S : List Int) (p : Nat) (bs : List Int) : List Int := S.take p ++ bs ++ S.drop (p + bs.length)
theorem patch_nil (S : List Int) (p : Nat) : patch S p [] = S := by simp [patch]
theorem patch_length {S bs : List Int} {p : Nat} (h : p + bs.length ≤ S.length) : (patch S p bs).length = S.length := by
  unfold patch
  rw [List.length_append, List.length_append, List.length_take, List.length_drop]
  omega
theorem patch_snoc {S bs : List Int} {p : Nat} (b : Int) (h : p + bs.length < S.length) : (patch S p bs).set (p + bs.length) b = patch S p (bs ++ [b]) := by
  have hl : (S.take p ++ bs).length = p + bs.length := by rw [List.length_append, List.length_take]; omega
  unfold patch
  rw [List.set_append_right _ _ (by omega), hl, Nat.sub_self, List.drop_eq_getElem_cons h, List.set_cons_zero, List.length_append, List.length_singleton]
  simp [Nat.add_assoc]
/-- A number's lowest bytes, the lowest first. -/
def leB (v : Int) (n : Nat) : List Int := (List.range n).map fun i => v / 256 ^ i % 256
theorem leB_length (v : Int) (n : Nat) : (leB v n).length = n := by simp [leB]
theorem leB_succ (v : Int) (n : Nat) : leB v (n + 1) = leB v n ++ [v / 256 ^ n % 256] := by simp [leB, List.range_succ]
theorem shift_8 (v : Int) (n : Nat) : v / 256 ^ n / 256 = v / 256 ^ (n + 1) := by
  rw [Int.pow_succ, Int.ediv_ediv_of_nonneg (Int.le_of_lt (Int.pow_pos (by decide)))]

theorem width_le (op : Int) : 0 ≤ (Mem.width op).1 ∧ (Mem.width op).1 ≤ 8 := by
  unfold Mem.width
  split
  · have key : ∀ i, i < 19 → 0 ≤ Mem.wBytes.getD i 0 ∧ Mem.wBytes.getD i 0 ≤ 8 := by decide
    rename_i h
    exact key _ (List.idxOf_lt_length_of_mem h)
  · exact ⟨by decide, by decide⟩
/-- What a store leaves. -/
def storeOk (S : List Int) (op at' : Int) : Bool := (Mem.width op).2.2 && inB S.length at' (Mem.width op).1
def storeS (S : List Int) (op at' v : Int) : List Int := if storeOk S op at' = true then patch S at'.toNat (leB v (Mem.width op).1.toNat) else S
def storeT (S : List Int) (op at' : Int) : Int := if storeOk S op at' = true then 0 else 4
theorem and_255' (n : Int) : bits .and .i64 n 255 = n % 256 := i64_mask n 255 8 (by decide) (by decide)
set_option maxRecDepth 100000 in
set_option maxHeartbeats 1000000 in
theorem refStore_any (a g : Nat) (S : List Int) (mx bd : Int) (op at' v : Int) (w : World) (h : RMem a g S mx bd w) :
    Calls Try.prog 31 #[.pointer (some ⟨a, 0, none⟩), .int .i64 op, .int .i64 at', .int .i64 v] w fun e w' => e = .returned (.int .i64 (storeT S op at')) ∧ RMem a g (storeS S op at' v) mx bd w' ∧ Kept (· = g) w w' := by
  have hlen := h.len
  have hlt := h.lt
  have HWD := Lib.hid (refWidth_any op)
  unfold Mem.widthTup at HWD
  have hwl := width_le op
  have HIN : Hid (∀ k w', RMem a g S mx bd w' → Calls Try.prog 44 #[.pointer (some ⟨a, 0, none⟩), .int .i64 at', .int .i64 k] w' fun e w2 => e = .returned (.bool (inB S.length at' k)) ∧ w' = w2) := Lib.hid fun k w' h' => refIn_any a _ _ _ at' k (by omega) w' h'.slot
  unfold storeS storeT storeOk
  revert HWD hwl
  generalize (Mem.width op).1 = n
  generalize (Mem.width op).2.1 = ty
  generalize (Mem.width op).2.2 = st
  intro HWD hwl
  have H := Lib.hid h
  cases st
  · rw [Bool.false_and, if_neg (by decide), if_neg (by decide)]
    go_enter Try.func31, Try.ntmps31
    go_wp2_with (go_at_call 19; refine (HWD.out _).mono ?_; rintro e w1 ⟨rfl, hb1⟩)
    go_ret
    exact ⟨rfl, H.out.kept (Kept.of_below (F := fun _ => False) hb1) id id, Kept.of_below hb1⟩
  · rw [Bool.true_and]
    by_cases hi : inB S.length at' n = true
    · rw [if_pos hi, if_pos hi]
      obtain ⟨i1, i2, i3, i4⟩ : 0 ≤ at' ∧ 0 ≤ n ∧ at' ≤ S.length ∧ n ≤ S.length - at' := of_decide_eq_true hi
      obtain ⟨p, rfl⟩ := Int.eq_ofNat_of_zero_le i1
      obtain ⟨q, rfl⟩ := Int.eq_ofNat_of_zero_le i2
      rw [Int.toNat_natCast, Int.toNat_natCast]
      have HI : Hid (∀ w', RMem a g S mx bd w' → Calls Try.prog 44 #[.pointer (some ⟨a, 0, none⟩), .int .i64 p, .int .i64 q] w' fun e w2 => e = .returned (.bool true) ∧ w' = w2) := Lib.hid fun w' h' => hi ▸ HIN.out q w' h'
      have hpq : p + q ≤ S.length := by omega
      clear hi i1 i2 i3 i4 HIN h
      go_enter Try.func31, Try.ntmps31
      go_wp2_with (first
        | (go_at_call 19; refine (HWD.out _).mono ?_; rintro e w1 ⟨rfl, hb1⟩)
        | (go_at_call 44; refine (HI.out _ (H.out.kept (Kept.of_below (F := fun _ => False) hb1) id id)).mono ?_; rintro e w2 ⟨rfl, rfl⟩))
      have h1 := H.out.kept (Kept.of_below (F := fun _ => False) hb1) id id
      have H1 := Lib.hid h1
      have K1 : Hid (Kept (· = g) w w1) := Lib.hid (Kept.of_below hb1)
      go_loopw [3, 12] (fun vv iv wr => ∃ i : Nat, iv = .int .i64 i ∧ i ≤ q ∧ vv = .int .i64 (v / 256 ^ i) ∧ RMem a g (patch S p (leB v i)) mx bd wr ∧ Kept (· = g) w wr) (fun _ iv _ => q - (intOf iv).toNat)
      case atStart => exact ⟨0, rfl, by omega, by simp, by simpa [leB, patch_nil] using H1.out, K1.out⟩
      case round =>
        obtain ⟨i, rfl, hiq, rfl, hr, hk⟩ := hrel
        have HR := Lib.hid hr
        have HK := Lib.hid hk
        by_cases hlt2 : i < q
        · have hll := leB_length v i
          have hpl : (patch S p (leB v i)).length = S.length := patch_length (by omega)
          have hslot := hr.slot
          rw [hpl] at hslot
          have hcell := hr.cell (i := p + i) (by omega)
          have hfree := hr.free (p + i)
          have hsn := leB_succ v i
          have hps := patch_snoc (S := S) (bs := leB v i) (p := p) (v / 256 ^ i % 256) (by omega)
          rw [hll, ← hsn] at hps
          obtain ⟨x, hx⟩ : ∃ x, x = v / 256 ^ i := ⟨_, rfl⟩
          rw [← hx] at hps
          have hsh : x / 256 = v / 256 ^ (i + 1) := by rw [hx, shift_8]
          have e1 := and_255' x
          have e2 : IntKind.u8.wrap (x % 256) = x % 256 := wraps_u8 _ (by omega) (by omega)
          rw [← hx]
          have HS := Lib.hid (hps ▸ hr.set (i := p + i) (b := x % 256) (by omega))
          have HSH := Lib.hid hsh
          have hfr : g < wr.heap.size := hr.lt.2
          clear hps hsn hsh hx hr hk hll hpl h1 hb1
          go_wp2_with fail
          exact ⟨⟨i + 1, by go_num, by omega, congrArg (Value.int .i64) HSH.out, HS.out, HK.out.set (p := ⟨g, p + i, none⟩) rfl _⟩, by simp [intOf]; omega⟩
        · have hje : i = q := by omega
          subst hje
          clear hr hk h1 hb1
          go_wp2_with fail
          go_ret
          exact ⟨rfl, HR.out, HK.out⟩
    · rw [if_neg hi, if_neg hi]
      have HI : Hid (∀ w', RMem a g S mx bd w' → Calls Try.prog 44 #[.pointer (some ⟨a, 0, none⟩), .int .i64 at', .int .i64 n] w' fun e w2 => e = .returned (.bool false) ∧ w' = w2) := Lib.hid fun w' h' => not_true hi ▸ HIN.out n w' h'
      clear hi HIN h
      go_enter Try.func31, Try.ntmps31
      go_wp2_with (first
        | (go_at_call 19; refine (HWD.out _).mono ?_; rintro e w1 ⟨rfl, hb1⟩)
        | (go_at_call 44; refine (HI.out _ (H.out.kept (Kept.of_below (F := fun _ => False) hb1) id id)).mono ?_; rintro e w2 ⟨rfl, rfl⟩))
      go_ret
      exact ⟨rfl, H.out.kept (Kept.of_below (F := fun _ => False) hb1) id id, Kept.of_below hb1⟩
end Go.Proofs.Ytogkieekpmcinaa
