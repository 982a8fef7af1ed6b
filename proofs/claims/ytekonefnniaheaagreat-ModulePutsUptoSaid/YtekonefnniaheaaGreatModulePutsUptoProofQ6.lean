/- Texts of the proof of ModulePutsUptoProof, part 6. -/
import Derived.Test.YtekonefnniaheaaGreatProg
import Derived.WalkKit
import Derived.WalkSpells
import Derived.WalkLawsBesides
import Derived.Lib.Hide
import Derived.Below
import Derived.Laws.BytesArg
import Derived.Laws.Bits128
import Derived.Laws.IdiomStrings
import Derived.KernelRfl
import Derived.BigQuiet
import Derived.Deep.QuietTactic
import Derived.WalkMore
import Derived.WalkSmall
import Derived.ScopeJumps
import Derived.Lib.AppendStr
import Derived.Deep.RegionHeld3
import Derived.Test.YtekonefnniaheaaGreatModulePutsUptoProofQ1
import Derived.Test.YtekonefnniaheaaGreatModulePutsUptoProofQ5
namespace Go.Proofs.YtekonefnniaheaaGreat
namespace Leb

/-- The bytes of a number from 0 on, at most f. -/
def putF : Nat → Int → List Int
  | 0, _ => []
  | f + 1, n => if n < 128 then [n] else (n % 128 + 128) :: putF f (n / 128)
def putU (n : Int) : List Int := if n < 0 then [] else putF 10 n
/-- The bytes of any number, at most f. -/
def putG : Nat → Int → List Int
  | 0, _ => []
  | f + 1, n => if -64 ≤ n ∧ n < 64 then [n % 128] else (n % 128 + 128) :: putG f (n / 128)
def putS (n : Int) : List Int := putG 10 n

theorem putF_last (f : Nat) (n : Int) (h : n < 128) : putF (f + 1) n = [n] := by rw [putF, if_pos h]
theorem putF_next (f : Nat) (n : Int) (h : 128 ≤ n) : putF (f + 1) n = (n % 128 + 128) :: putF f (n / 128) := by rw [putF, if_neg (by omega)]
theorem putG_last (f : Nat) (n : Int) (h : -64 ≤ n ∧ n < 64) : putG (f + 1) n = [n % 128] := by rw [putG, if_pos h]
theorem putG_next (f : Nat) (n : Int) (h : ¬(-64 ≤ n ∧ n < 64)) : putG (f + 1) n = (n % 128 + 128) :: putG f (n / 128) := by rw [putG, if_neg h]

theorem putF_length (f : Nat) : ∀ n, (putF f n).length ≤ f := by
  induction f with
  | zero => intro n; simp [putF]
  | succ f ih =>
    intro n
    by_cases h : n < 128
    · rw [putF_last f n h]; simp
    · rw [putF_next f n (by omega)]; simpa using ih _
theorem putG_length (f : Nat) : ∀ n, (putG f n).length ≤ f := by
  induction f with
  | zero => intro n; simp [putG]
  | succ f ih =>
    intro n
    by_cases h : -64 ≤ n ∧ n < 64
    · rw [putG_last f n h]; simp
    · rw [putG_next f n h]; simpa using ih _
theorem putU_length (n : Int) : (putU n).length ≤ 10 := by
  unfold putU
  split
  · simp
  · exact putF_length 10 n

/-! ### One byte ahead of others -/
theorem byt_head (d : Int) (l : List Int) (more : ByteArray) (h2 : d < 256) : byt (strOfNums (d :: l) ++ more) 0 = d.toNat := by
  unfold byt
  simp [ByteArray.data_append, strOfNums]
  omega
theorem byt_tail (d : Int) (l : List Int) (more : ByteArray) (i : Nat) : byt (strOfNums (d :: l) ++ more) (i + 1) = byt (strOfNums l ++ more) i := by
  unfold byt
  simp [ByteArray.data_append, strOfNums]
theorem size_app (l : List Int) (more : ByteArray) : (strOfNums l ++ more).size = l.length + more.size := by
  rw [ByteArray.size_append, strOfNums_size]

theorem sum7_shift (s t : ByteArray) (h : ∀ i, byt s (i + 1) = byt t i) : ∀ k, sum7 s (k + 1) = byt s 0 % 128 + 128 * sum7 t k := by
  intro k
  induction k with
  | zero => simp [sum7]
  | succ k ih =>
    rw [sum7_succ, ih, h k, sum7_succ t k, Nat.pow_succ, Nat.mul_add]
    generalize byt t k % 128 = B
    generalize 128 ^ k = P
    rw [show B * (P * 128) = 128 * (B * P) from by rw [← Nat.mul_assoc, Nat.mul_comm _ 128]]
    omega
theorem sum7_one (s : ByteArray) : sum7 s 1 = byt s 0 % 128 := by simp [sum7]
/-- A laid number's bytes: how many, which of them are below 128. -/
structure Laid (l : List Int) (more : ByteArray) : Prop where
  pos : 0 < l.length
  last : byt (strOfNums l ++ more) (l.length - 1) < 128
  others : ∀ j, j < l.length - 1 → 128 ≤ byt (strOfNums l ++ more) j

theorem Laid.one (d : Int) (more : ByteArray) (h : 0 ≤ d) (h2 : d < 128) : Laid [d] more := by
  refine ⟨by simp, ?_, ?_⟩
  · show byt _ 0 < 128
    rw [byt_head d [] more (by omega)]
    omega
  · intro j hj
    simp at hj
theorem Laid.cons {l : List Int} {more : ByteArray} (h : Laid l more) (d : Int) (h1 : 128 ≤ d) (h2 : d < 256) : Laid (d :: l) more := by
  have hp := h.pos
  refine ⟨by simp, ?_, ?_⟩
  · obtain ⟨k, hk⟩ : ∃ k, l.length = k + 1 := ⟨l.length - 1, by omega⟩
    have e : (d :: l).length - 1 = k + 1 := by simp [hk]
    rw [e, byt_tail]
    have := h.last
    rw [hk] at this
    exact this
  · intro j hj
    cases j with
    | zero => rw [byt_head d l more h2]; omega
    | succ j => rw [byt_tail]; exact h.others j (by simp at hj; omega)
theorem Laid.len7 {l : List Int} {more : ByteArray} (h : Laid l more) (most : Nat) (hm : l.length ≤ most) : len7 (strOfNums l ++ more) most = l.length :=
  len7_of _ _ _ h.pos hm (by rw [size_app]; omega) h.last h.others
theorem Laid.none {l : List Int} {more : ByteArray} (h : Laid l more) (most : Nat) (hm : most < l.length) : Leb.len7 (strOfNums l ++ more) most = 0 := by
  rcases len7_prop (strOfNums l ++ more) most with h0 | ⟨h1, h2, _, h4, _⟩
  · exact h0
  · have := h.others (Leb.len7 (strOfNums l ++ more) most - 1) (by omega)
    omega

theorem putF_laid (more : ByteArray) (f : Nat) : ∀ n : Int, 0 ≤ n → n < 128 ^ f → 1 ≤ f →
    Laid (putF f n) more ∧ ((sum7 (strOfNums (putF f n) ++ more) (putF f n).length : Nat) : Int) = n := by
  induction f with
  | zero => intro n _ _ h; omega
  | succ f ih =>
    intro n h0 h1 _
    by_cases h : n < 128
    · rw [putF_last f n h]
      refine ⟨.one n more h0 h, ?_⟩
      show ((sum7 _ 1 : Nat) : Int) = n
      rw [sum7_one, byt_head n [] more (by omega)]
      omega
    · rw [putF_next f n (by omega)]
      rw [Int.pow_succ] at h1
      have hf : 1 ≤ f := by
        cases f with
        | zero => exfalso; simp at h1; omega
        | succ f => omega
      obtain ⟨a, b⟩ := ih (n / 128) (by omega) (by omega) hf
      refine ⟨a.cons _ (by omega) (by omega), ?_⟩
      rw [List.length_cons, sum7_shift _ _ (byt_tail _ _ more), byt_head _ _ more (by omega)]
      omega
theorem p10i : (128 : Int) ^ 10 = 1180591620717411303424 := by simp
theorem putU_laid (n : Int) (more : ByteArray) (h0 : 0 ≤ n) (h1 : n ≤ 9223372036854775807) :
    Laid (putU n) more ∧ ((sum7 (strOfNums (putU n) ++ more) (putU n).length : Nat) : Int) = n := by
  have e : putU n = putF 10 n := by unfold putU; rw [if_neg (by omega)]
  rw [e]
  exact putF_laid more 10 n h0 (by rw [p10i]; omega) (by decide)
/-! ### No bytes are fewer -/
theorem putF_short (f : Nat) : ∀ (n : Int) (u : Nat), 0 ≤ n → n < 128 ^ u → 1 ≤ u → (putF f n).length ≤ u := by
  induction f with
  | zero => intro n u _ _ _; simp [putF]
  | succ f ih =>
    intro n u h0 h1 hu
    by_cases h : n < 128
    · rw [putF_last f n h]; simpa using hu
    · rw [putF_next f n (by omega)]
      obtain ⟨v, rfl⟩ : ∃ v, u = v + 1 := ⟨u - 1, by omega⟩
      rw [Int.pow_succ] at h1
      have hv : 1 ≤ v := by
        cases v with
        | zero => exfalso; simp at h1; omega
        | succ v => omega
      have := ih (n / 128) v (by omega) (by omega) hv
      simpa using this
end Leb
end Go.Proofs.YtekonefnniaheaaGreat
namespace Go.Proofs.YtekonefnniaheaaGreat
open Go.RowKit

theorem one_conv (n : Int) (w : World) : (convert 57 9 (.slice (some ⟨w.heap.size, 0, none⟩) 1 1)).run Tryz.prog (w.alloc (.cells #[.int .u8 n] 5)) = .ok (.string (strOfNums [n])) (w.alloc (.cells #[.int .u8 n] 5)) := by
  refine run_convert_bytes_arg _ 57 5 Tryz.underlying57 Tryz.underlying5 w.heap.size 0 1 1 [n] rfl ?_ 9 Tryz.underlying9
  intro i hi
  obtain rfl : i = 0 := by omega
  exact World.cell?_alloc_mark w _ _ _ 0

theorem info_u8 : (Tryz.prog.info? 5).map (fun i => (i.zero, i.size, i.bytes)) = some (some (.int .u8 0), 1, 1) := by kernel_rfl

/-- A slice that owns these bytes. -/
def Bytes (base : Nat) (v : Value) (xs : List Int) (w : World) : Prop := w.ownsRow base 5 1 v xs.length (xs.map (Value.int .u8))
theorem Bytes.snoc {base : Nat} {v : Value} {xs : List Int} {w : World} {d : Int} (h : w.ownsRow base 5 1 v (xs.length + 1) (xs.map (Value.int .u8) ++ [.int .u8 d])) : Bytes base v (xs ++ [d]) w := by
  unfold Bytes
  simpa using h
/-- What a buffer's call leaves: the buffer with these bytes, all below the base as it was. -/
def GivesBytes (base : Nat) (xs : List Int) (w : World) (e : Ending) (w' : World) : Prop := ∃ v, e = .returned v ∧ Bytes base v xs w' ∧ Below base w w'

theorem grown_below {base : Nat} {w wr w1 : World} {v : Value} {ys : List Int} {o : Obj} (hby : Bytes base v ys wr) (hbel : Below base w wr) (hbase : base ≤ w.heap.size) (hg : (wr.alloc o).grownBy w1 v.ownBlock) : Below base w w1 :=
  (hbel.alloc (Nat.le_trans hbase hbel.size) o).grown hg (by simp; have := hbel.size; omega) (fun k hk => (World.ownsRow.lt hby k hk).1)

/-- What a buffer's bytes are as a string. -/
theorem bytes_conv {base : Nat} {v : Value} {xs : List Int} {w : World} (h : Bytes base v xs w) : (convert 57 9 v).run Tryz.prog w = .ok (.string (strOfNums xs)) w := by
  rcases h.2 with ⟨rfl, h0⟩ | ⟨g, cap, cur, rfl, hb, hg, hn, hc, hs, ht⟩
  · have : xs = [] := List.length_eq_zero_iff.1 h0
    subst this
    exact run_convert_bytes_nil w 57 5 Tryz.underlying57 Tryz.underlying5 0 0 9 Tryz.underlying9
  · have hcells := World.ownsRow.cells h (g := g) rfl
    refine run_convert_bytes_arg w 57 5 Tryz.underlying57 Tryz.underlying5 g 0 xs.length cap xs rfl ?_ 9 Tryz.underlying9
    intro i hi
    have := hcells i (.int .u8 (xs.getD i 0)) (by simp [List.getElem?_eq_getElem hi])
    have hadd : (⟨g, 0, none⟩ : Addr).add i = ⟨g, 0 + i, none⟩ := by unfold Addr.add; split <;> simp_all
    rw [hadd] at this
    exact this

end Go.Proofs.YtekonefnniaheaaGreat
namespace Go.Proofs.YtekonefnniaheaaGreat
open Go.RowKit

theorem one_any (n : Int) (h1 : 0 ≤ n) (h2 : n ≤ 255) (w : World) :
    Calls Tryz.prog 113 #[.int .i64 n] w fun e w' => e = .returned (.string (strOfNums [n])) ∧ Below w.heap.size w w' := by
  have hc := one_conv n w
  go_enter Tryz.func113, Tryz.ntmps113
  go_wp2
  go_ret
  exact ⟨rfl, (Below.refl _ _).alloc (Nat.le_refl _) _⟩

theorem refPutU_neg (n : Int) (h : n < 0) (w : World) :
    Calls Tryz.prog 58 #[.int .i64 n] w fun e w' => e = .returned (.string (strOfNums [])) ∧ Below w.heap.size w w' := by
  go_enter Tryz.func58, Tryz.ntmps58
  go_wp2_with fail
  go_ret
  exact ⟨rfl, Below.refl _ _⟩
theorem refPutU_last (f : Nat) (n : Int) (w : World) (h0 : 0 ≤ n) (h1 : n < 128) :
    Calls Tryz.prog 58 #[.int .i64 n] w fun e w' => e = .returned (.string (strOfNums (Leb.putF (f + 1) n))) ∧ Below w.heap.size w w' := by
  rw [Leb.putF_last f n h1]
  go_enter Tryz.func58, Tryz.ntmps58
  go_wp2_with (go_at_call 113; refine (one_any n h0 (by omega) _).mono ?_; rintro e w' ⟨rfl, hb⟩)
  go_ret
  exact ⟨rfl, hb⟩
theorem refPutU_fuel (f : Nat) (hf : f < 10) : ∀ (n : Int) (w : World), 0 ≤ n → n < 128 ^ (f + 1) → n ≤ 9223372036854775807 →
    Calls Tryz.prog 58 #[.int .i64 n] w fun e w' => e = .returned (.string (strOfNums (Leb.putF (f + 1) n))) ∧ Below w.heap.size w w' := by
  induction f with
  | zero =>
    intro n w h0 h1 h2
    exact refPutU_last 0 n w h0 (by simpa using h1)
  | succ f ih =>
    intro n w h0 h1 h2
    by_cases h : n < 128
    · exact refPutU_last (f + 1) n w h0 h
    · rw [Leb.putF_next (f + 1) n (by omega)]
      rw [Int.pow_succ] at h1
      have h1' : n / 128 < 128 ^ (f + 1) := by omega
      have IH := Lib.hid (ih (by omega))
      have hl := Leb.putF_length (f + 1) (n / 128)
      have hs := strOfNums_size
      have h0' : 128 ≤ n := by omega
      clear h1 ih h
      go_enter Tryz.func58, Tryz.ntmps58
      go_wp2_with (first
        | (go_at_call 113; refine (one_any _ (by omega) (by omega) _).mono ?_; rintro e w1 ⟨rfl, hb1⟩)
        | (go_at_call 58; refine (IH.out (n / 128) _ (by omega) h1' (by omega)).mono ?_; rintro e w2 ⟨rfl, hb2⟩))
      go_ret
      refine ⟨?_, hb1.trans (hb2.mono hb1.size)⟩
      rw [strOfNums_cons, Int.add_comm]
      rfl

theorem refPutU_any (n : Int) (w : World) (h : n ≤ 9223372036854775807) :
    Calls Tryz.prog 58 #[.int .i64 n] w fun e w' => e = .returned (.string (strOfNums (Leb.putU n))) ∧ Below w.heap.size w w' := by
  unfold Leb.putU
  by_cases h0 : n < 0
  · rw [if_pos h0]
    exact refPutU_neg n h0 w
  · rw [if_neg h0]
    exact refPutU_fuel 9 (by decide) n w (by omega) (by rw [Leb.p10i]; omega) h

theorem floor_neg (n : Int) (h1 : -9223372036854775808 ≤ n) (hn : n < 0) :
    wrap64 (-wrap64 (wrap64 (-(n + 1).tdiv 128) + 1)) = n / 128 := by
  have e : (-(n + 1)).tdiv 128 = (-(n + 1)) / 128 := Int.tdiv_eq_ediv_of_nonneg (by omega)
  have e2 : -(n + 1).tdiv 128 = (-(n + 1)).tdiv 128 := (Int.neg_tdiv ..).symm
  rw [e2, e]
  unfold wrap64
  omega
theorem floor_any (n : Int) (h1 : -9223372036854775808 ≤ n) (h2 : n ≤ 9223372036854775807) (w : World) :
    Calls Tryz.prog 184 #[.int .i64 n] w fun e w' => e = .returned (.int .i64 (n / 128)) ∧ w = w' := by
  by_cases hn : 0 ≤ n
  · go_enter Tryz.func184, Tryz.ntmps184
    go_wp2
    go_ret
    exact ⟨rfl, rfl⟩
  · have hz := Lib.hid (floor_neg n h1 (by omega))
    go_enter Tryz.func184, Tryz.ntmps184
    go_wp2
    go_ret
    exact ⟨by rw [← hz.out]; rfl, rfl⟩

theorem refPutS_last (f : Nat) (n : Int) (w : World) (h0 : -64 ≤ n) (h1 : n < 64) :
    Calls Tryz.prog 162 #[.int .i64 n] w fun e w' => e = .returned (.string (strOfNums (Leb.putG (f + 1) n))) ∧ Below w.heap.size w w' := by
  rw [Leb.putG_last f n ⟨h0, h1⟩]
  have ht : (n + 128) % 128 = n % 128 := by omega
  go_enter Tryz.func162, Tryz.ntmps162
  go_wp2_with (go_at_call 113; refine (one_any _ (by omega) (by omega) _).mono ?_; rintro e w' ⟨rfl, hb⟩)
  go_ret
  exact ⟨rfl, hb⟩
theorem tmod_lo (n : Int) : -128 < n.tmod 128 ∧ n.tmod 128 < 128 ∧ (n.tmod 128 + 128) % 128 = n % 128 := by
  have h := Int.tmod_add_mul_tdiv n 128
  have h1 : n.tmod 128 < 128 := Int.tmod_lt_of_pos n (by decide)
  have h2 : -128 < n.tmod 128 := by
    have := Int.neg_tmod n 128 ▸ Int.tmod_lt_of_pos (-n) (show (0 : Int) < 128 by decide)
    omega
  omega
theorem refPutS_fuel (f : Nat) (hf : f < 10) : ∀ (n : Int) (w : World), -64 * 128 ^ f ≤ n → n < 64 * 128 ^ f → -9223372036854775808 ≤ n → n ≤ 9223372036854775807 →
    Calls Tryz.prog 162 #[.int .i64 n] w fun e w' => e = .returned (.string (strOfNums (Leb.putG (f + 1) n))) ∧ Below w.heap.size w w' := by
  induction f with
  | zero =>
    intro n w h0 h1 h2 h3
    exact refPutS_last 0 n w (by simpa using h0) (by simpa using h1)
  | succ f ih =>
    intro n w h0 h1 h2 h3
    by_cases h : -64 ≤ n ∧ n < 64
    · exact refPutS_last (f + 1) n w h.1 h.2
    · rw [Leb.putG_next (f + 1) n h]
      rw [Int.pow_succ] at h0 h1
      have h0' : -64 * 128 ^ f ≤ n / 128 := by
        generalize (128 : Int) ^ f = P at *
        omega
      have h1' : n / 128 < 64 * 128 ^ f := by
        generalize (128 : Int) ^ f = P at *
        omega
      have IH := Lib.hid (ih (by omega))
      have hl := Leb.putG_length (f + 1) (n / 128)
      have hs := strOfNums_size
      obtain ⟨m1, m2, m3⟩ := tmod_lo n
      have M3 := Lib.hid (show 128 + n.tmod 128 % 128 = n % 128 + 128 by omega)
      clear h0 h1 ih m3
      have hg : (decide (-64 ≤ n) && decide (n < 64)) = false := by simpa using h
      by_cases hn : n < -64
      · clear h
        go_enter Tryz.func162, Tryz.ntmps162
        go_wp2_with (first
          | (go_at_call 113; refine (one_any _ (by omega) (by omega) _).mono ?_; rintro e w1 ⟨rfl, hb1⟩)
          | (go_at_call 184; refine (floor_any n h2 h3 _).mono ?_; rintro e w' ⟨rfl, rfl⟩)
          | (go_at_call 162; refine (IH.out (n / 128) _ h0' h1' (by omega) (by omega)).mono ?_; rintro e w2 ⟨rfl, hb2⟩))
        go_ret
        refine ⟨?_, hb1.trans (hb2.mono hb1.size)⟩
        rw [strOfNums_cons, M3.out]
        rfl
      · have h64 : 64 ≤ n := by omega
        clear h m1 m2 M3
        go_enter Tryz.func162, Tryz.ntmps162
        go_wp2_with (first
          | (go_at_call 113; refine (one_any _ (by omega) (by omega) _).mono ?_; rintro e w1 ⟨rfl, hb1⟩)
          | (go_at_call 184; refine (floor_any n h2 h3 _).mono ?_; rintro e w' ⟨rfl, rfl⟩)
          | (go_at_call 162; refine (IH.out (n / 128) _ h0' h1' (by omega) (by omega)).mono ?_; rintro e w2 ⟨rfl, hb2⟩))
        go_ret
        refine ⟨?_, hb1.trans (hb2.mono hb1.size)⟩
        rw [strOfNums_cons, Int.add_comm]
        rfl
theorem refPutS_any (n : Int) (w : World) (h1 : -9223372036854775808 ≤ n) (h2 : n ≤ 9223372036854775807) :
    Calls Tryz.prog 162 #[.int .i64 n] w fun e w' => e = .returned (.string (strOfNums (Leb.putS n))) ∧ Below w.heap.size w w' :=
  refPutS_fuel 9 (by decide) n w (by simp; omega) (by simp; omega) h1 h2
end Go.Proofs.YtekonefnniaheaaGreat
namespace Go.Proofs.YtekonefnniaheaaGreat
open Go.RowKit

def AppRel (base : Nat) (xs : List Int) (n : Int) (w : World) (b q : Value) (wr : World) : Prop :=
  ∃ (ys : List Int) (k : Int) (f : Nat), q = .int .i64 k ∧ 0 ≤ k ∧ k < 128 ^ (f + 1) ∧ k ≤ 9223372036854775807 ∧ ys ++ Leb.putF (f + 1) k = xs ++ Leb.putF 10 n ∧ ys.length + f = xs.length + 9 ∧ Bytes base b ys wr ∧ Below base w wr

theorem app_next {base : Nat} {xs ys : List Int} {n k : Int} {f : Nat} {w wr w1 : World} {b v' : Value} {o : Obj} (hbase : base ≤ w.heap.size) (hk : 127 < k) (hk2 : k ≤ 9223372036854775807) (H1 : k < 128 ^ (f + 1))
    (HY : ys ++ Leb.putF (f + 1) k = xs ++ Leb.putF 10 n) (HL : ys.length + f = xs.length + 9) (hby : Bytes base b ys wr) (hbel : Below base w wr)
    (hown : w1.ownsRow base 5 1 v' (ys.length + 1) (ys.map (Value.int .u8) ++ [.int .u8 (k % 128 + 128)])) (hg : (wr.alloc o).grownBy w1 b.ownBlock) : AppRel base xs n w v' (.int .i64 (k / 128)) w1 := by
  rw [Int.pow_succ] at H1
  obtain ⟨g, rfl⟩ : ∃ g, f = g + 1 := by
    cases f with
    | zero => exfalso; simp at H1; omega
    | succ g => exact ⟨g, rfl⟩
  refine ⟨ys ++ [k % 128 + 128], k / 128, g, rfl, by omega, by omega, by omega, ?_, by simp; omega, Bytes.snoc hown, grown_below hby hbel hbase hg⟩
  rw [← HY, Leb.putF_next _ k (by omega)]
  simp

set_option maxHeartbeats 400000 in
theorem appendU_pos (base : Nat) (v : Value) (xs : List Int) (n : Int) (w : World) (hown : Bytes base v xs w) (hbase : base ≤ w.heap.size) (hx : xs.length ≤ 1000000000) (h0 : 0 ≤ n) (h1 : n ≤ 9223372036854775807) :
    Calls Tryz.prog 125 #[v, .int .i64 n] w fun e w' => GivesBytes base (xs ++ Leb.putF 10 n) w e w' := by
  obtain ⟨i0, hi, hz0, hz1, hz2⟩ := info_parts info_u8
  have a127 := i64_and127
  have hneg : decide (n < 0) = false := by simp; omega
  go_enter Tryz.func125, Tryz.ntmps125
  go_wp2_with fail
  go_loopw [0, 1] (fun b q wr => AppRel base xs n w b q wr) (fun _ q _ => (intOf q).toNat)
  case atStart => exact ⟨xs, n, 9, rfl, h0, by rw [Leb.p10i]; omega, h1, rfl, rfl, hown, Below.refl _ _⟩
  case round =>
    obtain ⟨ys, k, f, rfl, hk0, hk1, hk2, hys, hlen, hby, hbel⟩ := hrel
    have HY := Lib.hid hys
    have HL := Lib.hid hlen
    have H1 := Lib.hid hk1
    have hsz := hbel.size
    have hyl : ys.length ≤ 2000000000 := by omega
    have o128 := u8_or128_right (k % 128) (by omega) (by omega)
    have q3 : ys.length + 1 ≤ maxLen := by unfold maxLen; omega
    have q4 : (ys.length + 1) * 1 ≤ 140737488355328 := by omega
    have q5 : base ≤ wr.heap.size := by omega
    clear hys hlen hk1
    by_cases hk : 127 < k
    · go_wp2_with (at_builtin; refine wpList_append_own _ rfl _ _ 57 rfl base 5 i0 (.int .u8 0) 1 1 Tryz.underlying57 hi hz0 hz1 hz2 rfl (by decide) _ ys.length (ys.map (Value.int .u8)) rfl (World.ownsRow.alloc hby _) ⟨wr.heap.size, 0, none⟩ 1 1 [.int .u8 (k % 128 + 128)] rfl rfl (cell_one_new _ _ _) (one_u8 _) q3 q4 (le_alloc q5) ?_; intro v' w1 hown1 hg1 _; clear q3 q4 q5)
      exact ⟨app_next hbase hk hk2 H1.out HY.out HL.out hby hbel hown1 hg1, by simp [intOf]; omega⟩
    · go_wp2_with (at_builtin; refine wpList_append_own _ rfl _ _ 57 rfl base 5 i0 (.int .u8 0) 1 1 Tryz.underlying57 hi hz0 hz1 hz2 rfl (by decide) _ ys.length (ys.map (Value.int .u8)) rfl (World.ownsRow.alloc hby _) ⟨wr.heap.size, 0, none⟩ 1 1 [.int .u8 k] rfl rfl (cell_one_new _ _ _) (one_u8 _) q3 q4 (le_alloc q5) ?_; intro v' w1 hown1 hg1 _; clear q3 q4 q5)
      go_ret
      refine ⟨v', rfl, ?_, grown_below hby hbel hbase hg1⟩
      rw [← HY.out, Leb.putF_last _ k (by omega)]
      exact Bytes.snoc hown1
theorem appendU_neg (base : Nat) (v : Value) (xs : List Int) (n : Int) (w : World) (hown : Bytes base v xs w) (h0 : n < 0) :
    Calls Tryz.prog 125 #[v, .int .i64 n] w fun e w' => GivesBytes base xs w e w' := by
  go_enter Tryz.func125, Tryz.ntmps125
  go_wp2_with fail
  go_ret
  exact ⟨v, rfl, hown, Below.refl _ _⟩
theorem appendU_any (base : Nat) (v : Value) (xs : List Int) (n : Int) (w : World) (hown : Bytes base v xs w) (hbase : base ≤ w.heap.size) (hx : xs.length ≤ 1000000000) (h1 : n ≤ 9223372036854775807) :
    Calls Tryz.prog 125 #[v, .int .i64 n] w fun e w' => GivesBytes base (xs ++ Leb.putU n) w e w' := by
  unfold Leb.putU
  by_cases h0 : n < 0
  · rw [if_pos h0, List.append_nil]
    exact appendU_neg base v xs n w hown h0
  · rw [if_neg h0]
    exact appendU_pos base v xs n w hown hbase hx (by omega) h1

theorem PutU_any (n : Int) (w : World) (h : n ≤ 9223372036854775807) :
    Calls Tryz.prog 86 #[.int .i64 n] w fun e w' => e = .returned (.string (strOfNums (Leb.putU n))) ∧ Below w.heap.size w w' := by
  go_enter Tryz.func86, Tryz.ntmps86
  go_wp2_with (go_at_call 125; refine (appendU_any w.heap.size _ [] n _ (World.ownsRow_nil _ _ _ _) (Nat.le_refl _) (by simp) h).mono ?_; rintro e w1 ⟨v, rfl, hv, hb⟩; have hc := bytes_conv hv; clear hv)
  go_ret
  exact ⟨rfl, hb⟩

def PutRel (base : Nat) (n : Int) (w : World) (b q : Value) (wr : World) : Prop :=
  ∃ (ys : List Int) (k : Int) (f : Nat), q = .int .i64 k ∧ -64 * 128 ^ f ≤ k ∧ k < 64 * 128 ^ f ∧ -9223372036854775808 ≤ k ∧ k ≤ 9223372036854775807 ∧ ys ++ Leb.putG (f + 1) k = Leb.putG 10 n ∧ ys.length + f = 9 ∧ Bytes base b ys wr ∧ Below base w wr
theorem put_next {base : Nat} {ys : List Int} {n k : Int} {f : Nat} {w wr w1 : World} {b v' : Value} {o : Obj} (hbase : base ≤ w.heap.size) (hk : ¬(-64 ≤ k ∧ k < 64)) (hk1 : -9223372036854775808 ≤ k) (hk2 : k ≤ 9223372036854775807) (H0 : -64 * 128 ^ f ≤ k) (H1 : k < 64 * 128 ^ f)
    (HY : ys ++ Leb.putG (f + 1) k = Leb.putG 10 n) (HL : ys.length + f = 9) (hby : Bytes base b ys wr) (hbel : Below base w wr)
    (hown : w1.ownsRow base 5 1 v' (ys.length + 1) (ys.map (Value.int .u8) ++ [.int .u8 (k % 128 + 128)])) (hg : (wr.alloc o).grownBy w1 b.ownBlock) : PutRel base n w v' (.int .i64 (k / 128)) w1 := by
  obtain ⟨g, rfl⟩ : ∃ g, f = g + 1 := by
    cases f with
    | zero => exfalso; simp at H0 H1; omega
    | succ g => exact ⟨g, rfl⟩
  rw [Int.pow_succ] at H0 H1
  refine ⟨ys ++ [k % 128 + 128], k / 128, g, rfl, ?_, ?_, by omega, by omega, ?_, by simp; omega, Bytes.snoc hown, grown_below hby hbel hbase hg⟩
  · generalize (128 : Int) ^ g = P at *
    omega
  · generalize (128 : Int) ^ g = P at *
    omega
  · rw [← HY, Leb.putG_next _ k hk]
    simp
set_option maxRecDepth 100000 in
theorem PutS_any (n : Int) (w : World) (h1 : -9223372036854775808 ≤ n) (h2 : n ≤ 9223372036854775807) :
    Calls Tryz.prog 195 #[.int .i64 n] w fun e w' => e = .returned (.string (strOfNums (Leb.putS n))) ∧ Below w.heap.size w w' := by
  obtain ⟨i0, hi, hz0, hz1, hz2⟩ := info_parts info_u8
  have a127 := i64_and127
  go_enter Tryz.func195, Tryz.ntmps195
  go_wp2_with fail
  go_loopw [0, 3] (fun q b wr => PutRel w.heap.size n w b q wr) (fun q _ _ => (intOf q).natAbs)
  case atStart => exact ⟨[], n, 9, rfl, by simp; omega, by simp; omega, h1, h2, rfl, rfl, World.ownsRow_nil _ _ _ _, Below.refl _ _⟩
  case round =>
    obtain ⟨ys, k, f, rfl, hk0, hk1, hk2, hk3, hys, hlen, hby, hbel⟩ := hrel
    have HY := Lib.hid hys
    have HL := Lib.hid hlen
    have H0 := Lib.hid hk0
    have H1 := Lib.hid hk1
    have hsz := hbel.size
    have hyl : ys.length ≤ 9 := by omega
    have o128 := u8_or128_right (k % 128) (by omega) (by omega)
    have q3 : ys.length + 1 ≤ maxLen := by unfold maxLen; omega
    have q4 : (ys.length + 1) * 1 ≤ 140737488355328 := by omega
    have q5 : w.heap.size ≤ wr.heap.size := by omega
    clear hys hlen hk1 hk0
    have hcases : k < -64 ∨ (-64 ≤ k ∧ k < 64) ∨ (-64 ≤ k ∧ 63 < k) := by omega
    rcases hcases with hk | ⟨hk, hk'⟩ | ⟨hk, hk'⟩
    · go_wp2_with (at_builtin; refine wpList_append_own _ rfl _ _ 57 rfl w.heap.size 5 i0 (.int .u8 0) 1 1 Tryz.underlying57 hi hz0 hz1 hz2 rfl (by decide) _ ys.length (ys.map (Value.int .u8)) rfl (World.ownsRow.alloc hby _) ⟨wr.heap.size, 0, none⟩ 1 1 [.int .u8 (k % 128 + 128)] rfl rfl (cell_one_new _ _ _) (one_u8 _) q3 q4 (le_alloc q5) ?_; intro v' w1 hown1 hg1 _; clear q3 q4 q5)
      exact ⟨put_next (Nat.le_refl _) (by omega) hk2 hk3 H0.out H1.out HY.out HL.out hby hbel hown1 hg1, by simp [intOf]; omega⟩
    · go_wp2_with (at_builtin; refine wpList_append_own _ rfl _ _ 57 rfl w.heap.size 5 i0 (.int .u8 0) 1 1 Tryz.underlying57 hi hz0 hz1 hz2 rfl (by decide) _ ys.length (ys.map (Value.int .u8)) rfl (World.ownsRow.alloc hby _) ⟨wr.heap.size, 0, none⟩ 1 1 [.int .u8 (k % 128)] rfl rfl (cell_one_new _ _ _) (one_u8 _) q3 q4 (le_alloc q5) ?_; intro v' w1 hown1 hg1 _; clear q3 q4 q5; have hc := bytes_conv (Bytes.snoc hown1))
      go_ret
      refine ⟨?_, grown_below hby hbel (Nat.le_refl _) hg1⟩
      have e : Leb.putS n = ys ++ [k % 128] := by rw [← Leb.putG_last f k ⟨hk, hk'⟩]; exact HY.out.symm
      rw [e]
      rfl
    · go_wp2_with (at_builtin; refine wpList_append_own _ rfl _ _ 57 rfl w.heap.size 5 i0 (.int .u8 0) 1 1 Tryz.underlying57 hi hz0 hz1 hz2 rfl (by decide) _ ys.length (ys.map (Value.int .u8)) rfl (World.ownsRow.alloc hby _) ⟨wr.heap.size, 0, none⟩ 1 1 [.int .u8 (k % 128 + 128)] rfl rfl (cell_one_new _ _ _) (one_u8 _) q3 q4 (le_alloc q5) ?_; intro v' w1 hown1 hg1 _; clear q3 q4 q5)
      exact ⟨put_next (Nat.le_refl _) (by omega) hk2 hk3 H0.out H1.out HY.out HL.out hby hbel hown1 hg1, by simp [intOf]; omega⟩
end Go.Proofs.YtekonefnniaheaaGreat
namespace Go.Proofs.YtekonefnniaheaaGreat
open Go.RowKit
open Leb (byt len7 lenF sum7 sg7)

theorem u8_and127 (n : Nat) (h : n < 256) : bits .and .u8 (n : Int) 127 = (n : Int) % 128 :=
  bits_mask .u8 8 (by decide) wraps_u8 7 (by decide) n (by omega) (by omega)
theorem or_sum' (s : ByteArray) (m : Nat) (hm : m ≤ 9) : bits .or .i64 (wrap64 (sum7 s m)) (wrap64 ((byt s m : Int) % 128 * 2 ^ (7 * m))) = wrap64 (sum7 s (m + 1)) := by
  have h := Leb.or_sum s m hm
  have e : ((byt s m % 128 : Nat) : Int) = (byt s m : Int) % 128 := by omega
  rw [e] at h
  exact h

/-- What takeSevens gives: the bits, and how many bytes. -/
def sevN (s : ByteArray) (most : Nat) : Int := if len7 s most = 0 then 0 else wrap64 (sum7 s (len7 s most))
theorem sevN_none {s : ByteArray} {most : Nat} (h : len7 s most = 0) : sevN s most = 0 := if_pos h
theorem sevN_some {s : ByteArray} {most n : Nat} (h : len7 s most = n + 1) : sevN s most = wrap64 (sum7 s (n + 1)) := by
  unfold sevN
  rw [if_neg (by omega), h]

def SevAt (s : ByteArray) (most : Nat) (a : Act) : Prop :=
  ∃ (m : Nat) (u8 u9 u10 u11 u12 u13 u14 u15 u16 u17 u18 u19 u20 u21 u22 u23 u24 u25 u26 u27 u28 u29 u30 u31 u32 u33 u34 : Value), a = { tmps := #[.string s, .int .i64 most, undef, undef, .int .i64 0, .int .i64 0, .int .i64 (wrap64 (sum7 s m)), .int .i64 m, u8, u9, u10, u11, u12, u13, u14, u15, u16, u17, u18, u19, u20, u21, u22, u23, u24, u25, u26, u27, u28, u29, u30, u31, u32, u33, u34], defers := [] } ∧ m ≤ s.size ∧ m ≤ most ∧ lenF s most (most - m) m = len7 s most

theorem wrap64_zero : wrap64 0 = 0 := IntWalk.wrap64_in 0 (by decide)
theorem SevAt_start (s : ByteArray) (most : Nat) : SevAt s most { tmps := #[.string s, .int .i64 most, undef, undef, .int .i64 0, .int .i64 0, .int .i64 0, .int .i64 0, undef, undef, undef, undef, undef, undef, undef, undef, undef, undef, undef, undef, undef, undef, undef, undef, undef, undef, undef, undef, undef, undef, undef, undef, undef, undef, undef], defers := [] } := by
  refine ⟨0, undef, undef, undef, undef, undef, undef, undef, undef, undef, undef, undef, undef, undef, undef, undef, undef, undef, undef, undef, undef, undef, undef, undef, undef, undef, undef, undef, ?_, by omega, by omega, rfl⟩
  have h : wrap64 ((sum7 s 0 : Nat) : Int) = 0 := wrap64_zero
  rw [h]
  rfl

set_option maxRecDepth 100000 in
theorem sevens_any (s : ByteArray) (most : Nat) (hs : s.size ≤ maxLen) (h1 : most ≤ 10) (w : World) :
    Calls Tryz.prog 186 #[.string s, .int .i64 most] w fun e w' => e = .returned (.tuple #[.int .i64 (sevN s most), .int .i64 (len7 s most)]) ∧ w = w' := by
  unfold maxLen at hs
  go_enter Tryz.func186, Tryz.ntmps186
  go_wp2_with fail
  refine wp_scope_label 0 (fun a' w' => w = w' ∧ SevAt s most a') (fun a' _ => (10 - intOf (a'.tmps.getD 7 undef)).toNat) rfl ?_ ?_
  · rintro a' w' ⟨rfl, m, u8, u9, u10, u11, u12, u13, u14, u15, u16, u17, u18, u19, u20, u21, u22, u23, u24, u25, u26, u27, u28, u29, u30, u31, u32, u33, u34, rfl, hm, hm2, hF⟩
    by_cases hlt : m < s.size ∧ m < most
    · obtain ⟨h2, h3⟩ := hlt
      obtain ⟨f, hf⟩ : ∃ f, most - m = f + 1 := ⟨most - m - 1, by omega⟩
      rw [hf] at hF
      have e1 : ((m : Int) == (most : Int)) = false := by simp; omega
      have e2 : ((m : Int) == (s.size : Int)) = false := by simp; omega
      have e3 := Leb.byt_get s m h2
      have e4 := u8_and127 (byt s m) (Leb.byt_lt s m)
      have e5 := Leb.byt_lt s m
      have e6 := or_sum' s m (by omega)
      by_cases hb : 128 ≤ byt s m
      · rw [Leb.lenF_next s most f m h2 h3 hb] at hF
        have HF := Lib.hid hF
        have hfe : f = most - (m + 1) := by omega
        have HE := Lib.hid hfe
        clear hF hf hfe
        go_wp2
        go_step3
        refine ⟨rfl, ⟨rfl, m + 1, _, _, _, _, _, _, _, _, _, _, _, _, _, _, _, _, _, _, _, _, _, _, _, _, _, _, _, rfl, by omega, by omega, ?_⟩, by simp [intOf]; omega⟩
        rw [← HE.out]
        exact HF.out
      · rw [Leb.lenF_here s most f m h2 h3 (by omega)] at hF
        have HF := Lib.hid hF
        clear hF hf
        go_wp2
        simp only [Exit.jump]
        go_ret2
        rw [sevN_some HF.out.symm, ← HF.out]
        exact ⟨rfl, rfl⟩
    · rw [Leb.lenF_end s most _ m (by omega)] at hF
      have h0 : len7 s most = 0 := hF.symm
      have H0 := Lib.hid h0
      clear hF h0
      by_cases hmm : m = most
      · subst hmm
        go_wp2
        simp only [Exit.jump]
        go_ret2
        rw [sevN_none H0.out, H0.out]
        exact ⟨rfl, rfl⟩
      · have e1 : ((m : Int) == (most : Int)) = false := by simp; omega
        have e2 : m = s.size := by omega
        subst e2
        go_wp2
        simp only [Exit.jump]
        go_ret2
        rw [sevN_none H0.out, H0.out]
        exact ⟨rfl, rfl⟩
  · intro hpass
    go_wp2
    go_step3
    rename_i hK
    exact hK _ _ (hpass.out _ _ ⟨rfl, SevAt_start s most⟩)

/-! ### TakeU -/
def okU (s : ByteArray) : Bool := decide (len7 s 5 ≠ 0 ∧ sum7 s (len7 s 5) < 4294967296)
def uN (s : ByteArray) : Int := if okU s then sum7 s (len7 s 5) else 0
def uR (s : ByteArray) : ByteArray := if okU s then s.extract (len7 s 5) s.size else ⟨#[]⟩
def uE (s : ByteArray) : Int := if okU s then 0 else 2
def uTup (s : ByteArray) : Value := .tuple #[.int .i64 (uN s), .string (uR s), .int .i64 (uE s)]
theorem uTup_bad {s : ByteArray} (h : okU s = false) : uTup s = .tuple #[.int .i64 0, .string ⟨#[]⟩, .int .i64 2] := by
  unfold uTup uN uR uE
  rw [h]
  rfl
theorem uTup_good {s : ByteArray} (h : okU s = true) : uTup s = .tuple #[.int .i64 (sum7 s (len7 s 5)), .string (s.extract (len7 s 5) s.size), .int .i64 0] := by
  unfold uTup uN uR uE
  rw [h]
  rfl
theorem okU_none {s : ByteArray} (h : len7 s 5 = 0) : okU s = false := decide_eq_false (by omega)
theorem okU_big {s : ByteArray} (h : 4294967296 ≤ sum7 s (len7 s 5)) : okU s = false := decide_eq_false (by omega)
theorem okU_yes {s : ByteArray} (h0 : len7 s 5 ≠ 0) (h : sum7 s (len7 s 5) < 4294967296) : okU s = true := decide_eq_true ⟨h0, h⟩
theorem sum7_lt' (s : ByteArray) (k : Nat) (h : k ≤ 9) : sum7 s k < 9223372036854775808 := by
  have h1 := Leb.sum7_lt s k
  rw [Leb.pow7] at h1
  exact Leb.below63 _ _ (by omega) h1
theorem sevN_small {s : ByteArray} {most : Nat} (hm : most ≤ 9) : sevN s most = if len7 s most = 0 then 0 else (sum7 s (len7 s most) : Int) := by
  unfold sevN
  split
  · rfl
  · have h := sum7_lt' s (len7 s most) (by have := (Leb.len7_le s most).1; omega)
    exact IntWalk.wrap64_in _ (by omega)

theorem TakeU_any (s : ByteArray) (hs : s.size ≤ maxLen) (w : World) :
    Calls Tryz.prog 168 #[.string s] w fun e w' => e = .returned (uTup s) ∧ Below w.heap.size w w' := by
  have hs' := hs
  unfold maxLen at hs'
  have hle := Leb.len7_le s 5
  have hN := sevN_small (s := s) (most := 5) (by decide)
  by_cases h0 : len7 s 5 = 0
  · rw [if_pos h0] at hN
    have HP := Lib.hid (uTup_bad (okU_none h0))
    go_enter Tryz.func168, Tryz.ntmps168
    go_wp2_with (go_at_call 186; refine (sevens_any s 5 hs (by decide) _).mono ?_; rintro e w' ⟨rfl, rfl⟩)
    go_ret3
    rw [HP.out]
    exact ⟨rfl, Below.refl _ _⟩
  · rw [if_neg h0] at hN
    have h0' : ((len7 s 5 : Int) == 0) = false := by simp; omega
    by_cases hb : 4294967296 ≤ sum7 s (len7 s 5)
    · have HP := Lib.hid (uTup_bad (okU_big hb))
      go_enter Tryz.func168, Tryz.ntmps168
      go_wp2_with (go_at_call 186; refine (sevens_any s 5 hs (by decide) _).mono ?_; rintro e w' ⟨rfl, rfl⟩)
      go_ret3
      rw [HP.out]
      exact ⟨rfl, Below.refl _ _⟩
    · have HP := Lib.hid (uTup_good (okU_yes h0 (by omega)))
      go_enter Tryz.func168, Tryz.ntmps168
      go_wp2_with (go_at_call 186; refine (sevens_any s 5 hs (by decide) _).mono ?_; rintro e w' ⟨rfl, rfl⟩)
      go_quiet (fail)
      go_wp2
      go_ret3
      rw [HP.out]
      exact ⟨rfl, below_drewN (Below.refl _ _) _⟩

end Go.Proofs.YtekonefnniaheaaGreat
namespace Go.Proofs.YtekonefnniaheaaGreat
open Go.RowKit
open Leb (byt len7 lenF sum7 sg7)

def okS (s : ByteArray) (most : Nat) (half : Int) : Bool :=
  decide (len7 s most ≠ 0 ∧ (len7 s most = 10 → byt s 9 = 0 ∨ byt s 9 = 127) ∧ -half ≤ sg7 s (len7 s most) ∧ sg7 s (len7 s most) < half)
def sN (s : ByteArray) (most : Nat) (half : Int) : Int := if okS s most half then sg7 s (len7 s most) else 0
def sR (s : ByteArray) (most : Nat) (half : Int) : ByteArray := if okS s most half then s.extract (len7 s most) s.size else ⟨#[]⟩
end Go.Proofs.YtekonefnniaheaaGreat
namespace Go.Proofs.YtekonefnniaheaaGreat
open Go.RowKit
open Leb (byt len7 lenF sum7 sg7)

theorem okU_parts {s : ByteArray} (h : okU s = true) : len7 s 5 ≠ 0 ∧ sum7 s (len7 s 5) < 4294967296 := of_decide_eq_true h
theorem ext_app (l : List Int) (more : ByteArray) : (strOfNums l ++ more).extract l.length (strOfNums l ++ more).size = more :=
  ByteArray.extract_append_eq_right (strOfNums_size l).symm (ByteArray.size_append)

theorem back_U {n : Int} (more : ByteArray) (h0 : 0 ≤ n) (h1 : n < 4294967296) :
    uTup (strOfNums (Leb.putU n) ++ more) = .tuple #[.int .i64 n, .string more, .int .i64 0] := by
  obtain ⟨hL, hs⟩ := Leb.putU_laid n more h0 (by omega)
  have hsh : (Leb.putU n).length ≤ 5 := by
    unfold Leb.putU
    rw [if_neg (by omega)]
    exact Leb.putF_short 10 n 5 h0 (by simp; omega) (by decide)
  have hlen := hL.len7 5 hsh
  have hp := hL.pos
  have hok : okU (strOfNums (Leb.putU n) ++ more) = true := okU_yes (by rw [hlen]; omega) (by rw [hlen]; omega)
  rw [uTup_good hok, hlen, hs, ext_app]
end Go.Proofs.YtekonefnniaheaaGreat
namespace Go.Proofs.YtekonefnniaheaaGreat
open Go.RowKit
open Leb (byt len7 lenF sum7 sg7)

/-- The bytes of the first k numbers behind how many there are. -/
def rowL (n : Int) (zs : List Int) (k : Nat) : List Int := Leb.putU n ++ (zs.take k).flatMap Leb.putU
theorem rowL_zero (n : Int) (zs : List Int) : rowL n zs 0 = Leb.putU n := by simp [rowL]
theorem rowL_succ (n : Int) (zs : List Int) (k : Nat) (h : k < zs.length) : rowL n zs (k + 1) = rowL n zs k ++ Leb.putU (zs.getD k 0) := by
  have e : zs.take (k + 1) = zs.take k ++ [zs.getD k 0] := by
    rw [List.take_succ_eq_append_getElem h, List.getD_eq_getElem?_getD, List.getElem?_eq_getElem h]
    rfl
  unfold rowL
  rw [e, List.flatMap_append, List.flatMap_cons, List.flatMap_nil, List.append_nil, List.append_assoc]
theorem flat_length (zs : List Int) : (zs.flatMap Leb.putU).length ≤ 10 * zs.length := by
  induction zs with
  | nil => simp
  | cons z zs ih =>
    have := Leb.putU_length z
    rw [List.flatMap_cons, List.length_append, List.length_cons]
    omega
theorem rowL_length (n : Int) (zs : List Int) (k : Nat) : (rowL n zs k).length ≤ 10 + 10 * k := by
  unfold rowL
  have h1 := Leb.putU_length n
  have h2 := flat_length (zs.take k)
  have h3 : (zs.take k).length ≤ k := List.length_take_le _ _
  simp only [List.length_append]
  omega
set_option maxHeartbeats 400000 in
theorem PutAll_any (a : Option Addr) (len cap : Nat) (zs : List Int) (w : World) (hv : View w a len zs) (hlen : len ≤ 1000000) (hz : len ≤ zs.length) (hr : ∀ i, i < len → zs.getD i 0 ≤ 9223372036854775807) :
    Calls Tryz.prog 196 #[.slice a len cap] w fun e w' => e = .returned (.string (strOfNums (rowL len zs len))) ∧ Below w.heap.size w w' := by
  have HV := Lib.hid hv
  have HR := Lib.hid hr
  have HI : Hid ((len : Int) ≤ 9223372036854775807) := Lib.hid (by omega)
  clear hv hr
  go_enter Tryz.func196, Tryz.ntmps196
  go_wp2_with (go_at_call 125; refine (appendU_any w.heap.size _ [] len _ (World.ownsRow_nil _ _ _ _) (Nat.le_refl _) (by simp) HI.out).mono ?_; rintro e w1 ⟨v, rfl, hby, hb⟩)
  go_loopw [3, 11] (fun b i wr => ∃ k : Nat, i = .int .i64 k ∧ k ≤ len ∧ Bytes w.heap.size b (rowL len zs k) wr ∧ Below w.heap.size w wr) (fun _ i _ => len - (intOf i).toNat)
  case atStart => exact ⟨0, rfl, by omega, by rw [rowL_zero]; simpa only [List.nil_append] using hby, hb⟩
  case round =>
    obtain ⟨k, rfl, hk, hby2, hb2⟩ := hrel
    have hsz := hb2.size
    clear hby hb
    by_cases hlt : k < len
    · obtain ⟨b, off, rfl, hc⟩ := HV.out.resolve_left (by omega)
      have hc1 := hc k hlt
      have hbl : b < w.heap.size := World.block_lt_of_cell? w _ hc1
      have hcr := (hb2.cell (p := ⟨b, off + k, none⟩) hbl).trans hc1
      have HL : Hid ((rowL len zs k).length ≤ 1000000000) := Lib.hid (by have := rowL_length len zs k; omega)
      have HZ : Hid (zs.getD k 0 ≤ 9223372036854775807) := Lib.hid (HR.out k hlt)
      have HS := Lib.hid (rowL_succ len zs k (by omega))
      clear hc hc1
      go_wp2_with (go_at_call 125; refine (appendU_any w.heap.size _ (rowL len zs k) _ _ hby2 hsz HL.out HZ.out).mono ?_; rintro e w2 ⟨v2, rfl, hby3, hb3⟩)
      exact ⟨⟨k + 1, by go_num, by omega, by rw [HS.out]; exact hby3, hb2.trans hb3⟩, by simp [intOf]; omega⟩
    · have hke : k = len := by omega
      subst hke
      have hcv := bytes_conv hby2
      go_wp2_with fail
      go_ret
      exact ⟨rfl, hb2⟩

set_option maxHeartbeats 400000 in
set_option maxRecDepth 100000 in
theorem refPutAll_any (a : Option Addr) (len cap : Nat) (zs : List Int) (w : World) (hv : View w a len zs) (hlen : len ≤ 1000000) (hz : len ≤ zs.length) (hr : ∀ i, i < len → zs.getD i 0 ≤ 9223372036854775807) :
    Calls Tryz.prog 64 #[.slice a len cap] w fun e w' => e = .returned (.string (strOfNums (rowL len zs len))) ∧ Below w.heap.size w w' := by
  have HV := Lib.hid hv
  have HR := Lib.hid hr
  have HI : Hid ((len : Int) ≤ 9223372036854775807) := Lib.hid (by omega)
  have hns := strOfNums_size
  clear hv hr
  go_enter Tryz.func64, Tryz.ntmps64
  go_wp2_with (go_at_call 58; refine (refPutU_any _ _ HI.out).mono ?_; rintro e w1 ⟨rfl, hb⟩)
  go_loopw [3, 4] (fun b i wr => ∃ k : Nat, i = .int .i64 k ∧ k ≤ len ∧ b = .string (strOfNums (rowL len zs k)) ∧ Below w.heap.size w wr) (fun _ i _ => len - (intOf i).toNat)
  case atStart => exact ⟨0, rfl, by omega, by rw [rowL_zero], hb⟩
  case round =>
    obtain ⟨k, rfl, hk, rfl, hb2⟩ := hrel
    have hsz := hb2.size
    clear hb
    by_cases hlt : k < len
    · obtain ⟨b, off, rfl, hc⟩ := HV.out.resolve_left (by omega)
      have hc1 := hc k hlt
      have hbl : b < w.heap.size := World.block_lt_of_cell? w _ hc1
      have hcr := (hb2.cell (p := ⟨b, off + k, none⟩) hbl).trans hc1
      have hz1 := HR.out k hlt
      have hs1 := rowL_succ len zs k (by omega)
      have hl1 := rowL_length len zs k
      clear hc hc1
      revert hcr hz1 hs1
      generalize zs.getD k 0 = z
      intro hcr hz1 hs1
      have HZ := Lib.hid hz1
      have HS := Lib.hid hs1
      have hl2 := Leb.putU_length z
      clear hz1 hs1
      go_wp2_with (go_at_call 58; refine (refPutU_any _ _ HZ.out).mono ?_; rintro e w2 ⟨rfl, hb3⟩)
      exact ⟨⟨k + 1, by go_num, by omega, by rw [HS.out, strOfNums_app], hb2.trans (hb3.mono hsz)⟩, by simp [intOf]; omega⟩
    · have hke : k = len := by omega
      subst hke
      go_wp2_with fail
      go_ret
      exact ⟨rfl, hb2⟩
end Go.Proofs.YtekonefnniaheaaGreat
namespace Go.Proofs.YtekonefnniaheaaGreat
open Go.RowKit

namespace Leb
theorem putF_byte (f : Nat) : ∀ (n : Int), 0 ≤ n → ∀ z ∈ putF f n, 0 ≤ z ∧ z < 256 := by
  induction f with
  | zero => intro n _ z hz; simp [putF] at hz
  | succ f ih =>
    intro n h z hz
    by_cases h1 : n < 128
    · rw [putF_last f n h1] at hz
      simp at hz
      omega
    · rw [putF_next f n (by omega)] at hz
      rcases List.mem_cons.1 hz with h2 | h2
      · omega
      · exact ih _ (by omega) z h2
theorem putG_byte (f : Nat) : ∀ (n : Int), ∀ z ∈ putG f n, 0 ≤ z ∧ z < 256 := by
  induction f with
  | zero => intro n z hz; simp [putG] at hz
  | succ f ih =>
    intro n z hz
    by_cases h1 : -64 ≤ n ∧ n < 64
    · rw [putG_last f n h1] at hz
      simp at hz
      omega
    · rw [putG_next f n h1] at hz
      rcases List.mem_cons.1 hz with h2 | h2
      · omega
      · exact ih _ z h2
theorem putU_byte (n : Int) : ∀ z ∈ putU n, 0 ≤ z ∧ z < 256 := by
  unfold putU
  split
  · simp
  · exact putF_byte 10 n (by omega)
theorem putS_byte (n : Int) : ∀ z ∈ putS n, 0 ≤ z ∧ z < 256 := putG_byte 10 n
theorem putS_length (n : Int) : (putS n).length ≤ 10 := putG_length 10 n
end Leb
open Leb (putU putS)
/-- An opcode's bytes. -/
def opB (op : Int) : List Int := if op < 64512 then [op % 256] else 252 :: putU (op - 64512)
/-- Numbers' bytes: how many there are, and they. -/
def allB (n : List Int) : List Int := putU n.length ++ n.flatMap putU
theorem rowL_all (n : List Int) : rowL n.length n n.length = allB n := by unfold rowL allB; rw [List.take_length]
/-- An alignment's bytes, and the memory's. -/
def placeB (b m : Int) : List Int := if m = 0 then putU b else putU (b + 64) ++ putU m
/-- The bytes of an instruction's numbers. -/
def fldB (sh a b m : Int) (n : List Int) : List Int :=
  if sh = 2 ∨ sh = 10 then putS a else if sh = 3 then putU a else if sh = 4 then allB n ++ putU a else if sh = 5 then putU a ++ putU m else if sh = 6 then 1 :: [a % 256]
  else if sh = 7 then placeB b m ++ putU a else if sh = 8 then putU m else if sh = 9 then putU m ++ putU a else if sh = 11 then [112] else []
theorem allB_length (n : List Int) : (allB n).length ≤ 10 + 10 * n.length := by
  unfold allB
  have h1 := Leb.putU_length n.length
  have h2 := flat_length n
  rw [List.length_append]
  omega
theorem opB_length (op : Int) : (opB op).length ≤ 11 := by
  unfold opB
  split
  · simp
  · have := Leb.putU_length (op - 64512)
    rw [List.length_cons]
    omega
theorem placeB_length (b m : Int) : (placeB b m).length ≤ 20 := by
  unfold placeB
  have h1 := Leb.putU_length b
  have h2 := Leb.putU_length (b + 64)
  have h3 := Leb.putU_length m
  split
  · omega
  · rw [List.length_append]; omega
theorem fldB_length (sh a b m : Int) (n : List Int) : (fldB sh a b m n).length ≤ 30 + 10 * n.length := by
  have h1 := Leb.putU_length a
  have h2 := Leb.putU_length m
  have h3 := Leb.putS_length a
  have h4 := allB_length n
  have h5 := placeB_length b m
  unfold fldB
  split
  · omega
  split
  · omega
  split
  · rw [List.length_append]; omega
  split
  · rw [List.length_append]; omega
  split
  · simp only [List.length_cons, List.length_nil]; omega
  split
  · rw [List.length_append]; omega
  split
  · omega
  split
  · rw [List.length_append]; omega
  split
  · simp only [List.length_cons, List.length_nil]; omega
  · simp only [List.length_nil]; omega
theorem app_byte {x y : List Int} (hx : ∀ z ∈ x, 0 ≤ z ∧ z < 256) (hy : ∀ z ∈ y, 0 ≤ z ∧ z < 256) : ∀ z ∈ x ++ y, 0 ≤ z ∧ z < 256 := by
  intro z hz
  rcases List.mem_append.1 hz with h | h
  · exact hx z h
  · exact hy z h
theorem one_byte (c : Int) : ∀ z ∈ [c % 256], 0 ≤ z ∧ z < 256 := by
  intro z hz
  simp at hz
  omega
theorem opB_byte (op : Int) : ∀ z ∈ opB op, 0 ≤ z ∧ z < 256 := by
  unfold opB
  split
  · exact one_byte op
  · exact app_byte (x := [252]) (by simp) (Leb.putU_byte _)
theorem allB_byte (n : List Int) : ∀ z ∈ allB n, 0 ≤ z ∧ z < 256 := by
  unfold allB
  refine app_byte (Leb.putU_byte _) fun z hz => ?_
  obtain ⟨x, _, hx⟩ := List.mem_flatMap.1 hz
  exact Leb.putU_byte x z hx
theorem placeB_byte (b m : Int) : ∀ z ∈ placeB b m, 0 ≤ z ∧ z < 256 := by
  unfold placeB
  split
  · exact Leb.putU_byte _
  · exact app_byte (Leb.putU_byte _) (Leb.putU_byte _)
theorem fldB_byte (sh a b m : Int) (n : List Int) : ∀ z ∈ fldB sh a b m n, 0 ≤ z ∧ z < 256 := by
  unfold fldB
  split
  · exact Leb.putS_byte _
  split
  · exact Leb.putU_byte _
  split
  · exact app_byte (allB_byte _) (Leb.putU_byte _)
  split
  · exact app_byte (Leb.putU_byte _) (Leb.putU_byte _)
  split
  · exact app_byte (x := [1]) (by simp) (one_byte a)
  split
  · exact app_byte (placeB_byte _ _) (Leb.putU_byte _)
  split
  · exact Leb.putU_byte _
  split
  · exact app_byte (Leb.putU_byte _) (Leb.putU_byte _)
  split
  · simp
  · simp
theorem insOne_any (n : Int) (w : World) :
    Calls Tryz.prog 194 #[.int .i64 n] w fun e w' => e = .returned (.string (strOfNums [n % 256])) ∧ Below w.heap.size w w' := by
  have hu : IntKind.u8.wrap n = n % 256 := by
    simp [IntKind.wrap, IntKind.signed, IntKind.bits]
  have hcv := one_conv (n % 256) w
  have HB := Lib.hid ((Below.refl w.heap.size w).alloc (Nat.le_refl _) (.cells #[.int .u8 (n % 256)] 5))
  go_enter Tryz.func194, Tryz.ntmps194
  go_wp2_with fail
  go_ret
  exact ⟨rfl, HB.out⟩
set_option maxRecDepth 100000 in
theorem opcode_any (op : Int) (w : World) (h : op ≤ 9223372036854775807) :
    Calls Tryz.prog 180 #[.int .i64 op] w fun e w' => e = .returned (.string (strOfNums (opB op))) ∧ Below w.heap.size w w' := by
  have HO := Lib.hid insOne_any
  unfold opB
  by_cases h1 : op < 64512
  · rw [if_pos h1]
    go_enter Tryz.func180, Tryz.ntmps180
    go_wp2_with (go_at_call 194; refine (HO.out _ _).mono ?_; rintro e w1 ⟨rfl, hb⟩)
    go_ret
    exact ⟨rfl, hb⟩
  · rw [if_neg h1]
    have HP := Lib.hid (fun w => PutU_any (op - 64512) w (by omega))
    have e1 : IntKind.i64.wrap (op - 64512) = op - 64512 := by rw [IntKind.wrap_i64]; omega
    have hns := strOfNums_size
    have hl := Leb.putU_length (op - 64512)
    have HC := Lib.hid (strOfNums_cons 252 (putU (op - 64512)))
    go_enter Tryz.func180, Tryz.ntmps180
    go_wp2_with (first
      | (go_at_call 194; refine (HO.out _ _).mono ?_; rintro e w1 ⟨rfl, hb⟩)
      | (go_at_call 86; refine (HP.out _).mono ?_; rintro e w2 ⟨rfl, hb2⟩))
    go_ret
    exact ⟨by rw [← HC.out]; rfl, hb.trans (hb2.mono hb.size)⟩
set_option maxRecDepth 100000 in
theorem place_any (op a b m : Int) (xn xl xe : Option Addr) (nl ll el nc lc ec : Nat) (w : World) (hb0 : 0 ≤ b) (hb : b ≤ 9223372036854775000) (hm : m ≤ 9223372036854775807) :
    Calls Tryz.prog 197 #[.agg #[.int .i64 op, .int .i64 a, .int .i64 b, .int .i64 m, .slice xn nl nc, .slice xl ll lc, .slice xe el ec]] w fun e w' => e = .returned (.string (strOfNums (placeB b m))) ∧ Below w.heap.size w w' := by
  have HB0 := Lib.hid ((Below.refl w.heap.size w).alloc (Nat.le_refl _) (.cells #[.int .i64 op, .int .i64 a, .int .i64 b, .int .i64 m, .slice xn nl nc, .slice xl ll lc, .slice xe el ec] 50))
  have D0 : Hid (InsAt (w.alloc (.cells #[.int .i64 op, .int .i64 a, .int .i64 b, .int .i64 m, .slice xn nl nc, .slice xl ll lc, .slice xe el ec] 50)) w.heap.size op a b m xn xl xe nl ll el nc lc ec) := Lib.hid ⟨World.cell?_alloc_mark w _ _ _ 0, World.cell?_alloc_mark w _ _ _ 1, World.cell?_alloc_mark w _ _ _ 2, World.cell?_alloc_mark w _ _ _ 3, World.cell?_alloc_mark w _ _ _ 4, World.cell?_alloc_mark w _ _ _ 5, World.cell?_alloc_mark w _ _ _ 6⟩
  obtain ⟨d0, d1, d2, d3, d4, d5, d6⟩ := D0.out
  unfold placeB
  by_cases h0 : m = 0
  · rw [if_pos h0]
    subst h0
    have HP := Lib.hid (fun w => PutU_any b w (by omega))
    go_enter Tryz.func197, Tryz.ntmps197
    go_wp2_with (go_at_call 86; refine (HP.out _).mono ?_; rintro e w2 ⟨rfl, hb2⟩)
    go_ret
    exact ⟨rfl, HB0.out.trans (hb2.mono (by simp))⟩
  · rw [if_neg h0]
    have h1 := eq_no h0
    have HP := Lib.hid (fun w => PutU_any (b + 64) w (by omega))
    have HM := Lib.hid (fun w => PutU_any m w hm)
    have e1 : IntKind.i64.wrap (b + 64) = b + 64 := by rw [IntKind.wrap_i64]; omega
    have hns := strOfNums_size
    have hl := Leb.putU_length (b + 64)
    have hl2 := Leb.putU_length m
    have HC := Lib.hid (strOfNums_app (putU (b + 64)) (putU m))
    have hno : ¬ 9223372036854775807 < (putU (b + 64)).length + (putU m).length := by omega
    have DS : Hid ((w.alloc (.cells #[.int .i64 op, .int .i64 a, .int .i64 b, .int .i64 m, .slice xn nl nc, .slice xl ll lc, .slice xe el ec] 50)).drew.cell? ⟨w.heap.size, 2, none⟩ = some (.int .i64 b) ∧ (w.alloc (.cells #[.int .i64 op, .int .i64 a, .int .i64 b, .int .i64 m, .slice xn nl nc, .slice xl ll lc, .slice xe el ec] 50)).drew.cell? ⟨w.heap.size, 3, none⟩ = some (.int .i64 m)) := Lib.hid ⟨d2, d3⟩
    have hb1 : Below w.heap.size w (w.alloc (.cells #[.int .i64 op, .int .i64 a, .int .i64 b, .int .i64 m, .slice xn nl nc, .slice xl ll lc, .slice xe el ec] 50)).drew := HB0.out.drew
    have hz1 := hb1.size
    clear h0
    go_enter Tryz.func197, Tryz.ntmps197
    go_wp2_with fail
    go_region_held3 (fun w' => w'.cell? ⟨w.heap.size, 2, none⟩ = some (.int .i64 b) ∧ w'.cell? ⟨w.heap.size, 3, none⟩ = some (.int .i64 m))
      (first | exact DS.out | exact DS1.out | exact DS2.out)
      (first
        | (go_at_call 86; refine (HP.out _).mono ?_; rintro e w2 ⟨rfl, hb2⟩; have hb3 := hb1.trans (hb2.mono hz1); clear HP
           have DS1 := Lib.hid (And.intro ((hb2.cell (World.block_lt_of_cell? _ _ DS.out.1)).trans DS.out.1) ((hb2.cell (World.block_lt_of_cell? _ _ DS.out.2)).trans DS.out.2)))
        | (go_at_call 86; refine (HM.out _).mono ?_; rintro e w3 ⟨rfl, hb4⟩; have hb5 := hb3.trans (hb4.mono hb3.size); clear HM
           have DS2 := Lib.hid (And.intro ((hb4.cell (World.block_lt_of_cell? _ _ DS1.out.1)).trans DS1.out.1) ((hb4.cell (World.block_lt_of_cell? _ _ DS1.out.2)).trans DS1.out.2))))
    all_goals
      go_wp2_with fail
      go_ret
      exact ⟨congrArg (fun s => Ending.returned (.string s)) HC.out, hb5⟩
end Go.Proofs.YtekonefnniaheaaGreat
