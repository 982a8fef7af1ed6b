/- What is read may be laid, and is laid in no more bytes. -/
import Derived.Test.YtfhifnkekegkkaaInsBk
namespace Go.Proofs.Ytfhifnkekegkkaa
open Go.RowKit
open Leb (byt byt_lt byt_get len7 sum7 sg7 putU putS)

theorem uT_only {s r : ByteArray} {n : Int} (h : uT s = .ok (n, r)) : (0 ≤ n ∧ n ≤ 4294967295) ∧ (putU n).length + r.size ≤ s.size := by
  obtain ⟨hok, hn, hr⟩ := uT_ok h
  have h1 := short_U hok
  have h2 := (okU_parts hok).2
  have h3 := (Leb.len7_le s 5).2
  rw [hn] at h1
  rw [← hr, ByteArray.size_extract]
  omega
theorem sT_ok {s r : ByteArray} {most : Nat} {half n : Int} (h : sT s most half = .ok (n, r)) : okS s most half = true ∧ sg7 s (len7 s most) = n ∧ s.extract (len7 s most) s.size = r := by
  unfold sT at h
  split at h
  · rename_i hok
    injection h with h
    injection h with h1 h2
    unfold sN at h1
    unfold sR at h2
    rw [if_pos hok] at h1 h2
    exact ⟨hok, h1, h2⟩
  · cases h
theorem sT_only {s r : ByteArray} {most : Nat} {half n : Int} (h : sT s most half = .ok (n, r)) : (-half ≤ n ∧ n < half) ∧ (putS n).length + r.size ≤ s.size := by
  obtain ⟨hok, hn, hr⟩ := sT_ok h
  obtain ⟨h0, _, h1, h2⟩ := okS_parts hok
  have hb : byt s (len7 s most - 1) < 128 := by
    rcases Leb.len7_prop s most with q | ⟨_, _, _, q, _⟩
    · omega
    · exact q
  have hr2 := Leb.sg7_range s (len7 s most) (by omega) hb
  have h4 : (putS (sg7 s (len7 s most))).length ≤ len7 s most := Leb.putG_short 10 _ _ hr2.1 hr2.2 (by omega)
  have h3 := (Leb.len7_le s most).2
  rw [hn] at h1 h2 h4
  rw [← hr, ByteArray.size_extract]
  omega
theorem yT_only {s r : ByteArray} {t : Int} (h : yT s = .ok (t, r)) : (typeV t).2 = 0 ∧ (t = 127 ∨ t = 126 ∨ t = 112) ∧ 1 + r.size ≤ s.size ∧ ((byt s 0 : Nat) : Int) = t := by
  unfold yT at h
  split at h
  · rename_i he
    injection h with h
    injection h with h1 h2
    unfold tyN at h1
    unfold tyR at h2
    rw [if_pos he] at h1 h2
    have hs : ¬ s.size = 0 := fun q => by unfold tyE at he; rw [if_pos q] at he; cases he
    unfold tyE at he
    rw [if_neg hs] at he
    rw [← h2, ByteArray.size_extract]
    rcases typeV_cases (byt s 0 : Nat) with ⟨a, b⟩ | ⟨a, b⟩ | ⟨a, b⟩ | ⟨a, b⟩ | ⟨a, b⟩ | ⟨a, b⟩ | ⟨a, b⟩
    · rw [b] at h1
      replace h1 : (127 : Int) = t := h1
      subst h1
      exact ⟨by decide, .inl rfl, by omega, a⟩
    · rw [b] at h1
      replace h1 : (126 : Int) = t := h1
      subst h1
      exact ⟨by decide, .inr (.inl rfl), by omega, a⟩
    · rw [b] at h1
      replace h1 : (112 : Int) = t := h1
      subst h1
      exact ⟨by decide, .inr (.inr rfl), by omega, a⟩
    all_goals (rw [b] at he; cases he)
  · cases h
theorem rowsF_only : ∀ (N : Nat) (l0 : List Int) (s : ByteArray) (l : List Int) (r : ByteArray), rowsF N l0 s = some (l, r) → ∃ zs, l = l0 ++ zs ∧ zs.length = N ∧ (∀ z ∈ zs, 0 ≤ z ∧ z ≤ 4294967295) ∧ (zs.flatMap putU).length + r.size ≤ s.size := by
  intro N
  induction N with
  | zero =>
    intro l0 s l r h
    injection h with h
    injection h with h1 h2
    exact ⟨[], by rw [h1, List.append_nil], rfl, fun z hz => absurd hz (by simp), by rw [h2]; simp⟩
  | succ N ih =>
    intro l0 s l r h
    rw [rowsF] at h
    by_cases hu : okU s = true
    · rw [if_pos hu] at h
      obtain ⟨zs, h1, h2, h3, h4⟩ := ih _ _ _ _ h
      have hq : uT s = .ok ((sum7 s (len7 s 5) : Int), s.extract (len7 s 5) s.size) := by unfold uT uN uR; rw [if_pos hu, if_pos hu, if_pos hu]
      obtain ⟨k1, k2⟩ := uT_only hq
      refine ⟨(sum7 s (len7 s 5) : Int) :: zs, by rw [h1, List.append_assoc]; rfl, by rw [List.length_cons, h2], fun z hz => ?_, ?_⟩
      · rcases List.mem_cons.1 hz with rfl | hz
        · exact k1
        · exact h3 z hz
      · rw [List.flatMap_cons, List.length_append]
        omega
    · rw [if_neg hu] at h
      cases h
theorem aT_only {s r : ByteArray} {l : List Int} (h : aT s = .ok (l, r)) : l.length ≤ 1000 ∧ (∀ z ∈ l, 0 ≤ z ∧ z ≤ 4294967295) ∧ (allB l).length + r.size ≤ s.size := by
  unfold aT at h
  split at h
  · rename_i h0
    injection h with h
    by_cases hu : okU s = true
    · by_cases hm : (1000 : Int) < (sum7 s (len7 s 5) : Int)
      · rw [allRes_full hu hm] at h0
        cases h0
      · cases hr : rowsF (sum7 s (len7 s 5)) [] (s.extract (len7 s 5) s.size) with
        | none =>
          rw [allRes_none hu hm hr] at h0
          cases h0
        | some x =>
          obtain ⟨l', r'⟩ := x
          rw [allRes_some hu hm hr] at h
          injection h with h1 h2
          replace h1 : l' = l := h1
          replace h2 : r' = r := h2
          subst h1 h2
          obtain ⟨zs, q1, q2, q3, q4⟩ := rowsF_only _ _ _ _ _ hr
          rw [List.nil_append] at q1
          subst q1
          have hq : uT s = .ok ((sum7 s (len7 s 5) : Int), s.extract (len7 s 5) s.size) := by unfold uT uN uR; rw [if_pos hu, if_pos hu, if_pos hu]
          obtain ⟨k1, k2⟩ := uT_only hq
          refine ⟨by omega, q3, ?_⟩
          unfold allB
          rw [List.length_append, q2]
          omega
    · rw [allRes_bad 1000 (not_true hu)] at h0
      cases h0
  · cases h
theorem putU_pos {n : Int} (h : 0 ≤ n) : 0 < (putU n).length := by
  unfold putU
  rw [if_neg (by omega)]
  by_cases h1 : n < 128
  · rw [Leb.putF_last 9 n h1]; simp
  · rw [Leb.putF_next 9 n (by omega)]; simp
theorem putU_one {n : Int} (h : 0 ≤ n) (h1 : n < 128) : (putU n).length = 1 := by
  unfold putU
  rw [if_neg (by omega), Leb.putF_last 9 n h1]
  rfl
theorem blkT_only {s r : ByteArray} {a : Int} (h : blkT s = .ok (a, r)) : blkB a = true ∧ (-9223372036854775808 ≤ a ∧ a ≤ 9223372036854775807) ∧ (putS a).length + r.size ≤ s.size := by
  have key : ∀ a : Int, a = -64 ∨ a = -1 ∨ a = -2 ∨ a = -16 → blkB a = true ∧ (-9223372036854775808 ≤ a ∧ a ≤ 9223372036854775807) ∧ (putS a).length = 1 := by
    intro a ha
    rcases ha with rfl | rfl | rfl | rfl <;> exact ⟨by decide, by decide, rfl⟩
  unfold blkT at h
  split at h
  · rename_i hin
    split at h
    · injection h with h
      injection h with h1 h2
      subst h1 h2
      obtain ⟨k1, k2, k3⟩ := key (-64) (.inl rfl)
      refine ⟨k1, k2, ?_⟩
      rw [k3, ByteArray.size_extract]
      omega
    · obtain ⟨q, hq, h⟩ := bind_ok h
      obtain ⟨t, r'⟩ := q
      obtain ⟨_, y2, y3, y4⟩ := yT_only hq
      injection h with h
      injection h with h1 h2
      replace h2 : r' = r := h2
      subst h2
      obtain ⟨k1, k2, k3⟩ := key a (by omega)
      exact ⟨k1, k2, by rw [k3]; omega⟩
  · obtain ⟨q, hq, h⟩ := bind_ok h
    obtain ⟨n, r'⟩ := q
    split at h
    · cases h
    · rename_i hneg
      injection h with h
      injection h with h1 h2
      subst h1 h2
      obtain ⟨y1, y2⟩ := sT_only hq
      replace hneg : ¬ n < 0 := hneg
      refine ⟨?_, by omega, y2⟩
      unfold blkB idxB
      rw [decide_eq_true (show 0 ≤ n ∧ n ≤ 4294967295 by omega), Bool.true_or]
theorem opT_only {s r : ByteArray} {op : Int} (h : opT s = .ok (op, r)) : (opB op).length + r.size ≤ s.size := by
  unfold opT at h
  split at h
  · cases h
  rename_i h0
  split at h
  · obtain ⟨q, hq, h⟩ := bind_ok h
    obtain ⟨k, r'⟩ := q
    obtain ⟨y1, y2⟩ := uT_only hq
    injection h with h
    injection h with h1 h2
    replace h1 : 64512 + k = op := h1
    replace h2 : r' = r := h2
    subst h1 h2
    unfold opB
    rw [if_neg (by omega), List.length_cons, show 64512 + k - 64512 = k by omega]
    rw [ByteArray.size_extract] at y2
    omega
  · injection h with h
    injection h with h1 h2
    subst h1 h2
    have := byt_lt s 0
    unfold opB
    rw [if_pos (by omega), ByteArray.size_extract, List.length_singleton]
    omega
theorem placeT_only {s r : ByteArray} {a b m : Int} (h : placeT s = .ok ((a, b, m), r)) : (0 ≤ a ∧ a ≤ 4294967295) ∧ (0 ≤ b ∧ b ≤ 63) ∧ (0 ≤ m ∧ m ≤ 4294967295) ∧ (placeB b m ++ putU a).length + r.size ≤ s.size := by
  unfold placeT at h
  obtain ⟨⟨k, r1⟩, hk, h⟩ := bind_ok h
  have hk := uT_only hk
  have hp := putU_pos hk.1.1
  split at h
  · cases h
  rename_i g1
  replace g1 : ¬ 128 ≤ k := g1
  split at h
  · rename_i g2
    replace g2 : 64 ≤ k := g2
    obtain ⟨⟨x, r2⟩, hx, h⟩ := bind_ok h
    have hx := uT_only (s := r1) hx
    obtain ⟨⟨y, r'⟩, hy, h⟩ := bind_ok h
    have hy := uT_only (s := r2) hy
    simp only [Except.ok.injEq, Prod.mk.injEq] at h
    obtain ⟨⟨rfl, rfl, rfl⟩, rfl⟩ := h
    refine ⟨hy.1, by omega, hx.1, ?_⟩
    have hq := putU_pos hx.1.1
    rw [List.length_append]
    unfold placeB
    split
    · rw [putU_one (n := k - 64) (by omega) (by omega)]
      omega
    · rw [List.length_append, show k - 64 + 64 = k by omega]
      omega
  · rename_i g2
    replace g2 : ¬ 64 ≤ k := g2
    obtain ⟨⟨y, r'⟩, hy, h⟩ := bind_ok h
    have hy := uT_only (s := r1) hy
    simp only [Except.ok.injEq, Prod.mk.injEq] at h
    obtain ⟨⟨rfl, rfl, rfl⟩, rfl⟩ := h
    refine ⟨hy.1, by omega, by decide, ?_⟩
    unfold placeB
    rw [if_pos rfl, List.length_append]
    omega
/-- An instruction's numbers, read, may be. -/
structure NumsGood (op a b m : Int) (n : List Int) (used : Nat) : Prop where
  A : mayAV (shapeV op).1 op a = true
  B : mayBV (shapeV op).1 b = true
  M : mayMV (shapeV op).1 m = true
  N : mayNV (shapeV op).1 n = true
  W : -9223372036854775808 ≤ a ∧ a ≤ 9223372036854775807
  len : (fldB (shapeV op).1 a b m n).length ≤ used
theorem idxB_of {n : Int} (h : 0 ≤ n ∧ n ≤ 4294967295) : idxB n = true := decide_eq_true h
theorem numsT_only {op a b m : Int} {n : List Int} {s r : ByteArray} (her : (shapeV op).2 = 0) (h : numsT op (shapeV op).1 s = .ok ((a, b, m, n), r)) : r.size ≤ s.size ∧ NumsGood op a b m n (s.size - r.size) := by
  have hs : r.size ≤ s.size := numsT_size h
  refine ⟨hs, ?_⟩
  have e10 : (shapeV op).1 = 10 → op = 65 ∨ op = 66 := fun q => shape10 (Prod.ext q her)
  rcases shapeV_in op her with q | q | q | q | q | q | q | q | q | q | q
  all_goals
    rw [q] at h e10
  · rw [show numsT op 1 s = .ok ((0, 0, 0, []), s) from rfl] at h
    simp only [Except.ok.injEq, Prod.mk.injEq] at h
    obtain ⟨⟨rfl, rfl, rfl, rfl⟩, rfl⟩ := h
    exact ⟨by rw [q]; exact rfl, by rw [q]; exact rfl, by rw [q]; exact rfl, by rw [q]; exact rfl, by omega, by rw [q]; show (([] : List Int)).length ≤ _; exact Nat.zero_le _⟩
  · rw [show numsT op 2 s = (blkT s).bind fun q => .ok ((q.1, 0, 0, []), q.2) from rfl] at h
    obtain ⟨⟨x, r'⟩, hx, h⟩ := bind_ok h
    have hx := blkT_only hx
    simp only [Except.ok.injEq, Prod.mk.injEq] at h
    obtain ⟨⟨rfl, rfl, rfl, rfl⟩, rfl⟩ := h
    exact ⟨by rw [q]; exact hx.1, by rw [q]; exact rfl, by rw [q]; exact rfl, by rw [q]; exact rfl, by omega, by rw [q]; show (putS x).length ≤ _; omega⟩
  · rw [show numsT op 3 s = (uT s).bind fun q => .ok ((q.1, 0, 0, []), q.2) from rfl] at h
    obtain ⟨⟨x, r'⟩, hx, h⟩ := bind_ok h
    have hx := uT_only hx
    simp only [Except.ok.injEq, Prod.mk.injEq] at h
    obtain ⟨⟨rfl, rfl, rfl, rfl⟩, rfl⟩ := h
    exact ⟨by rw [q]; exact idxB_of hx.1, by rw [q]; exact rfl, by rw [q]; exact rfl, by rw [q]; exact rfl, by omega, by rw [q]; show (putU x).length ≤ _; omega⟩
  · rw [show numsT op 4 s = (aT s).bind fun q => (uT q.2).bind fun p => .ok ((p.1, 0, 0, q.1), p.2) from rfl] at h
    obtain ⟨⟨ns, r1⟩, hn, h⟩ := bind_ok h
    have hn := aT_only hn
    obtain ⟨⟨x, r'⟩, hx, h⟩ := bind_ok h
    have hx := uT_only (s := r1) hx
    simp only [Except.ok.injEq, Prod.mk.injEq] at h
    obtain ⟨⟨rfl, rfl, rfl, rfl⟩, rfl⟩ := h
    have hall : ns.all idxB = true := List.all_eq_true.2 fun z hz => idxB_of (hn.2.1 z hz)
    exact ⟨by rw [q]; exact idxB_of hx.1, by rw [q]; exact rfl, by rw [q]; exact rfl, by rw [q]; exact (show (decide (ns.length ≤ 1000) && ns.all idxB) = true by rw [decide_eq_true hn.1, hall]; rfl), by omega, by rw [q]; show (allB ns ++ putU x).length ≤ _; rw [List.length_append]; omega⟩
  · rw [show numsT op 5 s = (uT s).bind fun q => (uT q.2).bind fun p => .ok ((q.1, 0, p.1, []), p.2) from rfl] at h
    obtain ⟨⟨x, r1⟩, hx, h⟩ := bind_ok h
    have hx := uT_only hx
    obtain ⟨⟨y, r'⟩, hy, h⟩ := bind_ok h
    have hy := uT_only (s := r1) hy
    simp only [Except.ok.injEq, Prod.mk.injEq] at h
    obtain ⟨⟨rfl, rfl, rfl, rfl⟩, rfl⟩ := h
    exact ⟨by rw [q]; exact idxB_of hx.1, by rw [q]; exact rfl, by rw [q]; exact idxB_of hy.1, by rw [q]; exact rfl, by omega, by rw [q]; show (putU x ++ putU y).length ≤ _; rw [List.length_append]; omega⟩
  · rw [show numsT op 6 s = (typesT s).bind fun q => .ok ((q.1, 0, 0, []), q.2) from rfl] at h
    obtain ⟨⟨x, r'⟩, hx, h⟩ := bind_ok h
    unfold typesT at hx
    obtain ⟨⟨k, r1⟩, hk, hx⟩ := bind_ok hx
    have hk := uT_only hk
    split at hx
    case isFalse => cases hx
    have hx := yT_only (s := r1) hx
    have hp := putU_pos hk.1.1
    simp only [Except.ok.injEq, Prod.mk.injEq] at h
    obtain ⟨⟨rfl, rfl, rfl, rfl⟩, rfl⟩ := h
    exact ⟨by rw [q]; exact (show decide ((typeV x).2 = 0) = true from decide_eq_true hx.1), by rw [q]; exact rfl, by rw [q]; exact rfl, by rw [q]; exact rfl, by omega, by rw [q]; show ([1, x % 256]).length ≤ _; show 2 ≤ _; omega⟩
  · rw [show numsT op 7 s = (placeT s).bind fun q => .ok ((q.1.1, q.1.2.1, q.1.2.2, []), q.2) from rfl] at h
    obtain ⟨⟨⟨x, y, z⟩, r'⟩, hx, h⟩ := bind_ok h
    have hx := placeT_only hx
    simp only [Except.ok.injEq, Prod.mk.injEq] at h
    obtain ⟨⟨rfl, rfl, rfl, rfl⟩, rfl⟩ := h
    exact ⟨by rw [q]; exact idxB_of hx.1, by rw [q]; exact (show (decide (0 ≤ y) && decide (y ≤ 63)) = true by rw [decide_eq_true hx.2.1.1, decide_eq_true hx.2.1.2]; rfl), by rw [q]; exact idxB_of hx.2.2.1, by rw [q]; exact rfl, by omega, by rw [q]; show (placeB y z ++ putU x).length ≤ _; omega⟩
  · rw [show numsT op 8 s = (uT s).bind fun q => .ok ((0, 0, q.1, []), q.2) from rfl] at h
    obtain ⟨⟨x, r'⟩, hx, h⟩ := bind_ok h
    have hx := uT_only hx
    simp only [Except.ok.injEq, Prod.mk.injEq] at h
    obtain ⟨⟨rfl, rfl, rfl, rfl⟩, rfl⟩ := h
    exact ⟨by rw [q]; exact rfl, by rw [q]; exact rfl, by rw [q]; exact idxB_of hx.1, by rw [q]; exact rfl, by omega, by rw [q]; show (putU x).length ≤ _; omega⟩
  · rw [show numsT op 9 s = (uT s).bind fun q => (uT q.2).bind fun p => .ok ((p.1, 0, q.1, []), p.2) from rfl] at h
    obtain ⟨⟨x, r1⟩, hx, h⟩ := bind_ok h
    have hx := uT_only hx
    obtain ⟨⟨y, r'⟩, hy, h⟩ := bind_ok h
    have hy := uT_only (s := r1) hy
    simp only [Except.ok.injEq, Prod.mk.injEq] at h
    obtain ⟨⟨rfl, rfl, rfl, rfl⟩, rfl⟩ := h
    exact ⟨by rw [q]; exact idxB_of hy.1, by rw [q]; exact rfl, by rw [q]; exact idxB_of hx.1, by rw [q]; exact rfl, by omega, by rw [q]; show (putU x ++ putU y).length ≤ _; rw [List.length_append]; omega⟩
  · rw [show numsT op 10 s = (constT op s).bind fun q => .ok ((q.1, 0, 0, []), q.2) from rfl] at h
    obtain ⟨⟨x, r'⟩, hx, h⟩ := bind_ok h
    simp only [Except.ok.injEq, Prod.mk.injEq] at h
    obtain ⟨⟨rfl, rfl, rfl, rfl⟩, rfl⟩ := h
    rcases e10 rfl with rfl | rfl
    · have hx := sT_only (show sT s 5 2147483648 = .ok (x, r') from hx)
      exact ⟨by rw [q]; exact (show (decide ((65 : Int) = 66) || (decide (-2147483648 ≤ x) && decide (x ≤ 2147483647))) = true by rw [decide_eq_true (show -2147483648 ≤ x by omega), decide_eq_true (show x ≤ 2147483647 by omega)]; rfl), by rw [q]; exact rfl, by rw [q]; exact rfl, by rw [q]; exact rfl, by omega, by rw [q]; show (putS x).length ≤ _; omega⟩
    · have hx := sT_only (show sT s 10 9223372036854775808 = .ok (x, r') from hx)
      exact ⟨by rw [q]; exact rfl, by rw [q]; exact rfl, by rw [q]; exact rfl, by rw [q]; exact rfl, by omega, by rw [q]; show (putS x).length ≤ _; omega⟩
  · rw [show numsT op 11 s = (nullT s).bind fun q => .ok ((0, 0, 0, []), q.2) from rfl] at h
    obtain ⟨⟨x, r'⟩, hx, h⟩ := bind_ok h
    unfold nullT at hx
    obtain ⟨⟨k, r1⟩, hk, hx⟩ := bind_ok hx
    have hk := yT_only hk
    split at hx
    case isFalse => cases hx
    injection hx with hx
    injection hx with hx1 hx2
    subst hx1 hx2
    simp only [Except.ok.injEq, Prod.mk.injEq] at h
    obtain ⟨⟨rfl, rfl, rfl, rfl⟩, rfl⟩ := h
    exact ⟨by rw [q]; exact rfl, by rw [q]; exact rfl, by rw [q]; exact rfl, by rw [q]; exact rfl, by omega, by rw [q]; show (([112] : List Int)).length ≤ _; show 1 ≤ _; omega⟩
/-- What a list's reading tells of what it reads. -/
def OnlyL (L : ByteArray → Nat → Nat → LRes) (d : Nat) : Prop := ∀ s n ls la n' r, L s d n = .ok ((ls, la, n'), r) → n ≤ 8192 → okL d ls = true ∧ wfL ls ∧ n' = n + sizL ls ∧ n' ≤ 8192 ∧ (putL ls).length + 1 + r.size ≤ s.size
theorem blockT_only {L : ByteArray → Nat → Nat → LRes} {d : Nat} (hL : OnlyL L (d + 1)) {op a b m : Int} {ns : List Int} {s r : ByteArray} {n n' : Nat} {c : Ins} (h : blockT L op a b m ns s d n = .ok ((c, n'), r)) (hn : n ≤ 8192) :
    ∃ l e, c = .mk op a b m ns l e ∧ okL (d + 1) l = true ∧ okL (d + 1) e = true ∧ wfL l ∧ wfL e ∧ n' = n + sizL l + sizL e ∧ n' ≤ 8192 ∧ (op = 4 ∨ e = []) ∧ (putL l ++ ((if e.length = 0 then [] else 5 :: putL e) ++ [11])).length + r.size ≤ s.size := by
  unfold blockT at h
  obtain ⟨⟨⟨l, la, n1⟩, r1⟩, hl, h⟩ := bind_ok h
  obtain ⟨k1, k2, k3, k4, k5⟩ := hL _ _ _ _ _ _ hl hn
  split at h
  · simp only [Except.ok.injEq, Prod.mk.injEq] at h
    obtain ⟨⟨rfl, rfl⟩, rfl⟩ := h
    refine ⟨l, [], rfl, k1, rfl, k2, by rw [wfL]; trivial, by rw [sizL]; exact k3, k4, .inr rfl, ?_⟩
    rw [if_pos (show ([] : List Ins).length = 0 from rfl), List.nil_append, List.length_append, List.length_singleton]
    omega
  split at h
  · rename_i h4
    obtain ⟨⟨⟨e, la2, n2⟩, r2⟩, he, h⟩ := bind_ok h
    obtain ⟨j1, j2, j3, j4, j5⟩ := hL _ _ _ _ _ _ he k4
    split at h
    · simp only [Except.ok.injEq, Prod.mk.injEq] at h
      obtain ⟨⟨rfl, rfl⟩, rfl⟩ := h
      replace j3 : n2 = n1 + sizL e := j3
      replace j5 : (putL e).length + 1 + r2.size ≤ r1.size := j5
      refine ⟨l, e, rfl, k1, j1, k2, j2, by omega, j4, .inl h4, ?_⟩
      split
      · rw [List.nil_append, List.length_append, List.length_singleton]
        omega
      · rw [List.length_append, List.length_append, List.length_cons, List.length_singleton]
        omega
    · cases h
  · cases h
theorem mayI_of {c : Ins} (her : (shapeV c.op).2 = 0) {u : Nat} (h : NumsGood c.op c.a c.b c.m c.n u) (hl : (shapeV c.op).1 = 2 ∨ c.l = []) (he : c.op = 4 ∨ c.e = []) : mayI c = true := by
  rw [← may_same c her]
  unfold mayPV
  rw [h.A, h.B, h.M, h.N]
  have e1 : (decide ((shapeV c.op).1 = 2) || decide (c.l.length = 0)) = true := by
    rcases hl with q | q
    · rw [decide_eq_true q, Bool.true_or]
    · rw [q, Bool.or_comm]; rfl
  have e2 : (decide (c.op = 4) || decide (c.e.length = 0)) = true := by
    rcases he with q | q
    · rw [decide_eq_true q, Bool.true_or]
    · rw [q, Bool.or_comm]; rfl
  rw [e1, e2]
  rfl
theorem instrT_only {L : ByteArray → Nat → Nat → LRes} {d : Nat} (hL : d < 32 → OnlyL L (d + 1)) {op : Int} {s r : ByteArray} {n n' : Nat} {c : Ins} (h : instrT L op s d n = .ok ((c, n'), r)) :
    okI d c = true ∧ wfI c ∧ n' = n + sizI c ∧ n' ≤ 8192 ∧ c.op = op ∧ (restI c).length + r.size ≤ s.size := by
  unfold instrT at h
  split at h
  · rename_i her
    obtain ⟨⟨⟨a, b, m, ns⟩, r1⟩, hp, h⟩ := bind_ok h
    obtain ⟨hs, hg⟩ := numsT_only her hp
    have hlen := hg.len
    split at h
    · rename_i h8
      split at h
      · rename_i h2
        split at h
        · rename_i h32
          obtain ⟨l, e, rfl, k1, k2, k3, k4, k5, k6, k7, k8⟩ := blockT_only (hL h32) h h8
          have hm : mayI (.mk op a b m ns l e) = true := mayI_of her hg (.inl h2) k7
          refine ⟨?_, ?_, ?_, k6, rfl, ?_⟩
          · rw [okI, hm, if_pos (shapeV_two h2), k1, k2, decide_eq_true (show d ≠ 32 by omega)]
            rfl
          · rw [wfI]
            exact ⟨hg.W, k3, k4⟩
          · rw [sizI]
            omega
          · unfold restI
            show (fldB (shapeV op).1 a b m ns ++ (if (shapeV op).1 = 2 then putL l ++ ((if e.length = 0 then [] else 5 :: putL e) ++ [11]) else [])).length + _ ≤ _
            rw [if_pos h2, List.length_append]
            replace k8 : (putL l ++ ((if e.length = 0 then [] else 5 :: putL e) ++ [11])).length + r.size ≤ r1.size := k8
            omega
        · cases h
      · rename_i h2
        simp only [Except.ok.injEq, Prod.mk.injEq] at h
        obtain ⟨⟨rfl, rfl⟩, rfl⟩ := h
        have hop4 : ¬ (2 ≤ op ∧ op ≤ 4) := fun q => h2 (by rw [shapeV_block q])
        have hm : mayI (.mk op a b m ns [] []) = true := mayI_of her hg (.inr rfl) (.inr rfl)
        refine ⟨?_, ?_, ?_, h8, rfl, ?_⟩
        · rw [okI, hm, if_neg hop4]
          rfl
        · rw [wfI, wfL]
          exact ⟨hg.W, trivial, trivial⟩
        · rw [sizI, sizL]
        · unfold restI
          show (fldB (shapeV op).1 a b m ns ++ (if (shapeV op).1 = 2 then _ else [])).length + _ ≤ _
          rw [if_neg h2, List.append_nil]
          omega
    · cases h
  · cases h
theorem takeL_only (f : Nat) : ∀ d, d ≤ 32 → OnlyL (takeL f) d := by
  induction f with
  | zero => intro d _ s n ls la n' r h; cases h
  | succ f ih =>
    intro d hd s n ls la n' r h hn
    rw [takeL] at h
    obtain ⟨⟨op, r1⟩, ho, h⟩ := bind_ok h
    have ho1 := opT_only ho
    have ho2 := opT_size ho
    split at h
    · simp only [Except.ok.injEq, Prod.mk.injEq] at h
      obtain ⟨⟨rfl, rfl, rfl⟩, rfl⟩ := h
      refine ⟨rfl, by rw [wfL]; trivial, by rw [sizL]; rfl, hn, ?_⟩
      rw [putL, List.length_nil]
      replace ho2 : r1.size < s.size := ho2
      omega
    · obtain ⟨⟨⟨c, n1⟩, r2⟩, hi, h⟩ := bind_ok h
      obtain ⟨k1, k2, k3, k4, k5, k6⟩ := instrT_only (fun h32 => ih (d + 1) (by omega)) hi
      obtain ⟨⟨⟨l2, la2, n2⟩, r3⟩, hr, h⟩ := bind_ok h
      obtain ⟨j1, j2, j3, j4, j5⟩ := ih d hd _ _ _ _ _ _ hr k4
      simp only [Except.ok.injEq, Prod.mk.injEq] at h
      obtain ⟨⟨rfl, rfl, rfl⟩, rfl⟩ := h
      replace j3 : n2 = n1 + sizL l2 := j3
      replace j5 : (putL l2).length + 1 + r3.size ≤ r2.size := j5
      replace k5 : c.op = op := k5
      replace k6 : (restI c).length + r2.size ≤ r1.size := k6
      refine ⟨by rw [okL, k1, j1]; rfl, by rw [wfL]; exact ⟨k2, j2⟩, by rw [sizL]; omega, j4, ?_⟩
      rw [putL, putI_rest, k5, List.length_append, List.length_append]
      omega
/-- What is read may be laid. -/
theorem takeT_only {s r : ByteArray} {ls : List Ins} (h : takeT s = .ok (ls, r)) : okL 0 ls = true ∧ wfL ls ∧ sizL ls ≤ 8192 ∧ (putL ls ++ [11]).length + r.size ≤ s.size := by
  unfold takeT at h
  obtain ⟨⟨⟨l, la, n⟩, r1⟩, hl, h⟩ := bind_ok h
  obtain ⟨k1, k2, k3, k4, k5⟩ := takeL_only _ 0 (by decide) _ _ _ _ _ _ hl (by decide)
  split at h
  · simp only [Except.ok.injEq, Prod.mk.injEq] at h
    obtain ⟨rfl, rfl⟩ := h
    exact ⟨k1, k2, by omega, by rw [List.length_append, List.length_singleton]; omega⟩
  · cases h
end Go.Proofs.Ytfhifnkekegkkaa
