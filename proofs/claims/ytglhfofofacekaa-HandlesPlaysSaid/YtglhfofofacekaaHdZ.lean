/- handles: deeds that come in; the law's some, aimed. -/
import Derived.Test.YtglhfofofacekaaHdY
set_option linter.unusedVariables false
set_option linter.unusedSimpArgs false
namespace Go.Proofs.Ytglhfofofacekaa
open Go.RowKit

/-- A deed. -/
structure Dh where
  kind : Int
  i : Int
  r : Int
  h : Int
  near : Bool
instance : Inhabited Dh := ⟨⟨0, 0, 0, 0, false⟩⟩
abbrev Dh.v (d : Dh) : Value := .agg #[.int .i64 d.kind, .int .i64 d.i, .int .i64 d.r, .int .i64 d.h, .bool d.near]
abbrev Dh.cells (d : Dh) : List Value := [.int .i64 d.kind, .int .i64 d.i, .int .i64 d.r, .int .i64 d.h, .bool d.near]
/-- Its cells lie from here on. -/
structure DhAt (w : World) (g o : Nat) (d : Dh) : Prop where
  c0 : w.cell? ⟨g, o, none⟩ = some (.int .i64 d.kind)
  c1 : w.cell? ⟨g, o + 1, none⟩ = some (.int .i64 d.i)
  c2 : w.cell? ⟨g, o + 2, none⟩ = some (.int .i64 d.r)
  c3 : w.cell? ⟨g, o + 3, none⟩ = some (.int .i64 d.h)
  c4 : w.cell? ⟨g, o + 4, none⟩ = some (.bool d.near)
theorem DhAt.below {w w' : World} {g o : Nat} {d : Dh} (h : DhAt w g o d) (hb : Below w.heap.size w w') : DhAt w' g o d :=
  ⟨farB h.c0 hb, farB h.c1 hb, farB h.c2 hb, farB h.c3 hb, farB h.c4 hb⟩
/-- What is read of the deeds that came in. -/
structure DhIn (w : World) (x : Option Addr) (len cap : Nat) (ds : List Dh) : Prop where
  eq : len = ds.length
  le : len ≤ cap
  top : cap ≤ 9223372036854775807
  ok : ∀ d ∈ ds, wf64 d.h
  row : len = 0 ∨ ∃ g o, x = some ⟨g, o, none⟩ ∧ ∀ j, j < len → DhAt w g (o + j * 5) (ds.getD j default)
theorem DhIn.below {w w' : World} {x : Option Addr} {len cap : Nat} {ds : List Dh} (h : DhIn w x len cap ds) (hb : Below w.heap.size w w') : DhIn w' x len cap ds :=
  { h with row := h.row.elim .inl fun ⟨g, o, e, hc⟩ => .inr ⟨g, o, e, fun j hj => (hc j hj).below hb⟩ }
set_option maxRecDepth 100000 in
set_option maxHeartbeats 1000000 in
theorem some16 (x : Option Addr) (len cap : Nat) (ds : List Dh) (w : World) (h : DhIn w x len cap ds) :
    Calls Try.prog 8 #[.slice x len cap] w fun e w' => (∃ len', e = .returned (.slice x len' cap) ∧ DhIn w x len' cap (ds.take 150) ∧ len' ≤ 150) ∧ w = w' := by
  by_cases h150 : 150 < len
  · obtain ⟨g, o, rfl, hc⟩ := h.row.resolve_left (by omega)
    have hd : decide ((150 : Int) < (len : Int)) = true := decide_eq_true (by omega)
    have hcap : 150 ≤ cap := by have := h.le; omega
    have HH := Lib.hid h
    have HC := Lib.hid hc
    have HL := Lib.hid h150
    clear h hc h150
    go_enter Try.func8, Try.ntmps8
    go_wp2_with fail
    go_ret
    refine ⟨⟨150, rfl, ⟨?_, hcap, HH.out.top, fun d hm => HH.out.ok d (List.mem_of_mem_take hm), .inr ⟨g, o, rfl, fun j hj => ?_⟩⟩, by omega⟩, rfl⟩
    · have := HH.out.eq
      have := HL.out
      rw [List.length_take]
      omega
    · have := HC.out j (by have := HL.out; omega)
      have e : (ds.take 150).getD j default = ds.getD j default := by simp [List.getD_eq_getElem?_getD, List.getElem?_take_of_lt hj]
      rw [e]
      exact this
  · have hd : decide ((150 : Int) < (len : Int)) = false := decide_eq_false (by omega)
    have HH := Lib.hid h
    have e : ds.take 150 = ds := List.take_of_length_le (by have := h.eq; omega)
    rw [e]
    clear h
    go_enter Try.func8, Try.ntmps8
    go_wp2_with fail
    go_ret
    exact ⟨⟨len, rfl, HH.out, by omega⟩, rfl⟩

/-- A handle's cells lie from here on. -/
structure HdAt (w : World) (g o : Nat) (x : Hd) : Prop where
  c0 : w.cell? ⟨g, o, none⟩ = some (.int .i64 x.h)
  c1 : w.cell? ⟨g, o + 1, none⟩ = some (.int .i64 x.r)
  c2 : w.cell? ⟨g, o + 2, none⟩ = some (.int .i64 x.rep)
  c3 : w.cell? ⟨g, o + 3, none⟩ = some (.bool x.own)
  c4 : w.cell? ⟨g, o + 4, none⟩ = some (.int .i64 x.lends)
  c5 : w.cell? ⟨g, o + 5, none⟩ = some (.int .i64 x.call)
theorem HdAt.below {w w' : World} {g o : Nat} {x : Hd} (h : HdAt w g o x) (hb : Below w.heap.size w w') : HdAt w' g o x :=
  ⟨farB h.c0 hb, farB h.c1 hb, farB h.c2 hb, farB h.c3 hb, farB h.c4 hb, farB h.c5 hb⟩
theorem hdCs_at : ∀ (T : List Hd) (j c : Nat), j < T.length → c < 6 → (hdCs T)[j * 6 + c]? = (Hd.cs (T.getD j Hd.zero))[c]?
  | [], j, c, h, _ => by simp at h
  | x :: r, 0, c, _, hc => by
    show (Hd.cs x ++ hdCs r)[0 * 6 + c]? = _
    rw [Nat.zero_mul, Nat.zero_add, List.getElem?_append_left (by simpa [Hd.cs] using hc)]
    rfl
  | x :: r, j + 1, c, h, hc => by
    show (Hd.cs x ++ hdCs r)[(j + 1) * 6 + c]? = _
    have e : (Hd.cs x).length = 6 := rfl
    rw [List.getElem?_append_right (by rw [e]; omega), show (j + 1) * 6 + c - (Hd.cs x).length = j * 6 + c by rw [e]; omega, hdCs_at r j c (by simpa using h) hc]
    rfl
theorem Hds.row {B : Nat} {v : Value} {T : List Hd} {w : World} (h : Hds B v T w) :
    ∃ ta tc, v = .slice ta T.length tc ∧ (T.length = 0 ∨ ∃ g o, ta = some ⟨g, o, none⟩ ∧ ∀ j, j < T.length → HdAt w g (o + j * 6) (T.getD j Hd.zero)) := by
  rcases h.2 with ⟨e, e0⟩ | ⟨g, cap, cur, e, hg0, hg, _⟩
  · exact ⟨none, 0, by rw [e, e0], .inl e0⟩
  · refine ⟨_, cap, e, .inr ⟨g, 0, rfl, fun j hj => ?_⟩⟩
    have hc := h
    rw [e] at hc
    unfold Hds at hc
    have key : ∀ c, c < 6 → w.cell? ⟨g, 0 + j * 6 + c, none⟩ = (Hd.cs (T.getD j Hd.zero))[c]? := fun c hc6 => by
      rw [Nat.zero_add, World.ownsRow.cellAt hc (j * 6 + c) (by omega), hdCs_at _ j c hj hc6]
    exact ⟨key 0 (by decide), key 1 (by decide), key 2 (by decide), key 3 (by decide), key 4 (by decide), key 5 (by decide)⟩

/-- Which of so many is meant. -/
def whichN (h : Int) (n : Nat) : Nat := (h % (n : Int)).toNat
/-- A deed with a handle that there is. -/
def aimedD (d : Dh) (T : List Hd) : Dh :=
  if !d.near || (decide (T.length = 0) || (decide (d.kind < 1) || (decide (6 < d.kind) || decide (d.kind = 5)))) then d
  else { d with h := (T.getD (whichN d.h T.length) Hd.zero).h, r := (T.getD (whichN d.h T.length) Hd.zero).r }
theorem which_lt (h : Int) {n : Nat} (hn : n ≠ 0) : whichN h n < n := by
  unfold whichN
  have h1 := Int.emod_nonneg h (show (n : Int) ≠ 0 by omega)
  have h2 := Int.emod_lt_of_pos h (show (0 : Int) < n by omega)
  omega
theorem two_boxes {w : World} (o p : Obj) : Below w.heap.size w ((w.alloc o).alloc p) := ((Below.refl _ w).alloc (Nat.le_refl _) _).alloc (by simp) _
set_option maxRecDepth 100000 in
set_option maxHeartbeats 4000000 in
theorem aimed_no (d : Dh) (T : List Hd) (ta : Option Addr) (tc : Nat) (w : World) (hno : (!d.near || (decide (T.length = 0) || (decide (d.kind < 1) || (decide (6 < d.kind) || decide (d.kind = 5))))) = true) :
    Calls Try.prog 9 #[d.v, .slice ta T.length tc] w fun e w' => e = .returned d.v ∧ Below w.heap.size w w' := by
  obtain ⟨k, i, r, h, near⟩ := d
  dsimp only at hno ⊢
  generalize T.length = n at hno ⊢
  cases near
  · clear hno
    go_enter Try.func9, Try.ntmps9
    go_wp2_with fail
    refine bodyPost_ret (v := .agg #[.int .i64 k, .int .i64 i, .int .i64 r, .int .i64 h, .bool false]) (by simp [results, Try.results9, go_sem]) rfl ⟨rfl, two_boxes _ _⟩
  · by_cases hn : n = 0
    · subst hn
      clear hno
      go_enter Try.func9, Try.ntmps9
      go_wp2_with fail
      refine bodyPost_ret (v := .agg #[.int .i64 k, .int .i64 i, .int .i64 r, .int .i64 h, .bool true]) (by simp [results, Try.results9, go_sem]) rfl ⟨rfl, two_boxes _ _⟩
    · have hn' : ((n : Int) == 0) = false := by simp; omega
      by_cases h1 : k < 1
      · have h1' : decide (k < 1) = true := decide_eq_true h1
        clear hno hn h1
        go_enter Try.func9, Try.ntmps9
        go_wp2_with fail
        refine bodyPost_ret (v := .agg #[.int .i64 k, .int .i64 i, .int .i64 r, .int .i64 h, .bool true]) (by simp [results, Try.results9, go_sem]) rfl ⟨rfl, two_boxes _ _⟩
      · have h1' : decide (k < 1) = false := decide_eq_false h1
        by_cases h2 : 6 < k
        · have h2' : decide (6 < k) = true := decide_eq_true h2
          clear hno hn h1 h2
          go_enter Try.func9, Try.ntmps9
          go_wp2_with fail
          refine bodyPost_ret (v := .agg #[.int .i64 k, .int .i64 i, .int .i64 r, .int .i64 h, .bool true]) (by simp [results, Try.results9, go_sem]) rfl ⟨rfl, two_boxes _ _⟩
        · have h2' : decide (6 < k) = false := decide_eq_false h2
          have h3 : k = 5 := by simp [hn, h1, h2] at hno; exact hno
          have h3' : (k == 5) = true := by simp [h3]
          subst h3
          clear hno hn h1 h2
          go_enter Try.func9, Try.ntmps9
          go_wp2_with fail
          refine bodyPost_ret (v := .agg #[.int .i64 5, .int .i64 i, .int .i64 r, .int .i64 h, .bool true]) (by simp [results, Try.results9, go_sem]) rfl ⟨rfl, two_boxes _ _⟩
set_option maxRecDepth 100000 in
set_option maxHeartbeats 4000000 in
theorem aimed_yes (k i r h : Int) (x : Hd) (n j g o tc : Nat) (w : World) (hn0 : n ≠ 0) (hj : j < n) (hji : (j : Int) = h % (n : Int)) (hnb : n ≤ 256) (h1 : ¬ k < 1) (h2 : ¬ 6 < k) (h3 : ¬ k = 5) (hx : HdAt w g (o + j * 6) x) :
    Calls Try.prog 9 #[.agg #[.int .i64 k, .int .i64 i, .int .i64 r, .int .i64 h, .bool true], .slice (some ⟨g, o, none⟩) n tc] w fun e w' => e = .returned (.agg #[.int .i64 k, .int .i64 i, .int .i64 x.r, .int .i64 x.h, .bool true]) ∧ Below w.heap.size w w' := by
  have hn' : ((n : Int) == 0) = false := by simp; omega
  have h1' : decide (k < 1) = false := decide_eq_false h1
  have h2' : decide (6 < k) = false := decide_eq_false h2
  have h3' : (k == 5) = false := by simp [h3]
  have hj' : (wrap64 (h.tmod (n : Int) + (n : Int))).tmod (n : Int) = (j : Int) := by
    rw [hji]
    have e1 : wrap64 (h.tmod (n : Int) + (n : Int)) = h.tmod (n : Int) + (n : Int) := by
      have a1 := Int.lt_tmod_of_pos h (show (0 : Int) < n by omega)
      have a2 := Int.tmod_lt_of_pos h (show (0 : Int) < n by omega)
      unfold wrap64
      omega
    rw [e1]
    have a1 := Int.lt_tmod_of_pos h (show (0 : Int) < n by omega)
    have a2 := Int.tmod_lt_of_pos h (show (0 : Int) < n by omega)
    rw [Int.tmod_eq_emod_of_nonneg (by omega), Int.add_emod_right, Int.tmod_eq_emod]
    split
    · simp
    · rw [show ((n : Int).natAbs : Int) = n by omega, Int.sub_emod_right, Int.emod_emod]
  obtain ⟨c0, c1, c2, c3, c4, c5⟩ := hx.below (two_boxes (.cells #[.int .i64 k, .int .i64 i, .int .i64 r, .int .i64 h, .bool true] 34) (.cells #[.int .i64 0, .int .i64 0, .int .i64 0, .int .i64 0, .bool false] 34))
  clear h1 h2 h3 hji hx
  go_enter Try.func9, Try.ntmps9
  go_wp2_with fail
  refine bodyPost_ret (v := .agg #[.int .i64 k, .int .i64 i, .int .i64 x.r, .int .i64 x.h, .bool true]) (by simp [results, Try.results9, go_sem]) rfl ⟨rfl, ?_⟩
  exact (two_boxes _ _).alloc (by simp; omega) _
theorem aimed (d : Dh) {B : Nat} {v : Value} {T : List Hd} {w : World} (hT : Hds B v T w) (hl : T.length ≤ 256) :
    Calls Try.prog 9 #[d.v, v] w fun e w' => e = .returned (aimedD d T).v ∧ Below w.heap.size w w' := by
  obtain ⟨ta, tc, rfl, hr⟩ := hT.row
  unfold aimedD
  by_cases hno : (!d.near || (decide (T.length = 0) || (decide (d.kind < 1) || (decide (6 < d.kind) || decide (d.kind = 5))))) = true
  · rw [if_pos hno]
    exact aimed_no d T ta tc w hno
  · rw [if_neg hno]
    have hno' : d.near = true ∧ T.length ≠ 0 ∧ ¬ d.kind < 1 ∧ ¬ 6 < d.kind ∧ ¬ d.kind = 5 := by
      simp only [Bool.not_eq_true, Bool.or_eq_false_iff, Bool.not_eq_false', decide_eq_false_iff_not] at hno
      exact hno
    obtain ⟨e1, e2, e3, e4, e5⟩ := hno'
    obtain ⟨g, o, rfl, hc⟩ := hr.resolve_left e2
    obtain ⟨k, i, r, h, near⟩ := d
    dsimp only at e1 e3 e4 e5 ⊢
    subst e1
    have hj := which_lt h e2
    refine aimed_yes k i r h _ T.length (whichN h T.length) g o tc w e2 hj ?_ hl e3 e4 e5 (hc _ hj)
    unfold whichN
    exact Int.toNat_of_nonneg (Int.emod_nonneg h (by omega))
theorem aimed_kind (d : Dh) (T : List Hd) : (aimedD d T).kind = d.kind := by
  unfold aimedD
  split <;> rfl
theorem aimed_i (d : Dh) (T : List Hd) : (aimedD d T).i = d.i := by
  unfold aimedD
  split <;> rfl
theorem wf_small {k : Int} (h1 : 0 ≤ k) (h2 : k ≤ 256) : wf64 k := by
  simp [wf64, Lit.wf, IntKind.wrap, IntKind.bits, IntKind.signed, IntKind.min, IntKind.max]
  omega
theorem aimed_wf {d : Dh} {T : List Hd} (hd : wf64 d.h) (hT : ∀ x ∈ T, wf64 x.h) : wf64 (aimedD d T).h := by
  unfold aimedD
  split
  · exact hd
  · rename_i hno
    have e2 : T.length ≠ 0 := fun e => hno (by simp [e])
    have hj := which_lt d.h e2
    refine hT _ ?_
    rw [List.getD_eq_getElem?_getD, List.getElem?_eq_getElem hj]
    exact List.getElem_mem _
end Go.Proofs.Ytglhfofofacekaa
