/- Deeds: as they lie in a row; no more than there may be. -/
import Derived.Test.YtogkieekpmcinaaMemL
namespace Go.Proofs.Ytogkieekpmcinaa
open Go.RowKit

/-- A deed's numbers, its text, whether it is near. -/
structure DeedL where
  kind : Int
  op : Int
  at' : Int
  p : Int
  v : Int
  n : Int
  s : ByteArray
  near : Bool
def DeedL.cells (d : DeedL) : List Value := [.int .i64 d.kind, .int .i64 d.op, .int .i64 d.at', .int .i64 d.p, .int .i64 d.v, .int .i64 d.n, .string d.s, .bool d.near]
def DeedL.val (d : DeedL) : Value := .agg #[.int .i64 d.kind, .int .i64 d.op, .int .i64 d.at', .int .i64 d.p, .int .i64 d.v, .int .i64 d.n, .string d.s, .bool d.near]
def in64 (n : Int) : Prop := -9223372036854775808 ≤ n ∧ n ≤ 9223372036854775807
structure DeedL.ok (d : DeedL) : Prop where
  at1 : in64 d.at'
  p1 : in64 d.p
instance : Inhabited DeedL := ⟨⟨0, 0, 0, 0, 0, 0, ⟨#[]⟩, false⟩⟩
/-- One of a row's deeds, as it lies. -/
structure LiesAt (w : World) (b off : Nat) (d : DeedL) : Prop where
  c0 : w.cell? ⟨b, off, none⟩ = some (.int .i64 d.kind)
  c1 : w.cell? ⟨b, off + 1, none⟩ = some (.int .i64 d.op)
  c2 : w.cell? ⟨b, off + 2, none⟩ = some (.int .i64 d.at')
  c3 : w.cell? ⟨b, off + 3, none⟩ = some (.int .i64 d.p)
  c4 : w.cell? ⟨b, off + 4, none⟩ = some (.int .i64 d.v)
  c5 : w.cell? ⟨b, off + 5, none⟩ = some (.int .i64 d.n)
  c6 : w.cell? ⟨b, off + 6, none⟩ = some (.string d.s)
  c7 : w.cell? ⟨b, off + 7, none⟩ = some (.bool d.near)
theorem LiesAt.block {w w' : World} {b off : Nat} {d : DeedL} (h : LiesAt w b off d) (hb : w'.heap[b]? = w.heap[b]?) : LiesAt w' b off d := by
  have key : ∀ o, w'.cell? ⟨b, o, none⟩ = w.cell? ⟨b, o, none⟩ := fun o => World.cell?_of_block hb
  exact ⟨(key _).trans h.c0, (key _).trans h.c1, (key _).trans h.c2, (key _).trans h.c3, (key _).trans h.c4, (key _).trans h.c5, (key _).trans h.c6, (key _).trans h.c7⟩
/-- A row of deeds that lies at B or above. -/
def DeedRow (B : Nat) (w : World) (x : Option Addr) (ds : List DeedL) : Prop :=
  (∀ d ∈ ds, d.ok) ∧ (ds.length = 0 ∨ ∃ b off, x = some ⟨b, off, none⟩ ∧ B ≤ b ∧ b < w.heap.size ∧ ∀ i, i < ds.length → LiesAt w b (off + i * 8) (ds.getD i default))
theorem DeedRow.kept {F : Nat → Prop} {B : Nat} {w w' : World} {x : Option Addr} {ds : List DeedL} (h : DeedRow B w x ds) (k : Kept F w w') (hF : ∀ b, B ≤ b → ¬ F b) : DeedRow B w' x ds := by
  refine ⟨h.1, ?_⟩
  rcases h.2 with h0 | ⟨b, off, hx, hB, hb, hl⟩
  · exact .inl h0
  · exact .inr ⟨b, off, hx, hB, Nat.lt_of_lt_of_le hb k.size, fun i hi => (hl i hi).block (k.block b hb (hF b hB))⟩
/-- What 'some' makes of a deed. -/
def cutS (d : DeedL) : DeedL := if 200 < d.s.size then { d with s := d.s.extract 0 200 } else d
def someL (ds : List DeedL) : List DeedL := (ds.take 60).map cutS
theorem someL_length (ds : List DeedL) : (someL ds).length = min 60 ds.length := by simp [someL]
def flatD (ds : List DeedL) : List Value := ds.flatMap DeedL.cells
theorem flatD_length (ds : List DeedL) : (flatD ds).length = ds.length * 8 := by
  unfold flatD
  induction ds with
  | nil => rfl
  | cons d l ih => rw [List.flatMap_cons, List.length_append, ih, List.length_cons]; simp [DeedL.cells]; omega
def zeroD : Value := .agg #[.int .i64 0, .int .i64 0, .int .i64 0, .int .i64 0, .int .i64 0, .int .i64 0, .string ⟨#[]⟩, .bool false]
theorem info_deed : (Try.prog.info? 37).map (fun i => (i.zero, i.size, i.bytes)) = some (some zeroD, 8, 72) := by kernel_rfl
theorem i_of_deed : ∃ i, Try.prog.info? 37 = some i ∧ i.zero = some zeroD ∧ i.size = 8 ∧ i.bytes = 72 := by
  have h := info_deed
  rw [Option.map_eq_some_iff] at h
  obtain ⟨i, h1, h2⟩ := h
  simp only [Prod.mk.injEq] at h2
  exact ⟨i, h1, h2.1, h2.2.1, h2.2.2⟩
theorem flatD_get (ds : List DeedL) (i j : Nat) (hi : i < ds.length) (hj : j < 8) : (flatD ds)[i * 8 + j]? = (ds.getD i default).cells[j]? := by
  induction ds generalizing i with
  | nil => exact absurd hi (by simp)
  | cons d l ih =>
    have hl : d.cells.length = 8 := rfl
    show (d.cells ++ flatD l)[i * 8 + j]? = _
    cases i with
    | zero =>
      rw [Nat.zero_mul, Nat.zero_add, List.getElem?_append_left (by omega)]
      rfl
    | succ k =>
      rw [List.getElem?_append_right (by omega), hl, show (k + 1) * 8 + j - 8 = k * 8 + j by omega, ih k (by rw [List.length_cons] at hi; omega)]
      rfl
theorem row_of_own {B n : Nat} {w : World} {v : Value} {ds : List DeedL} (h : w.ownsRow B 37 8 v n (flatD ds)) (hok : ∀ d ∈ ds, d.ok) : ∃ y cap, v = .slice y ds.length cap ∧ DeedRow B w y ds := by
  have hn : ds.length = n := by have := h.1; rw [flatD_length] at this; omega
  rcases h.2 with ⟨h1, h2⟩ | ⟨g, cap, cur, h1, h2, h3, _⟩
  · exact ⟨none, 0, by rw [h1, hn, h2], hok, .inl (by omega)⟩
  · rw [← hn] at h1
    refine ⟨_, cap, h1, hok, .inr ⟨g, 0, rfl, h2, (Array.getElem?_eq_some_iff.1 h3).1, fun i hi => ?_⟩⟩
    subst h1
    rw [← hn] at h
    have key : ∀ j, j < 8 → w.cell? ⟨g, 0 + i * 8 + j, none⟩ = (ds.getD i default).cells[j]? := fun j hj => by
      rw [Nat.zero_add, World.ownsRow.cellAt h (i * 8 + j) (by omega), flatD_get ds i j hi hj]
    exact ⟨key 0 (by decide), key 1 (by decide), key 2 (by decide), key 3 (by decide), key 4 (by decide), key 5 (by decide), key 6 (by decide), key 7 (by decide)⟩
theorem cutS_ok {d : DeedL} (h : d.ok) : (cutS d).ok := by
  unfold cutS
  split
  · exact ⟨h.at1, h.p1⟩
  · exact h
theorem someL_ok {ds : List DeedL} (h : ∀ d ∈ ds, d.ok) : ∀ d ∈ someL ds, d.ok := by
  intro d hd
  unfold someL at hd
  obtain ⟨e, he, rfl⟩ := List.mem_map.1 hd
  exact cutS_ok (h e (List.mem_of_mem_take he))
theorem flat_snoc (ds : List DeedL) (i : Nat) (hi : i < ds.length) (h60 : i < 60) : flatD ((someL ds).take i) ++ (cutS (ds.getD i default)).cells = flatD ((someL ds).take (i + 1)) := by
  have hl := someL_length ds
  have hi2 : i < (someL ds).length := by omega
  have e : (someL ds)[i] = cutS (ds.getD i default) := by
    simp [someL, List.getElem?_eq_getElem hi]
  rw [List.take_succ_eq_append_getElem hi2, e]
  unfold flatD
  rw [List.flatMap_append]
  simp
theorem grownD {base : Nat} {w wr w1 : World} {v : Value} {n : Nat} {xs : List Value} {o o' : Obj} (hby : wr.ownsRow base 37 8 v n xs) (hbel : Below base w wr) (hbase : base ≤ w.heap.size) (hg : ((wr.alloc o).alloc o').grownBy w1 v.ownBlock) : Below base w w1 :=
  ((hbel.alloc (Nat.le_trans hbase hbel.size) o).alloc (le_alloc (Nat.le_trans hbase hbel.size)) o').grown hg (by simp; have := hbel.size; omega) (fun k hk => (World.ownsRow.lt hby k hk).1)
theorem cells_new (w : World) (d : DeedL) (T : TypeId) : ∀ j u, d.cells[j]? = some u → (w.alloc (.cells d.cells.toArray T)).cell? ((⟨w.heap.size, 0, none⟩ : Addr).add j) = some u := by
  intro j u h
  rw [add_at, World.cell?_alloc_mark]
  simpa using h
theorem cells_new2 (w : World) (o : Obj) (d : DeedL) (T : TypeId) : ∀ j u, d.cells[j]? = some u → ((w.alloc o).alloc (.cells d.cells.toArray T)).cell? ((⟨w.heap.size + 1, 0, none⟩ : Addr).add j) = some u := by
  have h := cells_new (w.alloc o) d T
  rw [show (w.alloc o).heap.size = w.heap.size + 1 by simp] at h
  exact h
theorem cells_one (d : DeedL) : ∀ u ∈ d.cells, u.oneCell' = true := by
  intro u hu
  simp [DeedL.cells] at hu
  rcases hu with rfl | rfl | rfl | rfl | rfl | rfl | rfl | rfl <;> rfl
set_option maxRecDepth 100000 in
set_option maxHeartbeats 1000000 in
theorem some_big (x : Option Addr) (cap n : Nat) (ds : List DeedL) (w : World) (h : DeedRow 0 w x ds) (hn : n = ds.length) (hl : n ≤ cap) (hc : cap ≤ 9223372036854775807) (h60 : 60 < n) :
    Calls Try.prog 13 #[.slice x n cap] w fun e w' => ∃ v, e = .returned v ∧ w'.ownsRow w.heap.size 37 8 v 60 (flatD (someL ds)) ∧ Below w.heap.size w w' := by
  have H := Lib.hid h
  have HN := Lib.hid hn
  obtain ⟨ti, hi, hz, hs, hby⟩ := i_of_deed
  clear h hn
  go_enter Try.func13, Try.ntmps13
  go_wp2_with fail
  rw [show decide ((60 : Int) < (n : Int)) = true from decide_eq_true (by omega)]
  go_loopw [3, 4] (fun vv iv wr => ∃ i : Nat, iv = .int .i64 i ∧ i ≤ 60 ∧ wr.ownsRow w.heap.size 37 8 vv i (flatD ((someL ds).take i)) ∧ Below w.heap.size w wr) (fun _ iv _ => 60 - (intOf iv).toNat)
  case atStart => exact ⟨0, rfl, by omega, World.ownsRow_nil _ _ _ _, Below.refl _ _⟩
  case round =>
    obtain ⟨i, rfl, hin, hown, hbel⟩ := hrel
    have HOWN := Lib.hid hown
    clear hown
    by_cases hlt : i < 60
    · rcases H.out.2 with h0 | ⟨b, off, rfl, _, hb, hcells⟩
      · have := HN.out
        omega
      · have hl := (hcells i (by rw [← HN.out]; omega)).block (hbel.block b hb)
        have HSN := Lib.hid (flat_snoc ds i (by rw [← HN.out]; omega) (by omega))
        clear hcells
        revert hl HSN
        generalize ds.getD i default = d
        intro hl HSN
        obtain ⟨k, o, at', p, v, nn, s, near⟩ := d
        obtain ⟨c0, c1, c2, c3, c4, c5, c6, c7⟩ := hl
        dsimp only at c0 c1 c2 c3 c4 c5 c6 c7
        by_cases h200 : 200 < s.size
        · have HC : Hid (cutS ⟨k, o, at', p, v, nn, s, near⟩ = ⟨k, o, at', p, v, nn, s.extract 0 200, near⟩) := Lib.hid (if_pos h200)
          rw [HC.out] at HSN
          clear HC
          go_wp2_with (at_builtin; refine wpList_append_own _ rfl _ _ 24 rfl w.heap.size 37 ti zeroD 8 72 Try.underlying24 hi hz hs hby rfl (by decide) _ i (flatD ((someL ds).take i)) rfl (World.ownsRow.alloc (World.ownsRow.alloc HOWN.out _) _) ⟨wr.heap.size + 1, 0, none⟩ 1 1 (⟨k, o, at', p, v, nn, s.extract 0 200, near⟩ : DeedL).cells rfl rfl (cells_new2 wr _ (⟨k, o, at', p, v, nn, s.extract 0 200, near⟩ : DeedL) _) (cells_one _) (by unfold maxLen; omega) (by omega) (le_alloc (le_alloc hbel.size)) ?_; intro v1 w1 hown1 hg1 _)
          exact ⟨⟨i + 1, by go_num, by omega, HSN.out ▸ hown1, grownD HOWN.out hbel (Nat.le_refl _) hg1⟩, by simp [intOf]; omega⟩
        · have HC : Hid (cutS ⟨k, o, at', p, v, nn, s, near⟩ = ⟨k, o, at', p, v, nn, s, near⟩) := Lib.hid (if_neg h200)
          rw [HC.out] at HSN
          clear HC
          go_wp2_with (at_builtin; refine wpList_append_own _ rfl _ _ 24 rfl w.heap.size 37 ti zeroD 8 72 Try.underlying24 hi hz hs hby rfl (by decide) _ i (flatD ((someL ds).take i)) rfl (World.ownsRow.alloc (World.ownsRow.alloc HOWN.out _) _) ⟨wr.heap.size + 1, 0, none⟩ 1 1 (⟨k, o, at', p, v, nn, s, near⟩ : DeedL).cells rfl rfl (cells_new2 wr _ (⟨k, o, at', p, v, nn, s, near⟩ : DeedL) _) (cells_one _) (by unfold maxLen; omega) (by omega) (le_alloc (le_alloc hbel.size)) ?_; intro v1 w1 hown1 hg1 _)
          exact ⟨⟨i + 1, by go_num, by omega, HSN.out ▸ hown1, grownD HOWN.out hbel (Nat.le_refl _) hg1⟩, by simp [intOf]; omega⟩
    · have hje : i = 60 := by omega
      subst hje
      have HT : Hid ((someL ds).take 60 = someL ds) := Lib.hid (List.take_of_length_le (by rw [someL_length]; have := HN.out; omega))
      go_wp2_with fail
      go_ret
      exact ⟨_, rfl, HT.out ▸ HOWN.out, hbel⟩
set_option maxRecDepth 100000 in
set_option maxHeartbeats 1000000 in
theorem some_few (x : Option Addr) (cap n : Nat) (ds : List DeedL) (w : World) (h : DeedRow 0 w x ds) (hn : n = ds.length) (hl : n ≤ cap) (h60 : n ≤ 60) :
    Calls Try.prog 13 #[.slice x n cap] w fun e w' => ∃ v, e = .returned v ∧ w'.ownsRow w.heap.size 37 8 v n (flatD (someL ds)) ∧ Below w.heap.size w w' := by
  have H := Lib.hid h
  have HN := Lib.hid hn
  obtain ⟨ti, hi, hz, hs, hby⟩ := i_of_deed
  clear h hn
  go_enter Try.func13, Try.ntmps13
  go_wp2_with fail
  go_loopw [3, 4] (fun vv iv wr => ∃ i : Nat, iv = .int .i64 i ∧ i ≤ n ∧ wr.ownsRow w.heap.size 37 8 vv i (flatD ((someL ds).take i)) ∧ Below w.heap.size w wr) (fun _ iv _ => n - (intOf iv).toNat)
  case atStart => exact ⟨0, rfl, by omega, World.ownsRow_nil _ _ _ _, Below.refl _ _⟩
  case round =>
    obtain ⟨i, rfl, hin, hown, hbel⟩ := hrel
    have HOWN := Lib.hid hown
    clear hown
    by_cases hlt : i < n
    · rcases H.out.2 with h0 | ⟨b, off, rfl, _, hb, hcells⟩
      · have := HN.out
        omega
      · have hl := (hcells i (by rw [← HN.out]; omega)).block (hbel.block b hb)
        have HSN := Lib.hid (flat_snoc ds i (by rw [← HN.out]; omega) (by omega))
        clear hcells
        revert hl HSN
        generalize ds.getD i default = d
        intro hl HSN
        obtain ⟨k, o, at', p, v, nn, s, near⟩ := d
        obtain ⟨c0, c1, c2, c3, c4, c5, c6, c7⟩ := hl
        dsimp only at c0 c1 c2 c3 c4 c5 c6 c7
        by_cases h200 : 200 < s.size
        · have HC : Hid (cutS ⟨k, o, at', p, v, nn, s, near⟩ = ⟨k, o, at', p, v, nn, s.extract 0 200, near⟩) := Lib.hid (if_pos h200)
          rw [HC.out] at HSN
          clear HC
          go_wp2_with (at_builtin; refine wpList_append_own _ rfl _ _ 24 rfl w.heap.size 37 ti zeroD 8 72 Try.underlying24 hi hz hs hby rfl (by decide) _ i (flatD ((someL ds).take i)) rfl (World.ownsRow.alloc (World.ownsRow.alloc HOWN.out _) _) ⟨wr.heap.size + 1, 0, none⟩ 1 1 (⟨k, o, at', p, v, nn, s.extract 0 200, near⟩ : DeedL).cells rfl rfl (cells_new2 wr _ (⟨k, o, at', p, v, nn, s.extract 0 200, near⟩ : DeedL) _) (cells_one _) (by unfold maxLen; omega) (by omega) (le_alloc (le_alloc hbel.size)) ?_; intro v1 w1 hown1 hg1 _)
          exact ⟨⟨i + 1, by go_num, by omega, HSN.out ▸ hown1, grownD HOWN.out hbel (Nat.le_refl _) hg1⟩, by simp [intOf]; omega⟩
        · have HC : Hid (cutS ⟨k, o, at', p, v, nn, s, near⟩ = ⟨k, o, at', p, v, nn, s, near⟩) := Lib.hid (if_neg h200)
          rw [HC.out] at HSN
          clear HC
          go_wp2_with (at_builtin; refine wpList_append_own _ rfl _ _ 24 rfl w.heap.size 37 ti zeroD 8 72 Try.underlying24 hi hz hs hby rfl (by decide) _ i (flatD ((someL ds).take i)) rfl (World.ownsRow.alloc (World.ownsRow.alloc HOWN.out _) _) ⟨wr.heap.size + 1, 0, none⟩ 1 1 (⟨k, o, at', p, v, nn, s, near⟩ : DeedL).cells rfl rfl (cells_new2 wr _ (⟨k, o, at', p, v, nn, s, near⟩ : DeedL) _) (cells_one _) (by unfold maxLen; omega) (by omega) (le_alloc (le_alloc hbel.size)) ?_; intro v1 w1 hown1 hg1 _)
          exact ⟨⟨i + 1, by go_num, by omega, HSN.out ▸ hown1, grownD HOWN.out hbel (Nat.le_refl _) hg1⟩, by simp [intOf]; omega⟩
    · have hje : i = n := by omega
      subst hje
      have HT : Hid ((someL ds).take i = someL ds) := Lib.hid (List.take_of_length_le (by rw [someL_length]; have := HN.out; omega))
      go_wp2_with fail
      go_ret
      exact ⟨_, rfl, HT.out ▸ HOWN.out, hbel⟩
theorem some_any (x : Option Addr) (cap : Nat) (ds : List DeedL) (w : World) (h : DeedRow 0 w x ds) (hl : ds.length ≤ cap) (hc : cap ≤ 9223372036854775807) :
    Calls Try.prog 13 #[.slice x ds.length cap] w fun e w' => ∃ y cap', e = .returned (.slice y (someL ds).length cap') ∧ DeedRow w.heap.size w' y (someL ds) ∧ Below w.heap.size w w' := by
  by_cases h60 : 60 < ds.length
  · refine (some_big x cap _ ds w h rfl hl hc h60).mono ?_
    rintro e w' ⟨v, rfl, hv, hb⟩
    obtain ⟨y, c, rfl, hr⟩ := row_of_own hv (someL_ok h.1)
    exact ⟨y, c, rfl, hr, hb⟩
  · refine (some_few x cap _ ds w h rfl hl (by omega)).mono ?_
    rintro e w' ⟨v, rfl, hv, hb⟩
    obtain ⟨y, c, rfl, hr⟩ := row_of_own hv (someL_ok h.1)
    exact ⟨y, c, rfl, hr, hb⟩
end Go.Proofs.Ytogkieekpmcinaa
