/- handles: the handles collected are sorted by their indices; Handles. -/
import Derived.Test.YtglhfofofacekaaHdW
import Derived.Test.YtglhfofofacekaaHdT
import Derived.Test.YtglhfofofacekaaSh2
import Derived.Sort.OwnSortedInts
set_option linter.unusedVariables false
set_option linter.unusedSimpArgs false
namespace Go.Proofs.Ytglhfofofacekaa
open Go.RowKit Go.Shelf Go.Sort
attribute [local go_sem] Oper.semAt_some

/-- Rows of handles' cells. -/
abbrev hdCs (T : List Hd) : List Value := T.flatMap Hd.cs
theorem hdCs_len (T : List Hd) : (hdCs T).length = T.length * 6 := by
  induction T with
  | nil => rfl
  | cons x r ih =>
    show (Hd.cs x ++ hdCs r).length = _
    rw [List.length_append, ih]
    simp [Hd.cs]
    omega
theorem hdCs_get : ∀ (T : List Hd) (t : Nat), t < T.length * 6 → (hdCs T)[t]! = (Hd.cs (T[t / 6]!))[t % 6]!
  | [], t, h => by simp at h
  | x :: r, t, h => by
    show (Hd.cs x ++ hdCs r)[t]! = _
    by_cases h6 : t < 6
    · rw [Nat.div_eq_of_lt h6, Nat.mod_eq_of_lt h6, List.getElem!_eq_getElem?_getD, List.getElem!_eq_getElem?_getD, List.getElem?_append_left (by simpa [Hd.cs] using h6)]
      rfl
    · obtain ⟨u, rfl⟩ : ∃ u, t = u + 6 := ⟨t - 6, by omega⟩
      rw [show (u + 6) / 6 = u / 6 + 1 by omega, show (u + 6) % 6 = u % 6 by omega]
      have ih := hdCs_get r u (by simp at h; omega)
      rw [List.getElem!_eq_getElem?_getD, List.getElem?_append_right (by simp [Hd.cs])]
      rw [show u + 6 - (Hd.cs x).length = u by simp [Hd.cs]]
      rw [List.getElem!_eq_getElem?_getD] at ih
      rw [ih]
      simp
theorem flatK_hd (d : Array Hd) : flatK Hd.cs 6 d = (hdCs d.toList).toArray := by
  refine ext_get! (by rw [size_flatK]; show _ = (hdCs d.toList).length; rw [hdCs_len, Array.length_toList]) fun t ht => ?_
  rw [size_flatK] at ht
  rw [get_flatK _ _ _ _ ht]
  have h := hdCs_get d.toList t (by simpa using ht)
  have e : (hdCs d.toList).toArray[t]! = (hdCs d.toList)[t]! := by rw [List.getElem!_toArray]
  have e2 : d.toList[t / 6]! = d[t / 6]! := by simp [List.getElem!_eq_getElem?_getD, Array.getElem!_eq_getD, Array.getD_eq_getD_getElem?]
  rw [e, h, e2]

theorem holdsK_hd {w : World} {g : Nat} {cur : Array Value} {e : TypeId} {xs : List Hd} (hb : w.heap[g]? = some (.cells cur e (0, 0))) (ht : cur.toList.take (xs.length * 6) = hdCs xs) : HoldsK Hd.cs 6 w g 0 xs.toArray := by
  unfold HoldsK
  rw [flatK_hd]
  intro j hj
  have hj' : j < xs.length * 6 := by rw [List.size_toArray, hdCs_len] at hj; exact hj
  refine ⟨?_, by simp [World.frozen?, hb]⟩
  have h1 : (cur.toList.take (xs.length * 6))[j]? = (hdCs xs)[j]? := by rw [ht]
  rw [List.getElem?_take_of_lt hj'] at h1
  simp only [World.cell?, hb, Nat.zero_add]
  simp only [Option.isSome_none, Bool.false_eq_true, if_false]
  rw [← Array.getElem?_toList, h1]
  have hl : j < (hdCs xs).length := by rw [hdCs_len]; exact hj'
  rw [List.getElem?_eq_getElem hl]
  simp only [id]
  rw [getElem!_pos _ _ (by simpa using hl)]
  simp

theorem heap_sortedV {w : World} {g n : Nat} {os : Array Obj} {cur : Array Value} {e : TypeId} {fr : Nat × Nat} (d : Array Value) (hb : w.heap[g]? = some (.cells cur e fr)) :
    (grow (putRow id (Sort.ahead w n) g 0 d) os).heap[g]? = some (.cells (putCells id 0 d cur) e fr) := by
  have hg : g < w.heap.size := (Array.getElem?_eq_some_iff.1 hb).1
  rw [heap_grow_old _ _ (by simpa using hg)]
  simp [putRow, mapBlock, Sort.ahead, Array.getElem?_modify, hb, onCells]
theorem grownBy_sortedV {w : World} {g n : Nat} {os : Array Obj} (d : Array Value) : w.grownBy (grow (putRow id (Sort.ahead w n) g 0 d) os) (some g) := by
  refine ⟨rfl, rfl, rfl, by simp, fun k hk hne => ?_⟩
  rw [heap_grow_old _ _ (by simpa using hk)]
  have : g ≠ k := fun e => hne (by rw [e])
  simp [putRow, mapBlock, Sort.ahead, Array.getElem?_modify, this]
theorem take_putCellsV (cur : Array Value) (ts : List Value) (h : ts.length ≤ cur.size) : (putCells id 0 ts.toArray cur).toList.take ts.length = ts := by
  apply List.ext_getElem?
  intro j
  by_cases hj : j < ts.length
  · rw [List.getElem?_take_of_lt hj, Array.getElem?_toList]
    simp [putCells, hj, show j < cur.size by omega]
  · rw [List.getElem?_take_eq_none (by omega), List.getElem?_eq_none (by omega)]

/-- By their indices. -/
abbrev cfH (x y : Hd) : Int := Lib.compareInt x.h y.h
theorem ltH (x y : Hd) : ltOf cfH x y = decide (x.h < y.h) := by
  unfold ltOf cfH Lib.compareInt
  by_cases h : x.h < y.h
  · simp [h]
  · by_cases h' : x.h > y.h <;> simp [h, h']
theorem swoH : SWO (ltOf cfH) := by
  refine ⟨fun x => ?_, fun x y z => ?_, fun x y z => ?_⟩
  · rw [ltH]; simp
  · rw [ltH, ltH, ltH]; simp; omega
  · rw [ltH, ltH, ltH]; simp; omega
theorem perm_rise : ∀ (l T : List Hd), l.Pairwise (fun x y => x.h ≤ y.h) → Rise T → l.Perm T → l = T
  | [], T, _, _, p => p.symm.eq_nil.symm
  | x :: l, [], _, _, p => absurd p.eq_nil (by simp)
  | x :: l, y :: T, hl, hT, p => by
    obtain ⟨l1, l2⟩ := List.pairwise_cons.1 hl
    obtain ⟨t1, t2⟩ := List.pairwise_cons.1 hT
    have hx : x ∈ y :: T := p.mem_iff.1 (by simp)
    have hy : y ∈ x :: l := p.mem_iff.2 (by simp)
    have e : x = y := by
      rcases List.mem_cons.1 hx with e | hx
      · exact e
      · rcases List.mem_cons.1 hy with e | hy
        · exact e.symm
        · have := t1 x hx
          have := l1 y hy
          omega
    subst e
    rw [perm_rise l T l2 t2 p.cons_inv]
theorem sorted_hd {xs T : List Hd} {d' : Array Hd} (hT : Rise T) (hp : xs.Perm T) (h1 : PermIn 0 xs.toArray.size xs.toArray d') (h2 : SortedIn (ltOf cfH) 0 xs.toArray.size d') : d'.toList = T := by
  obtain ⟨s1, _, s3⟩ := h1
  refine perm_rise _ _ ?_ hT ?_
  · rw [List.pairwise_iff_getElem]
    intro i j hi hj hij
    have hj' : j < d'.size := by simpa using hj
    have := h2 i j (Nat.zero_le _) hij (by rw [← s1]; exact hj')
    rw [ltH, getElem!_pos d' j hj', getElem!_pos d' i (by omega)] at this
    simp at this
    simpa using this
  · have e1 : d'.extract 0 xs.toArray.size = d' := by rw [← s1]; simp
    have e2 : xs.toArray.extract 0 xs.toArray.size = xs.toArray := by simp
    rw [e1, e2] at s3
    exact s3.trans hp

set_option maxHeartbeats 1000000 in
theorem rising (x y : Hd) (W : World) : Calls Try.prog 45 #[.agg (Hd.cs x).toArray, .agg (Hd.cs y).toArray] W fun e w' => e = .returned (.int .i64 (cfH x y)) ∧ ∃ q os', w' = grow (W.drewN q) os' := by
  obtain ⟨xh, xr, xrep, xown, xlends, xcall⟩ := x
  obtain ⟨yh, yr, yrep, yown, ylends, ycall⟩ := y
  have hcon := fun W' => Try.cmp_Compare_int xh yh W'
  simp only [cfH, Hd.cs]
  generalize Lib.compareInt xh yh = r at hcon ⊢
  go_enter Try.func45, Try.ntmps45
  go_wp2_with (go_at_call 46; refine (hcon _).mono ?_; rintro e w' ⟨rfl, rfl⟩)
  go_ret
  exact ⟨rfl, 0, _, by rw [alloc_eq_grow, alloc_eq_grow, grow_grow]; rfl⟩

set_option maxRecDepth 100000 in
set_option maxHeartbeats 2000000 in
theorem ins_none (fv : Value) (w : World) : Calls Try.prog 71 #[.slice none 0 0, .int .i64 0, .int .i64 0, fv] w fun e w' => e = .returned (.tuple #[]) ∧ w = w' := by
  go_enter Try.func71, Try.ntmps71
  go_wp2
  refine wp_loop_rounds 1 ?_
  rw [rounds_succ]
  go_wp2
  go_end0
  exact ⟨rfl, rfl⟩
set_option maxRecDepth 100000 in
set_option maxHeartbeats 2000000 in
theorem pdq_none (lim : Int) (fv : Value) (w : World) : Calls Try.prog 69 #[.slice none 0 0, .int .i64 0, .int .i64 0, .int .i64 lim, fv] w fun e w' => e = .returned (.tuple #[]) ∧ w = w' := by
  have HI := fun W => ins_none fv W
  go_enter Try.func69, Try.ntmps69
  go_wp2
  refine wp_loop_rounds 1 ?_
  rw [rounds_succ]
  go_wp2_with (go_at_call 71; refine (HI _).mono ?_; rintro e w' ⟨rfl, rfl⟩)
  (try simp only [Exit.inBlock, Exit.then]); refine bodyPost_ret (results_none rfl _ _ _) rfl ?_
  exact ⟨rfl, rfl⟩
set_option maxRecDepth 100000 in
set_option maxHeartbeats 2000000 in
theorem sort_none (fv : Value) (w : World) : Calls Try.prog 65 #[.slice none 0 0, fv] w fun e w' => e = .returned (.tuple #[]) ∧ w = w' := by
  have HP := fun lim W => pdq_none lim fv W
  have HL := fun W => Try.bits_Len 0 W (by omega) (by omega)
  go_enter Try.func65, Try.ntmps65
  go_wp2_with (first
    | (go_at_call 70; refine (HL _).mono ?_; rintro e w' ⟨rfl, rfl⟩)
    | (go_at_call 69; refine (HP _ _).mono ?_; rintro e w' ⟨rfl, rfl⟩))
  go_end0
  exact ⟨rfl, rfl⟩

/-- SortFunc at a row of handles that owns. -/
theorem sort_own {B : Nat} {v : Value} {xs T : List Hd} {w : World} (hT : Rise T) (hl : T.length ≤ 256) (hp : xs.Perm T) (h : w.ownsRow B 68 6 v xs.length (hdCs xs)) (hB : B ≤ w.heap.size) :
    Calls Try.prog 65 #[v, .func (.func 45) #[] #[]] w fun e w' => e = .returned (.tuple #[]) ∧ w'.ownsRow B 68 6 v T.length (hdCs T) ∧ Below B w w' := by
  have hlen : xs.length = T.length := hp.length_eq
  rcases h.2 with ⟨rfl, h0⟩ | ⟨g, cap, cur, rfl, hg, hgb, c1, c2, c3, c4⟩
  · have hx : xs = [] := List.eq_nil_of_length_eq_zero h0
    subst hx
    have hT0 : T = [] := hp.symm.eq_nil
    subst hT0
    refine (sort_none _ w).mono ?_
    rintro e w' ⟨rfl, rfl⟩
    exact ⟨rfl, h, Below.refl _ _⟩
  · have hgl : g < w.heap.size := (Array.getElem?_eq_some_iff.1 hgb).1
    have eg : ∀ args w, (callFunc 45 args).run Try.prog w = .ok (.enter 45 args) w := enters_of Try.func45 (by kernel_rfl) rfl
    have hc := AnyQ.slices_SortFunc Try.sortH 6 Try.isAgg68 Try.sizeOf68 Hd.cs (fun _ => rfl) (fun x => one_hd x) cfH swoH 45 #[] g 0 cap xs.toArray w eg (fun _ _ _ _ x y => rising x y _) (holdsK_hd hgb c4) hgl (by simp; omega)
    change Calls Try.prog 65 _ _ _ at hc
    rw [show xs.toArray.size = xs.length by simp] at hc
    refine hc.mono ?_
    rintro e w' ⟨rfl, d', n, os, hp', hs', rfl⟩
    have hd : d'.toList = T := sorted_hd hT hp (by simpa using hp') (by simpa using hs')
    unfold sortWorldK putRowK
    rw [flatK_hd, hd]
    refine ⟨rfl, ⟨hdCs_len T, .inr ⟨g, cap, _, by rw [hlen], hg, heap_sortedV _ hgb, by omega, c2, by simp [putCells, c3], ?_⟩⟩, (Below.refl B w).grown (grownBy_sortedV _) hB (fun j hj => by cases hj; exact hg)⟩
    rw [← hdCs_len T]
    refine take_putCellsV cur (hdCs T) ?_
    rw [hdCs_len, c3]
    exact Nat.mul_le_mul_right 6 (by omega)

set_option maxRecDepth 100000 in
set_option maxHeartbeats 2000000 in
theorem sortedFunc (Bm b : Nat) (T : List Hd) (hT : Rise T) (hl : T.length ≤ 256) (w : World) (hBm : Bm < w.heap.size) (hm : w.cell? ⟨Bm, 0, none⟩ = some (.map (some b))) (hown : HMap w b T) :
    Calls Try.prog 47 #[.func (.func 66) #[] #[.pointer (some ⟨Bm, 0, none⟩)], .func (.func 45) #[] #[]] w fun e W' => ∃ v, e = .returned v ∧ W'.ownsRow w.heap.size 68 6 v T.length (hdCs T) ∧ Below w.heap.size w W' := by
  have HC := callsIn_wide.1 (collect_in Fence.wide 4 trivial trivial trivial rfl (by omega) Bm b T hT hl w hBm hm hown)
  have HS := fun (v : Value) (xs : List Hd) (W : World) (hp : xs.Perm T) (h : W.ownsRow w.heap.size 68 6 v xs.length (hdCs xs)) (hb : Below w.heap.size w W) => sort_own hT hl hp h hb.size
  clear hm hown
  go_enter Try.func47, Try.ntmps47
  go_wp2_with (first
    | (go_at_call 64; refine HC.mono ?_; rintro e W1 ⟨v, xs, rfl, hp, hr, hb⟩)
    | (go_at_call 65; refine (HS _ xs _ hp hr hb).mono ?_; rintro e W2 ⟨rfl, hr2, hb2⟩))
  go_ret
  exact ⟨v, rfl, hr2, hb.trans hb2⟩
end Go.Proofs.Ytglhfofofacekaa
