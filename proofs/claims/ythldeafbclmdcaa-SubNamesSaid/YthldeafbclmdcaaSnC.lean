/- subtype: Same of two resources' types: one round. -/
import Derived.Test.YthldeafbclmdcaaSnM
set_option linter.unusedVariables false
set_option linter.unusedSimpArgs false
namespace Go.Proofs.Ythldeafbclmdcaa
open Go.RowKit
open Ct

abbrev sam4 (w : World) : World := ((((w.alloc (.cells (ownC 0) 25)).alloc (.cells (ownC 2) 25)).alloc (.map #[] 0)).alloc (.cells #[.pointer (some ⟨w.heap.size, 0, none⟩), .pointer (some ⟨w.heap.size + 1, 0, none⟩)] 49))
theorem setB_same {w : World} {b : Nat} {o o' : Obj} (h : w.heap[b]? = some o) : (ChangeMaps.setBlock w b o').heap[b]? = some o' := (MapKept.heap_set h).1
theorem setB_kept {F : Nat → Prop} {w : World} {b : Nat} {o o' : Obj} (h : w.heap[b]? = some o) (hF : F b) : Kept F w (ChangeMaps.setBlock w b o') :=
  ⟨rfl, rfl, rfl, by simp [ChangeMaps.setBlock], fun k _ hk => (MapKept.heap_set h).2 k fun e => hk (e ▸ hF)⟩
/-- What the round finds behind the count. -/
structure Cnt (w wr wB wC : World) : Prop where
  two : Two wC w.heap.size (w.heap.size + 1)
  kept : Kept (fun _ => False) w wC
  map : wC.heap[w.heap.size + 1 + 1]? = some (.map #[{ key := pairV w.heap.size (w.heap.size + 1), val := .int .i64 1, born := 0 }] 1)
  p : BlkAt wC wr.heap.size #[.pointer (some ⟨w.heap.size, 0, none⟩), .pointer (some ⟨w.heap.size + 1, 0, none⟩)] 49
theorem sam4_map (w : World) : (sam4 w).heap[w.heap.size + 1 + 1]? = some (.map #[] 0) := by
  have h := heap_alloc_new ((w.alloc (.cells (ownC 0) 25)).alloc (.cells (ownC 2) 25)) (.map #[] 0)
  rw [World.size_alloc, World.size_alloc] at h
  have k : Kept (fun _ => False) (((w.alloc (.cells (ownC 0) 25)).alloc (.cells (ownC 2) 25)).alloc (.map #[] 0)) (sam4 w) := (Kept.refl _ _).new _
  exact k.cells h id
theorem sam4_two (w : World) : Two (sam4 w) w.heap.size (w.heap.size + 1) := by
  have h1 := BlkAt.new w (ownC 0) 25
  have h2 := BlkAt.new (w.alloc (.cells (ownC 0) 25)) (ownC 2) 25
  rw [World.size_alloc] at h2
  exact ⟨h1.kept (F := fun _ => False) ((((Kept.refl _ _).new _).new _).new _) id, h2.kept (F := fun _ => False) (((Kept.refl _ _).new _).new _) id⟩
theorem sam4_kept (w : World) : Kept (fun _ => False) w (sam4 w) := ((((Kept.refl _ _).new _).new _).new _).new _
theorem sam4_pairs (w : World) : BlkAt (sam4 w) (w.heap.size + 1 + 1 + 1) #[.pointer (some ⟨w.heap.size, 0, none⟩), .pointer (some ⟨w.heap.size + 1, 0, none⟩)] 49 := by
  have h := BlkAt.new (((w.alloc (.cells (ownC 0) 25)).alloc (.cells (ownC 2) 25)).alloc (.map #[] 0)) #[.pointer (some ⟨w.heap.size, 0, none⟩), .pointer (some ⟨w.heap.size + 1, 0, none⟩)] 49
  rw [World.size_alloc, World.size_alloc, World.size_alloc] at h
  exact h
/-- The count of a pair that was not there: whatever comes first. -/
theorem count_one (w wr : World) (hw : wr = sam4 w) : ∃ wB wC,
    (Instr.lookup 46 (.map (some (w.heap.size + 1 + 1))) (pairV w.heap.size (w.heap.size + 1)) false).run Try.prog (wr.alloc (.cells #[.pointer (some ⟨w.heap.size, 0, none⟩), .pointer (some ⟨w.heap.size + 1, 0, none⟩)] 49)).drew = .ok (.int .i64 0) (wr.alloc (.cells #[.pointer (some ⟨w.heap.size, 0, none⟩), .pointer (some ⟨w.heap.size + 1, 0, none⟩)] 49)).drew ∧
    (Instr.mapEntry 46 (.map (some (w.heap.size + 1 + 1))) (pairV w.heap.size (w.heap.size + 1))).run Try.prog (wr.alloc (.cells #[.pointer (some ⟨w.heap.size, 0, none⟩), .pointer (some ⟨w.heap.size + 1, 0, none⟩)] 49)).drew = .ok (.tuple #[.int .i64 0, .int .i64 0]) wB ∧
    (Instr.lookup 46 (.map (some (w.heap.size + 1 + 1))) (pairV w.heap.size (w.heap.size + 1)) false).run Try.prog wB = .ok (.int .i64 0) wB ∧
    (Instr.entryStore 46 (.map (some (w.heap.size + 1 + 1))) (.int .i64 0) (.int .i64 1)).run Try.prog wB = .ok () wC ∧
    (Instr.lookup 46 (.map (some (w.heap.size + 1 + 1))) (pairV w.heap.size (w.heap.size + 1)) false).run Try.prog wC = .ok (.int .i64 1) wC ∧
    Cnt w wr wB wC := by
  subst hw
  have k0 : Kept (fun _ => False) (sam4 w) ((sam4 w).alloc (.cells #[.pointer (some ⟨w.heap.size, 0, none⟩), .pointer (some ⟨w.heap.size + 1, 0, none⟩)] 49)).drew := ((Kept.refl _ _).new _).drew
  have hp : BlkAt ((sam4 w).alloc (.cells #[.pointer (some ⟨w.heap.size, 0, none⟩), .pointer (some ⟨w.heap.size + 1, 0, none⟩)] 49)).drew (sam4 w).heap.size #[.pointer (some ⟨w.heap.size, 0, none⟩), .pointer (some ⟨w.heap.size + 1, 0, none⟩)] 49 := BlkAt.new (sam4 w) _ _
  generalize ((sam4 w).alloc (.cells #[.pointer (some ⟨w.heap.size, 0, none⟩), .pointer (some ⟨w.heap.size + 1, 0, none⟩)] 49)).drew = wA at k0 hp
  have m0 := k0.cells (sam4_map w) id
  have t0 := (sam4_two w).kept k0 fun _ _ => id
  have z0 := (sam4_kept w).trans k0
  have m1 := setB_same (o' := .map #[{ key := pairV w.heap.size (w.heap.size + 1), val := .int .i64 0, born := 0 }] 1) m0
  have k1 := setB_kept (F := fun k => k = w.heap.size + 1 + 1) (o' := .map #[{ key := pairV w.heap.size (w.heap.size + 1), val := .int .i64 0, born := 0 }] 1) m0 rfl
  have m2 := setB_same (o' := .map #[{ key := pairV w.heap.size (w.heap.size + 1), val := .int .i64 1, born := 0 }] 1) m1
  have k2 := setB_kept (F := fun k => k = w.heap.size + 1 + 1) (o' := .map #[{ key := pairV w.heap.size (w.heap.size + 1), val := .int .i64 1, born := 0 }] 1) m1 rfl
  have k := k1.trans k2
  refine ⟨_, _, lk_none wA _ _ _ m0, me_none wA _ _ _ m0, lk_one _ _ _ _ _ _ _ m1, es_one _ _ _ _ 1 m1, lk_one _ _ _ _ _ _ _ m2, ⟨t0.kept k ?_, ?_, m2, hp.kept k ?_⟩⟩
  · rintro i (rfl | rfl) <;> omega
  · exact z0.then k fun i hi e => by omega
  · have := (sam4_kept w).size
    have e : (sam4 w).heap.size = w.heap.size + 1 + 1 + 1 + 1 := by simp [sam4]
    omega
set_option maxRecDepth 100000 in
set_option maxHeartbeats 4000000 in
theorem same_own (w : World) (am : Option Addr) (nm cm : Nat) (r : Bool)
    (HN : Hid (∀ w' ba bb, Kept (fun _ => False) w w' → Two w' ba bb → Calls Try.prog 30 #[.pointer (some ⟨ba, 0, none⟩), .pointer (some ⟨bb, 0, none⟩), .slice am nm cm] w' fun y w'' => y = .returned (.bool r) ∧ Kept (fun _ => False) w' w'')) :
    Calls Try.prog 7 #[.agg (ownC 0), .agg (ownC 2), .slice am nm cm] w fun y w' => y = .returned (.bool r) ∧ Kept (fun _ => False) w w' := by
  have hmm := @run_makeMap Try.prog
  go_enter Try.func7, Try.ntmps7
  go_wp2_with fail
  go_loopw [8] (fun v wr => ∃ n : Nat, v = .slice (some ⟨w.heap.size + 1 + 1 + 1, 0, none⟩) n 1 ∧ ((n = 1 ∧ Hid (wr = sam4 w)) ∨ (n = 0 ∧ r = true ∧ Kept (fun _ => False) w wr))) (fun v _ => match v with | .slice _ n _ => n | _ => 0)
  case atStart => exact ⟨1, rfl, .inl ⟨rfl, Lib.hid rfl⟩⟩
  case round =>
    obtain ⟨n, rfl, ⟨rfl, hw⟩ | ⟨rfl, rfl, hk⟩⟩ := hrel
    · have hb := sam4_pairs w
      rw [← hw.out] at hb
      have c0 := hb.cell 0
      have c1 := hb.cell 1
      simp at c0 c1
      obtain ⟨wB, wC, l0, e0, l1, s1, l2, hC⟩ := count_one w wr hw.out
      have d0 := hC.p.cell 0
      have d1 := hC.p.cell 1
      simp at d0 d1
      have HA := Lib.hid (alike_own wC w.heap.size (w.heap.size + 1) am nm cm r hC.two (Lib.hid fun w' k => HN.out w' _ _ (hC.kept.trans k) (hC.two.kept k fun _ _ => id)))
      have HC := Lib.hid hC
      clear hC hb
      go_wp2_with fail
      go_region
      cases r
      · go_wp2_with (first
          | (go_at_call 19; refine HA.out.mono ?_; rintro y wD ⟨rfl, kD⟩))
        go_ret
        exact ⟨rfl, HC.out.kept.trans kD⟩
      · go_wp2_with (first
          | (go_at_call 19; refine HA.out.mono ?_; rintro y wD ⟨rfl, kD⟩; have HD := Lib.hid kD; have HT := Lib.hid (HC.out.two.kept kD fun _ _ => id); obtain ⟨a0, a1, a2, a3, b0, b1, b2, b3⟩ := HT.out.cells; have hpD := HC.out.p.kept kD id; have f0 := hpD.cell 0; have f1 := hpD.cell 1; simp at f0 f1; clear kD hpD))
        go_loopw [8, 51] (fun v8 v wr => v8 = .slice (some ⟨w.heap.size + 1 + 1 + 1, 0, none⟩) 0 1 ∧ v = .int .i64 0 ∧ Kept (fun _ => False) wD wr) (fun _ _ _ => 0)
        case atStart => exact ⟨rfl, rfl, Kept.refl _ _⟩
        case round =>
          obtain ⟨rfl, rfl, kE⟩ := hrel
          go_wp2_with fail
          exact ⟨⟨0, rfl, .inr ⟨rfl, by first | exact HC.out.kept.trans (HD.out.trans kE) | exact ⟨trivial, HC.out.kept.trans (HD.out.trans kE)⟩⟩⟩, by simp⟩
    · go_wp2_with fail
      go_ret
      exact ⟨rfl, hk⟩
theorem num_yes' (w w' : World) (ba bb g : Nat) (_k : Kept (fun _ => False) w w') (h : Two w' ba bb) (hm : w.cell? ⟨g, 0, none⟩ = some (.int .i64 2)) :
    Calls Try.prog 30 #[.pointer (some ⟨ba, 0, none⟩), .pointer (some ⟨bb, 0, none⟩), .slice (some ⟨g, 0, none⟩) 1 1] w' fun y w'' => y = .returned (.bool true) ∧ Kept (fun _ => False) w' w'' :=
  num_yes w' ba bb g h ((cell_of (_k.block g (World.block_lt_of_cell? w _ hm) id)).trans hm)
theorem sam2_two (w : World) : Two (((w.alloc (.cells (ownC 0) 25)).alloc (.cells (ownC 2) 25)).alloc (.cells #[.int .i64 2] 3)) w.heap.size (w.heap.size + 1) := by
  have h1 := BlkAt.new w (ownC 0) 25
  have h2 := BlkAt.new (w.alloc (.cells (ownC 0) 25)) (ownC 2) 25
  rw [World.size_alloc] at h2
  exact ⟨h1.kept (F := fun _ => False) (((Kept.refl _ _).new _).new _) id, h2.kept (F := fun _ => False) ((Kept.refl _ _).new _) id⟩
theorem sam2_kept (w : World) : Kept (fun _ => False) w (((w.alloc (.cells (ownC 0) 25)).alloc (.cells (ownC 2) 25)).alloc (.cells #[.int .i64 2] 3)) := (((Kept.refl _ _).new _).new _).new _
set_option maxRecDepth 100000 in
set_option maxHeartbeats 4000000 in
/-- The chapter's example comes out. -/
theorem awake14_any (w : World) : Calls Try.prog 11 #[] w fun y w' => y = .returned (.bool true) ∧ Kept (fun _ => False) w w' := by
  have HY : Hid (∀ w' g, w'.cell? ⟨g, 0, none⟩ = some (.int .i64 2) → Calls Try.prog 7 #[.agg (ownC 0), .agg (ownC 2), .slice (some ⟨g, 0, none⟩) 1 1] w' fun y w'' => y = .returned (.bool true) ∧ Kept (fun _ => False) w' w'') := Lib.hid fun w' g h => same_own w' _ _ _ true (Lib.hid fun w2 ba bb k t => num_yes' w' w2 ba bb g k t h)
  have HO : Hid (∀ w', Calls Try.prog 7 #[.agg (ownC 0), .agg (ownC 2), .slice none 0 0] w' fun y w'' => y = .returned (.bool false) ∧ Kept (fun _ => False) w' w'') := Lib.hid fun w' => same_own w' _ _ _ false (Lib.hid fun w2 ba bb k t => num_no w2 ba bb t)
  have HT := Lib.hid (sam2_two w)
  have HK0 := Lib.hid (sam2_kept w)
  have HG : Hid (((((w.alloc (.cells (ownC 0) 25)).alloc (.cells (ownC 2) 25)).alloc (.cells #[.int .i64 2] 3))).cell? ⟨w.heap.size + 1 + 1, 0, none⟩ = some (.int .i64 2)) := Lib.hid (by
    have h := (BlkAt.new ((w.alloc (.cells (ownC 0) 25)).alloc (.cells (ownC 2) 25)) #[.int .i64 2] 3).cell 0
    rw [World.size_alloc, World.size_alloc] at h
    exact h)
  go_enter Try.func11, Try.ntmps11
  go_wp2_with (first
    | (go_at_call 7; have _h := HK1; refine (HO.out _).mono ?_; rintro y w2 ⟨rfl, k2⟩)
    | (go_at_call 7; refine (HY.out _ _ HG.out).mono ?_; rintro y w1 ⟨rfl, k1⟩; have HK1 := Lib.hid (HK0.out.trans k1); obtain ⟨a0, a1, a2, a3, b0, b1, b2, b3⟩ := (HT.out.kept k1 fun _ _ => id).cells; clear k1 HY HG))
  go_ret
  exact ⟨rfl, HK1.out.trans k2⟩
end Go.Proofs.Ythldeafbclmdcaa
