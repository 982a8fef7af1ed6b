/- handles: Enter, whole. -/
import Derived.Test.YtglhfofofacekaaHdJ
set_option linter.unusedVariables false
set_option linter.unusedSimpArgs false
namespace Go.Proofs.Ytglhfofofacekaa
open Go.RowKit

theorem zip_snoc (cl : List (Int × List (Int × Int))) (ls : List Nat) (hl : ls.length = cl.length) (c : Int × List (Int × Int)) (m : Nat) : (cl ++ [c]).zip (ls ++ [m]) = cl.zip ls ++ [(c, m)] := by
  rw [List.zip_append (by omega)]
  rfl
theorem getD_snoc_lt {α : Type} (l : List α) (x d : α) (j : Nat) (h : j < l.length) : (l ++ [x]).getD j d = l.getD j d := by
  simp only [List.getD_eq_getElem?_getD]
  rw [List.getElem?_append_left h]
theorem getD_snoc_eq {α : Type} (l : List α) (x d : α) : (l ++ [x]).getD l.length d = x := by
  simp [List.getD_eq_getElem?_getD]
/-- Blocks of F, or new ones. -/
abbrev orNew (F : Nat → Prop) (n : Nat) : Nat → Prop := fun b => F b ∨ n ≤ b
theorem TbR.entered {F : Nat → Prop} {a : Nat} {w : World} {S : Tb} {H : TbH} (h : TbR F a w S H) {i : Int} {m : Nat} {v : Value} {w2 w5 : World} (hb : Below w.heap.size w w2) (hm : w.heap.size ≤ m) (hmap : LMap w2 m []) (hg : w2.grownBy w5 H.cv.ownBlock)
    (hown : w5.ownsRow 0 83 2 v (S.cl.length + 1) ((S.cl.zip H.ls).flatMap clC ++ [.int .i64 i, .map (some m)])) (hat : v.ownBlock = H.cv.ownBlock ∨ v.ownBlock = some w2.heap.size) :
    TbR (orNew F w.heap.size) a (w5.setCell ⟨a, 2, none⟩ v) { S with cl := S.cl ++ [(i, [])] } { H with cv := v, ls := H.ls ++ [m] } ∧ Kept F w (w5.setCell ⟨a, 2, none⟩ v) := by
  have h2 := h.below hb
  have K25 : Kept (fun b => some b = H.cv.ownBlock) w2 w5 := Kept.grow hg
  have K5 : Kept (· = a) w5 (w5.setCell ⟨a, 2, none⟩ v) := (Kept.refl (fun b => b = a) w5).set (p := ⟨a, 2, none⟩) rfl v
  have hmlt := hmap.lt
  have mapne : ∀ b es c, w2.heap[b]? = some (.map es c) → some b ≠ H.cv.ownBlock := fun b es c hb e => own_ne_map h2.calls hb e.symm
  have mapna : ∀ b es c, w2.heap[b]? = some (.map es c) → b ≠ a := fun b es c hb e => cells_ne_map h2.head hb e.symm
  have keepM : ∀ (b : Nat) (es : Array MapEntry) (c : Nat), w2.heap[b]? = some (Obj.map es c) → (w5.setCell ⟨a, 2, none⟩ v).heap[b]? = w2.heap[b]? := fun b es c hb => by
    have hlt : b < w2.heap.size := (Array.getElem?_eq_some_iff.1 hb).1
    rw [K5.block b (Nat.lt_of_lt_of_le hlt K25.size) (mapna b es c hb), K25.block b hlt (mapne b es c hb)]
  have hlen : ({ S with cl := S.cl ++ [(i, [])] } : Tb).cl.length = S.cl.length + 1 := by simp
  have hcva : H.cv.ownBlock ≠ some a := own_ne_cells h2.calls h2.head (by decide)
  have hcvt : H.cv.ownBlock ≠ some H.tg := own_ne_cells h2.calls h2.tbl (by decide)
  have hta : H.tg ≠ a := by
    intro e
    have h1 := h2.tbl
    have h3 := h2.head
    rw [e] at h1
    have := (show w2.heap[a]? = some (.cells H.tcs 56 (0, 0)) from h1).symm.trans h3
    injection this with this
    injection this with _ this
    exact absurd this (by decide)
  have hF2 : ∀ g, H.cv.ownBlock = some g → F g := h.fc
  refine ⟨?_, ?_⟩
  · refine { h with head := ?_, mks := ?_, tbl := ?_, nl := ?_, maps := ?_, calls := ?_, lents := ?_, apart := ?_, fa := .inl h.fa, ft := .inl h.ft, fm := fun g hg => .inl (h.fm g hg), fc := ?_, fb := ?_ }
    · have h5 : BlkAt w5 a _ _ := h2.head.kept K25 (fun e => hcva e.symm)
      exact h5.put 2 v
    · refine ownsRow_kept (ownsRow_kept h2.mks K25 (fun g hg e => ?_)) K5 (fun g hg e => ?_)
      · obtain ⟨c1, f1, q1⟩ := row_kind h2.mks g hg
        obtain ⟨c2, f2, q2⟩ := row_kind h2.calls g e.symm
        rw [q1] at q2
        injection q2 with q2
        injection q2 with _ q2
        exact absurd q2 (by decide)
      · exact own_ne_cells h2.mks h2.head (by decide) (by rw [hg, e])
    · exact (h2.tbl.kept K25 (fun e => hcvt e.symm)).kept K5 hta
    · simp [h.nl]
    · intro j hj
      obtain ⟨es, c, hb'⟩ := (h2.maps j hj).block
      exact (h2.maps j hj).next (keepM _ es c hb')
    · rw [hlen]
      refine ownsRow_kept (w := w5) ?_ K5 (fun g hg e => ?_)
      · show w5.ownsRow 0 _ 2 v (S.cl.length + 1) (((S.cl ++ [(i, [])]).zip (H.ls ++ [m])).flatMap clC)
        rw [zip_snoc _ _ h.nl, List.flatMap_append]
        exact hown
      · rcases hat with h1 | h1
        · exact hcva (by rw [← h1, hg, e])
        · rw [h1] at hg
          injection hg with hg
          have := h.head.lt
          have := hb.size
          omega
    · intro j hj
      rw [hlen] at hj
      by_cases e : j < S.cl.length
      · show LMap _ ((H.ls ++ [m]).getD j 0) ((S.cl ++ [(i, [])]).getD j (0, [])).2
        rw [getD_snoc_lt _ _ _ _ (by rw [h.nl]; exact e), getD_snoc_lt _ _ _ _ e]
        obtain ⟨es, c, hb'⟩ := (h2.lents j e).block
        exact (h2.lents j e).next (keepM _ es c hb')
      · have e' : j = S.cl.length := by omega
        subst e'
        show LMap _ ((H.ls ++ [m]).getD S.cl.length 0) ((S.cl ++ [(i, [])]).getD S.cl.length (0, [])).2
        rw [getD_snoc_eq, ← h.nl, getD_snoc_eq]
        obtain ⟨es, c, hb'⟩ := hmap.block
        exact hmap.next (keepM _ es c hb')
    · show (H.bs ++ (H.ls ++ [m])).Nodup
      rw [← List.append_assoc]
      refine List.nodup_append.2 ⟨h.apart, by simp, fun b hb1 c hc e => ?_⟩
      simp at hc
      subst hc
      subst e
      have : b < w.heap.size := by
        rcases List.mem_append.1 hb1 with hb1 | hb1
        · obtain ⟨j, hj, rfl⟩ := List.getElem_of_mem hb1
          have := (h.maps j (by rw [← h.nb]; exact hj)).lt
          rwa [List.getD_eq_getElem?_getD, List.getElem?_eq_getElem hj] at this
        · obtain ⟨j, hj, rfl⟩ := List.getElem_of_mem hb1
          have := (h.lents j (by rw [← h.nl]; exact hj)).lt
          rwa [List.getD_eq_getElem?_getD, List.getElem?_eq_getElem hj] at this
      omega
    · intro g hg
      rcases hat with h1 | h1
      · exact .inl (h.fc g (by rw [← h1]; exact hg))
      · have hg' : v.ownBlock = some g := hg
        rw [h1] at hg'
        injection hg' with hg'
        exact .inr (by have := hb.size; omega)
    · intro b hb1
      have hb1' : b ∈ H.bs ++ (H.ls ++ [m]) := hb1
      rw [← List.append_assoc] at hb1'
      rcases List.mem_append.1 hb1' with hb1' | hb1'
      · exact .inl (h.fb b hb1')
      · simp at hb1'
        exact .inr (by omega)
  · exact ((Kept.of_below hb : Kept F w w2).then K25 (fun b _ e => h.fc b e.symm)).then K5 (fun b _ e => by rw [e]; exact h.fa)
/-- Enter. -/
theorem TbR.enter {F : Nat → Prop} {a : Nat} {w : World} {S : Tb} {H : TbH} (h : TbR F a w S H) {N : Nat} (ok : TbOk N S) (i : Int) :
    Calls Try.prog 22 #[.pointer (some ⟨a, 0, none⟩), .int .i64 i] w fun e w' => e = .returned (.int .i64 (enterS S i).1) ∧ TbAt (orNew F w.heap.size) a w' (enterS S i).2 ∧ Kept F w w' := by
  unfold enterS
  have hno : ∀ {w'}, Below w.heap.size w w' → TbAt (orNew F w.heap.size) a w' S ∧ Kept F w w' := fun hb => ⟨⟨H, (h.below hb).mono (fun b => .inl)⟩, Kept.of_below hb⟩
  rcases Bool.eq_false_or_eq_true (hasB S.tb.length i) with hi | hi
  · rcases Bool.eq_false_or_eq_true ((S.cl.map (·.1)).any (fun c => c == i)) with hc | hc
    · rw [if_neg (by rw [hc]; simp)]
      refine (h.enter_in ok.k1 i hi hc).mono ?_
      rintro e w' ⟨rfl, hb⟩
      exact ⟨rfl, hno hb⟩
    · rw [if_pos (by rw [hi, hc]; rfl)]
      by_cases hf : 16 ≤ S.cl.length
      · rw [if_pos hf]
        refine (h.enter_full ok.k1 i hi hc hf).mono ?_
        rintro e w' ⟨rfl, hb⟩
        exact ⟨rfl, hno hb⟩
      · rw [if_neg hf]
        refine (h.enter_ok ok.k1 i hi hc hf).mono ?_
        rintro e w' ⟨rfl, m, v, w2, w5, hb, hm, hmap, hg, hown, hat, rfl⟩
        have z := h.entered hb hm hmap hg hown hat
        exact ⟨rfl, ⟨_, z.1⟩, z.2⟩
  · rw [if_neg (by rw [hi]; simp)]
    refine (h.enter_no i hi).mono ?_
    rintro e w' ⟨rfl, hb⟩
    exact ⟨rfl, hno hb⟩
end Go.Proofs.Ytglhfofofacekaa
