/- handles: a copy of tables in the making. -/
import Derived.Test.YtglhfofofacekaaHdT
set_option linter.unusedVariables false
set_option linter.unusedSimpArgs false
namespace Go.Proofs.Ytglhfofofacekaa
open Go.RowKit

theorem TbR.called {F : Nat → Prop} {a : Nat} {w : World} {S : Tb} {H : TbH} (h : TbR F a w S H) {i : Int} {L : List (Int × Int)} {m : Nat} {v : Value} {w2 w5 : World} (hb : Below w.heap.size w w2) (hm : w.heap.size ≤ m) (hmap : LMap w2 m L) (hg : w2.grownBy w5 H.cv.ownBlock)
    (hown : w5.ownsRow 0 83 2 v (S.cl.length + 1) ((S.cl.zip H.ls).flatMap clC ++ [.int .i64 i, .map (some m)])) (hat : v.ownBlock = H.cv.ownBlock ∨ v.ownBlock = some w2.heap.size) :
    TbR (orNew F w.heap.size) a (w5.setCell ⟨a, 2, none⟩ v) { S with cl := S.cl ++ [(i, L)] } { H with cv := v, ls := H.ls ++ [m] } ∧ Kept F w (w5.setCell ⟨a, 2, none⟩ v) := by
  have h2 := h.below hb
  have K25 : Kept (fun b => some b = H.cv.ownBlock) w2 w5 := Kept.grow hg
  have K5 : Kept (· = a) w5 (w5.setCell ⟨a, 2, none⟩ v) := (Kept.refl (fun b => b = a) w5).set (p := ⟨a, 2, none⟩) rfl v
  have hmlt := hmap.lt
  have mapne : ∀ b es c, w2.heap[b]? = some (.map es c) → some b ≠ H.cv.ownBlock := fun b es c hb e => own_ne_map h2.calls hb e.symm
  have mapna : ∀ b es c, w2.heap[b]? = some (.map es c) → b ≠ a := fun b es c hb e => cells_ne_map h2.head hb e.symm
  have keepM : ∀ (b : Nat) (es : Array MapEntry) (c : Nat), w2.heap[b]? = some (Obj.map es c) → (w5.setCell ⟨a, 2, none⟩ v).heap[b]? = w2.heap[b]? := fun b es c hb => by
    have hlt : b < w2.heap.size := (Array.getElem?_eq_some_iff.1 hb).1
    rw [K5.block b (Nat.lt_of_lt_of_le hlt K25.size) (mapna b es c hb), K25.block b hlt (mapne b es c hb)]
  have hlen : ({ S with cl := S.cl ++ [(i, L)] } : Tb).cl.length = S.cl.length + 1 := by simp
  have hcva : H.cv.ownBlock ≠ some a := own_ne_cells h2.calls h2.head (by decide)
  have hcvt : H.cv.ownBlock ≠ some H.tg := own_ne_cells h2.calls h2.tbl (by decide)
  have hta : H.tg ≠ a := by
    intro e
    have h1 := h2.tbl
    have h3 := h2.head
    rw [e] at h1
    have := (show w2.heap[a]? = some (.cells H.tcs 56 (0, 0)) from h1).symm.trans h3
    injection this with this
    injection this with _ this
    exact absurd this (by decide)
  have hF2 : ∀ g, H.cv.ownBlock = some g → F g := h.fc
  refine ⟨?_, ?_⟩
  · refine { h with head := ?_, mks := ?_, tbl := ?_, nl := ?_, maps := ?_, calls := ?_, lents := ?_, apart := ?_, fa := .inl h.fa, ft := .inl h.ft, fm := fun g hg => .inl (h.fm g hg), fc := ?_, fb := ?_ }
    · have h5 : BlkAt w5 a _ _ := h2.head.kept K25 (fun e => hcva e.symm)
      exact h5.put 2 v
    · refine ownsRow_kept (ownsRow_kept h2.mks K25 (fun g hg e => ?_)) K5 (fun g hg e => ?_)
      · obtain ⟨c1, f1, q1⟩ := row_kind h2.mks g hg
        obtain ⟨c2, f2, q2⟩ := row_kind h2.calls g e.symm
        rw [q1] at q2
        injection q2 with q2
        injection q2 with _ q2
        exact absurd q2 (by decide)
      · exact own_ne_cells h2.mks h2.head (by decide) (by rw [hg, e])
    · exact (h2.tbl.kept K25 (fun e => hcvt e.symm)).kept K5 hta
    · simp [h.nl]
    · intro j hj
      obtain ⟨es, c, hb'⟩ := (h2.maps j hj).block
      exact (h2.maps j hj).next (keepM _ es c hb')
    · rw [hlen]
      refine ownsRow_kept (w := w5) ?_ K5 (fun g hg e => ?_)
      · show w5.ownsRow 0 _ 2 v (S.cl.length + 1) (((S.cl ++ [(i, L)]).zip (H.ls ++ [m])).flatMap clC)
        rw [zip_snoc _ _ h.nl, List.flatMap_append]
        exact hown
      · rcases hat with h1 | h1
        · exact hcva (by rw [← h1, hg, e])
        · rw [h1] at hg
          injection hg with hg
          have := h.head.lt
          have := hb.size
          omega
    · intro j hj
      rw [hlen] at hj
      by_cases e : j < S.cl.length
      · show LMap _ ((H.ls ++ [m]).getD j 0) ((S.cl ++ [(i, L)]).getD j (0, [])).2
        rw [getD_snoc_lt _ _ _ _ (by rw [h.nl]; exact e), getD_snoc_lt _ _ _ _ e]
        obtain ⟨es, c, hb'⟩ := (h2.lents j e).block
        exact (h2.lents j e).next (keepM _ es c hb')
      · have e' : j = S.cl.length := by omega
        subst e'
        show LMap _ ((H.ls ++ [m]).getD S.cl.length 0) ((S.cl ++ [(i, L)]).getD S.cl.length (0, [])).2
        rw [getD_snoc_eq, ← h.nl, getD_snoc_eq]
        obtain ⟨es, c, hb'⟩ := hmap.block
        exact hmap.next (keepM _ es c hb')
    · show (H.bs ++ (H.ls ++ [m])).Nodup
      rw [← List.append_assoc]
      refine List.nodup_append.2 ⟨h.apart, by simp, fun b hb1 c hc e => ?_⟩
      simp at hc
      subst hc
      subst e
      have : b < w.heap.size := by
        rcases List.mem_append.1 hb1 with hb1 | hb1
        · obtain ⟨j, hj, rfl⟩ := List.getElem_of_mem hb1
          have := (h.maps j (by rw [← h.nb]; exact hj)).lt
          rwa [List.getD_eq_getElem?_getD, List.getElem?_eq_getElem hj] at this
        · obtain ⟨j, hj, rfl⟩ := List.getElem_of_mem hb1
          have := (h.lents j (by rw [← h.nl]; exact hj)).lt
          rwa [List.getD_eq_getElem?_getD, List.getElem?_eq_getElem hj] at this
      omega
    · intro g hg
      rcases hat with h1 | h1
      · exact .inl (h.fc g (by rw [← h1]; exact hg))
      · have hg' : v.ownBlock = some g := hg
        rw [h1] at hg'
        injection hg' with hg'
        exact .inr (by have := hb.size; omega)
    · intro b hb1
      have hb1' : b ∈ H.bs ++ (H.ls ++ [m]) := hb1
      rw [← List.append_assoc] at hb1'
      rcases List.mem_append.1 hb1' with hb1' | hb1'
      · exact .inl (h.fb b hb1')
      · simp at hb1'
        exact .inr (by omega)
  · exact ((Kept.of_below hb : Kept F w w2).then K25 (fun b _ e => h.fc b e.symm)).then K5 (fun b _ e => by rw [e]; exact h.fa)
/-- A copy's tables in the making. -/
structure CloRel (B a : Nat) (mv : Value) (ms : List Int) (tb : List (List Hd)) (w0 wr : World) (k : Nat) (tv : Value) (bs : List Nat) : Prop where
  head : BlkAt wr a #[mv, tv, .slice none 0 0] 55
  row : wr.ownsRow B 56 1 tv k (bs.map fun b => .map (some b))
  len : bs.length = k
  maps : ∀ j, j < k → HMap wr (bs.getD j 0) (tb.getD j [])
  base : ∀ b ∈ bs, B ≤ b ∧ b < wr.heap.size
  nodup : bs.Nodup
  ints : Ints B mv ms wr
  keep : Below B w0 wr
  aB : B ≤ a
  bB : B ≤ w0.heap.size
theorem clo_step {B a k g cap m : Nat} {mv : Value} {ms : List Int} {tb : List (List Hd)} {w0 wr W w5 : World} {ta : Option Addr} {tc : Nat} {bs : List Nat} (h : CloRel B a mv ms tb w0 wr k (.slice ta k tc) bs)
    (hb : Below wr.heap.size wr W) (hm : wr.heap.size ≤ m) (hmade : HMap W m (tb.getD k []))
    (q2 : w5.ownsRow B 56 1 (.slice (some ⟨g, 0, none⟩) (k + 1) cap) (k + 1) (bs.map (fun b => .map (some b)) ++ [.map (some m)]))
    (q3 : W.grownBy w5 (Value.slice ta k tc).ownBlock) :
    CloRel B a mv ms tb w0 (w5.setCell ⟨a, 1, none⟩ (.slice (some ⟨g, 0, none⟩) (k + 1) cap)) (k + 1) (.slice (some ⟨g, 0, none⟩) (k + 1) cap) (bs ++ [m]) := by
  have k1 : Kept (fun _ => False) wr W := Kept.of_below hb
  have q4 : BlkAt W a #[mv, .slice ta k tc, .slice none 0 0] 55 := h.head.kept k1 (fun e => e)
  have q5 := ownsRow_kept h.row k1 (fun _ _ e => e)
  have K25 : Kept (fun b => some b = (Value.slice ta k tc).ownBlock) W w5 := Kept.grow q3
  have q1 : BlkAt w5 a #[mv, .slice ta k tc, .slice none 0 0] 55 := q4.kept K25 (fun e => own_ne_cells q5 q4 (by decide) e.symm)
  have K5 : Kept (fun b => b = a) w5 (w5.setCell ⟨a, 1, none⟩ (.slice (some ⟨g, 0, none⟩) (k + 1) cap)) := (Kept.refl (fun b => b = a) w5).set (p := ⟨a, 1, none⟩) rfl _
  have mapK : ∀ b T, HMap W b T → HMap (w5.setCell ⟨a, 1, none⟩ (.slice (some ⟨g, 0, none⟩) (k + 1) cap)) b T := fun b T hm => by
    obtain ⟨es, c, hb'⟩ := hm.block
    exact (hm.kept K25 (fun e => own_ne_map q5 hb' e.symm)).kept K5 (fun e => cells_ne_map q4 hb' e.symm)
  have hsum : (bs ++ [m]).map (fun b => Value.map (some b)) = bs.map (fun b => .map (some b)) ++ [.map (some m)] := by simp
  have hB : Below B w0 W := h.keep.trans (hb.mono (Nat.le_trans h.bB h.keep.size))
  have haB : B ≤ W.heap.size := Nat.le_trans h.bB hB.size
  have hsz : ∀ b, b < W.heap.size → b < (w5.setCell ⟨a, 1, none⟩ (.slice (some ⟨g, 0, none⟩) (k + 1) cap)).heap.size := fun b hb => Nat.lt_of_lt_of_le hb (Nat.le_trans K25.size K5.size)
  refine ⟨q1.put 1 _, ?_, by simp [h.len], ?_, ?_, ?_, ?_, ?_, h.aB, h.bB⟩
  · rw [hsum]
    exact ownsRow_kept q2 K5 (fun g' hg' e => own_ne_cells q2 q1 (by decide) (by rw [hg', e]))
  · intro j hj
    by_cases e : j < k
    · rw [getD_snoc_lt _ _ _ _ (by rw [h.len]; exact e)]
      exact mapK _ _ ((h.maps j e).kept k1 (fun e => e))
    · obtain rfl : j = k := by omega
      have e1 : (bs ++ [m]).getD j 0 = m := by rw [← h.len]; exact getD_snoc_eq _ _ _
      rw [e1]
      exact mapK _ _ hmade
  · intro b hb1
    rcases List.mem_append.1 hb1 with hb1 | hb1
    · have := h.base b hb1
      exact ⟨this.1, hsz b (Nat.lt_of_lt_of_le this.2 hb.size)⟩
    · simp at hb1
      subst hb1
      exact ⟨Nat.le_trans (Nat.le_trans h.bB h.keep.size) hm, hsz _ hmade.lt⟩
  · refine List.nodup_append.2 ⟨h.nodup, by simp, fun b hb1 c hc e => ?_⟩
    simp at hc
    subst hc
    subst e
    have := (h.base _ hb1).2
    omega
  · refine ownsRow_kept (ownsRow_kept (ownsRow_kept h.ints k1 (fun _ _ e => e)) K25 (fun g' hg' e => ?_)) K5 (fun g' hg' e => ?_)
    · obtain ⟨c1, f1, z1⟩ := row_kind (ownsRow_kept h.ints k1 (fun _ _ e => e)) g' hg'
      obtain ⟨c2, f2, z2⟩ := row_kind q5 g' e.symm
      rw [z1] at z2
      injection z2 with z2
      injection z2 with _ z2
      exact absurd z2 (by decide)
    · exact own_ne_cells (ownsRow_kept h.ints k1 (fun _ _ e => e)) q4 (by decide) (by rw [hg', e])
  · refine (hB.grown q3 haB (fun j e => (World.ownsRow.lt q5 j e).1)).trans ?_
    exact K5.below (Nat.le_trans haB K25.size) (fun b e => by rw [e]; exact h.aB)
theorem clo_end {B a : Nat} {mv tv : Value} {ms : List Int} {tb : List (List Hd)} {w0 wr : World} {bs : List Nat} (h : CloRel B a mv ms tb w0 wr tb.length tv bs) (hk : 1 ≤ tb.length) : ∃ H, TbR (B ≤ ·) a wr ⟨ms, tb, []⟩ H := by
  rcases h.row.2 with ⟨_, e0⟩ | ⟨g, cap, cur, rfl, h1, h2, h3, h4, h5, h6⟩
  · omega
  · refine ⟨⟨mv, g, cap, cur, bs, .slice none 0 0, []⟩, ⟨h.head, own_base h.ints (Nat.zero_le _), h2, h.len, rfl, ?_, h.maps, World.ownsRow_nil _ _ _ _, ?_, ?_, h.aB, h1, ?_, ?_, ?_⟩⟩
    · intro i hi
      have hi' : i < tb.length := hi
      have : (cur.toList.take (tb.length * 1))[i]? = (bs.map fun b => Value.map (some b))[i]? := by rw [h6]
      rw [List.getElem?_take_of_lt (by omega), List.getElem?_map] at this
      rw [← Array.getElem?_toList, this]
      have hb : i < bs.length := by rw [h.len]; exact hi'
      simp only [List.getD_eq_getElem?_getD, List.getElem?_eq_getElem hb]
      rfl
    · intro j hj
      simp at hj
    · simpa using h.nodup
    · intro g' hg'
      exact (World.ownsRow.lt h.ints g' hg').1
    · intro g' hg'
      cases hg'
    · intro b hb
      simp at hb
      exact (h.base b hb).1
theorem take_one {α : Type} (l : List α) (k : Nat) (d : α) (h : k < l.length) : l.take (k + 1) = l.take k ++ [l.getD k d] := by
  rw [List.take_add_one, List.getD_eq_getElem?_getD, List.getElem?_eq_getElem h]
  rfl
/-- One call more in the copy. -/
theorem clo_called {B ab k g cap m : Nat} {S : Tb} {w wr W w5 : World} {Hx : TbH} {va : Option Addr} {vc : Nat} {inst : Int} {L : List (Int × Int)} (h : TbR (B ≤ ·) ab wr ⟨S.ms, S.tb, S.cl.take k⟩ Hx) (hbk : Below B w wr) (hB : B ≤ wr.heap.size) (hk : k < S.cl.length) (ecv : Hx.cv = .slice va k vc)
    (hcd : S.cl.getD k (0, []) = (inst, L)) (hb : Below wr.heap.size wr W) (hm : wr.heap.size ≤ m) (hmap : LMap W m L) (hg : W.grownBy w5 (Value.slice va k vc).ownBlock)
    (hown : w5.ownsRow 0 83 2 (.slice (some ⟨g, 0, none⟩) (k + 1) cap) (k + 1) (((S.cl.take k).zip Hx.ls).flatMap clC ++ [.int .i64 inst, .map (some m)])) (hat : (Value.slice va k vc).ownBlock = some g ∨ g = W.heap.size) :
    TbR (B ≤ ·) ab (w5.setCell ⟨ab, 2, none⟩ (.slice (some ⟨g, 0, none⟩) (k + 1) cap)) ⟨S.ms, S.tb, S.cl.take (k + 1)⟩ { Hx with cv := .slice (some ⟨g, 0, none⟩) (k + 1) cap, ls := Hx.ls ++ [m] } ∧ Below B w (w5.setCell ⟨ab, 2, none⟩ (.slice (some ⟨g, 0, none⟩) (k + 1) cap)) := by
  have htk : (S.cl.take k).length = k := by rw [List.length_take]; omega
  have z := h.called (i := inst) (L := L) (m := m) (v := .slice (some ⟨g, 0, none⟩) (k + 1) cap) hb hm hmap (by rw [ecv]; exact hg) (by dsimp only; rw [htk]; exact hown)
    (by rw [ecv]; exact hat.elim (fun e => .inl e.symm) (fun e => .inr (congrArg some e)))
  rw [take_one _ _ (0, []) hk, hcd]
  exact ⟨z.1.mono (fun b e => e.elim id (fun e => Nat.le_trans hB e)), hbk.trans (z.2.below hB (fun b e => e))⟩
end Go.Proofs.Ytglhfofofacekaa
