/- handles: the reference's Enter. -/
import Derived.Test.YtglhfofofacekaaHfJ
set_option linter.unusedVariables false
set_option linter.unusedSimpArgs false
namespace Go.Proofs.Ytglhfofofacekaa
open Go.RowKit

theorem Rel.enter {N : Nat} {S : Tb} {R : Rf} (h : Rel N S R) (i : Int) : Rel (N + 1) { S with cl := S.cl ++ [(i, [])] } { R with cs := R.cs ++ [i] } := by
  refine { n := h.n, ms := h.ms, cs := ?_, a1 := h.a1, a2 := h.a2, nd := h.nd, e1 := ?_, e2 := ?_, ll := Nat.le_succ_of_le h.ll, le := Nat.le_succ_of_le h.le }
  · show R.cs ++ [i] = (S.cl ++ [(i, ([] : List (Int × Int)))]).map (fun c => c.1)
    rw [h.cs]
    simp
  · intro j hj p
    have hj' : j < S.cl.length + 1 := by simpa using hj
    show ((S.cl ++ [(i, [])]).getD j (0, [])).2.count p = _
    by_cases e : j < S.cl.length
    · rw [getD_snoc_lt _ _ _ _ e]
      exact h.e1 j e p
    · obtain rfl : j = S.cl.length := by omega
      rw [getD_snoc_eq]
      show 0 = _
      symm
      apply List.count_eq_zero_of_not_mem
      intro hm
      have := (h.e2 _ hm).2
      have h1 : (((S.cl.length + 1 : Nat)) : Int) ≤ S.cl.length := this
      omega
  · intro t ht
    have := h.e2 t ht
    show 1 ≤ t.1 ∧ t.1 ≤ ((S.cl ++ [(i, [])]).length : Int)
    rw [List.length_append]
    simp
    omega
theorem any_no {l : List Int} {i : Int} (h : ∀ j, j < l.length → l.getD j 0 ≠ i) : l.any (fun c => c == i) = false := by
  apply List.any_eq_false.2
  intro c hc
  obtain ⟨j, hj, rfl⟩ := getD_of_mem (d := (0 : Int)) hc
  simpa using h j hj
theorem one_int (i : Int) : ∀ u ∈ [Value.int .i64 i], u.oneCell' = true := by
  intro u hu
  simp at hu
  subst hu
  rfl
theorem news_int (w : World) (i : Int) (T : TypeId) : ∀ j u, [Value.int .i64 i][j]? = some u → (w.alloc (.cells #[.int .i64 i] T)).cell? ((⟨w.heap.size, 0, none⟩ : Addr).add j) = some u := by
  intro j u hj
  have hadd : (⟨w.heap.size, 0, none⟩ : Addr).add j = ⟨w.heap.size, j, none⟩ := by unfold Addr.add; split <;> simp_all
  rw [hadd, BlkAt.cell (BlkAt.new w _ T) j]
  simpa using hj
set_option maxRecDepth 100000 in
set_option maxHeartbeats 8000000 in
theorem RfF.enter {w0 : World} {G : Nat → Prop} {b : Nat} {w : World} {S : Tb} {N : Nat} (h : RfF w0 G b w S N) (hN : N < 1000) (i : Int) :
    Calls Try.prog 37 #[.pointer (some ⟨b, 0, none⟩), .int .i64 i] w fun e w' => e = .returned (.int .i64 (enterS S i).1) ∧ RfF w0 G b w' (enterS S i).2 (N + 1) ∧ Kept G w w' := by
  obtain ⟨R, J, hR, hrel⟩ := h.at'
  have HST := Lib.hid (h.stay hN)
  have HOK := Lib.hid (h.ok.enter i)
  obtain ⟨ca, cc, ecv, hrow⟩ := int_row hR.cr
  have c0 := hR.cells.1
  have c3 := hR.cells.2.2.2.1
  have hcl : R.cs.length = S.cl.length := by rw [hrel.cs, List.length_map]
  rw [hrel.n] at c0
  rw [ecv] at c3
  have HEND : Hid (hasB S.tb.length i = true → (S.cl.map (·.1)).any (fun c => c == i) = false → R.cs.length ≠ 16 → ∀ (w2 : World) (J' : RfH), RfR w0 G b w2 { R with cs := R.cs ++ [i] } J' → Kept G w w2 → RfF w0 G b w2 (enterS S i).2 (N + 1) ∧ Kept G w w2 ∧ (enterS S i).1 = 0) := Lib.hid (fun h1 h2 h3 w2 J' hJ hK => by
    have h16 : ¬ 16 ≤ S.cl.length := by have := h.ok.k1; omega
    have e : enterS S i = (0, { S with cl := S.cl ++ [(i, [])] }) := by unfold enterS; rw [h1, h2, if_pos (by rfl), if_neg h16]
    have hok := HOK.out
    rw [e] at hok ⊢
    exact ⟨⟨⟨_, _, hJ, hrel.enter i⟩, hok.mono (Nat.le_succ _), fun y hy => h.new y (Nat.le_trans hK.size hy), by omega⟩, hK, rfl⟩)
  have HNO1 : Hid (hasB S.tb.length i = false → enterS S i = (19, S)) := Lib.hid (fun h1 => by unfold enterS; rw [h1]; rfl)
  have HNO2 : Hid (hasB S.tb.length i = true → (S.cl.map (·.1)).any (fun c => c == i) = true → enterS S i = (19, S)) := Lib.hid (fun h1 h2 => by unfold enterS; rw [h1, h2]; rfl)
  have HNO3 : Hid (hasB S.tb.length i = true → (S.cl.map (·.1)).any (fun c => c == i) = false → R.cs.length = 16 → enterS S i = (8, S)) := Lib.hid (fun h1 h2 h3 => by unfold enterS; rw [h1, h2, if_pos (by rfl), if_pos (by omega)])
  have hcs := hrel.cs
  have HLE := Lib.hid (show R.cs.length ≤ 16 by have := h.ok.k1; omega)
  have HNEW := Lib.hid h.new
  have HR := Lib.hid hR
  have HCV := Lib.hid ecv
  rw [← hcs] at HEND HNO2 HNO3
  have HRO := Lib.hid hrow
  clear h hR hrel hcl hcs HOK hrow ecv
  generalize enterS S i = es at HEND HNO1 HNO2 HNO3 ⊢
  cases hb : hasB S.tb.length i
  · obtain rfl := HNO1.out hb
    unfold hasB at hb
    clear HEND HNO1 HNO2 HNO3
    generalize hcn : R.cs.length = cn at c3 HLE HRO
    clear hcn
    by_cases hi : 0 ≤ i
    · have hd1 : decide (i < 0) = false := decide_eq_false (by omega)
      have hd2 : decide (((S.tb.length : Nat) : Int) ≤ i) = true := by simp [hi] at hb; exact decide_eq_true hb
      clear hb hi
      go_enter Try.func37, Try.ntmps37
      go_wp2_with fail
      go_ret
      exact ⟨rfl, HST.out⟩
    · have hd1 : decide (i < 0) = true := decide_eq_true (by omega)
      clear hb hi
      go_enter Try.func37, Try.ntmps37
      go_wp2_with fail
      go_ret
      exact ⟨rfl, HST.out⟩
  · have hb' : 0 ≤ i ∧ i < (S.tb.length : Int) := by simpa [hasB] using hb
    have hd1 : decide (i < 0) = false := decide_eq_false (by omega)
    have hd2 : decide (((S.tb.length : Nat) : Int) ≤ i) = false := decide_eq_false (by omega)
    have HB := Lib.hid hb
    clear hb hb' HNO1
    obtain ⟨i0, hti, hz0, hz1, hz2⟩ := info_parts info_int64
    generalize hcn : R.cs.length = cn at c3 HLE HRO HEND HNO3
    have HCN := Lib.hid hcn
    clear hcn
    go_enter Try.func37, Try.ntmps37
    go_wp2_with fail
    go_loopw [5] (fun kv wr => ∃ k : Nat, kv = .int .i64 k ∧ k ≤ cn ∧ w = wr ∧ Hid (∀ j, j < k → R.cs.getD j 0 ≠ i)) (fun kv _ => cn - (intOf kv).toNat)
    case atStart => exact ⟨0, rfl, Nat.zero_le _, rfl, Lib.hid (fun j hj => absurd hj (Nat.not_lt_zero _))⟩
    case round =>
      obtain ⟨k, rfl, hk, rfl, HA⟩ := hrel
      by_cases hlt : k < cn
      · obtain ⟨g, rfl, hc⟩ := HRO.out.resolve_left (by omega)
        have x0 := hc k hlt
        generalize hx : R.cs.getD k 0 = x at x0
        have HX := Lib.hid hx
        have HLT := Lib.hid hlt
        clear hc hk hx
        by_cases e1 : x = i
        · have e1' : (x == i) = true := by simp [e1]
          have hany : R.cs.any (fun c => c == i) = true := List.any_eq_true.2 ⟨x, by rw [← HX.out]; exact mem_getD (by rw [HCN.out]; exact hlt), e1'⟩
          obtain rfl := HNO2.out HB.out hany
          clear e1 hany HEND HNO2 HNO3
          go_wp2_with fail
          go_ret
          exact ⟨rfl, HST.out⟩
        · have e1' : (x == i) = false := by simp [e1]
          have E1 := Lib.hid e1
          clear e1
          go_wp2_with fail
          rw [show wrap64 ((k : Int) + 1) = (k : Int) + 1 by have := HLE.out; have := HLT.out; unfold wrap64; omega]
          refine ⟨⟨k + 1, by simp, HLT.out, trivial, Lib.hid (fun j hj => ?_)⟩, by have := HLT.out; simp [intOf]; omega⟩
          by_cases hjk : j = k
          · subst hjk
            rw [HX.out]
            exact E1.out
          · exact HA.out j (by omega)
      · have hke : k = cn := by omega
        subst hke
        have hany := Lib.hid (any_no (i := i) (l := R.cs) (fun j hj => HA.out j (by rw [← HCN.out]; exact hj)))
        clear hlt hk
        by_cases h16 : k = 16
        · obtain rfl := HNO3.out HB.out hany.out h16
          have h16' : ((k : Int) == 16) = true := by rw [h16]; rfl
          clear h16 HEND HNO2 HNO3
          go_wp2_with fail
          go_ret
          exact ⟨rfl, HST.out⟩
        · have h16' : ((k : Int) == 16) = false := beq_eq_false_iff_ne.2 (by omega)
          have HFIN := Lib.hid (HEND.out HB.out hany.out h16)
          have HBN : Hid (Below w.heap.size w (w.alloc (.cells #[.int .i64 i] 3))) := Lib.hid ((Below.refl _ w).alloc (Nat.le_refl _) _)
          have HRA : Hid (RfR w0 G b (w.alloc (.cells #[.int .i64 i] 3)) R J) := Lib.hid (HR.out.below HBN.out)
          have HOWN : Hid ((w.alloc (.cells #[.int .i64 i] 3)).ownsRow 0 3 1 (.slice ca k cc) k (R.cs.map (Value.int .i64))) := Lib.hid (by
            have := HRA.out.cr
            rw [HCV.out, HCN.out] at this
            exact this)
          have NEWS := Lib.hid (news_int w i 3)
          have HR1 : Hid (k + 1 ≤ maxLen) := Lib.hid (by have := HLE.out; unfold maxLen; omega)
          have HR2 : Hid ((k + 1) * 8 ≤ 140737488355328) := Lib.hid (by have := HLE.out; omega)
          clear h16 HEND HNO2 HNO3
          go_wp2_with (first
            | (at_builtin; refine wpList_append_lies _ rfl _ _ 22 rfl 0 3 i0 (.int .i64 0) 1 8 Try.underlying22 hti hz0 hz1 hz2 rfl (by decide) _ k (R.cs.map (Value.int .i64)) rfl HOWN.out ⟨w.heap.size, 0, none⟩ 1 1 [.int .i64 i] rfl rfl NEWS.out (one_int _) (by decide) HR1.out HR2.out (Nat.zero_le _) _ rfl ?_; intro g5 cap5 w5 hown5 hg5 hat5 hlt5; have q5 : BlkAt w5 b _ _ := HRA.out.head.kept (Kept.grow hg5) (fun e => own_ne_cells HOWN.out HRA.out.head (by decide) e.symm); have q53 := q5.cell 3; have f53 := q5.frozen 3; simp at q53; have zz := HRA.out.putC (fun y hy => HNEW.out y (Nat.le_trans HBN.out.size hy)) (v := .slice (some ⟨g5, 0, none⟩) (k + 1) cap5) (L' := R.cs ++ [i]) (by rw [HCV.out, HCN.out]; exact hg5) (by rw [List.length_append, HCN.out, List.map_append]; exact hown5) (by rw [HCV.out, HCN.out]; exact hat5.elim (fun e => .inl e.symm) (fun e => .inr (congrArg some e))); have HZ := Lib.hid (And.intro zz.1 ((Kept.of_below HBN.out).trans zz.2)); clear q5 hown5 hg5 hat5 hlt5 zz))
          go_ret
          have hh2 := HFIN.out _ _ HZ.out.1 HZ.out.2
          rw [hh2.2.2]
          exact ⟨rfl, hh2.1, hh2.2.1⟩
end Go.Proofs.Ytglhfofofacekaa
