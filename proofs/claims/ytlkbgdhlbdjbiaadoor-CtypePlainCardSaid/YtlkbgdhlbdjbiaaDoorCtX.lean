/- ctype: core types, one over the other. -/
import Derived.Test.YtlkbgdhlbdjbiaaDoorCtW
set_option linter.unusedVariables false
set_option linter.unusedSimpArgs false
namespace Go.Proofs.YtlkbgdhlbdjbiaaDoor
open Go.RowKit
open Lex Ct

/-- A row that is read while another one is written. -/
def CsAt (w : World) (av : Option Addr) (cs : List Int) (g : Nat) : Prop := ∀ (q : Nat) (c : Int), cs[q]? = some c → ∃ g2, av = some ⟨g2, 0, none⟩ ∧ g2 ≠ g ∧ g2 < w.heap.size ∧ w.cell? ⟨g2, q, none⟩ = some (.int .i64 c)
theorem CsAt.of {b : Nat} {av : Option Addr} {cap g : Nat} {cs : List Int} {w : World} (h : Ints b (.slice av cs.length cap) cs w) (hg : g < b) : CsAt w av cs g := by
  intro q c hq
  have hne : cs ≠ [] := by rintro rfl; cases hq
  obtain ⟨g2, rfl, h1, h2, _, _, h3⟩ := h.at hne
  refine ⟨g2, rfl, by omega, h2, ?_⟩
  have := h3 q (.int .i64 c) (by rw [List.getElem?_map, hq]; rfl)
  have hadd : (⟨g2, 0, none⟩ : Addr).add q = ⟨g2, q, none⟩ := by unfold Addr.add; split <;> simp_all
  rw [hadd] at this
  exact this
theorem CsAt.grown {w w' : World} {av : Option Addr} {cs : List Int} {g g' : Nat} (h : CsAt w av cs g) (hk : ∀ k, k < w.heap.size → k ≠ g → w'.heap[k]? = w.heap[k]?) (hz : w.heap.size ≤ w'.heap.size) (hg : g' = g ∨ w.heap.size ≤ g') : CsAt w' av cs g' := by
  intro q c hq
  obtain ⟨g2, e, h1, h2, h3⟩ := h q c hq
  exact ⟨g2, e, by omega, by omega, (cell_of (hk g2 h2 h1)).trans h3⟩
theorem ovF_small {k : Nat} {l : List Ty} (hs : csum k l ≤ 40000) (i : Nat) : 1 ≤ (ovF (coreK k) (l.take i)).length ∧ (ovF (coreK k) (l.take i)).length ≤ 80001 := by
  have h1 := ovF_len (coreK_len k) (l.take i) [127] 0 (Nat.le_refl _) (Nat.le_refl _)
  have h2 := csum_take k i l
  unfold ovF
  omega
set_option maxRecDepth 100000 in
set_option maxHeartbeats 8000000 in
theorem rdOver (k : Nat) (HC : CorAt k) (l : List Ty) (a : Option Addr) (cap : Nat) (w : World) (hl : RowAt w l a cap) (hfit : ∀ x ∈ l, Fit k x) (hs : csum k l ≤ 40000) :
    Calls Tryd.prog 43 #[.slice a l.length cap] w (CoreR (ovF (coreK k) l) w) := by
  obtain ⟨i0, hi, hz0, hz1, hz2⟩ := info_int2
  have hbd := hl.bound
  have hlen : (l.length : Int) ≤ 9223372036854775807 := by omega
  have HL := Lib.hid hl
  have HF := Lib.hid hfit
  have HX0 := Lib.hid HC
  have HS := Lib.hid (fun i => ovF_small hs i)
  have HO0 : Hid (Ints w.heap.size (.slice (some ⟨w.heap.size, 0, none⟩) 1 1) [127] (w.alloc (.cells #[.int .i64 127] 3))) := Lib.hid (World.ownsRow_lit w #[.int .i64 127] 1 (Nat.le_refl _) (by decide) rfl)
  clear hl hfit HC hbd hs
  go_enter Tryd.func43, Tryd.ntmps43
  go_wp2_with fail
  go_loopw [3, 12] (fun v u wr => ∃ (i g cp : Nat), v = .slice (some ⟨g, 0, none⟩) (ovF (coreK k) (l.take i)).length cp ∧ u = .int .i64 i ∧ i ≤ l.length ∧ Hid (Kept (fun _ => False) w wr ∧ Ints w.heap.size (.slice (some ⟨g, 0, none⟩) (ovF (coreK k) (l.take i)).length cp) (ovF (coreK k) (l.take i)) wr)) (fun _ u _ => l.length - (intOf u).toNat)
  case atStart => exact ⟨0, w.heap.size, 1, rfl, rfl, Nat.zero_le _, Lib.hid ⟨(Kept.refl _ _).new _, HO0.out⟩⟩
  case round =>
    clear HO0
    obtain ⟨i, g, cp, rfl, rfl, hi2, hst⟩ := hrel
    by_cases hlt : i < l.length
    · obtain ⟨x, hx⟩ : ∃ x, l[i]? = some x := ⟨_, List.getElem?_eq_getElem hlt⟩
      obtain ⟨gx, o, ax, cx, ay, cy, rfl, hgl, htx, c0, c1, c2, c3⟩ := (HL.out.kept hst.out.1).at hx
      have hxf := HF.out x (List.mem_of_getElem? hx)
      have kx : Kept (fun _ => False) wr (wr.alloc (.cells #[.int .i64 x.kind, .slice ax x.names.length cx, .slice ay x.l.length cy, .int .i64 x.r] 25)) := (Kept.refl _ _).new _
      have HKX := Lib.hid kx
      have HX : Hid (∀ w', Kept (fun _ => False) wr w' → Calls Tryd.prog 29 #[tyV x ax cx ay cy] w' (CoreR (coreK k x) w')) := Lib.hid fun w' k' => HX0.out x ax cx ay cy w' (htx.kept k') hxf
      have HSN := Lib.hid (ovF_snoc (f := coreK k) hx)
      have hsm := HS.out i
      have hcs := core_small hxf
      have hltI : ((i : Int) < (l.length : Int)) = True := by simp; omega
      clear hx htx hxf kx hgl
      revert hst HX HSN hsm hcs
      generalize ovF (coreK k) (l.take i) = out
      generalize coreK k x = cs
      intro hst HX HSN hsm hcs
      unfold CoreR at HX
      go_wp2_with (first
        | (go_at_call 29; refine (HX.out _ HKX.out).mono ?_; rintro y w2 ⟨av2, cp2, rfl, hi3, hn3, k2⟩; have hgb := (World.ownsRow.lt hst.out.2 g rfl).2; have HW2 := Lib.hid (And.intro (hst.out.1.trans (HKX.out.trans k2)) (And.intro (hst.out.2.kept (HKX.out.trans k2) (fun _ _ => id)) (CsAt.of hi3 (Nat.lt_of_lt_of_le hgb HKX.out.size)))); clear hi3 hn3 k2 hgb HX))
      clear c0 c1 c2 c3
      go_loopw [3, 19] (fun v u wq => ∃ (j g cp : Nat) (o : List Int), v = .slice (some ⟨g, 0, none⟩) o.length cp ∧ u = .int .i64 j ∧ j ≤ cs.length ∧ j + 1 ≤ o.length ∧ o.length ≤ out.length + j ∧ Hid (Kept (fun _ => False) w wq ∧ Ints w.heap.size (.slice (some ⟨g, 0, none⟩) o.length cp) o wq ∧ CsAt wq av2 cs g ∧ ovR o j (cs.drop j) = ovR out 0 cs)) (fun _ u _ => cs.length - (intOf u).toNat)
      case atStart => exact ⟨0, g, cp, out, rfl, rfl, Nat.zero_le _, by omega, by omega, Lib.hid ⟨HW2.out.1, HW2.out.2.1, HW2.out.2.2, rfl⟩⟩
      case round =>
        clear HW2 hst
        obtain ⟨j, g, cp, o, rfl, rfl, hj, hjo, hob, hrs⟩ := hrel
        by_cases hltj : j < cs.length
        · obtain ⟨c, hc⟩ : ∃ c, cs[j]? = some c := ⟨_, List.getElem?_eq_getElem hltj⟩
          obtain ⟨g2, rfl, hg2, hg2l, d0⟩ := hrs.out.2.2.1 j c hc
          have HST := Lib.hid (ovR_step (out := o) hc)
          have hltJ : ((j : Int) < (cs.length : Int)) = True := by simp; omega
          clear hc
          by_cases hpl : j + 1 = o.length
          · have b1 : ((j : Int) + 1 == (o.length : Int)) = true := by simp; omega
            have e1 : ovS o j c = o ++ [c] := by unfold ovS; rw [if_pos hpl]
            have HE1 := Lib.hid e1
            have q3 : o.length + 1 ≤ maxLen := by unfold maxLen; omega
            have q4 : (o.length + 1) * 8 ≤ 140737488355328 := by omega
            have hsz := hrs.out.1.size
            have HPL := Lib.hid hpl
            have HG2 := Lib.hid (And.intro hg2 hg2l)
            clear hpl e1 hg2 hg2l
            go_wp2_with (first
              | (at_builtin; refine wpList_append_lies _ rfl _ _ 31 rfl w.heap.size 3 i0 (.int .i64 0) 1 8 Tryd.underlying31 hi hz0 hz1 hz2 rfl (by decide) _ o.length (o.map (Value.int .i64)) rfl (World.ownsRow.alloc hrs.out.2.1 _) ⟨_, 0, none⟩ 1 1 [.int .i64 c] rfl rfl (cell_one_new _ _ _) (one_i64 _) (by decide) q3 q4 (le_alloc hsz) _ rfl ?_; intro g3 cap3 w3 hown3 hg3 hat hgl3))
            have HG := Lib.hid (And.intro hown3 (And.intro hg3 hat))
            refine ⟨⟨j + 1, g3, cap3, o ++ [c], by simp, by go_num, by omega, by have := HPL.out; simp; omega, by simp; omega, Lib.hid ⟨?_, ?_, ?_, ?_⟩⟩, by simp [intOf]; omega⟩
            · exact (hrs.out.1.new _).grown HG.out.2.1 (fun q hq e => by have := (World.ownsRow.lt hrs.out.2.1 q e.symm).1; omega)
            · have := HG.out.1
              unfold Ints
              rw [List.length_append, List.map_append]
              exact this
            · refine hrs.out.2.2.1.grown (fun q hq hne => ?_) ?_ ?_
              · refine (HG.out.2.1.block q (by rw [World.size_alloc]; omega) (fun e => hne (Option.some.inj e))).trans ?_
                exact ((Kept.refl (fun _ => False) _).new (.cells #[.int .i64 c] 3)).block q hq id
              · have := HG.out.2.1.size
                rw [World.size_alloc] at this
                omega
              · rcases HG.out.2.2 with e | e
                · exact .inl (Option.some.inj e).symm
                · rw [World.size_alloc] at e
                  exact .inr (by omega)
            · rw [← hrs.out.2.2.2, HST.out, HE1.out]
          · have b1 : ((j : Int) + 1 == (o.length : Int)) = false := by simp; omega
            have hpo : j + 1 < o.length := by omega
            have c1 : wr.cell? ⟨g, j + 1, none⟩ = some (.int .i64 (o.getD (j + 1) 0)) := by
              rw [World.ownsRow.cellAt hrs.out.2.1 (j + 1) (by omega), List.getElem?_map, List.getElem?_eq_getElem hpo, List.getD_eq_getElem?_getD, List.getElem?_eq_getElem hpo]
              rfl
            have hltP : ((j : Int) + 1 < (o.length : Int)) = True := by simp; omega
            by_cases he : o.getD (j + 1) 0 = c
            · have b2 : (o.getD (j + 1) 0 != c) = false := by simp; simpa using he
              have HE1 : Hid (ovS o j c = o) := Lib.hid (by unfold ovS; rw [if_neg hpl, if_pos he])
              revert c1 b2
              generalize o.getD (j + 1) 0 = d at he
              intro c1 b2
              clear hpl he
              go_wp2_with fail
              exact ⟨⟨j + 1, g, cp, o, rfl, by go_num, by omega, by omega, by omega, Lib.hid ⟨hrs.out.1, hrs.out.2.1, hrs.out.2.2.1, by rw [← hrs.out.2.2.2, HST.out, HE1.out]⟩⟩, by simp [intOf]; omega⟩
            · have b2 : (o.getD (j + 1) 0 != c) = true := by simp; simpa using he
              have HE1 : Hid (ovS o j c = o.set (j + 1) 126) := Lib.hid (by unfold ovS; rw [if_neg hpl, if_neg he])
              have z1 := World.ownsRow.frozenAt hrs.out.2.1 (j + 1)
              have HSTO := Lib.hid (World.ownsRow.stored hrs.out.2.1 (j + 1) (.int .i64 126))
              revert c1 b2
              generalize o.getD (j + 1) 0 = d at he
              intro c1 b2
              clear hpl he
              go_wp2_with fail
              refine ⟨⟨j + 1, g, cp, o.set (j + 1) 126, by rw [List.length_set], by go_num, by omega, by rw [List.length_set]; omega, by rw [List.length_set]; omega, Lib.hid ⟨?_, ?_, ?_, ?_⟩⟩, by simp [intOf]; omega⟩
              · exact hrs.out.1.grown HSTO.out.2 (fun q hq e => by have := (World.ownsRow.lt hrs.out.2.1 q e.symm).1; omega)
              · unfold Ints
                rw [List.length_set, List.map_set]
                exact HSTO.out.1
              · exact hrs.out.2.2.1.grown (fun q hq hne => HSTO.out.2.block q hq (fun e => hne (Option.some.inj e))) HSTO.out.2.size (.inl rfl)
              · rw [← hrs.out.2.2.2, HST.out, HE1.out]
        · have hje : j = cs.length := by omega
          have HEQ : Hid (ovF (coreK k) (l.take (i + 1)) = o) := Lib.hid (by rw [HSN.out, ← hrs.out.2.2.2]; exact ovR_end (by omega))
          subst hje
          clear hltj
          go_wp2_with fail
          exact ⟨⟨i + 1, g, cp, by rw [HEQ.out], by go_num, by omega, Lib.hid ⟨hrs.out.1, by rw [HEQ.out]; exact hrs.out.2.1⟩⟩, by simp [intOf]; omega⟩
    · have hie : i = l.length := by omega
      subst hie
      rw [List.take_length] at hst ⊢
      have hne := HS.out l.length
      rw [List.take_length] at hne
      have HNE := Lib.hid hne.1
      clear hlt hne
      go_wp2_with fail
      go_ret
      exact ⟨some ⟨g, 0, none⟩, cp, rfl, hst.out.2, fun e => by have := HNE.out; rw [e] at this; exact absurd this (by decide), hst.out.1⟩
end Go.Proofs.YtlkbgdhlbdjbiaaDoor
