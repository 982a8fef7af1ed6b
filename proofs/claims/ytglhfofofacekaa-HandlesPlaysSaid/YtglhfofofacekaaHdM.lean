/- handles: going over a table, and over what is lent. -/
import Derived.Test.YtglhfofofacekaaHdL
set_option linter.unusedVariables false
set_option linter.unusedSimpArgs false
namespace Go.Proofs.Ytglhfofofacekaa
open Go.RowKit

/-- A loop over a table: which of its handles are still to come. -/
def HRange (w : World) (b r : Nat) (T : List Hd) (left : Lit → Bool) (cnt : Nat) : Prop := w.ranges Try.prog 3 RV b r T.length (dT T) left cnt
theorem HRange.owns {w : World} {b r : Nat} {T : List Hd} {left : Lit → Bool} {cnt : Nat} (h : HRange w b r T left cnt) : HMap w b T := World.ranges.owns h
theorem HMap.range {w : World} {b : Nat} {T : List Hd} (h : HMap w b T) :
    ∃ w', (Instr.range 56 (.map (some b))).run Try.prog w = .ok (.pointer (some ⟨w.heap.size, 0, none⟩)) w' ∧ HRange w' b w.heap.size T (Maps.has (dT T)) (Maps.size (dT T)) ∧ w.grownBy w' none ∧ w'.heap.size = w.heap.size + 1 := World.ownsMap.range h keyI under_map
theorem left_of {w : World} {b r : Nat} {T : List Hd} {left : Lit → Bool} {cnt : Nat} (h : HRange w b r T left cnt) {kl : Lit} (hl : left kl = true) : ∃ x ∈ T, kl = .int .i64 x.h := by
  obtain ⟨es, clock, since, seen, c0, hb, F, hs, hD, hr, _, _, hl1, hl2, _⟩ := h
  obtain ⟨x, hx, e⟩ := hl2 kl hl
  have : WideElems.rg Try.prog 3 RV x ∈ (es.toList.map (WideElems.rg Try.prog 3 RV)).foldr DataW.insert [] := mem_sorted.2 (List.mem_map.2 ⟨x, hx, rfl⟩)
  have hD' : T.map ent = (es.toList.map (WideElems.rg Try.prog 3 RV)).foldr DataW.insert [] := by injection hD
  rw [← hD'] at this
  obtain ⟨y, hy, e2⟩ := List.mem_map.1 this
  exact ⟨y, hy, by rw [← e, ← e2]⟩
/-- The step. -/
theorem HRange.next {w : World} {b r : Nat} {T : List Hd} {left : Lit → Bool} {cnt : Nat} (h : HRange w b r T left cnt) (hT : Rise T) (ty : TypeId) :
    (cnt = 0 ∧ (∀ kl, left kl = false) ∧ (Instr.next (.pointer (some ⟨r, 0, none⟩)) false ty).run Try.prog w = .ok (.tuple #[.bool false]) w) ∨
    ∃ x w' cnt', x ∈ T ∧ left (.int .i64 x.h) = true ∧ (Instr.next (.pointer (some ⟨r, 0, none⟩)) false ty).run Try.prog w = .ok (.tuple #[.bool true, .int .i64 x.h, x.v]) w' ∧
      HRange w' b r T (fun kl => left kl && !kl.sameKey (.int .i64 x.h)) cnt' ∧ cnt' < cnt ∧ w.grownBy w' (some r) ∧ w'.heap.size = w.heap.size ∧ (Instr.entry (.pointer (some ⟨r, 0, none⟩))).run Try.prog w' = .ok (.tuple #[.int .i64 x.h, x.v]) w' := by
  rcases World.ranges.next h keyI ty with h1 | ⟨key, v, kl, y, w', cnt', hkey, hlk, hv, hat, hrun, hrg, hlt, hgr, hsz, hen⟩
  · exact .inl h1
  · obtain ⟨x, hx, rfl⟩ := left_of h hlk
    obtain ⟨z, rfl, hz, _⟩ := Maps.keyOf_int_inv under_int hkey
    injection hz with _ hz
    subst hz
    have ha := hat (.held Hd.zero.v)
    rw [atKey_dT, at?_of_mem hT hx] at ha
    cases hv
    simp only [Option.getD_some] at ha
    injection ha with ha
    subst ha
    exact .inr ⟨x, w', cnt', hx, hlk, hrun, hrg, hlt, hgr, hsz, hen⟩

section
variable {ops : Array Oper} {rest : List Oper} {o : Oper} {a : Act} {Q : Exit → Act → World → Prop}
theorem wpList_range_H (w : World) (hg : o.guard = none) (m : Operand) (hop : o.op = Op.range 56 m) (b : Nat) (T : List Hd) (hm : a.eval m = .map (some b)) (h : HMap w b T)
    (hK : ∀ w', HRange w' b w.heap.size T (Maps.has (dT T)) (Maps.size (dT T)) → w.grownBy w' none → w'.heap.size = w.heap.size + 1 → wpList Try.prog ops Q rest (a.put o.dst (.pointer (some ⟨w.heap.size, 0, none⟩))) w') :
    wpList Try.prog ops Q (o :: rest) a w := by
  refine wpList_plain hg fun K' hK' => ?_
  obtain ⟨w', hrun, r1, r2, r3⟩ := h.range
  unfold Oper.wp
  simp [execOp, hop, hm, hrun, Result.andThen]
  exact hK' _ _ (hK w' r1 r2 r3)
theorem wpList_next_H (w : World) (hg : o.guard = none) (it : Operand) (hop : o.op = Op.next it false) (b r : Nat) (T : List Hd) (left : Lit → Bool) (cnt : Nat) (hit : a.eval it = .pointer (some ⟨r, 0, none⟩)) (h : HRange w b r T left cnt) (hT : Rise T)
    (hDone : cnt = 0 → (∀ kl, left kl = false) → wpList Try.prog ops Q rest (a.put o.dst (.tuple #[.bool false])) w)
    (hMore : ∀ (x : Hd) (w' : World) (cnt' : Nat), x ∈ T → left (.int .i64 x.h) = true → HRange w' b r T (fun kl => left kl && !kl.sameKey (.int .i64 x.h)) cnt' → cnt' < cnt → w.grownBy w' (some r) → w'.heap.size = w.heap.size →
      (Instr.entry (.pointer (some ⟨r, 0, none⟩))).run Try.prog w' = .ok (.tuple #[.int .i64 x.h, x.v]) w' →
      wpList Try.prog ops Q rest (a.put o.dst (.tuple #[.bool true, .int .i64 x.h, x.v])) w') :
    wpList Try.prog ops Q (o :: rest) a w := by
  refine wpList_plain hg fun K' hK' => ?_
  unfold Oper.wp
  rcases h.next hT o.type with ⟨h0, hl, hrun⟩ | ⟨x, w', cnt', hx, hlk, hrun, hrg, hlt, hgr, hsz, hen⟩
  · simp [execOp, hop, hit, hrun, Result.andThen]
    exact hK' _ _ (hDone h0 hl)
  · simp [execOp, hop, hit, hrun, Result.andThen]
    exact hK' _ _ (hMore x w' cnt' hx hlk hrg hlt hgr hsz hen)
end

/-- Has a handle of an instance come of this call? -/
def borB (tb : List (List Hd)) (d : Int) : Bool := tb.any (fun T => T.any (fun x => decide (x.call = d)))
theorem borB_none {tb : List (List Hd)} {d : Int} (h : ∀ j, j < tb.length → ∀ x ∈ tb.getD j [], x.call ≠ d) : borB tb d = false := by
  apply List.any_eq_false.2
  intro T hT
  obtain ⟨j, hj, rfl⟩ := List.getElem_of_mem hT
  rw [Bool.not_eq_true]
  apply List.any_eq_false.2
  intro x hx
  have := h j hj x (by rw [List.getD_eq_getElem?_getD, List.getElem?_eq_getElem hj]; exact hx)
  simpa using this
theorem borB_some {tb : List (List Hd)} {d : Int} {j : Nat} (hj : j < tb.length) {x : Hd} (hx : x ∈ tb.getD j []) (hc : x.call = d) : borB tb d = true := by
  refine List.any_eq_true.2 ⟨tb.getD j [], ?_, List.any_eq_true.2 ⟨x, hx, by simpa using hc⟩⟩
  rw [List.getD_eq_getElem?_getD, List.getElem?_eq_getElem hj]
  exact List.getElem_mem hj

set_option maxRecDepth 100000 in
set_option maxHeartbeats 4000000 in
theorem TbR.borrowed {F : Nat → Prop} {a : Nat} {w : World} {S : Tb} {H : TbH} (h : TbR F a w S H) {N : Nat} (ok : TbOk N S) (d : Int) :
    Calls Try.prog 55 #[.pointer (some ⟨a, 0, none⟩), .int .i64 d] w fun e w' => e = .returned (.bool (borB S.tb d)) ∧ Below w.heap.size w w' := by
  have h1 := h.cells.2.1
  have HT := Lib.hid h
  have HO := Lib.hid ok
  have hn4 : S.tb.length ≤ 4 := ok.n2
  generalize hnn : S.tb.length = n at h1 hn4
  have HNN := Lib.hid hnn
  clear h ok hnn
  go_enter Try.func55, Try.ntmps55
  go_wp2_with fail
  go_loopw [14] (fun i wr => ∃ k : Nat, i = .int .i64 k ∧ k ≤ n ∧ Below w.heap.size w wr ∧ ∀ j, j < k → ∀ x ∈ S.tb.getD j [], x.call ≠ d) (fun i _ => n - (intOf i).toNat)
  case atStart => exact ⟨0, rfl, by omega, Below.refl _ _, fun j hj => by omega⟩
  case round =>
    obtain ⟨k, rfl, hk, hbw, hall⟩ := hrel
    have HA := Lib.hid hall
    clear hall
    by_cases hlt : k < n
    · have hkn : k < S.tb.length := by rw [HNN.out]; exact hlt
      have t1 := farB (HT.out.slotCell hkn) hbw
      have HM := Lib.hid ((HT.out.below hbw).maps k hkn)
      have HR := Lib.hid (HO.out.rise k hkn)
      generalize hb : H.bs.getD k 0 = b at t1 HM
      generalize hTn : S.tb.getD k [] = T at HM HR
      have HTN := Lib.hid hTn
      clear hb hTn hkn
      go_wp2_with (first
        | (at_range; refine wpList_range_H _ rfl _ rfl b T rfl HM.out ?_; intro w0 hrg0 hg0 hs0))
      go_frame
      have hB0 : Below w.heap.size w w0 := hbw.grown hg0 hbw.size (fun j e => by cases e)
      have hrB := hbw.size
      generalize wr.heap.size = r at hrg0 hrB ⊢
      have H0 := Lib.hid (And.intro hrg0 hB0)
      clear hrg0 hB0 hg0 hs0 t1 hbw HM
      go_loopw [] (fun wi => ∃ left cnt, HRange wi b r T left cnt ∧ Below w.heap.size w wi ∧ ∀ x, x ∈ T → left (.int .i64 x.h) = false → x.call ≠ d) (fun wi => wi.rangeLeft b r)
      case atStart =>
        refine ⟨_, _, H0.out.1, H0.out.2, fun x hx hl => ?_⟩
        rw [has_dT, at?_of_mem HR.out hx] at hl
        cases hl
      case round =>
        obtain ⟨left, cnt, hrg, hbi, hx⟩ := hrel
        have HG := Lib.hid hrg
        have HB := Lib.hid hbi
        have HX := Lib.hid hx
        clear hrg hbi hx
        go_wp2_with (first
          | (at_next; refine wpList_next_H _ rfl _ rfl b r T left cnt rfl HG.out HR.out ?_ ?_))
        · intro _ hl0
          have HL0 := Lib.hid hl0
          clear hl0
          go_wp2_with fail
          refine ⟨⟨k + 1, by simp, by omega, HB.out, fun j hj x hx => ?_⟩, by simp [intOf]; omega⟩
          by_cases hjk : j = k
          · subst hjk
            rw [HTN.out] at hx
            exact HX.out x hx (HL0.out _)
          · exact HA.out j (by omega) x hx
        · rintro ⟨xh, xr, xrep, xown, xlends, xcall⟩ w2 cnt2 hx hlx hrg2 hlt2 hg2 hs2 hen
          have HY := Lib.hid (And.intro hx (And.intro hrg2 (And.intro hlt2 hg2)))
          clear hx hlx hrg2 hlt2 hg2 hs2
          cases hc : (xcall == d)
          · go_wp2_with fail
            have hB2 : Below w.heap.size w w2 := HB.out.grown HY.out.2.2.2 HB.out.size (fun j e => by cases e; exact hrB)
            refine ⟨⟨_, _, World.ranges.alloc HY.out.2.1 _, hB2.alloc hB2.size _, fun x hx hl => ?_⟩, ?_⟩
            · by_cases he : x.h = xh
              · have h1 := at?_of_mem HR.out hx
                rw [he, at?_of_mem HR.out HY.out.1] at h1
                injection h1 with h1
                subst h1
                simpa using hc
              · refine HX.out x hx ?_
                rw [same_int] at hl
                simpa [he] using hl
            · rw [World.ranges.left_eq (World.ranges.alloc HY.out.2.1 _), World.ranges.left_eq HG.out]
              exact HY.out.2.2.1
          · go_wp2_with fail
            go_ret
            have hB2 : Below w.heap.size w w2 := HB.out.grown HY.out.2.2.2 HB.out.size (fun j e => by cases e; exact hrB)
            refine ⟨?_, hB2.alloc hB2.size _⟩
            rw [borB_some (j := k) (by rw [HNN.out]; exact hlt) (x := ⟨xh, xr, xrep, xown, xlends, xcall⟩) (by rw [HTN.out]; exact HY.out.1) (by simpa using hc)]
            rfl
    · have hke : k = n := by omega
      subst hke
      go_wp2_with fail
      go_ret
      rw [borB_none (fun j hj => HA.out j (by rw [← HNN.out]; exact hj))]
      exact ⟨rfl, hbw⟩
end Go.Proofs.Ytglhfofofacekaa
