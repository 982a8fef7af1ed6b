/- handles: Lend. -/
import Derived.Test.YtglhfofofacekaaHdK
set_option linter.unusedVariables false
set_option linter.unusedSimpArgs false
namespace Go.Proofs.Ytglhfofofacekaa
open Go.RowKit

def lendS (S : Tb) (i r h : Int) : Int × Int × Tb :=
  if (findT S.tb i r h).2 && decide (S.cl.length ≠ 0) = true then
    ((findT S.tb i r h).1.rep, 0, { S with
      tb := S.tb.set i.toNat (putT { (findT S.tb i r h).1 with h := h, lends := (findT S.tb i r h).1.lends + 1 } (S.tb.getD i.toNat []))
      cl := S.cl.set (S.cl.length - 1) ((S.cl.getD (S.cl.length - 1) (0, [])).1, (i, h) :: (S.cl.getD (S.cl.length - 1) (0, [])).2) })
  else (0, 17, S)
set_option maxRecDepth 100000 in
set_option maxHeartbeats 1000000 in
theorem lend_nil (i r h : Int) (w : World) : Calls Try.prog 23 #[.pointer none, .int .i64 i, .int .i64 r, .int .i64 h] w fun e w' => e = .returned (.tuple #[.int .i64 0, .int .i64 17]) ∧ Below w.heap.size w w' := by
  have HH := find_nil i r h w
  go_enter Try.func23, Try.ntmps23
  go_wp2_with (go_at_call 53; refine HH.mono ?_; rintro e w1 ⟨rfl, hb⟩)
  go_ret2
  exact ⟨rfl, hb.alloc hb.size _⟩
set_option maxRecDepth 100000 in
set_option maxHeartbeats 1000000 in
theorem TbR.lend_no {F : Nat → Prop} {a : Nat} {w : World} {S : Tb} {H : TbH} (h : TbR F a w S H) (i r hh : Int) (hw : wf64 hh) (hno : ((findT S.tb i r hh).2 && decide (S.cl.length ≠ 0)) = false) :
    Calls Try.prog 23 #[.pointer (some ⟨a, 0, none⟩), .int .i64 i, .int .i64 r, .int .i64 hh] w fun e w' => e = .returned (.tuple #[.int .i64 0, .int .i64 17]) ∧ Below w.heap.size w w' := by
  have HF := h.find i r hh hw
  obtain ⟨ca, cc, _, h2⟩ := h.cvS
  have H2 := Lib.hid h2
  clear h h2
  generalize (findT S.tb i r hh) = f at HF hno
  obtain ⟨⟨xh, xr, xrep, xown, xlends, xcall⟩, ok⟩ := f
  simp only at HF hno
  cases ok
  · clear hno
    go_enter Try.func23, Try.ntmps23
    go_wp2_with (go_at_call 53; refine HF.mono ?_; rintro e w1 ⟨rfl, hb⟩)
    go_ret2
    exact ⟨rfl, hb.alloc hb.size _⟩
  · simp at hno
    have hq : ((S.cl.length : Int) == 0) = true := by simp [hno]
    generalize S.cl.length = n at H2 hq
    clear hno
    go_enter Try.func23, Try.ntmps23
    go_wp2_with (go_at_call 53; refine HF.mono ?_; rintro e w1 ⟨rfl, hb⟩; have q2 := far H2.out hb (boxV xh xr xrep xown xlends xcall))
    go_ret2
    exact ⟨rfl, hb.alloc hb.size _⟩

theorem clC_fst : ∀ (cl : List (Int × List (Int × Int))) (ls : List Nat), (cl.zip ls).flatMap clC = ((cl.map (·.1)).zip ls).flatMap (fun p => [Value.int .i64 p.1, .map (some p.2)])
  | [], _ => rfl
  | c :: r, [] => rfl
  | c :: r, l :: ls => by
    rw [List.map_cons, List.zip_cons_cons, List.zip_cons_cons, List.flatMap_cons, List.flatMap_cons, clC_fst r ls]
theorem set_fst (cl : List (Int × List (Int × Int))) (p : Nat) (L : List (Int × Int)) : (cl.set p ((cl.getD p (0, [])).1, L)).map (·.1) = cl.map (·.1) := by
  rw [List.map_set]
  apply List.ext_getElem?
  intro j
  rw [List.getElem?_set]
  split
  · rename_i e
    subst e
    split
    · rename_i hlt
      rw [List.length_map] at hlt
      simp only [List.getD_eq_getElem?_getD, List.getElem?_map, List.getElem?_eq_getElem hlt]
      rfl
    · rename_i hlt
      rw [List.getElem?_eq_none (by omega)]
  · rfl
/-- What is lent for one call has turned. -/
theorem TbR.lentT {F : Nat → Prop} {a : Nat} {w : World} {S : Tb} {H : TbH} (h : TbR F a w S H) {p : Nat} (hp : p < S.cl.length) {w' : World} {L : List (Int × Int)} (K : Kept (· = H.ls.getD p 0) w w') (hm : LMap w' (H.ls.getD p 0) L) :
    TbR F a w' { S with cl := S.cl.set p ((S.cl.getD p (0, [])).1, L) } H := by
  obtain ⟨es, c, hb⟩ := (h.lents p hp).block
  have hlen : (S.cl.set p ((S.cl.getD p (0, [])).1, L)).length = S.cl.length := List.length_set
  have hls : H.ls.Nodup := (List.nodup_append.1 h.apart).2.1
  refine { h with head := ?_, mks := ?_, tbl := ?_, nl := ?_, maps := ?_, calls := ?_, lents := ?_ }
  · exact h.head.kept K (fun e => cells_ne_map h.head hb e)
  · exact ownsRow_kept h.mks K (fun g hg e => own_ne_map h.mks hb (by rw [hg, e]))
  · exact h.tbl.kept K (fun e => cells_ne_map h.tbl hb e)
  · show H.ls.length = (S.cl.set p ((S.cl.getD p (0, [])).1, L)).length
    rw [hlen]; exact h.nl
  · intro i hi
    exact (h.maps i hi).kept K (fun e => (List.nodup_append.1 h.apart).2.2 _ (getD_mem (by rw [h.nb]; exact hi)) _ (getD_mem (by rw [h.nl]; exact hp)) e)
  · show w'.ownsRow 0 _ 2 H.cv (S.cl.set p ((S.cl.getD p (0, [])).1, L)).length (((S.cl.set p ((S.cl.getD p (0, [])).1, L)).zip H.ls).flatMap clC)
    rw [hlen, clC_fst, set_fst, ← clC_fst]
    exact ownsRow_kept h.calls K (fun g hg e => own_ne_map h.calls hb (by rw [hg, e]))
  · intro j hj
    have hj' : j < S.cl.length := by rw [← hlen]; exact hj
    show LMap w' (H.ls.getD j 0) ((S.cl.set p ((S.cl.getD p (0, [])).1, L)).getD j (0, [])).2
    by_cases e : j = p
    · subst e
      simp only [List.getD_eq_getElem?_getD, List.getElem?_set_self hj'] at hm ⊢
      exact hm
    · rw [show (S.cl.set p ((S.cl.getD p (0, [])).1, L)).getD j (0, []) = S.cl.getD j (0, []) by
        simp only [List.getD_eq_getElem?_getD]
        rw [List.getElem?_set_ne (fun e' => e e'.symm)]]
      exact (h.lents j hj').kept K (fun e' => e (getD_inj hls (by rw [h.nl]; exact hj') (by rw [h.nl]; exact hp) e'))

set_option maxRecDepth 100000 in
set_option maxHeartbeats 4000000 in
theorem TbR.lend_ok {F : Nat → Prop} {a : Nat} {w : World} {S : Tb} {H : TbH} (h : TbR F a w S H) {N : Nat} (ok : TbOk N S) (hN : N ≤ 100000) (k p : Nat) (hh : Int) (hw : wf64 hh) (x : Hd) (hk : k < S.tb.length) (ha : at? (S.tb.getD k []) hh = some x) (hp : S.cl.length = p + 1)
    (hf : findT S.tb k x.r hh = (x, true)) :
    Calls Try.prog 23 #[.pointer (some ⟨a, 0, none⟩), .int .i64 (k : Int), .int .i64 x.r, .int .i64 hh] w fun e w' => e = .returned (.tuple #[.int .i64 x.rep, .int .i64 0]) ∧
      TbR F a w' { S with tb := S.tb.set k (putT { x with h := hh, lends := x.lends + 1 } (S.tb.getD k [])), cl := S.cl.set p ((S.cl.getD p (0, [])).1, ((k : Int), hh) :: (S.cl.getD p (0, [])).2) } H ∧ Kept F w w' := by
  have HF := h.find k x.r hh hw
  rw [hf] at HF
  obtain ⟨xh, xr, xrep, xown, xlends, xcall⟩ := x
  have hxh : xh = hh := (at?_mem ha).2
  subst hxh
  have hx := ok.hd k hk _ (at?_mem ha).1
  have hlw : wrap64 (xlends + 1) = xlends + 1 := by have h1 := hx.l1; have h2 := hx.l2; simp only at h1 h2; unfold wrap64; omega
  have hpw : wrap64 (((p + 1 : Nat) : Int) - 1) = (p : Int) := by have := ok.k1; unfold wrap64; omega
  have hpw2 : wrap64 ((p : Int) + 1 - 1) = (p : Int) := by have := ok.k1; unfold wrap64; omega
  have hpw3 : wrap64 (p : Int) = (p : Int) := by have := ok.k1; unfold wrap64; omega
  have hq : (((p + 1 : Nat) : Int) == 0) = false := by simp; omega
  simp only at HF ⊢
  obtain ⟨ca, cc, he, h2, hr⟩ := h.row
  obtain ⟨g, o, rfl, hrow⟩ := hr.resolve_left (by omega)
  have r1 := hrow.at1 p (by omega)
  have h1 := h.cells.2.1
  have ht := h.slotCell hk
  rw [hp] at h2
  have hbk : H.bs.getD k 0 ≠ H.ls.getD p 0 := fun e => (List.nodup_append.1 h.apart).2.2 _ (getD_mem (by rw [h.nb]; exact hk)) _ (getD_mem (by rw [h.nl]; omega)) e
  -- what the two stores leave
  have HU : Hid (∀ w1, Below w.heap.size w w1 → ∃ w2, (Instr.mapUpdate 56 (.map (some (H.bs.getD k 0))) (.int .i64 xh) (⟨xh, xr, xrep, xown, xlends + 1, xcall⟩ : Hd).v).run Try.prog (w1.alloc (boxV xh xr xrep xown (xlends + 1) xcall)).drew = .ok () w2 ∧
      TbR F a w2 { S with tb := S.tb.set k (putT ⟨xh, xr, xrep, xown, xlends + 1, xcall⟩ (S.tb.getD k [])) } H ∧ Kept F w w2 ∧ BlkAt w2 w1.heap.size #[.int .i64 xh, .int .i64 xr, .int .i64 xrep, .bool xown, .int .i64 (xlends + 1), .int .i64 xcall] 68) := by
    refine Lib.hid ?_
    intro w1 hb
    have hb2 : Below w.heap.size w (w1.alloc (boxV xh xr xrep xown (xlends + 1) xcall)).drew := (hb.alloc hb.size _).drew
    have h3 := h.below hb2
    obtain ⟨w2, u1, u2, u3⟩ := (h3.maps k hk).put (ok.rise k hk) (ok.len k hk) ⟨xh, xr, xrep, xown, xlends + 1, xcall⟩ hw
    have z := h.turned2 hk hb2 u3 u2
    refine ⟨w2, u1, z.1, z.2, ?_⟩
    have hne : w1.heap.size ≠ H.bs.getD k 0 := by have := (h.maps k hk).lt; have := hb.size; omega
    exact (show BlkAt (w1.alloc (boxV xh xr xrep xown (xlends + 1) xcall)).drew w1.heap.size _ _ from BlkAt.new w1 _ _).kept (Kept.turned u3) (fun e => hne e)
  have hcnt : wrap64 (((S.cl.getD p (0, [])).2.count ((k : Int), xh) : Int) + 1) = ((S.cl.getD p (0, [])).2.count ((k : Int), xh) : Int) + 1 := by
    have h1 := List.count_le_length (a := ((k : Int), xh)) (l := (S.cl.getD p (0, [])).2)
    have h2 := ok.ln p (by omega)
    unfold wrap64
    omega
  have hll : (S.cl.getD p (0, [])).2.length < maxLen := by have h2 := ok.ln p (by omega); unfold maxLen; omega
  have hkw : wf64 (k : Int) := WalkArith.wf_i64 (by have := ok.n2; omega)
  generalize hcn : (S.cl.getD p (0, [])).2.count ((k : Int), xh) = cn at hcnt
  have HV : Hid (∀ w2 b cs T, TbR F a w2 { S with tb := S.tb.set k (putT ⟨xh, xr, xrep, xown, xlends + 1, xcall⟩ (S.tb.getD k [])) } H → BlkAt w2 b cs T → ∃ (st : Int) (w3 w4 : World),
      (Instr.lookup 81 (.map (some (H.ls.getD p 0))) (.agg #[.int .i64 (k : Int), .int .i64 xh]) false).run Try.prog w2.drew = .ok (.int .i64 cn) w2.drew ∧
      (Instr.mapEntry 81 (.map (some (H.ls.getD p 0))) (.agg #[.int .i64 (k : Int), .int .i64 xh])).run Try.prog w2.drew = .ok (.tuple #[.int .i64 cn, .int .i64 st]) w3 ∧
      (Instr.lookup 81 (.map (some (H.ls.getD p 0))) (.agg #[.int .i64 (k : Int), .int .i64 xh]) false).run Try.prog w3 = .ok (.int .i64 cn) w3 ∧
      (Instr.entryStore 81 (.map (some (H.ls.getD p 0))) (.int .i64 st) (.int .i64 (wrap64 ((cn : Int) + 1)))).run Try.prog w3 = .ok () w4 ∧
      TbR F a w4 { S with tb := S.tb.set k (putT ⟨xh, xr, xrep, xown, xlends + 1, xcall⟩ (S.tb.getD k [])), cl := S.cl.set p ((S.cl.getD p (0, [])).1, ((k : Int), xh) :: (S.cl.getD p (0, [])).2) } H ∧ Kept F w2 w4 ∧ BlkAt w4 b cs T) := by
    refine Lib.hid ?_
    intro w2 b cs T hT hbk
    have hd := hT.drewR
    have hp' : p < S.cl.length := by omega
    have hlm := hd.lents p hp'
    obtain ⟨st, w3, w4, e1, e2, e3, e4, t1, t2, hm⟩ := hlm.bump hll (p := ((k : Int), xh)) ⟨hkw, hw⟩
    rw [hcn] at e1 e2 e3 e4
    obtain ⟨es, c, hb⟩ := hlm.block
    have hbd : BlkAt w2.drew b cs T := hbk
    refine ⟨st, w3, w4, e1, e2, e3, by rw [hcnt]; exact e4, hd.lentT hp' (Kept.turned t2) hm, ?_, hbd.kept (Kept.turned t2) (fun e => cells_ne_map hbd hb e)⟩
    exact ((Kept.refl F w2).drew).trans ((Kept.turned t2).mono (fun b e => by rw [e]; exact hd.fb _ (List.mem_append_right _ (getD_mem (by rw [hd.nl]; exact hp')))))
  have H1 := Lib.hid h1
  have H2 := Lib.hid h2
  have HTS := Lib.hid ht
  have HR1 := Lib.hid r1
  have HC2 : Hid (∀ w2, TbR F a w2 { S with tb := S.tb.set k (putT ⟨xh, xr, xrep, xown, xlends + 1, xcall⟩ (S.tb.getD k [])) } H → w2.cell? ⟨a, 2, none⟩ = some (.slice (some ⟨g, o, none⟩) (p + 1) cc) ∧ w2.cell? ⟨g, o + p * 2 + 1, none⟩ = some (.map (some (H.ls.getD p 0)))) := by
    refine Lib.hid ?_
    intro w2 hT
    obtain ⟨ca, cc', he', h2', hr'⟩ := hT.row
    rw [he] at he'
    obtain ⟨g', o', e', hrow'⟩ := hr'.resolve_left (by rw [hp]; omega)
    injection he' with z1 z2 z3
    subst z3
    rw [← z1] at e' h2'
    injection e' with e'
    injection e' with e1 e2
    subst e1
    subst e2
    rw [← hp]
    exact ⟨h2', hrow'.at1 p (by rw [hp]; omega)⟩
  generalize hbkn : H.bs.getD k 0 = bk at HTS HU
  generalize hlpn : H.ls.getD p 0 = lp at HR1 HV HC2
  have HKN : Hid (k < S.tb.length) := Lib.hid hk
  have hkn := hk
  generalize hnn : S.tb.length = n at H1 hkn
  clear h ok hx h1 h2 ht r1 hr hrow hbk ha hf hp hk hcn hll hkw hbkn hlpn hnn he
  go_enter Try.func23, Try.ntmps23
  go_wp2_with (go_at_call 53; refine HF.mono ?_; rintro e w1 ⟨rfl, hb⟩; have q2 := far H2.out hb (boxV xh xr xrep xown xlends xcall); have p1 := far H1.out hb (boxV xh xr xrep xown (xlends + 1) xcall); have p2 := far HTS.out hb (boxV xh xr xrep xown (xlends + 1) xcall); obtain ⟨w2, u1, u2, u3, u4⟩ := HU.out w1 hb; obtain ⟨c1, c2⟩ := HC2.out w2 u2; have U2 := Lib.hid u2; have U3 := Lib.hid u3; have U4 := Lib.hid u4; clear u2 u3 u4)
  obtain ⟨st, w3, w4, e1, e2, e3, e4, e5, e6, e7⟩ := HV.out w2 w1.heap.size _ _ U2.out U4.out
  have p3 := e7.cell 2
  simp at p3
  have E5 := Lib.hid e5
  have E6 := Lib.hid e6
  clear e5 e6 e7 hpw hcnt
  go_region
  go_wp2
  go_region
  all_goals go_wp2
  all_goals go_ret2
  all_goals exact ⟨rfl, E5.out, U3.out.trans E6.out⟩
/-- Lend. -/
theorem TbR.lend {F : Nat → Prop} {a : Nat} {w : World} {S : Tb} {H : TbH} (h : TbR F a w S H) {N : Nat} (ok : TbOk N S) (hN : N ≤ 100000) (i r hh : Int) (hw : wf64 hh) :
    Calls Try.prog 23 #[.pointer (some ⟨a, 0, none⟩), .int .i64 i, .int .i64 r, .int .i64 hh] w fun e w' => e = .returned (.tuple #[.int .i64 (lendS S i r hh).1, .int .i64 (lendS S i r hh).2.1]) ∧ TbR F a w' (lendS S i r hh).2.2 H ∧ Kept F w w' := by
  unfold lendS
  by_cases hq : (findT S.tb i r hh).2 && decide (S.cl.length ≠ 0) = true
  · rw [if_pos hq]
    have h1 : (findT S.tb i r hh).2 = true := by
      cases hf : (findT S.tb i r hh).2
      · rw [hf] at hq; cases hq
      · rfl
    have h2 : S.cl.length ≠ 0 := by
      rw [h1] at hq
      simpa using hq
    obtain ⟨k, x, rfl, hk, ha, hr, he⟩ := findT_yes h1
    obtain ⟨p, hp⟩ : ∃ p, S.cl.length = p + 1 := ⟨S.cl.length - 1, by omega⟩
    subst hr
    refine (h.lend_ok ok hN k p hh hw x hk ha hp he).mono ?_
    rintro e w' ⟨rfl, h3, h4⟩
    rw [he, hp]
    exact ⟨rfl, h3, h4⟩
  · rw [if_neg hq]
    refine (h.lend_no i r hh hw ?_).mono ?_
    · cases hf : (findT S.tb i r hh).2
      · rfl
      · rw [hf] at hq
        simpa using hq
    · rintro e w' ⟨rfl, hb⟩
      exact ⟨rfl, h.below hb, Kept.of_below hb⟩
end Go.Proofs.Ytglhfofofacekaa
