/- handles: Drop, Take, Borrow, walked. -/
import Derived.Test.YtglhfofofacekaaHdG
set_option linter.unusedVariables false
set_option linter.unusedSimpArgs false
namespace Go.Proofs.Ytglhfofofacekaa
open Go.RowKit

theorem TbR.drewR {F : Nat → Prop} {a : Nat} {w : World} {S : Tb} {H : TbH} (h : TbR F a w S H) : TbR F a w.drew S H := h.kept (G := fun _ => False) ((Kept.refl _ w).drew) (fun _ _ e => e)
abbrev boxV (xh xr xrep : Int) (xown : Bool) (xlends xcall : Int) : Obj := .cells #[.int .i64 xh, .int .i64 xr, .int .i64 xrep, .bool xown, .int .i64 xlends, .int .i64 xcall] 68
def dropS (S : Tb) (i r h : Int) : Int × Bool × Int × Tb :=
  if (findT S.tb i r h).2 = true then
    if 0 < (findT S.tb i r h).1.lends then (0, false, 18, S)
    else ((findT S.tb i r h).1.rep, (findT S.tb i r h).1.own, 0, { S with tb := S.tb.set i.toNat (delT h (S.tb.getD i.toNat [])) })
  else (0, false, 17, S)
set_option maxRecDepth 100000 in
set_option maxHeartbeats 1000000 in
theorem drop_nil (i r h : Int) (w : World) : Calls Try.prog 25 #[.pointer none, .int .i64 i, .int .i64 r, .int .i64 h] w fun e w' => e = .returned (.tuple #[.int .i64 0, .bool false, .int .i64 17]) ∧ Below w.heap.size w w' := by
  have HH := find_nil i r h w
  go_enter Try.func25, Try.ntmps25
  go_wp2_with (go_at_call 53; refine HH.mono ?_; rintro e w1 ⟨rfl, hb⟩)
  refine bodyPost_ret (v := .tuple #[.int .i64 0, .bool false, .int .i64 17]) (by simp [results, Try.results25, go_sem]) rfl ⟨rfl, hb.alloc hb.size _⟩
set_option maxRecDepth 100000 in
set_option maxHeartbeats 1000000 in
theorem TbR.drop {F : Nat → Prop} {a : Nat} {w : World} {S : Tb} {H : TbH} (h : TbR F a w S H) (i r hh : Int) (hw : wf64 hh) :
    Calls Try.prog 25 #[.pointer (some ⟨a, 0, none⟩), .int .i64 i, .int .i64 r, .int .i64 hh] w fun e w' => e = .returned (.tuple #[.int .i64 (dropS S i r hh).1, .bool (dropS S i r hh).2.1, .int .i64 (dropS S i r hh).2.2.1]) ∧ TbR F a w' (dropS S i r hh).2.2.2 H ∧ Kept F w w' := by
  have HF := h.find i r hh hw
  unfold dropS
  by_cases hf : (findT S.tb i r hh).2 = true
  · obtain ⟨k, x, rfl, hk, ha, hr, he⟩ := findT_yes hf
    rw [he] at HF
    rw [if_pos hf, he]
    clear hf he
    obtain ⟨xh, xr, xrep, xown, xlends, xcall⟩ := x
    simp only at hr
    subst hr
    simp only [Int.toNat_natCast] at HF ⊢
    have HT := Lib.hid (And.intro h ha)
    by_cases hl : 0 < xlends
    · rw [if_pos hl]
      have hl2 : decide (0 < xlends) = true := decide_eq_true hl
      clear h hl ha
      go_enter Try.func25, Try.ntmps25
      go_wp2_with (go_at_call 53; refine HF.mono ?_; rintro e w1 ⟨rfl, hb⟩)
      refine bodyPost_ret (v := .tuple #[.int .i64 0, .bool false, .int .i64 18]) (by simp [results, Try.results25, go_sem]) rfl ⟨rfl, HT.out.1.below (hb.alloc hb.size _), Kept.of_below (hb.alloc hb.size _)⟩
    · rw [if_neg hl]
      have hl2 : decide (0 < xlends) = false := decide_eq_false hl
      have H1 := Lib.hid h.cells.2.1
      have H2 := Lib.hid (h.slotCell hk)
      have hm := h.maps k hk
      have hD : ∀ w1, Below w.heap.size w w1 → ∃ w', (∀ ty, (Builtin.delete_ #[56, 3] ty #[.map (some (H.bs.getD k 0)), .int .i64 hh]).run Try.prog (w1.alloc (boxV xh xr xrep xown xlends xcall)) = .ok (.tuple #[]) w') ∧ HMap w' (H.bs.getD k 0) (delT hh (S.tb.getD k [])) ∧ (w1.alloc (boxV xh xr xrep xown xlends xcall)).mapTurned w' (H.bs.getD k 0) ∧ BlkAt w' w1.heap.size #[.int .i64 xh, .int .i64 xr, .int .i64 xrep, .bool xown, .int .i64 xlends, .int .i64 xcall] 68 := by
        intro w1 hb
        have hb2 := hb.alloc hb.size (boxV xh xr xrep xown xlends xcall)
        obtain ⟨w', e1, e2, e3⟩ := (hm.kept (F := fun _ => False) (Kept.of_below hb2) (fun e => e)).del hw 0
        refine ⟨w', fun ty => e1, e2, e3, ?_⟩
        refine (BlkAt.new w1 _ _).kept (Kept.turned e3) ?_
        have := hm.lt
        have := hb.size
        omega
      have HD := Lib.hid hD
      have HK := Lib.hid hk
      generalize hbn : H.bs.getD k 0 = b at H2 HD
      have HB := Lib.hid hbn
      clear h hl ha hm hD hbn
      go_enter Try.func25, Try.ntmps25
      go_wp2_with (go_at_call 53; refine HF.mono ?_; rintro e w1 ⟨rfl, hb⟩; obtain ⟨w2, d1, d2, d3, d4⟩ := HD.out w1 hb; have q1 := far H1.out hb (boxV xh xr xrep xown xlends xcall); have q2 := far H2.out hb (boxV xh xr xrep xown xlends xcall); have D2 := Lib.hid d2; have D3 := Lib.hid d3; have p2 := d4.cell 2; have p3 := d4.cell 3; clear d2 d3 d4; simp at p2 p3)
      go_region
      go_wp2
      refine bodyPost_ret (v := .tuple #[.int .i64 xrep, .bool xown, .int .i64 0]) (by simp [results, Try.results25, go_sem]) rfl ⟨rfl, ?_⟩
      have z := HT.out.1.turned2 HK.out (hb.alloc hb.size (boxV xh xr xrep xown xlends xcall)) (by rw [HB.out]; exact D3.out) (by rw [HB.out]; exact D2.out)
      exact ⟨z.1.drewR, z.2.drew⟩
  · rw [if_neg hf]
    have hf2 : (findT S.tb i r hh).2 = false := by simpa using hf
    rw [hf2] at HF
    obtain ⟨xh, xr, xrep, xown, xlends, xcall⟩ := (findT S.tb i r hh).1
    have HT := Lib.hid h
    clear h hf hf2
    go_enter Try.func25, Try.ntmps25
    go_wp2_with (go_at_call 53; refine HF.mono ?_; rintro e w1 ⟨rfl, hb⟩)
    refine bodyPost_ret (v := .tuple #[.int .i64 0, .bool false, .int .i64 17]) (by simp [results, Try.results25, go_sem]) rfl ⟨rfl, HT.out.below (hb.alloc hb.size _), Kept.of_below (hb.alloc hb.size _)⟩

/-! Take -/
def takeS (S : Tb) (i r h : Int) : Int × Int × Tb :=
  if (findT S.tb i r h).2 && (findT S.tb i r h).1.own = true then ((dropS S i r h).1, (dropS S i r h).2.2.1, (dropS S i r h).2.2.2) else (0, 17, S)
set_option maxRecDepth 100000 in
set_option maxHeartbeats 1000000 in
theorem take_nil (i r h : Int) (w : World) : Calls Try.prog 28 #[.pointer none, .int .i64 i, .int .i64 r, .int .i64 h] w fun e w' => e = .returned (.tuple #[.int .i64 0, .int .i64 17]) ∧ Below w.heap.size w w' := by
  have HH := find_nil i r h w
  go_enter Try.func28, Try.ntmps28
  go_wp2_with (go_at_call 53; refine HH.mono ?_; rintro e w1 ⟨rfl, hb⟩)
  go_ret2
  exact ⟨rfl, hb.alloc hb.size _⟩
set_option maxRecDepth 100000 in
set_option maxHeartbeats 1000000 in
theorem TbR.take {F : Nat → Prop} {a : Nat} {w : World} {S : Tb} {H : TbH} (h : TbR F a w S H) (i r hh : Int) (hw : wf64 hh) :
    Calls Try.prog 28 #[.pointer (some ⟨a, 0, none⟩), .int .i64 i, .int .i64 r, .int .i64 hh] w fun e w' => e = .returned (.tuple #[.int .i64 (takeS S i r hh).1, .int .i64 (takeS S i r hh).2.1]) ∧ TbR F a w' (takeS S i r hh).2.2 H ∧ Kept F w w' := by
  have HF := h.find i r hh hw
  unfold takeS
  have HT := Lib.hid h
  cases hf : (findT S.tb i r hh).2
  · simp only [Bool.false_and, Bool.false_eq_true, if_false]
    rw [hf] at HF
    obtain ⟨xh, xr, xrep, xown, xlends, xcall⟩ := (findT S.tb i r hh).1
    clear h hf
    go_enter Try.func28, Try.ntmps28
    go_wp2_with (go_at_call 53; refine HF.mono ?_; rintro e w1 ⟨rfl, hb⟩)
    go_ret2
    exact ⟨rfl, HT.out.below (hb.alloc hb.size _), Kept.of_below (hb.alloc hb.size _)⟩
  · rw [hf] at HF
    have HD : Hid (∀ w1, Below w.heap.size w w1 → ∀ xh xr xrep xown xlends xcall, Calls Try.prog 25 #[.pointer (some ⟨a, 0, none⟩), .int .i64 i, .int .i64 r, .int .i64 hh] (w1.alloc (boxV xh xr xrep xown xlends xcall)) fun e w' => e = .returned (.tuple #[.int .i64 (dropS S i r hh).1, .bool (dropS S i r hh).2.1, .int .i64 (dropS S i r hh).2.2.1]) ∧ TbR F a w' (dropS S i r hh).2.2.2 H ∧ Kept F w w') := by
      refine Lib.hid ?_
      intro w1 hb xh xr xrep xown xlends xcall
      have hb2 := hb.alloc hb.size (boxV xh xr xrep xown xlends xcall)
      refine ((h.below hb2).drop i r hh hw).mono ?_
      rintro e w' ⟨rfl, h1, h2⟩
      exact ⟨rfl, h1, (Kept.of_below hb2).trans h2⟩
    generalize (findT S.tb i r hh).1 = x at HF ⊢
    obtain ⟨xh, xr, xrep, xown, xlends, xcall⟩ := x
    generalize dropS S i r hh = d at HD ⊢
    obtain ⟨d1, d2, d3, d4⟩ := d
    simp only [Bool.true_and] at HD ⊢
    clear h hf
    cases xown
    · simp only [Bool.false_eq_true, if_false]
      clear HD
      go_enter Try.func28, Try.ntmps28
      go_wp2_with (go_at_call 53; refine HF.mono ?_; rintro e w1 ⟨rfl, hb⟩)
      go_ret2
      exact ⟨rfl, HT.out.below (hb.alloc hb.size _), Kept.of_below (hb.alloc hb.size _)⟩
    · simp only [if_true]
      go_enter Try.func28, Try.ntmps28
      go_wp2_with (first
        | (go_at_call 53; refine HF.mono ?_; rintro e w1 ⟨rfl, hb⟩)
        | (go_at_call 25; refine (HD.out w1 hb xh xr xrep true xlends xcall).mono ?_; rintro e w' ⟨rfl, k1⟩; have K1 := Lib.hid k1; clear k1))
      go_ret2
      exact ⟨rfl, K1.out⟩

/-! Borrow -/
theorem TbR.cvS {F : Nat → Prop} {a : Nat} {w : World} {S : Tb} {H : TbH} (h : TbR F a w S H) : ∃ ca cc, H.cv = .slice ca S.cl.length cc ∧ w.cell? ⟨a, 2, none⟩ = some (.slice ca S.cl.length cc) := by
  rcases h.calls.2 with ⟨e, e0⟩ | ⟨g, cap, cur, e, _⟩
  · exact ⟨none, 0, by rw [e, e0], by rw [h.cells.2.2, e, e0]⟩
  · exact ⟨_, cap, e, by rw [h.cells.2.2, e]⟩
def borrowS (S : Tb) (i r rep : Int) : Int × Int × Tb :=
  if mayB S.tb.length S.ms.length i r rep && decide (S.cl.length ≠ 0) = true then
    if S.ms.getD r.toNat 0 = i then (rep, 0, S) else addS S i.toNat ⟨0, r, rep, false, 0, S.cl.length⟩
  else (0, 17, S)
set_option maxRecDepth 100000 in
set_option maxHeartbeats 1000000 in
theorem borrow_nil (i r rep : Int) (w : World) : Calls Try.prog 24 #[.pointer none, .int .i64 i, .int .i64 r, .int .i64 rep] w fun e w' => e = .returned (.tuple #[.int .i64 0, .int .i64 17]) ∧ w = w' := by
  have HH := may_nil i r rep w
  go_enter Try.func24, Try.ntmps24
  go_wp2_with (go_at_call 50; refine HH.mono ?_; rintro e w' ⟨rfl, rfl⟩)
  go_ret2
  exact ⟨rfl, rfl⟩
set_option maxRecDepth 100000 in
set_option maxHeartbeats 1000000 in
theorem TbR.borrow {F : Nat → Prop} {a : Nat} {w : World} {S : Tb} {H : TbH} (h : TbR F a w S H) {N : Nat} (ok : TbOk N S) (i r rep : Int) :
    Calls Try.prog 24 #[.pointer (some ⟨a, 0, none⟩), .int .i64 i, .int .i64 r, .int .i64 rep] w fun e w' => e = .returned (.tuple #[.int .i64 (borrowS S i r rep).1, .int .i64 (borrowS S i r rep).2.1]) ∧ TbR F a w' (borrowS S i r rep).2.2 H ∧ Kept F w w' := by
  have HM := h.may i r rep
  unfold borrowS
  have HT := Lib.hid (And.intro h (Kept.refl F w))
  obtain ⟨ca, cc, _, h2⟩ := h.cvS
  cases hb : mayB S.tb.length S.ms.length i r rep
  · rw [hb] at HM
    simp only [Bool.false_and, Bool.false_eq_true, if_false]
    clear h ok
    go_enter Try.func24, Try.ntmps24
    go_wp2_with (go_at_call 50; refine HM.mono ?_; rintro e w' ⟨rfl, rfl⟩)
    go_ret2
    exact ⟨rfl, HT.out⟩
  · rw [hb] at HM
    obtain ⟨⟨k, rfl, hk⟩, ⟨j, rfl, hj⟩, hp⟩ := mayB_nat hb
    simp only [Bool.true_and, Int.toNat_natCast]
    have HA := h.add ok hk ⟨0, j, rep, false, 0, S.cl.length⟩
    obtain ⟨ma, mc, h0, hv⟩ := h.mv
    obtain ⟨g, o, rfl, hc⟩ := hv.resolve_left (by omega)
    have h1 := hc j hj
    generalize addS S k ⟨0, j, rep, false, 0, S.cl.length⟩ = z at HA ⊢
    obtain ⟨z1, z2, z3⟩ := z
    simp only at HA ⊢
    by_cases hcl : S.cl.length = 0
    · have hq : ((S.cl.length : Int) == 0) = true := by simp [hcl]
      rw [if_neg (by simp [hcl])]
      generalize S.cl.length = cn at h2 hq
      clear h ok hb hp hc HA h0 h1 hcl
      go_enter Try.func24, Try.ntmps24
      go_wp2_with (go_at_call 50; refine HM.mono ?_; rintro e w' ⟨rfl, rfl⟩)
      go_ret2
      exact ⟨rfl, HT.out⟩
    · have hq : ((S.cl.length : Int) == 0) = false := by simp; exact fun e => hcl (by rw [e]; rfl)
      rw [if_pos (by simp [hcl])]
      generalize hml : S.ms.length = ml at hj h0 HM
      by_cases he : S.ms.getD j 0 = (k : Int)
      · rw [if_pos he]
        generalize S.ms.getD j 0 = m at h1 he
        have hne : (m == (k : Int)) = true := by simp [he]
        generalize S.cl.length = cn at h2 hq
        clear h ok hb hp hc hml hcl HA he
        go_enter Try.func24, Try.ntmps24
        go_wp2_with (go_at_call 50; refine HM.mono ?_; rintro e w' ⟨rfl, rfl⟩)
        go_ret2
        exact ⟨rfl, HT.out⟩
      · rw [if_neg he]
        generalize S.ms.getD j 0 = m at h1 he
        have hne : (m == (k : Int)) = false := by simp [he]
        generalize S.cl.length = cn at h2 hq HA
        clear h ok hb hp hc hml hcl he
        go_enter Try.func24, Try.ntmps24
        go_wp2_with (first
          | (go_at_call 50; refine HM.mono ?_; rintro e w' ⟨rfl, rfl⟩)
          | (go_at_call 54; refine HA.mono ?_; rintro e w' ⟨rfl, k1⟩; have K1 := Lib.hid k1; clear k1))
        go_ret2
        exact ⟨rfl, K1.out⟩
end Go.Proofs.Ytglhfofofacekaa
