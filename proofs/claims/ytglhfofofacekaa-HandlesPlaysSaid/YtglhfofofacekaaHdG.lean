/- handles: Make, Rep, Drop, Take, walked. -/
import Derived.Test.YtglhfofofacekaaHdF
set_option linter.unusedVariables false
set_option linter.unusedSimpArgs false
namespace Go.Proofs.Ytglhfofofacekaa
open Go.RowKit

theorem far {w w1 : World} {p : Addr} {v : Value} (h : w.cell? p = some v) (hb : Below w.heap.size w w1) (o : Obj) : (w1.alloc o).cell? p = some v := by
  have l := World.block_lt_of_cell? w _ h
  exact ((hb.alloc hb.size o).cell l).trans h
theorem farB {w w1 : World} {p : Addr} {v : Value} (h : w.cell? p = some v) (hb : Below w.heap.size w w1) : w1.cell? p = some v := (hb.cell (World.block_lt_of_cell? w _ h)).trans h

theorem isT_yes (T : List Hd) (h r : Int) (hf : ((at? T h).isSome && decide (((at? T h).getD Hd.zero).r = r)) = true) : ∃ x, at? T h = some x ∧ x.r = r ∧ (((at? T h).getD Hd.zero), (at? T h).isSome && decide (((at? T h).getD Hd.zero).r = r)) = (x, true) := by
  rcases Option.eq_none_or_eq_some (at? T h) with ha | ⟨x, ha⟩
  · simp [ha] at hf
  · simp [ha] at hf
    exact ⟨x, ha, hf, by simp [ha, hf]⟩
/-- What find says of a handle that there is. -/
theorem findT_yes {tb : List (List Hd)} {i r h : Int} (hf : (findT tb i r h).2 = true) : ∃ (k : Nat) (x : Hd), i = k ∧ k < tb.length ∧ at? (tb.getD k []) h = some x ∧ x.r = r ∧ findT tb i r h = (x, true) := by
  unfold findT at hf ⊢
  split at hf
  · rename_i hb
    obtain ⟨k, rfl, hk⟩ := hasB_nat hb
    simp only [Int.toNat_natCast] at hf ⊢
    obtain ⟨x, h1, h2, h3⟩ := isT_yes _ _ _ hf
    exact ⟨k, x, rfl, hk, h1, h2, by rw [if_pos hb]; exact h3⟩
  · cases hf

/-! Make -/
def makeS (S : Tb) (i r rep : Int) : Int × Int × Tb := if mayB S.tb.length S.ms.length i r rep && decide (S.ms.getD r.toNat 0 = i) = true then putS S i r rep else (0, 17, S)
set_option maxRecDepth 100000 in
set_option maxHeartbeats 1000000 in
theorem make_nil (i r rep : Int) (w : World) : Calls Try.prog 21 #[.pointer none, .int .i64 i, .int .i64 r, .int .i64 rep] w fun e w' => e = .returned (.tuple #[.int .i64 0, .int .i64 17]) ∧ w = w' := by
  have HH := may_nil i r rep w
  go_enter Try.func21, Try.ntmps21
  go_wp2_with (go_at_call 50; refine HH.mono ?_; rintro e w' ⟨rfl, rfl⟩)
  go_ret2
  exact ⟨rfl, rfl⟩
set_option maxRecDepth 100000 in
set_option maxHeartbeats 1000000 in
theorem TbR.make {F : Nat → Prop} {a : Nat} {w : World} {S : Tb} {H : TbH} (h : TbR F a w S H) {N : Nat} (ok : TbOk N S) (i r rep : Int) :
    Calls Try.prog 21 #[.pointer (some ⟨a, 0, none⟩), .int .i64 i, .int .i64 r, .int .i64 rep] w fun e w' => e = .returned (.tuple #[.int .i64 (makeS S i r rep).1, .int .i64 (makeS S i r rep).2.1]) ∧ TbR F a w' (makeS S i r rep).2.2 H ∧ Kept F w w' := by
  have HM := h.may i r rep
  have HP := h.put ok i r rep
  unfold makeS
  have HT := Lib.hid (And.intro h (Kept.refl F w))
  cases hb : mayB S.tb.length S.ms.length i r rep
  · rw [hb] at HM
    simp only [Bool.false_and, Bool.false_eq_true, if_false]
    clear h HP
    go_enter Try.func21, Try.ntmps21
    go_wp2_with (go_at_call 50; refine HM.mono ?_; rintro e w' ⟨rfl, rfl⟩)
    go_ret2
    exact ⟨rfl, HT.out⟩
  · rw [hb] at HM
    simp only [Bool.true_and]
    obtain ⟨⟨k, rfl, hk⟩, ⟨j, rfl, hj⟩, hp⟩ := mayB_nat hb
    simp only [Int.toNat_natCast]
    obtain ⟨ma, mc, h0, hv⟩ := h.mv
    obtain ⟨g, o, rfl, hc⟩ := hv.resolve_left (by omega)
    have h1 := hc j hj
    generalize putS S k j rep = z at HP ⊢
    obtain ⟨z1, z2, z3⟩ := z
    generalize hml : S.ms.length = ml at hj h0 HM
    clear h ok hb hp hc hml
    by_cases he : S.ms.getD j 0 = (k : Int)
    · rw [if_pos (by first | exact decide_eq_true he | exact decide_eq_true (decide_eq_true he))]
      generalize S.ms.getD j 0 = m at h1 he
      have hne : (m != (k : Int)) = false := by simp [he]
      clear he
      go_enter Try.func21, Try.ntmps21
      go_wp2_with (first
        | (go_at_call 50; refine HM.mono ?_; rintro e w' ⟨rfl, rfl⟩)
        | (go_at_call 29; refine HP.mono ?_; rintro e w' ⟨rfl, k1⟩; have K1 := Lib.hid k1; clear k1))
      go_ret2
      exact ⟨rfl, K1.out⟩
    · rw [if_neg (by first | exact fun e => he (of_decide_eq_true e) | exact fun e => he (of_decide_eq_true (of_decide_eq_true e)))]
      generalize S.ms.getD j 0 = m at h1 he
      have hne : (m != (k : Int)) = true := by simp [he]
      clear he HP
      go_enter Try.func21, Try.ntmps21
      go_wp2_with (first
        | (go_at_call 50; refine HM.mono ?_; rintro e w' ⟨rfl, rfl⟩))
      go_ret2
      exact ⟨rfl, HT.out⟩

/-! Rep -/
def repS (S : Tb) (i r h : Int) : Int × Int := if (findT S.tb i r h).2 && decide (S.ms.getD r.toNat 0 = i) = true then ((findT S.tb i r h).1.rep, 0) else (0, 17)
set_option maxRecDepth 100000 in
set_option maxHeartbeats 1000000 in
theorem rep_nil (i r h : Int) (w : World) : Calls Try.prog 27 #[.pointer none, .int .i64 i, .int .i64 r, .int .i64 h] w fun e w' => e = .returned (.tuple #[.int .i64 0, .int .i64 17]) ∧ Below w.heap.size w w' := by
  have HH := find_nil i r h w
  go_enter Try.func27, Try.ntmps27
  go_wp2_with (go_at_call 53; refine HH.mono ?_; rintro e w1 ⟨rfl, hb⟩)
  go_ret2
  exact ⟨rfl, hb.alloc hb.size _⟩
set_option maxRecDepth 100000 in
set_option maxHeartbeats 1000000 in
theorem TbR.repr {F : Nat → Prop} {a : Nat} {w : World} {S : Tb} {H : TbH} (h : TbR F a w S H) {N : Nat} (ok : TbOk N S) (i r hh : Int) (hw : wf64 hh) :
    Calls Try.prog 27 #[.pointer (some ⟨a, 0, none⟩), .int .i64 i, .int .i64 r, .int .i64 hh] w fun e w' => e = .returned (.tuple #[.int .i64 (repS S i r hh).1, .int .i64 (repS S i r hh).2]) ∧ Below w.heap.size w w' := by
  have HF := h.find i r hh hw
  unfold repS
  cases hf : (findT S.tb i r hh).2
  · rw [hf] at HF
    simp only [Bool.false_and, Bool.false_eq_true, if_false]
    obtain ⟨xh, xr, xrep, xown, xlends, xcall⟩ := (findT S.tb i r hh).1
    clear h hf
    go_enter Try.func27, Try.ntmps27
    go_wp2_with (go_at_call 53; refine HF.mono ?_; rintro e w1 ⟨rfl, hb⟩)
    go_ret2
    exact ⟨rfl, hb.alloc hb.size _⟩
  · obtain ⟨k, x, rfl, hk, ha, hr, he⟩ := findT_yes hf
    have hx := ok.hd k hk x (at?_mem ha).1
    rw [he] at HF ⊢
    clear he hf
    subst hr
    obtain ⟨j, hj, hjl⟩ : ∃ j : Nat, x.r = j ∧ j < S.ms.length := ⟨x.r.toNat, by have := hx.r1; omega, by have := hx.r1; have := hx.r2; omega⟩
    obtain ⟨ma, mc, h0, hv⟩ := h.mv
    obtain ⟨g, o, rfl, hc⟩ := hv.resolve_left (by omega)
    have h1 := hc j hjl
    obtain ⟨xh, xr, xrep, xown, xlends, xcall⟩ := x
    simp only at hj
    subst hj
    simp only [Bool.true_and, Int.toNat_natCast] at HF ⊢
    generalize hml : S.ms.length = ml at hjl h0
    clear h ok hx hc hml ha
    have H0 := Lib.hid h0
    clear h0
    by_cases he : S.ms.getD j 0 = (k : Int)
    · rw [if_pos (by first | exact decide_eq_true he | exact decide_eq_true (decide_eq_true he))]
      generalize S.ms.getD j 0 = m at h1 he
      have hne : (m != (k : Int)) = false := by simp [he]
      have H1 := Lib.hid h1
      clear he h1
      go_enter Try.func27, Try.ntmps27
      go_wp2_with (go_at_call 53; refine HF.mono ?_; rintro e w1 ⟨rfl, hb⟩; have q0 := far H0.out hb (.cells #[.int .i64 xh, .int .i64 j, .int .i64 xrep, .bool xown, .int .i64 xlends, .int .i64 xcall] 68); have q1 := far H1.out hb (.cells #[.int .i64 xh, .int .i64 j, .int .i64 xrep, .bool xown, .int .i64 xlends, .int .i64 xcall] 68))
      go_ret2
      exact ⟨rfl, hb.alloc hb.size _⟩
    · rw [if_neg (by first | exact fun e => he (of_decide_eq_true e) | exact fun e => he (of_decide_eq_true (of_decide_eq_true e)))]
      generalize S.ms.getD j 0 = m at h1 he
      have hne : (m != (k : Int)) = true := by simp [he]
      have H1 := Lib.hid h1
      clear he h1
      go_enter Try.func27, Try.ntmps27
      go_wp2_with (go_at_call 53; refine HF.mono ?_; rintro e w1 ⟨rfl, hb⟩; have q0 := far H0.out hb (.cells #[.int .i64 xh, .int .i64 j, .int .i64 xrep, .bool xown, .int .i64 xlends, .int .i64 xcall] 68); have q1 := far H1.out hb (.cells #[.int .i64 xh, .int .i64 j, .int .i64 xrep, .bool xown, .int .i64 xlends, .int .i64 xcall] 68))
      go_ret2
      exact ⟨rfl, hb.alloc hb.size _⟩
end Go.Proofs.Ytglhfofofacekaa
