/- handles: what the calls do, plainly; Put, Make, Rep, Drop, Take. -/
import Derived.Test.YtglhfofofacekaaHdE
set_option linter.unusedVariables false
set_option linter.unusedSimpArgs false
namespace Go.Proofs.Ytglhfofofacekaa
open Go.RowKit

/-- What a handle may be. -/
structure HdOk (m c N : Nat) (x : Hd) : Prop where
  h1 : 1 ≤ x.h
  h2 : x.h ≤ 256
  r1 : 0 ≤ x.r
  r2 : x.r < m
  p1 : 0 ≤ x.rep
  p2 : x.rep ≤ 4294967295
  l1 : 0 ≤ x.lends
  l2 : x.lends ≤ N
  o : x.own = decide (x.call = 0)
  c1 : 0 ≤ x.call
  c2 : x.call ≤ c
/-- How often a handle is lent, for all calls. -/
def lentN (cl : List (Int × List (Int × Int))) (i h : Int) : Nat := (cl.map fun c => c.2.count (i, h)).sum
/-- What tables may hold, so many deeds behind their beginning. -/
structure TbOk (N : Nat) (S : Tb) : Prop where
  n1 : 1 ≤ S.tb.length
  n2 : S.tb.length ≤ 4
  m1 : S.ms.length ≤ 16
  m2 : ∀ r, r < S.ms.length → 0 ≤ S.ms.getD r 0 ∧ S.ms.getD r 0 < S.tb.length
  rise : ∀ i, i < S.tb.length → Rise (S.tb.getD i [])
  len : ∀ i, i < S.tb.length → (S.tb.getD i []).length ≤ 256
  hd : ∀ i, i < S.tb.length → ∀ x ∈ S.tb.getD i [], HdOk S.ms.length S.cl.length N x
  k1 : S.cl.length ≤ 16
  k2 : ∀ j, j < S.cl.length → 0 ≤ (S.cl.getD j (0, [])).1 ∧ (S.cl.getD j (0, [])).1 < S.tb.length
  lw : ∀ j, j < S.cl.length → ∀ p ∈ (S.cl.getD j (0, [])).2, ∃ i : Nat, p.1 = i ∧ i < S.tb.length ∧ ∃ x, at? (S.tb.getD i []) p.2 = some x
  ln : ∀ j, j < S.cl.length → (S.cl.getD j (0, [])).2.length ≤ N
  cnt : ∀ i, i < S.tb.length → ∀ x ∈ S.tb.getD i [], x.lends = lentN S.cl i x.h

/-- A handle put into an instance's table. -/
def addS (S : Tb) (k : Nat) (x : Hd) : Int × Int × Tb :=
  if (S.tb.getD k []).length = 256 then (0, 5, S) else (freeT (S.tb.getD k []), 0, { S with tb := S.tb.set k (putT { x with h := freeT (S.tb.getD k []) } (S.tb.getD k [])) })
theorem TbR.slotCell {F : Nat → Prop} {a : Nat} {w : World} {S : Tb} {H : TbH} (h : TbR F a w S H) {k : Nat} (hk : k < S.tb.length) : w.cell? ⟨H.tg, k, none⟩ = some (.map (some (H.bs.getD k 0))) := (h.tbl.cell k).trans (h.slot k hk)
theorem TbR.bsF {F : Nat → Prop} {a : Nat} {w : World} {S : Tb} {H : TbH} (h : TbR F a w S H) {k : Nat} (hk : k < S.tb.length) : F (H.bs.getD k 0) := h.fb _ (List.mem_append_left _ (getD_mem (by rw [h.nb]; exact hk)))
/-- The tables behind a call that made blocks of its own alone. -/
theorem TbR.below {F : Nat → Prop} {a : Nat} {w w' : World} {S : Tb} {H : TbH} (h : TbR F a w S H) (hb : Below w.heap.size w w') : TbR F a w' S H := h.kept (G := fun _ => False) (Kept.of_below hb) (fun _ _ e => e)
/-- .. that then turned one table. -/
theorem TbR.turned2 {F : Nat → Prop} {a : Nat} {w : World} {S : Tb} {H : TbH} (h : TbR F a w S H) {k : Nat} (hk : k < S.tb.length) {w1 w' : World} {T' : List Hd} (hb : Below w.heap.size w w1) (ht : w1.mapTurned w' (H.bs.getD k 0)) (hm : HMap w' (H.bs.getD k 0) T') :
    TbR F a w' { S with tb := S.tb.set k T' } H ∧ Kept F w w' := by
  refine ⟨(h.below hb).turned hk (Kept.turned ht) hm, ?_⟩
  exact ((Kept.of_below hb : Kept F w w1)).trans ((Kept.turned ht).mono (fun b e => by subst e; exact h.bsF hk))
theorem TbR.add {F : Nat → Prop} {a : Nat} {w : World} {S : Tb} {H : TbH} (h : TbR F a w S H) {N : Nat} (ok : TbOk N S) {k : Nat} (hk : k < S.tb.length) (x : Hd) :
    Calls Try.prog 54 #[.pointer (some ⟨a, 0, none⟩), .int .i64 (k : Int), x.v] w fun e w' => e = .returned (.tuple #[.int .i64 (addS S k x).1, .int .i64 (addS S k x).2.1]) ∧ TbR F a w' (addS S k x).2.2 H ∧ Kept F w w' := by
  unfold addS
  by_cases hf : (S.tb.getD k []).length = 256
  · rw [if_pos hf]
    refine (add_full a H.tg S.tb.length H.tcap _ _ k x w hk hf h.cells.2.1 (h.slotCell hk) (h.maps k hk)).mono ?_
    rintro e w' ⟨rfl, hb⟩
    exact ⟨rfl, h.below hb, Kept.of_below hb⟩
  · rw [if_neg hf]
    refine (add_ok a H.tg S.tb.length H.tcap _ _ k x w hk (by have := ok.len k hk; omega) (ok.rise k hk) (fun y hy => (ok.hd k hk y hy).h1) h.cells.2.1 (h.slotCell hk) (h.maps k hk)).mono ?_
    rintro e w' ⟨rfl, w1, hb, ht, hm⟩
    exact ⟨rfl, h.turned2 hk hb ht hm⟩

/-- Put, plainly. -/
def putS (S : Tb) (i r rep : Int) : Int × Int × Tb := if mayB S.tb.length S.ms.length i r rep = true then addS S i.toNat ⟨0, r, rep, true, 0, 0⟩ else (0, 17, S)
theorem mayB_nat {n m : Nat} {i r rep : Int} (h : mayB n m i r rep = true) : (∃ k : Nat, i = k ∧ k < n) ∧ (∃ j : Nat, r = j ∧ j < m) ∧ 0 ≤ rep ∧ rep ≤ 4294967295 := by
  simp [mayB, hasB] at h
  exact ⟨⟨i.toNat, by omega, by omega⟩, ⟨r.toNat, by omega, by omega⟩, by omega, by omega⟩
theorem TbR.mv {F : Nat → Prop} {a : Nat} {w : World} {S : Tb} {H : TbH} (h : TbR F a w S H) : ∃ ma mc, w.cell? ⟨a, 0, none⟩ = some (.slice ma S.ms.length mc) ∧ View w ma S.ms.length S.ms := by
  obtain ⟨ma, mc, e, hv⟩ := h.mks.view
  exact ⟨ma, mc, by rw [h.cells.1, e], hv⟩
theorem TbR.may {F : Nat → Prop} {a : Nat} {w : World} {S : Tb} {H : TbH} (h : TbR F a w S H) (i r rep : Int) :
    Calls Try.prog 50 #[.pointer (some ⟨a, 0, none⟩), .int .i64 i, .int .i64 r, .int .i64 rep] w fun e w' => e = .returned (.bool (mayB S.tb.length S.ms.length i r rep)) ∧ w = w' := by
  obtain ⟨ma, mc, h0, _⟩ := h.mv
  exact may_any a H.tg S.tb.length H.tcap S.ms.length ma mc i r rep w h0 h.cells.2.1
set_option maxRecDepth 100000 in
set_option maxHeartbeats 1000000 in
theorem put_nil (i r rep : Int) (w : World) : Calls Try.prog 29 #[.pointer none, .int .i64 i, .int .i64 r, .int .i64 rep] w fun e w' => e = .returned (.tuple #[.int .i64 0, .int .i64 17]) ∧ w = w' := by
  have HH := may_nil i r rep w
  go_enter Try.func29, Try.ntmps29
  go_wp2_with (go_at_call 50; refine HH.mono ?_; rintro e w' ⟨rfl, rfl⟩)
  go_ret2
  exact ⟨rfl, rfl⟩
set_option maxRecDepth 100000 in
set_option maxHeartbeats 1000000 in
theorem TbR.put {F : Nat → Prop} {a : Nat} {w : World} {S : Tb} {H : TbH} (h : TbR F a w S H) {N : Nat} (ok : TbOk N S) (i r rep : Int) :
    Calls Try.prog 29 #[.pointer (some ⟨a, 0, none⟩), .int .i64 i, .int .i64 r, .int .i64 rep] w fun e w' => e = .returned (.tuple #[.int .i64 (putS S i r rep).1, .int .i64 (putS S i r rep).2.1]) ∧ TbR F a w' (putS S i r rep).2.2 H ∧ Kept F w w' := by
  have HM := h.may i r rep
  unfold putS
  cases hb : mayB S.tb.length S.ms.length i r rep
  · rw [hb] at HM
    simp only [Bool.false_eq_true, if_false]
    have HT := Lib.hid (And.intro h (Kept.refl F w))
    clear h
    go_enter Try.func29, Try.ntmps29
    go_wp2_with (go_at_call 50; refine HM.mono ?_; rintro e w' ⟨rfl, rfl⟩)
    go_ret2
    exact ⟨rfl, HT.out⟩
  · rw [hb] at HM
    simp only [if_true]
    obtain ⟨⟨k, rfl, hk⟩, ⟨j, rfl, hj⟩, hp⟩ := mayB_nat hb
    simp only [Int.toNat_natCast]
    have HA := h.add ok hk ⟨0, j, rep, true, 0, 0⟩
    clear h ok hb hp
    generalize addS S k ⟨0, j, rep, true, 0, 0⟩ = z at HA ⊢
    obtain ⟨z1, z2, z3⟩ := z
    simp only at HA ⊢
    go_enter Try.func29, Try.ntmps29
    go_wp2_with (first
      | (go_at_call 50; refine HM.mono ?_; rintro e w' ⟨rfl, rfl⟩)
      | (go_at_call 54; refine HA.mono ?_; rintro e w' ⟨rfl, k1, k2⟩; have K1 := Lib.hid (And.intro k1 k2); clear k1 k2))
    go_ret2
    exact ⟨rfl, K1.out⟩
end Go.Proofs.Ytglhfofofacekaa
