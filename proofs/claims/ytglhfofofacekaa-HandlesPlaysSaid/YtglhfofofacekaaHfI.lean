/- handles: the reference's Lend. -/
import Derived.Test.YtglhfofofacekaaHfFH
set_option linter.unusedVariables false
set_option linter.unusedSimpArgs false
namespace Go.Proofs.Ytglhfofofacekaa
open Go.RowKit

/-- A handle, lent so often. -/
def lentZ (p : Int × Hd) (z : Int) : Int × Hd := (p.1, { p.2 with lends := z })
theorem flat_set (z : Int) : ∀ (L : List (Int × Hd)) (q : Nat), q < L.length → (L.flatMap oneC).set (q * 7 + 5) (.int .i64 z) = (L.set q (lentZ (L.getD q one0) z)).flatMap oneC
  | [], q, h => by simp at h
  | x :: r, 0, _ => by
    rw [List.flatMap_cons, List.set_append_left _ _ (by rw [oneC_len]; decide)]
    rfl
  | x :: r, q + 1, h => by
    have ih := flat_set z r q (by simpa using h)
    rw [List.flatMap_cons, List.set_append_right _ _ (by rw [oneC_len]; omega), show (q + 1) * 7 + 5 - (oneC x).length = q * 7 + 5 by rw [oneC_len]; omega, ih]
    rfl
theorem RfR.setLends {w0 : World} {G : Nat → Prop} {b : Nat} {w : World} {R : Rf} {J : RfH} (h : RfR w0 G b w R J) {g lc q : Nat} (e : J.lv = .slice (some ⟨g, 0, none⟩) R.L.length lc) (hq : q < R.L.length) (z : Int) :
    RfR w0 G b (w.setCell ⟨g, q * 7 + 5, none⟩ (.int .i64 z)) { R with L := R.L.set q (lentZ (R.L.getD q one0) z) } J ∧ Kept G w (w.setCell ⟨g, q * 7 + 5, none⟩ (.int .i64 z)) := by
  have hg : J.lv.ownBlock = some g := by rw [e]; rfl
  have K5 : Kept (· = g) w (w.setCell ⟨g, q * 7 + 5, none⟩ (.int .i64 z)) := (Kept.refl (fun x => x = g) w).set (p := ⟨g, q * 7 + 5, none⟩) rfl _
  have K : Kept G w (w.setCell ⟨g, q * 7 + 5, none⟩ (.int .i64 z)) := K5.mono (fun x e => by rw [e]; exact h.gl g hg)
  have hgb : b ≠ g := fun e2 => own_ne_cells h.lr h.head (by decide) (by rw [hg, e2])
  have hlr := h.lr
  rw [e] at hlr
  refine ⟨{ h with head := h.head.kept K5 hgb, base := h.base.trans (K.below h.base.size h.gB), lr := ?_, cr := ?_, er := ?_ }, K⟩
  · show (w.setCell _ _).ownsRow 0 _ 7 J.lv (R.L.set q _).length _
    rw [List.length_set, ← flat_set z R.L q hq, e]
    exact (hlr.stored (q * 7 + 5) (.int .i64 z)).1
  · refine ownsRow_kept h.cr K5 (fun g' hg' e' => ?_)
    obtain ⟨c1, f1, q1⟩ := row_kind h.cr g' hg'
    obtain ⟨c2, f2, q2⟩ := row_kind h.lr g' (by rw [hg, e'])
    rw [q1] at q2
    injection q2 with q2
    injection q2 with _ q2
    exact absurd q2 (by decide)
  · refine ownsRow_kept h.er K5 (fun g' hg' e' => ?_)
    obtain ⟨c1, f1, q1⟩ := row_kind h.er g' hg'
    obtain ⟨c2, f2, q2⟩ := row_kind h.lr g' (by rw [hg, e'])
    rw [q1] at q2
    injection q2 with q2
    injection q2 with _ q2
    exact absurd q2 (by decide)
theorem mem_setL {L : List (Int × Hd)} (h : L.Pairwise (fun p q => ¬ (p.1 = q.1 ∧ p.2.h = q.2.h))) {q : Nat} (hq : q < L.length) (y p : Int × Hd) :
    p ∈ L.set q y ↔ p = y ∨ (p ∈ L ∧ ¬ (p.1 = (L.getD q one0).1 ∧ p.2.h = (L.getD q one0).2.h)) := by
  rw [← mem_erase h hq p, List.eraseIdx_eq_take_drop_succ, List.set_eq_take_append_cons_drop, if_pos hq]
  simp only [List.mem_append, List.mem_cons]
  constructor
  · rintro (h1 | h1 | h1)
    · exact .inr (.inl h1)
    · exact .inl h1
    · exact .inr (.inr h1)
  · rintro (h1 | h1 | h1)
    · exact .inr (.inl h1)
    · exact .inl h1
    · exact .inr (.inr h1)
theorem nd_set {L : List (Int × Hd)} (h : L.Pairwise (fun p q => ¬ (p.1 = q.1 ∧ p.2.h = q.2.h))) {q : Nat} (hq : q < L.length) (y : Int × Hd) (e1 : y.1 = (L.getD q one0).1) (e2 : y.2.h = (L.getD q one0).2.h) :
    (L.set q y).Pairwise (fun p q => ¬ (p.1 = q.1 ∧ p.2.h = q.2.h)) := by
  have key : ∀ l : List (Int × Hd), l.Pairwise (fun p q => ¬ (p.1 = q.1 ∧ p.2.h = q.2.h)) ↔ (l.map (fun p => (p.1, p.2.h))).Pairwise (fun a b => ¬ (a.1 = b.1 ∧ a.2 = b.2)) := fun l => by rw [List.pairwise_map]
  rw [key] at h ⊢
  have : (L.set q y).map (fun p => (p.1, p.2.h)) = L.map (fun p => (p.1, p.2.h)) := by
    rw [List.map_set]
    apply List.ext_getElem?
    intro j
    by_cases e : q = j
    · subst e
      rw [List.getElem?_set_self (by simpa using hq), List.getElem?_map, List.getElem?_eq_getElem hq]
      rw [List.getD_eq_getElem?_getD, List.getElem?_eq_getElem hq] at e1 e2
      simp only [Option.getD_some] at e1 e2
      simp [e1, e2]
    · rw [List.getElem?_set_ne e]
  rw [this]
  exact h
/-- A handle lent once more. -/
theorem Rel.lend {N : Nat} {S : Tb} {R : Rf} (h : Rel N S R) (ok : TbOk N S) {k q : Nat} {x : Hd} {hh : Int} (hk : k < S.tb.length) (hq : q < R.L.length) (hp : R.L.getD q one0 = ((k : Int), x)) (hx : x.h = hh) (hxT : x ∈ S.tb.getD k []) (hcl : S.cl.length ≠ 0) :
    Rel (N + 1) { S with tb := S.tb.set k (putT { x with h := hh, lends := x.lends + 1 } (S.tb.getD k [])), cl := S.cl.set (S.cl.length - 1) ((S.cl.getD (S.cl.length - 1) (0, [])).1, ((k : Int), hh) :: (S.cl.getD (S.cl.length - 1) (0, [])).2) }
      { R with L := R.L.set q (lentZ (R.L.getD q one0) (x.lends + 1)), ev := R.ev ++ [((S.cl.length : Int), ((k : Int), hh))] } := by
  have hrise := ok.rise k hk
  have hxe : ({ x with h := hh, lends := x.lends + 1 } : Hd) = { x with lends := x.lends + 1 } := by rw [← hx]
  have hlen : (S.tb.set k (putT { x with h := hh, lends := x.lends + 1 } (S.tb.getD k []))).length = S.tb.length := List.length_set
  have hclen : (S.cl.set (S.cl.length - 1) ((S.cl.getD (S.cl.length - 1) (0, [])).1, ((k : Int), hh) :: (S.cl.getD (S.cl.length - 1) (0, [])).2)).length = S.cl.length := List.length_set
  have hm := fun p => mem_setL h.nd hq (lentZ (R.L.getD q one0) (x.lends + 1)) p
  have hy : lentZ (R.L.getD q one0) (x.lends + 1) = ((k : Int), { x with h := hh, lends := x.lends + 1 }) := by rw [hp, hxe]; rfl
  have e1 : (R.L.getD q one0).1 = k := by rw [hp]
  have e2 : (R.L.getD q one0).2.h = hh := by rw [hp]; exact hx
  rw [e1, e2] at hm
  refine { n := ?_, ms := h.ms, cs := ?_, a1 := ?_, a2 := ?_, nd := ?_, e1 := ?_, e2 := ?_, ll := ?_, le := ?_ }
  · show R.n = (S.tb.set k _).length
    rw [hlen, h.n]
  · show R.cs = (S.cl.set _ _).map (·.1)
    rw [h.cs, List.map_set]
    apply List.ext_getElem?
    intro j
    by_cases e : S.cl.length - 1 = j
    · subst e
      have hlt : S.cl.length - 1 < S.cl.length := by omega
      rw [List.getElem?_set_self (by simpa using hlt), List.getElem?_map, List.getElem?_eq_getElem hlt, List.getD_eq_getElem?_getD, List.getElem?_eq_getElem hlt]
      rfl
    · rw [List.getElem?_set_ne e]
  · intro p hp'
    show ∃ j : Nat, p.1 = j ∧ j < (S.tb.set k _).length ∧ p.2 ∈ (S.tb.set k _).getD j []
    rw [hlen]
    rcases (hm p).1 hp' with h1 | ⟨h1, h2⟩
    · rw [h1, hy]
      refine ⟨k, rfl, hk, ?_⟩
      rw [set_self _ _ _ _ hk]
      exact mem_put_self _ _ hrise
    · obtain ⟨j, j1, j2, j3⟩ := h.a1 p h1
      refine ⟨j, j1, j2, ?_⟩
      by_cases e : j = k
      · subst e
        rw [set_self _ _ _ _ hk]
        exact mem_put_other hrise j3 (fun q => h2 ⟨j1, q⟩)
      · rw [set_ne _ _ _ _ _ e]
        exact j3
  · intro j hj y hy'
    have hj' : j < S.tb.length := by rw [← hlen]; exact hj
    have hy2 : y ∈ (S.tb.set k (putT { x with h := hh, lends := x.lends + 1 } (S.tb.getD k []))).getD j [] := hy'
    show ((j : Int), y) ∈ R.L.set q _
    rw [hm]
    by_cases e : j = k
    · subst e
      rw [set_self _ _ _ _ hk] at hy2
      by_cases e3 : y.h = hh
      · left
        have e4 := at?_of_mem (rise_putT _ _ hrise) hy2
        rw [at?_putT _ _ hrise, if_pos (show y.h = hh from e3)] at e4
        rw [hy, Option.some.inj e4]
      · right
        rcases mem_putT _ _ _ hy2 with h3 | h3
        · exact absurd (by rw [h3]) e3
        · exact ⟨h.a2 j hj' y h3, fun q => e3 q.2⟩
    · rw [set_ne _ _ _ _ _ e] at hy2
      right
      exact ⟨h.a2 j hj' y hy2, fun q => e (by have h1 : (j : Int) = k := q.1; omega)⟩
  · exact nd_set h.nd hq _ rfl rfl
  · intro j hj p
    have hj' : j < S.cl.length := by rw [← hclen]; exact hj
    show ((S.cl.set _ _).getD j (0, [])).2.count p = (R.ev ++ [_]).count _
    rw [List.count_append]
    by_cases e : j = S.cl.length - 1
    · subst e
      rw [set_self _ _ _ _ (by omega)]
      show (((k : Int), hh) :: (S.cl.getD (S.cl.length - 1) (0, [])).2).count p = _
      have h1 := h.e1 (S.cl.length - 1) (by omega) p
      have e5 : (((S.cl.length - 1 + 1 : Nat)) : Int) = (S.cl.length : Int) := by omega
      rw [e5] at h1 ⊢
      by_cases e4 : ((k : Int), hh) = p
      · subst e4
        rw [List.count_cons_self, h1, List.count_cons_self]
        rfl
      · rw [List.count_cons_of_ne e4, h1, List.count_cons_of_ne (fun q => e4 (Prod.mk.inj q).2)]
        rfl
    · rw [set_ne _ _ _ _ _ e, h.e1 j hj' p, List.count_cons_of_ne (fun q => e (by have h2 := (Prod.mk.inj q).1; omega))]
      rfl
  · intro t ht
    show 1 ≤ t.1 ∧ t.1 ≤ ((S.cl.set _ _).length : Int)
    rw [hclen]
    rcases List.mem_append.1 ht with ht | ht
    · exact h.e2 t ht
    · simp only [List.mem_singleton] at ht
      subst ht
      show 1 ≤ (S.cl.length : Int) ∧ (S.cl.length : Int) ≤ S.cl.length
      omega
  · show (R.L.set q _).length ≤ N + 1
    rw [List.length_set]
    exact Nat.le_succ_of_le h.ll
  · show (R.ev ++ [_]).length ≤ N + 1
    rw [List.length_append]
    have := h.le
    simp
    omega
end Go.Proofs.Ytglhfofofacekaa
