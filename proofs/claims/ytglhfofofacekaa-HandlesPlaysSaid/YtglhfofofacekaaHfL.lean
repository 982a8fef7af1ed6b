/- handles: what the reference's Leave does, plainly; its rows anew. -/
import Derived.Test.YtglhfofofacekaaHfK
set_option linter.unusedVariables false
set_option linter.unusedSimpArgs false
namespace Go.Proofs.Ytglhfofofacekaa
open Go.RowKit

/-- A handle behind what was given back of it. -/
def decH (E : List (Int × (Int × Int))) (n : Int) (p : Int × Hd) : Int × Hd := lentZ p (p.2.lends - E.count (n, (p.1, p.2.h)))
/-- .. behind one that is given back. -/
def updH (t : Int × (Int × Int)) (p : Int × Hd) : Int × Hd := if p.1 = t.2.1 ∧ p.2.h = t.2.2 then lentZ p (p.2.lends - 1) else p
def updN (t : Int × (Int × Int)) (q : Nat) (L : List (Int × Hd)) : List (Int × Hd) := L.mapIdx fun i p => if i < q then updH t p else p
def leftE (E : List (Int × (Int × Int))) (n : Int) : List (Int × (Int × Int)) := E.filter fun t => decide (t.1 ≠ n)
theorem updN_len (t : Int × (Int × Int)) (q : Nat) (L : List (Int × Hd)) : (updN t q L).length = L.length := by simp [updN]
theorem updN_zero (t : Int × (Int × Int)) (L : List (Int × Hd)) : updN t 0 L = L := by
  apply List.ext_getElem?
  intro j
  simp [updN, List.getElem?_mapIdx]
theorem updN_at {t : Int × (Int × Int)} {q : Nat} {L : List (Int × Hd)} (hq : q < L.length) : (updN t q L).getD q one0 = L.getD q one0 := by
  simp only [List.getD_eq_getElem?_getD, updN, List.getElem?_mapIdx]
  rw [List.getElem?_eq_getElem hq]
  simp
theorem updN_step {t : Int × (Int × Int)} {q : Nat} {L : List (Int × Hd)} (hq : q < L.length) : updN t (q + 1) L = (updN t q L).set q (updH t (L.getD q one0)) := by
  apply List.ext_getElem?
  intro j
  by_cases e : q = j
  · subst e
    rw [List.getElem?_set_self (by rw [updN_len]; exact hq)]
    simp only [updN, List.getElem?_mapIdx, List.getD_eq_getElem?_getD]
    rw [List.getElem?_eq_getElem hq]
    simp
  · rw [List.getElem?_set_ne e]
    simp only [updN, List.getElem?_mapIdx]
    cases hj : L[j]? with
    | none => rfl
    | some p =>
      simp only [Option.map_some, Option.some.injEq]
      by_cases h1 : j < q
      · rw [if_pos (by omega), if_pos h1]
      · rw [if_neg (by omega), if_neg h1]
theorem updN_no {t : Int × (Int × Int)} {q : Nat} {L : List (Int × Hd)} (hq : q < L.length) (h : ¬ ((L.getD q one0).1 = t.2.1 ∧ (L.getD q one0).2.h = t.2.2)) : updN t (q + 1) L = updN t q L := by
  rw [updN_step hq]
  have e : updH t (L.getD q one0) = (updN t q L).getD q one0 := by
    unfold updH
    rw [if_neg h, updN_at hq]
  rw [e]
  apply List.ext_getElem?
  intro j
  by_cases e2 : q = j
  · subst e2
    have hq' : q < (updN t q L).length := by rw [updN_len]; exact hq
    rw [List.getElem?_set_self hq', List.getD_eq_getElem?_getD, List.getElem?_eq_getElem hq']
    rfl
  · rw [List.getElem?_set_ne e2]
theorem updN_yes {t : Int × (Int × Int)} {q : Nat} {L : List (Int × Hd)} (hq : q < L.length) (h : (L.getD q one0).1 = t.2.1 ∧ (L.getD q one0).2.h = t.2.2) : updN t (q + 1) L = (updN t q L).set q (lentZ ((updN t q L).getD q one0) ((L.getD q one0).2.lends - 1)) := by
  rw [updN_step hq, updN_at hq]
  unfold updH
  rw [if_pos h]
theorem updN_all (t : Int × (Int × Int)) (L : List (Int × Hd)) : updN t L.length L = L.map (updH t) := by
  apply List.ext_getElem?
  intro j
  simp only [updN, List.getElem?_mapIdx, List.getElem?_map]
  cases hj : L[j]? with
  | none => rfl
  | some p =>
    have := (List.getElem?_eq_some_iff.1 hj).1
    simp [this]
theorem dec_zero (n : Int) (L : List (Int × Hd)) : L.map (decH [] n) = L := by
  have e : decH [] n = id := by
    funext p
    simp [decH, lentZ]
  rw [e, List.map_id]
theorem dec_step (E : List (Int × (Int × Int))) (n : Int) (k : Nat) (hk : k < E.length) (h : (E.getD k len0).1 = n) (L : List (Int × Hd)) : (L.map (decH (E.take k) n)).map (updH (E.getD k len0)) = L.map (decH (E.take (k + 1)) n) := by
  rw [List.map_map]
  congr 1
  funext p
  rw [take_one E k len0 hk]
  generalize E.getD k len0 = t at h ⊢
  obtain ⟨t1, t2, t3⟩ := t
  dsimp only at h
  subst h
  show updH _ (lentZ p _) = decH _ _ p
  unfold updH decH lentZ
  dsimp only
  rw [List.count_append]
  by_cases e : p.1 = t2 ∧ p.2.h = t3
  · rw [if_pos e, e.1, e.2, List.count_cons_self]
    simp
    omega
  · rw [if_neg e, List.count_cons_of_ne (fun q => e ⟨(Prod.mk.inj (Prod.mk.inj q).2).1.symm, (Prod.mk.inj (Prod.mk.inj q).2).2.symm⟩)]
    simp
theorem dec_skip (E : List (Int × (Int × Int))) (n : Int) (k : Nat) (hk : k < E.length) (h : (E.getD k len0).1 ≠ n) (L : List (Int × Hd)) : L.map (decH (E.take (k + 1)) n) = L.map (decH (E.take k) n) := by
  congr 1
  funext p
  unfold decH
  rw [take_one E k len0 hk, List.count_append, List.count_cons_of_ne (fun q => h (by rw [q]))]
  simp
theorem left_yes (E : List (Int × (Int × Int))) (n : Int) (k : Nat) (hk : k < E.length) (h : (E.getD k len0).1 ≠ n) : leftE (E.take (k + 1)) n = leftE (E.take k) n ++ [E.getD k len0] := by
  unfold leftE
  rw [take_one E k len0 hk, List.filter_append, List.filter_cons, if_pos (by simpa using h)]
  rfl
theorem left_no (E : List (Int × (Int × Int))) (n : Int) (k : Nat) (hk : k < E.length) (h : (E.getD k len0).1 = n) : leftE (E.take (k + 1)) n = leftE (E.take k) n := by
  unfold leftE
  rw [take_one E k len0 hk, List.filter_append, List.filter_cons, if_neg (by simpa using h)]
  simp
theorem dec_lends {E : List (Int × (Int × Int))} {n : Int} {L : List (Int × Hd)} {q : Nat} (hq : q < L.length) (hE : E.length ≤ 1000) (h : ∀ p ∈ L, 0 ≤ p.2.lends ∧ p.2.lends ≤ 1000) : -1000 ≤ ((L.map (decH E n)).getD q one0).2.lends ∧ ((L.map (decH E n)).getD q one0).2.lends ≤ 1000 := by
  have e : (L.map (decH E n)).getD q one0 = decH E n (L.getD q one0) := by
    simp only [List.getD_eq_getElem?_getD, List.getElem?_map]
    rw [List.getElem?_eq_getElem hq]
    rfl
  rw [e]
  have h1 := h _ (mem_getD (d := one0) hq)
  have h2 : E.count (n, ((L.getD q one0).1, (L.getD q one0).2.h)) ≤ E.length := List.count_le_length
  show -1000 ≤ (L.getD q one0).2.lends - _ ∧ (L.getD q one0).2.lends - _ ≤ 1000
  omega

/-- The innermost call has ended. -/
theorem Rel.leave {N p : Nat} {S : Tb} {R : Rf} (h : Rel N S R) (hp : S.cl.length = p + 1) :
    Rel N { S with tb := givenT (S.cl.getD p (0, [])).2 S.tb, cl := S.cl.take p } { R with L := R.L.map (decH R.ev ((p + 1 : Nat) : Int)), cs := R.cs.take p, ev := leftE R.ev ((p + 1 : Nat) : Int) } := by
  have hlen : (givenT (S.cl.getD p (0, [])).2 S.tb).length = S.tb.length := by simp [givenT]
  have hcl : (S.cl.take p).length = p := by rw [List.length_take]; omega
  have hdec : ∀ q : Int × Hd, decH R.ev ((p + 1 : Nat) : Int) q = lentZ q (q.2.lends - (S.cl.getD p (0, [])).2.count (q.1, q.2.h)) := by
    intro q
    unfold decH
    rw [h.e1 p (by omega) (q.1, q.2.h)]
  refine { n := ?_, ms := h.ms, cs := ?_, a1 := ?_, a2 := ?_, nd := ?_, e1 := ?_, e2 := ?_, ll := ?_, le := ?_ }
  · show R.n = (givenT _ S.tb).length
    rw [hlen, h.n]
  · show R.cs.take p = (S.cl.take p).map (fun c => c.1)
    rw [h.cs, List.map_take]
  · intro q hq
    show ∃ k : Nat, q.1 = k ∧ k < (givenT _ S.tb).length ∧ q.2 ∈ (givenT _ S.tb).getD k []
    rw [hlen]
    obtain ⟨q0, hq0, rfl⟩ := List.mem_map.1 hq
    obtain ⟨k, k1, k2, k3⟩ := h.a1 q0 hq0
    refine ⟨k, k1, k2, ?_⟩
    rw [givenT_getD _ _ _ k2, hdec]
    exact List.mem_map.2 ⟨q0.2, k3, by rw [← k1]; rfl⟩
  · intro k hk y hy
    have hk' : k < S.tb.length := by rw [← hlen]; exact hk
    have hy' : y ∈ (givenT (S.cl.getD p (0, [])).2 S.tb).getD k [] := hy
    rw [givenT_getD _ _ _ hk'] at hy'
    obtain ⟨x, hx, rfl⟩ := List.mem_map.1 hy'
    exact List.mem_map.2 ⟨((k : Int), x), h.a2 k hk' x hx, by rw [hdec]; rfl⟩
  · exact List.pairwise_map.2 (h.nd.imp (fun {a b} hab => hab))
  · intro j hj q
    have hj' : j < p := by rw [← hcl]; exact hj
    show ((S.cl.take p).getD j (0, [])).2.count q = _
    have ct : (S.cl.take p).getD j (0, []) = S.cl.getD j (0, []) := by simp only [List.getD_eq_getElem?_getD]; rw [List.getElem?_take_of_lt hj']
    rw [ct, h.e1 j (by omega) q]
    unfold leftE
    rw [List.count_filter]
    simp
    omega
  · intro t ht
    obtain ⟨h1, h2⟩ := List.mem_filter.1 ht
    have h3 := h.e2 t h1
    have h4 : t.1 ≠ ((p + 1 : Nat) : Int) := by simpa using h2
    show 1 ≤ t.1 ∧ t.1 ≤ ((S.cl.take p).length : Int)
    rw [hcl]
    omega
  · show (R.L.map _).length ≤ N
    rw [List.length_map]
    exact h.ll
  · exact Nat.le_trans (List.length_filter_le _ _) h.le
/-- The row of what is lent, another one. -/
theorem RfR.newE {w0 : World} {G : Nat → Prop} {b C : Nat} {W : World} {R : Rf} {J : RfH} (h : RfR w0 G b W R J) (hC : b < C) (hnew : ∀ k, C ≤ k → G k) {v : Value} {L' : List (Int × (Int × Int))}
    (hown : W.ownsRow C 106 3 v L'.length (L'.flatMap lenC)) : RfR w0 G b (W.setCell ⟨b, 4, none⟩ v) { R with ev := L' } { J with ev := v } ∧ Kept G W (W.setCell ⟨b, 4, none⟩ v) := by
  have K5 : Kept (· = b) W (W.setCell ⟨b, 4, none⟩ v) := (Kept.refl (fun x => x = b) W).set (p := ⟨b, 4, none⟩) rfl v
  have K : Kept G W (W.setCell ⟨b, 4, none⟩ v) := K5.mono (fun x e => by rw [e]; exact h.gb)
  refine ⟨{ h with head := h.head.put 4 v, base := h.base.trans (K.below h.base.size h.gB), er := ownsRow_kept (own_base hown (Nat.zero_le _)) K5 (fun g hg e => by have := (World.ownsRow.lt hown g hg).1; omega), cr := ?_, lr := ?_, ge := ?_ }, K⟩
  · exact ownsRow_kept h.lr K5 (fun g hg e => own_ne_cells h.lr h.head (by decide) (by rw [hg, e]))
  · exact ownsRow_kept h.cr K5 (fun g hg e => own_ne_cells h.cr h.head (by decide) (by rw [hg, e]))
  · exact fun g hg => hnew g (World.ownsRow.lt hown g hg).1
/-- The row of calls, one less. -/
theorem RfR.lessC {w0 : World} {G : Nat → Prop} {b p gc cc : Nat} {W : World} {R : Rf} {J : RfH} (h : RfR w0 G b W R J) (hp : R.cs.length = p + 1) (e : J.cv = .slice (some ⟨gc, 0, none⟩) (p + 1) cc) :
    RfR w0 G b (W.setCell ⟨b, 3, none⟩ (.slice (some ⟨gc, 0, none⟩) p cc)) { R with cs := R.cs.take p } { J with cv := .slice (some ⟨gc, 0, none⟩) p cc } ∧ Kept G W (W.setCell ⟨b, 3, none⟩ (.slice (some ⟨gc, 0, none⟩) p cc)) := by
  have K5 : Kept (· = b) W (W.setCell ⟨b, 3, none⟩ (.slice (some ⟨gc, 0, none⟩) p cc)) := (Kept.refl (fun x => x = b) W).set (p := ⟨b, 3, none⟩) rfl _
  have K : Kept G W (W.setCell ⟨b, 3, none⟩ (.slice (some ⟨gc, 0, none⟩) p cc)) := K5.mono (fun x e => by rw [e]; exact h.gb)
  have hcr := h.cr
  rw [e, hp] at hcr
  have hs : W.ownsRow 0 3 1 (.slice (some ⟨gc, 0, none⟩) p cc) (R.cs.take p).length ((R.cs.take p).map (Value.int .i64)) := by
    have hl : (R.cs.take p).length = p := by rw [List.length_take]; omega
    rw [hl]
    refine ⟨by rw [List.length_map, hl, Nat.mul_one], .inr ?_⟩
    rcases hcr.2 with ⟨e1, _⟩ | ⟨g, cap, cur, e1, h1, h2, h3, h4, h5, h6⟩
    · cases e1
    · injection e1 with e1 _ e3
      injection e1 with e1
      injection e1 with e1 _ _
      subst e1
      subst e3
      refine ⟨_, _, cur, rfl, h1, h2, by omega, h4, h5, ?_⟩
      rw [List.map_take, ← h6, Nat.mul_one, Nat.mul_one, List.take_take, Nat.min_eq_left (by omega)]
  refine ⟨{ h with head := h.head.put 3 _, base := h.base.trans (K.below h.base.size h.gB), cr := ownsRow_kept hs K5 (fun g hg e => own_ne_cells hs h.head (by decide) (by rw [hg, e])), lr := ?_, er := ?_, gc := ?_ }, K⟩
  · exact ownsRow_kept h.lr K5 (fun g hg e => own_ne_cells h.lr h.head (by decide) (by rw [hg, e]))
  · exact ownsRow_kept h.er K5 (fun g hg e => own_ne_cells h.er h.head (by decide) (by rw [hg, e]))
  · intro g hg
    refine h.gc g ?_
    rw [e]
    exact hg
/-- Has a handle come of this call? -/
theorem Rel.bor {N : Nat} {S : Tb} {R : Rf} (h : Rel N S R) (d : Int) : (∃ p ∈ R.L, p.2.call = d) ↔ borB S.tb d = true := by
  constructor
  · rintro ⟨p, hp, e⟩
    obtain ⟨k, k1, k2, k3⟩ := h.a1 p hp
    exact borB_some k2 k3 e
  · intro hb
    obtain ⟨T, hT, hx⟩ := List.any_eq_true.1 hb
    obtain ⟨x, hx1, hx2⟩ := List.any_eq_true.1 hx
    obtain ⟨k, hk, rfl⟩ := getD_of_mem (d := []) hT
    exact ⟨((k : Int), x), h.a2 k hk x hx1, by simpa using hx2⟩
end Go.Proofs.Ytglhfofofacekaa
