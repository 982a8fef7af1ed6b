/- handles: what tables may hold stays so, whatever is done (plain). -/
import Derived.Test.YtglhfofofacekaaHdP
set_option linter.unusedVariables false
set_option linter.unusedSimpArgs false
namespace Go.Proofs.Ytglhfofofacekaa
open Go.RowKit

theorem set_self {α : Type} (l : List α) (i : Nat) (x d : α) (h : i < l.length) : (l.set i x).getD i d = x := by
  simp only [List.getD_eq_getElem?_getD]
  rw [List.getElem?_set_self h]
  rfl
theorem set_ne {α : Type} (l : List α) (i j : Nat) (x d : α) (h : j ≠ i) : (l.set i x).getD j d = l.getD j d := by
  simp only [List.getD_eq_getElem?_getD]
  rw [List.getElem?_set_ne (fun e => h e.symm)]
theorem HdOk.mono {m c c' N N' : Nat} {x : Hd} (h : HdOk m c N x) (hc : c ≤ c') (hN : N ≤ N') : HdOk m c' N' x := { h with l2 := by have := h.l2; omega, c2 := by have := h.c2; omega }
theorem TbOk.mono {N N' : Nat} {S : Tb} (h : TbOk N S) (hN : N ≤ N') : TbOk N' S := { h with hd := fun i hi x hx => (h.hd i hi x hx).mono (Nat.le_refl _) hN, ln := fun j hj => Nat.le_trans (h.ln j hj) hN }
theorem lentN_zero {cl : List (Int × List (Int × Int))} {i h : Int} (hz : ∀ c ∈ cl, (i, h) ∉ c.2) : lentN cl i h = 0 := by
  unfold lentN
  induction cl with
  | nil => rfl
  | cons c r ih =>
    rw [List.map_cons, List.sum_cons, ih (fun d hd => hz d (List.mem_cons_of_mem _ hd)), List.count_eq_zero_of_not_mem (hz c (by simp))]
theorem lentN_pos {cl : List (Int × List (Int × Int))} {i h : Int} {c : Int × List (Int × Int)} (hc : c ∈ cl) (hm : (i, h) ∈ c.2) : 0 < lentN cl i h := by
  unfold lentN
  induction cl with
  | nil => simp at hc
  | cons d r ih =>
    rw [List.map_cons, List.sum_cons]
    rcases List.mem_cons.1 hc with rfl | hc
    · have : 0 < c.2.count (i, h) := List.count_pos_iff.2 hm
      omega
    · have := ih hc
      omega
theorem mem_getD {α : Type} {l : List α} {d : α} {j : Nat} (h : j < l.length) : l.getD j d ∈ l := by
  rw [List.getD_eq_getElem?_getD, List.getElem?_eq_getElem h]
  exact List.getElem_mem _
theorem getD_of_mem {α : Type} {l : List α} {d x : α} (h : x ∈ l) : ∃ j, j < l.length ∧ l.getD j d = x := by
  obtain ⟨j, hj, rfl⟩ := List.getElem_of_mem h
  exact ⟨j, hj, by rw [List.getD_eq_getElem?_getD, List.getElem?_eq_getElem hj]; rfl⟩
/-- What is lent is there. -/
theorem TbOk.there {N : Nat} {S : Tb} (h : TbOk N S) {c : Int × List (Int × Int)} (hc : c ∈ S.cl) {p : Int × Int} (hp : p ∈ c.2) : ∃ i : Nat, p.1 = i ∧ i < S.tb.length ∧ ∃ x, at? (S.tb.getD i []) p.2 = some x := by
  obtain ⟨j, hj, rfl⟩ := getD_of_mem (d := (0, [])) hc
  exact h.lw j hj p hp

/-- One table turned, the calls as they were. -/
theorem TbOk.setT {N : Nat} {S : Tb} (h : TbOk N S) {k : Nat} (hk : k < S.tb.length) {T : List Hd} (hr : Rise T) (hl : T.length ≤ 256) (hd : ∀ x ∈ T, HdOk S.ms.length S.cl.length N x)
    (hw : ∀ c ∈ S.cl, ∀ p ∈ c.2, p.1 = (k : Int) → ∃ x, at? T p.2 = some x) (hc : ∀ x ∈ T, x.lends = lentN S.cl k x.h) : TbOk N { S with tb := S.tb.set k T } := by
  have hlen : (S.tb.set k T).length = S.tb.length := List.length_set
  have cs : ∀ i, i < S.tb.length → ((S.tb.set k T).getD i [] = T ∧ i = k) ∨ ((S.tb.set k T).getD i [] = S.tb.getD i [] ∧ i ≠ k) := by
    intro i hi
    by_cases e : i = k
    · subst e
      exact .inl ⟨set_self _ _ _ _ hk, rfl⟩
    · exact .inr ⟨set_ne _ _ _ _ _ e, e⟩
  refine { h with n1 := ?_, n2 := ?_, m2 := ?_, rise := ?_, len := ?_, hd := ?_, k2 := ?_, lw := ?_, cnt := ?_ }
  · show 1 ≤ (S.tb.set k T).length; rw [hlen]; exact h.n1
  · show (S.tb.set k T).length ≤ 4; rw [hlen]; exact h.n2
  · intro r hr
    show _ ∧ _ < ((S.tb.set k T).length : Int)
    rw [hlen]; exact h.m2 r hr
  · intro i hi
    have hi' : i < S.tb.length := by rw [← hlen]; exact hi
    rcases cs i hi' with ⟨e, _⟩ | ⟨e, _⟩
    · show Rise ((S.tb.set k T).getD i []); rw [e]; exact hr
    · show Rise ((S.tb.set k T).getD i []); rw [e]; exact h.rise i hi'
  · intro i hi
    have hi' : i < S.tb.length := by rw [← hlen]; exact hi
    rcases cs i hi' with ⟨e, _⟩ | ⟨e, _⟩
    · show ((S.tb.set k T).getD i []).length ≤ 256; rw [e]; exact hl
    · show ((S.tb.set k T).getD i []).length ≤ 256; rw [e]; exact h.len i hi'
  · intro i hi x hx
    have hi' : i < S.tb.length := by rw [← hlen]; exact hi
    have hx' : x ∈ (S.tb.set k T).getD i [] := hx
    rcases cs i hi' with ⟨e, _⟩ | ⟨e, _⟩
    · rw [e] at hx'; exact hd x hx'
    · rw [e] at hx'; exact h.hd i hi' x hx'
  · intro j hj
    show _ ∧ _ < ((S.tb.set k T).length : Int)
    rw [hlen]; exact h.k2 j hj
  · intro j hj p hp
    obtain ⟨i, h1, h2, h3⟩ := h.lw j hj p hp
    refine ⟨i, h1, by show i < (S.tb.set k T).length; rw [hlen]; exact h2, ?_⟩
    rcases cs i h2 with ⟨e, e2⟩ | ⟨e, _⟩
    · show ∃ x, at? ((S.tb.set k T).getD i []) p.2 = some x
      rw [e]
      exact hw _ (mem_getD hj) p hp (by rw [h1, e2])
    · show ∃ x, at? ((S.tb.set k T).getD i []) p.2 = some x
      rw [e]; exact h3
  · intro i hi x hx
    have hi' : i < S.tb.length := by rw [← hlen]; exact hi
    have hx' : x ∈ (S.tb.set k T).getD i [] := hx
    rcases cs i hi' with ⟨e, e2⟩ | ⟨e, _⟩
    · rw [e] at hx'; rw [e2]; exact hc x hx'
    · rw [e] at hx'; exact h.cnt i hi' x hx'

theorem TbOk.add {N : Nat} {S : Tb} (h : TbOk N S) {k : Nat} (hk : k < S.tb.length) (x : Hd) (hr : 0 ≤ x.r ∧ x.r < S.ms.length) (hp : 0 ≤ x.rep ∧ x.rep ≤ 4294967295) (hl : x.lends = 0) (ho : x.own = decide (x.call = 0)) (hc : 0 ≤ x.call ∧ x.call ≤ S.cl.length) : TbOk N (addS S k x).2.2 := by
  unfold addS
  split
  · exact h
  · rename_i hf
    have hlen := h.len k hk
    have hrise := h.rise k hk
    obtain ⟨f1, f2⟩ := freeIn_spec (S.tb.getD k []) 1 hrise (fun y hy => (h.hd k hk y hy).h1)
    obtain ⟨f3, f4⟩ := freeIn_le (S.tb.getD k []) 1
    have hno : ∀ c ∈ S.cl, ((k : Int), freeT (S.tb.getD k [])) ∉ c.2 := by
      intro c hc hm
      obtain ⟨i, e1, hi, y, hy⟩ := h.there hc hm
      have e1' : (k : Int) = i := e1
      obtain rfl : k = i := by omega
      have hy' : at? (S.tb.getD k []) (freeT (S.tb.getD k [])) = some y := hy
      rw [f1] at hy'
      cases hy'
    refine h.setT hk (rise_putT _ _ hrise) ?_ ?_ ?_ ?_
    · rw [len_putT _ _ hrise, f1]
      simp only [Option.isSome_none, Bool.false_eq_true, if_false]
      omega
    · intro y hy
      rcases mem_putT _ _ _ hy with rfl | hy
      · exact ⟨f3, by show freeT _ ≤ 256; have : freeT (S.tb.getD k []) ≤ 1 + (S.tb.getD k []).length := f4; omega, hr.1, hr.2, hp.1, hp.2, by show 0 ≤ x.lends; omega, by show x.lends ≤ N; omega, ho, hc.1, hc.2⟩
      · exact h.hd k hk y hy
    · intro c hc p hp e
      obtain ⟨i, e1, hi, y, hy⟩ := h.there hc hp
      obtain rfl : k = i := by rw [e] at e1; omega
      rw [at?_putT _ _ hrise]
      split
      · exact ⟨_, rfl⟩
      · exact ⟨y, hy⟩
    · intro y hy
      rcases mem_putT _ _ _ hy with rfl | hy
      · show x.lends = lentN S.cl k (freeT (S.tb.getD k []))
        rw [lentN_zero hno, hl]
        rfl
      · exact h.cnt k hk y hy
theorem TbOk.put {N : Nat} {S : Tb} (h : TbOk N S) (i r rep : Int) : TbOk N (putS S i r rep).2.2 := by
  unfold putS
  split
  · rename_i hm
    obtain ⟨⟨k, rfl, hk⟩, ⟨j, rfl, hj⟩, hp⟩ := mayB_nat hm
    rw [Int.toNat_natCast]
    exact h.add hk _ ⟨by show (0 : Int) ≤ j; omega, by show (j : Int) < S.ms.length; omega⟩ hp rfl rfl ⟨by show (0 : Int) ≤ 0; omega, by show (0 : Int) ≤ S.cl.length; omega⟩
  · exact h
theorem TbOk.make {N : Nat} {S : Tb} (h : TbOk N S) (i r rep : Int) : TbOk N (makeS S i r rep).2.2 := by
  unfold makeS
  split
  · exact h.put i r rep
  · exact h
theorem TbOk.borrow {N : Nat} {S : Tb} (h : TbOk N S) (i r rep : Int) : TbOk N (borrowS S i r rep).2.2 := by
  unfold borrowS
  split
  · rename_i hm
    split
    · exact h
    · have hm1 : mayB S.tb.length S.ms.length i r rep = true := by
        cases hq : mayB S.tb.length S.ms.length i r rep
        · rw [hq] at hm; cases hm
        · rfl
      rw [hm1] at hm
      have hcl : S.cl.length ≠ 0 := by simpa using hm
      obtain ⟨⟨k, rfl, hk⟩, ⟨j, rfl, hj⟩, hp⟩ := mayB_nat hm1
      rw [Int.toNat_natCast]
      exact h.add hk _ ⟨by show (0 : Int) ≤ j; omega, by show (j : Int) < S.ms.length; omega⟩ hp rfl (by show false = decide ((S.cl.length : Int) = 0); simp; exact fun e => hcl (by rw [e]; rfl)) ⟨by show (0 : Int) ≤ S.cl.length; omega, by show (S.cl.length : Int) ≤ S.cl.length; omega⟩
  · exact h
theorem TbOk.drop {N : Nat} {S : Tb} (h : TbOk N S) (i r hh : Int) : TbOk N (dropS S i r hh).2.2.2 := by
  unfold dropS
  split
  · rename_i hf
    split
    · exact h
    · rename_i hl
      obtain ⟨k, x, rfl, hk, ha, hr, he⟩ := findT_yes hf
      rw [he] at hl
      rw [Int.toNat_natCast]
      obtain ⟨hx, hxh⟩ := at?_mem ha
      have hc := h.cnt k hk x hx
      have hno : ∀ c ∈ S.cl, ((k : Int), hh) ∉ c.2 := fun c hc' hm => by
        have := lentN_pos hc' hm
        rw [← hxh] at this
        have hl' : ¬ 0 < x.lends := hl
        omega
      refine h.setT hk (rise_delT _ _ (h.rise k hk)) ?_ ?_ ?_ ?_
      · exact Nat.le_trans (List.length_filter_le _ _) (h.len k hk)
      · intro y hy
        exact h.hd k hk y (List.mem_filter.1 hy).1
      · intro c hc' p hp e
        obtain ⟨i, e1, hi, y, hy⟩ := h.there hc' hp
        obtain rfl : k = i := by rw [e] at e1; omega
        rw [at?_delT (h.rise k hk)]
        split
        · rename_i e2
          exact absurd (show ((k : Int), hh) ∈ c.2 by rw [← e, ← e2]; exact hp) (hno c hc')
        · exact ⟨y, hy⟩
      · intro y hy
        exact h.cnt k hk y (List.mem_filter.1 hy).1
  · exact h
theorem TbOk.take {N : Nat} {S : Tb} (h : TbOk N S) (i r hh : Int) : TbOk N (takeS S i r hh).2.2 := by
  unfold takeS
  split
  · exact h.drop i r hh
  · exact h
theorem lentN_snoc (cl : List (Int × List (Int × Int))) (i h j : Int) : lentN (cl ++ [(j, [])]) i h = lentN cl i h := by
  unfold lentN
  simp
theorem lentN_set : ∀ (cl : List (Int × List (Int × Int))) (p : Nat) (q : Int × Int) (i h : Int), p < cl.length →
    lentN (cl.set p ((cl.getD p (0, [])).1, q :: (cl.getD p (0, [])).2)) i h = lentN cl i h + (if (i, h) = q then 1 else 0)
  | [], p, q, i, h, hp => by simp at hp
  | c :: r, 0, q, i, h, hp => by
    unfold lentN
    simp only [List.getD_cons_zero, List.set_cons_zero, List.map_cons, List.sum_cons]
    by_cases e : (i, h) = q
    · subst e
      rw [List.count_cons_self, if_pos rfl]
      omega
    · rw [List.count_cons_of_ne (fun e' => e e'.symm), if_neg e]
      omega
  | c :: r, p + 1, q, i, h, hp => by
    have ih := lentN_set r p q i h (by simpa using hp)
    unfold lentN at ih ⊢
    simp only [List.getD_cons_succ, List.set_cons_succ, List.map_cons, List.sum_cons] at ih ⊢
    omega
theorem lentN_take : ∀ (cl : List (Int × List (Int × Int))) (p : Nat) (i h : Int), cl.length = p + 1 → lentN (cl.take p) i h + (cl.getD p (0, [])).2.count (i, h) = lentN cl i h
  | [], p, i, h, hp => by simp at hp
  | [c], p, i, h, hp => by
    obtain rfl : p = 0 := by simpa using hp.symm
    unfold lentN
    simp
  | c :: d :: r, 0, i, h, hp => by simp at hp
  | c :: d :: r, p + 1, i, h, hp => by
    have ih := lentN_take (d :: r) p i h (by simpa using hp)
    unfold lentN at ih ⊢
    simp only [List.getD_cons_succ, List.take_succ_cons, List.map_cons, List.sum_cons] at ih ⊢
    omega

theorem TbOk.lend {N : Nat} {S : Tb} (h : TbOk N S) (i r hh : Int) : TbOk (N + 1) (lendS S i r hh).2.2 := by
  unfold lendS
  by_cases hq : (findT S.tb i r hh).2 && decide (S.cl.length ≠ 0) = true
  · rw [if_pos hq]
    have h1 : (findT S.tb i r hh).2 = true := by
      cases hf : (findT S.tb i r hh).2
      · rw [hf] at hq; cases hq
      · rfl
    have h2 : S.cl.length ≠ 0 := by
      rw [h1] at hq
      simpa using hq
    obtain ⟨k, x, rfl, hk, ha, hr, he⟩ := findT_yes h1
    obtain ⟨p, hp⟩ : ∃ p, S.cl.length = p + 1 := ⟨S.cl.length - 1, by omega⟩
    rw [he, show S.cl.length - 1 = p by omega, Int.toNat_natCast]
    obtain ⟨hx, hxh⟩ := at?_mem ha
    have hpl : p < S.cl.length := by omega
    have hrise := h.rise k hk
    have hxo := h.hd k hk x hx
    have hlen : (S.tb.set k (putT { x with h := hh, lends := x.lends + 1 } (S.tb.getD k []))).length = S.tb.length := List.length_set
    have hcl : (S.cl.set p ((S.cl.getD p (0, [])).1, ((k : Int), hh) :: (S.cl.getD p (0, [])).2)).length = S.cl.length := List.length_set
    have cs : ∀ i, i < S.tb.length → ((S.tb.set k (putT { x with h := hh, lends := x.lends + 1 } (S.tb.getD k []))).getD i [] = putT { x with h := hh, lends := x.lends + 1 } (S.tb.getD k []) ∧ i = k) ∨ ((S.tb.set k (putT { x with h := hh, lends := x.lends + 1 } (S.tb.getD k []))).getD i [] = S.tb.getD i [] ∧ i ≠ k) := by
      intro i hi
      by_cases e : i = k
      · subst e
        exact .inl ⟨set_self _ _ _ _ hk, rfl⟩
      · exact .inr ⟨set_ne _ _ _ _ _ e, e⟩
    have cc : ∀ j, j < S.cl.length → ((S.cl.set p ((S.cl.getD p (0, [])).1, ((k : Int), hh) :: (S.cl.getD p (0, [])).2)).getD j (0, []) = ((S.cl.getD p (0, [])).1, ((k : Int), hh) :: (S.cl.getD p (0, [])).2) ∧ j = p) ∨ (S.cl.set p ((S.cl.getD p (0, [])).1, ((k : Int), hh) :: (S.cl.getD p (0, [])).2)).getD j (0, []) = S.cl.getD j (0, []) := by
      intro j hj
      by_cases e : j = p
      · subst e
        exact .inl ⟨set_self _ _ _ _ hj, rfl⟩
      · exact .inr (set_ne _ _ _ _ _ e)
    have hmem : ∀ y ∈ putT { x with h := hh, lends := x.lends + 1 } (S.tb.getD k []), (y = { x with h := hh, lends := x.lends + 1 }) ∨ (y ∈ S.tb.getD k [] ∧ y.h ≠ hh) := by
      intro y hy
      have hr2 : Rise (putT { x with h := hh, lends := x.lends + 1 } (S.tb.getD k [])) := rise_putT _ _ hrise
      have e1 := at?_of_mem hr2 hy
      rw [at?_putT _ _ hrise] at e1
      split at e1
      · exact .inl (Option.some.inj e1).symm
      · rename_i hne
        exact .inr ⟨(at?_mem e1).1, hne⟩
    have hnew : HdOk S.ms.length S.cl.length (N + 1) { x with h := hh, lends := x.lends + 1 } :=
      ⟨by have := hxo.h1; show 1 ≤ hh; omega, by have := hxo.h2; show hh ≤ 256; omega, hxo.r1, hxo.r2, hxo.p1, hxo.p2, by have := hxo.l1; show 0 ≤ x.lends + 1; omega, by have := hxo.l2; show x.lends + 1 ≤ ((N + 1 : Nat) : Int); omega, hxo.o, hxo.c1, hxo.c2⟩
    refine { n1 := ?_, n2 := ?_, m1 := h.m1, m2 := ?_, rise := ?_, len := ?_, hd := ?_, k1 := ?_, k2 := ?_, lw := ?_, ln := ?_, cnt := ?_ }
    · show 1 ≤ (S.tb.set k _).length; rw [hlen]; exact h.n1
    · show (S.tb.set k _).length ≤ 4; rw [hlen]; exact h.n2
    · intro r hr'
      show _ ∧ _ < ((S.tb.set k _).length : Int)
      rw [hlen]; exact h.m2 r hr'
    · intro i hi
      have hi' : i < S.tb.length := by rw [← hlen]; exact hi
      show Rise ((S.tb.set k _).getD i [])
      rcases cs i hi' with ⟨e, _⟩ | ⟨e, _⟩
      · rw [e]; exact rise_putT _ _ hrise
      · rw [e]; exact h.rise i hi'
    · intro i hi
      have hi' : i < S.tb.length := by rw [← hlen]; exact hi
      show ((S.tb.set k _).getD i []).length ≤ 256
      rcases cs i hi' with ⟨e, _⟩ | ⟨e, _⟩
      · rw [e, len_putT _ _ hrise]
        simp only [ha, Option.isSome_some, if_true]
        exact h.len k hk
      · rw [e]; exact h.len i hi'
    · intro i hi y hy
      have hi' : i < S.tb.length := by rw [← hlen]; exact hi
      have hy' : y ∈ (S.tb.set k _).getD i [] := hy
      show HdOk S.ms.length (S.cl.set p _).length (N + 1) y
      rw [hcl]
      rcases cs i hi' with ⟨e, _⟩ | ⟨e, _⟩
      · rw [e] at hy'
        rcases hmem y hy' with rfl | ⟨hy2, _⟩
        · exact hnew
        · exact (h.hd k hk y hy2).mono (Nat.le_refl _) (by omega)
      · rw [e] at hy'
        exact (h.hd i hi' y hy').mono (Nat.le_refl _) (by omega)
    · show (S.cl.set p _).length ≤ 16; rw [hcl]; exact h.k1
    · intro j hj
      have hj' : j < S.cl.length := by rw [← hcl]; exact hj
      show 0 ≤ ((S.cl.set p _).getD j (0, [])).1 ∧ ((S.cl.set p _).getD j (0, [])).1 < ((S.tb.set k _).length : Int)
      rw [hlen]
      rcases cc j hj' with ⟨e, _⟩ | e
      · rw [e]; exact h.k2 p hpl
      · rw [e]; exact h.k2 j hj'
    · intro j hj q hq'
      have hj' : j < S.cl.length := by rw [← hcl]; exact hj
      have hq2 : q ∈ ((S.cl.set p _).getD j (0, [])).2 := hq'
      have main : ∃ i : Nat, q.1 = i ∧ i < S.tb.length ∧ ∃ y, at? (S.tb.getD i []) q.2 = some y := by
        rcases cc j hj' with ⟨e, _⟩ | e
        · rw [e] at hq2
          rcases List.mem_cons.1 hq2 with rfl | hq2
          · exact ⟨k, rfl, hk, x, ha⟩
          · exact h.lw p hpl q hq2
        · rw [e] at hq2
          exact h.lw j hj' q hq2
      obtain ⟨i, e1, hi, y, hy⟩ := main
      refine ⟨i, e1, by show i < (S.tb.set k _).length; rw [hlen]; exact hi, ?_⟩
      show ∃ x, at? ((S.tb.set k _).getD i []) q.2 = some x
      rcases cs i hi with ⟨e, e2⟩ | ⟨e, _⟩
      · rw [e, at?_putT _ _ hrise]
        split
        · exact ⟨_, rfl⟩
        · rw [e2] at hy; exact ⟨y, hy⟩
      · rw [e]; exact ⟨y, hy⟩
    · intro j hj
      have hj' : j < S.cl.length := by rw [← hcl]; exact hj
      show ((S.cl.set p _).getD j (0, [])).2.length ≤ N + 1
      rcases cc j hj' with ⟨e, _⟩ | e
      · rw [e]
        have := h.ln p hpl
        show (_ :: _ : List (Int × Int)).length ≤ _
        rw [List.length_cons]
        omega
      · rw [e]; have := h.ln j hj'; omega
    · intro i hi y hy
      have hi' : i < S.tb.length := by rw [← hlen]; exact hi
      have hy' : y ∈ (S.tb.set k _).getD i [] := hy
      show y.lends = (lentN (S.cl.set p _) i y.h : Int)
      rw [lentN_set _ _ _ _ _ hpl]
      rcases cs i hi' with ⟨e, e2⟩ | ⟨e, e2⟩
      · rw [e] at hy'
        subst e2
        rcases hmem y hy' with rfl | ⟨hy2, hne⟩
        · have := h.cnt i hk x hx
          rw [hxh] at this
          show x.lends + 1 = ((lentN S.cl i hh + if ((i : Int), hh) = ((i : Int), hh) then 1 else 0 : Nat) : Int)
          rw [if_pos rfl, this]
          rfl
        · rw [if_neg (by intro e3; injection e3 with _ e3; exact hne e3)]
          exact h.cnt i hk y hy2
      · rw [e] at hy'
        rw [if_neg (by intro e3; injection e3 with e3; exact e2 (by omega))]
        exact h.cnt i hi' y hy'
  · rw [if_neg hq]
    exact h.mono (by omega)

theorem TbOk.enter {N : Nat} {S : Tb} (h : TbOk N S) (i : Int) : TbOk N (enterS S i).2 := by
  unfold enterS
  split
  · rename_i hc
    split
    · exact h
    · rename_i h16
      have hi : hasB S.tb.length i = true := by
        cases hb : hasB S.tb.length i
        · rw [hb] at hc; cases hc
        · rfl
      obtain ⟨k, rfl, hk⟩ := hasB_nat hi
      have hlen : (S.cl ++ [((k : Int), ([] : List (Int × Int)))]).length = S.cl.length + 1 := by simp
      have cs : ∀ j, j < S.cl.length + 1 → ((S.cl ++ [((k : Int), ([] : List (Int × Int)))]).getD j (0, []) = S.cl.getD j (0, []) ∧ j < S.cl.length) ∨ (S.cl ++ [((k : Int), ([] : List (Int × Int)))]).getD j (0, []) = ((k : Int), []) := by
        intro j hj
        by_cases e : j < S.cl.length
        · exact .inl ⟨getD_snoc_lt _ _ _ _ e, e⟩
        · obtain rfl : j = S.cl.length := by omega
          exact .inr (getD_snoc_eq _ _ _)
      refine { h with hd := ?_, k1 := ?_, k2 := ?_, lw := ?_, ln := ?_, cnt := ?_ }
      · intro j hj x hx
        show HdOk S.ms.length (S.cl ++ [((k : Int), ([] : List (Int × Int)))]).length N x
        rw [hlen]
        exact (h.hd j hj x hx).mono (by omega) (Nat.le_refl _)
      · show (S.cl ++ [((k : Int), ([] : List (Int × Int)))]).length ≤ 16
        rw [hlen]; omega
      · intro j hj
        have hj' : j < S.cl.length + 1 := by rw [← hlen]; exact hj
        show 0 ≤ ((S.cl ++ [((k : Int), ([] : List (Int × Int)))]).getD j (0, [])).1 ∧ _ < _
        rcases cs j hj' with ⟨e, e2⟩ | e
        · show 0 ≤ ((S.cl ++ [((k : Int), ([] : List (Int × Int)))]).getD j (0, [])).1 ∧ ((S.cl ++ [((k : Int), ([] : List (Int × Int)))]).getD j (0, [])).1 < (S.tb.length : Int)
          rw [e]; exact h.k2 j e2
        · show 0 ≤ ((S.cl ++ [((k : Int), ([] : List (Int × Int)))]).getD j (0, [])).1 ∧ ((S.cl ++ [((k : Int), ([] : List (Int × Int)))]).getD j (0, [])).1 < (S.tb.length : Int)
          rw [e]; exact ⟨by show (0 : Int) ≤ k; omega, by show (k : Int) < _; omega⟩
      · intro j hj p hp
        have hj' : j < S.cl.length + 1 := by rw [← hlen]; exact hj
        have hp' : p ∈ ((S.cl ++ [((k : Int), ([] : List (Int × Int)))]).getD j (0, [])).2 := hp
        rcases cs j hj' with ⟨e, e2⟩ | e
        · rw [e] at hp'; exact h.lw j e2 p hp'
        · rw [e] at hp'; simp at hp'
      · intro j hj
        have hj' : j < S.cl.length + 1 := by rw [← hlen]; exact hj
        show ((S.cl ++ [((k : Int), ([] : List (Int × Int)))]).getD j (0, [])).2.length ≤ N
        rcases cs j hj' with ⟨e, e2⟩ | e
        · rw [e]; exact h.ln j e2
        · rw [e]; exact Nat.zero_le _
      · intro j hj x hx
        show x.lends = (lentN (S.cl ++ [((k : Int), [])]) j x.h : Int)
        rw [lentN_snoc]
        exact h.cnt j hj x hx
  · exact h

theorem borB_false {tb : List (List Hd)} {d : Int} (hb : borB tb d = false) : ∀ j, j < tb.length → ∀ x ∈ tb.getD j [], x.call ≠ d := by
  intro j hj x hx e
  rw [borB_some hj hx e] at hb
  cases hb
theorem TbOk.leave {N : Nat} {S : Tb} (h : TbOk N S) : TbOk N (leaveS S).2 := by
  unfold leaveS
  split
  · exact h
  · rename_i hc
    split
    · exact h
    · rename_i hb
      have hb' : borB S.tb S.cl.length = false := by simpa using hb
      obtain ⟨p, hp⟩ : ∃ p, S.cl.length = p + 1 := ⟨S.cl.length - 1, by omega⟩
      rw [show S.cl.length - 1 = p by omega]
      have hlen : (givenT (S.cl.getD p (0, [])).2 S.tb).length = S.tb.length := by simp [givenT]
      have hcl : (S.cl.take p).length = p := by rw [List.length_take]; omega
      have ct : ∀ j, j < p → (S.cl.take p).getD j (0, []) = S.cl.getD j (0, []) := fun j hj => by
        simp only [List.getD_eq_getElem?_getD]; rw [List.getElem?_take_of_lt hj]
      have gh : ∀ i, i < S.tb.length → ((givenT (S.cl.getD p (0, [])).2 S.tb).getD i []).map (·.h) = (S.tb.getD i []).map (·.h) := by
        intro i hi
        rw [givenT_getD _ _ _ hi, List.map_map]
        rfl
      have sub : ∀ i, i < S.tb.length → ∀ x ∈ S.tb.getD i [], x.lends - ((S.cl.getD p (0, [])).2.count ((i : Int), x.h) : Int) = (lentN (S.cl.take p) i x.h : Int) := by
        intro i hi x hx
        have h1 := h.cnt i hi x hx
        have h2 := lentN_take S.cl p i x.h hp
        omega
      refine { n1 := ?_, n2 := ?_, m1 := h.m1, m2 := ?_, rise := ?_, len := ?_, hd := ?_, k1 := ?_, k2 := ?_, lw := ?_, ln := ?_, cnt := ?_ }
      · show 1 ≤ (givenT _ S.tb).length; rw [hlen]; exact h.n1
      · show (givenT _ S.tb).length ≤ 4; rw [hlen]; exact h.n2
      · intro r hr
        show _ ∧ _ < ((givenT _ S.tb).length : Int)
        rw [hlen]; exact h.m2 r hr
      · intro i hi
        have hi' : i < S.tb.length := by rw [← hlen]; exact hi
        exact rise_of_h (gh i hi') (h.rise i hi')
      · intro i hi
        have hi' : i < S.tb.length := by rw [← hlen]; exact hi
        show ((givenT _ S.tb).getD i []).length ≤ 256
        rw [givenT_getD _ _ _ hi', List.length_map]
        exact h.len i hi'
      · intro i hi y hy
        have hi' : i < S.tb.length := by rw [← hlen]; exact hi
        have hy' : y ∈ (givenT _ S.tb).getD i [] := hy
        rw [givenT_getD _ _ _ hi'] at hy'
        obtain ⟨x, hx, rfl⟩ := List.mem_map.1 hy'
        have hxo := h.hd i hi' x hx
        have hs := sub i hi' x hx
        have hnc := borB_false hb' i hi' x hx
        show HdOk S.ms.length (S.cl.take p).length N _
        rw [hcl]
        refine ⟨hxo.h1, hxo.h2, hxo.r1, hxo.r2, hxo.p1, hxo.p2, ?_, ?_, hxo.o, hxo.c1, ?_⟩
        · show 0 ≤ x.lends - _; rw [hs]; omega
        · have h3 := hxo.l2
          show x.lends - _ ≤ _
          omega
        · have h3 := hxo.c2
          show x.call ≤ (p : Int)
          omega
      · show (S.cl.take p).length ≤ 16; rw [hcl]; have := h.k1; omega
      · intro j hj
        have hj' : j < p := by rw [← hcl]; exact hj
        show 0 ≤ ((S.cl.take p).getD j (0, [])).1 ∧ ((S.cl.take p).getD j (0, [])).1 < ((givenT _ S.tb).length : Int)
        rw [hlen, ct j hj']
        exact h.k2 j (by omega)
      · intro j hj q hq
        have hj' : j < p := by rw [← hcl]; exact hj
        have hq' : q ∈ ((S.cl.take p).getD j (0, [])).2 := hq
        rw [ct j hj'] at hq'
        obtain ⟨i, e1, hi, y, hy⟩ := h.lw j (by omega) q hq'
        refine ⟨i, e1, by show i < (givenT _ S.tb).length; rw [hlen]; exact hi, ?_⟩
        show ∃ x, at? ((givenT _ S.tb).getD i []) q.2 = some x
        have hym := at?_mem hy
        have : ({ y with lends := y.lends - ((S.cl.getD p (0, [])).2.count ((i : Int), y.h) : Int) } : Hd) ∈ (givenT (S.cl.getD p (0, [])).2 S.tb).getD i [] := by
          rw [givenT_getD _ _ _ hi]
          exact List.mem_map.2 ⟨y, hym.1, rfl⟩
        refine ⟨{ y with lends := y.lends - ((S.cl.getD p (0, [])).2.count ((i : Int), y.h) : Int) }, ?_⟩
        · have h5 := at?_of_mem (rise_of_h (gh i hi) (h.rise i hi)) this
          rw [← hym.2]
          exact h5
      · intro j hj
        have hj' : j < p := by rw [← hcl]; exact hj
        show ((S.cl.take p).getD j (0, [])).2.length ≤ N
        rw [ct j hj']
        exact h.ln j (by omega)
      · intro i hi y hy
        have hi' : i < S.tb.length := by rw [← hlen]; exact hi
        have hy' : y ∈ (givenT _ S.tb).getD i [] := hy
        rw [givenT_getD _ _ _ hi'] at hy'
        obtain ⟨x, hx, rfl⟩ := List.mem_map.1 hy'
        exact sub i hi' x hx
/-- Empty tables. -/
theorem TbOk.new {n : Int} {ms : List Int} (h : (!(decide (n < 1) || (decide (4 < n) || (decide (16 < (ms.length : Int)) || ms.any (fun m => decide (m < 0) || decide (n ≤ m)))))) = true) : TbOk 0 ⟨ms, List.replicate n.toNat [], []⟩ := by
  simp only [Bool.not_eq_true', Bool.or_eq_false_iff] at h
  obtain ⟨e1, e2, e3, e4⟩ := h
  have e1' := of_decide_eq_false e1
  have e2' := of_decide_eq_false e2
  have e3' := of_decide_eq_false e3
  have hg : ∀ i, (List.replicate n.toNat ([] : List Hd)).getD i [] = [] := by
    intro i
    simp [List.getD_eq_getElem?_getD, List.getElem?_replicate]
    split <;> rfl
  refine ⟨by simp; omega, by simp; omega, by show ms.length ≤ 16; omega, ?_, ?_, ?_, ?_, Nat.zero_le _, ?_, ?_, ?_, ?_⟩
  · intro r hr
    have hm := List.any_eq_false.1 e4 (ms.getD r 0) (mem_getD hr)
    simp only [Bool.or_eq_true, decide_eq_true_eq, not_or] at hm
    show 0 ≤ ms.getD r 0 ∧ ms.getD r 0 < ((List.replicate n.toNat ([] : List Hd)).length : Int)
    rw [List.length_replicate]
    omega
  · intro i hi
    show Rise ((List.replicate n.toNat ([] : List Hd)).getD i [])
    rw [hg]; exact List.Pairwise.nil
  · intro i hi
    show ((List.replicate n.toNat ([] : List Hd)).getD i []).length ≤ 256
    rw [hg]; exact Nat.zero_le _
  · intro i hi x hx
    have hx' : x ∈ (List.replicate n.toNat ([] : List Hd)).getD i [] := hx
    rw [hg] at hx'
    simp at hx'
  · intro j hj
    exact absurd hj (by simp)
  · intro j hj
    exact absurd hj (by simp)
  · intro j hj
    exact absurd hj (by simp)
  · intro i hi x hx
    have hx' : x ∈ (List.replicate n.toNat ([] : List Hd)).getD i [] := hx
    rw [hg] at hx'
    simp at hx'
end Go.Proofs.Ytglhfofofacekaa
