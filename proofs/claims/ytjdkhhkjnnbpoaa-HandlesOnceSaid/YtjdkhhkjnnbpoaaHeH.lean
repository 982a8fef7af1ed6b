/- handles: how many are owned. -/
import Derived.Test.YtjdkhhkjnnbpoaaHeG
import Derived.Test.YtjdkhhkjnnbpoaaHeD
set_option linter.unusedVariables false
set_option linter.unusedSimpArgs false
namespace Go.Proofs.Ytjdkhhkjnnbpoaa
open Go.RowKit

/-- The owned ones. -/
def cnt (T : List Hd) : Nat := T.countP (fun x => x.own)
def ownN (S : Tb) : Nat := cnt (S.tb.getD 0 []) + cnt (S.tb.getD 1 [])
theorem cnt_cons (x : Hd) (T : List Hd) : cnt (x :: T) = cnt T + (if x.own = true then 1 else 0) := by
  unfold cnt
  rw [List.countP_cons]
theorem cnt_new (x : Hd) : ∀ (T : List Hd), at? T x.h = none → cnt (putT x T) = cnt T + (if x.own = true then 1 else 0)
  | [], _ => by simp [putT, cnt_cons, cnt]
  | y :: r, h => by
    have h1 := at?_none h
    have hy : y.h ≠ x.h := h1 y (by simp)
    have hr : at? r x.h = none := by
      unfold at? at h ⊢
      rw [List.find?_cons] at h
      simpa [hy] using h
    unfold putT
    split
    · rw [cnt_cons]
    · rw [if_neg (by omega), cnt_cons, cnt_new x r hr, cnt_cons]
      omega
theorem cnt_map (f : Hd → Hd) (T : List Hd) (hf : ∀ x ∈ T, (f x).own = x.own) : cnt (T.map f) = cnt T := by
  unfold cnt
  rw [List.countP_map]
  apply List.countP_congr
  intro x hx
  simp [hf x hx]
theorem cnt_old (x y : Hd) {T : List Hd} (hr : Rise T) (h : at? T x.h = some y) (ho : x.own = y.own) : cnt (putT x T) = cnt T := by
  obtain ⟨hy, hyh⟩ := at?_mem h
  rw [putT_map x T hr ⟨y, hy, hyh⟩]
  refine cnt_map _ _ fun z hz => ?_
  by_cases e : z.h = x.h
  · rw [if_pos e]
    have := at?_of_mem hr hz
    rw [e, h] at this
    rw [ho, Option.some.inj this]
  · rw [if_neg e]
theorem cnt_del {k : Int} {x : Hd} : ∀ {T : List Hd}, Rise T → at? T k = some x → cnt (delT k T) + (if x.own = true then 1 else 0) = cnt T
  | [], _, h => by simp [at?] at h
  | y :: r, hr, h => by
    obtain ⟨h1, h2⟩ := List.pairwise_cons.1 hr
    by_cases e : y.h = k
    · have hx : x = y := by
        have := at?_of_mem hr (show y ∈ y :: r by simp)
        rw [e, h] at this
        exact Option.some.inj this
      subst hx
      have hd : delT k (x :: r) = r := by
        unfold delT
        rw [List.filter_cons_of_neg (by simp [e])]
        apply List.filter_eq_self.2
        intro z hz
        have := h1 z hz
        simp
        omega
      rw [hd, cnt_cons]
    · have hr' : at? r k = some x := by
        unfold at? at h ⊢
        rw [List.find?_cons] at h
        simpa [e] using h
      have hd : delT k (y :: r) = y :: delT k r := by
        unfold delT
        rw [List.filter_cons_of_pos (by simp [e])]
      rw [hd, cnt_cons, cnt_cons]
      have := cnt_del h2 hr'
      omega
theorem ownN_set {S S' : Tb} (htl : S.tb.length = 2) {k : Nat} (hk : k < 2) {T : List Hd} (e : S'.tb = S.tb.set k T) : ownN S' + cnt (S.tb.getD k []) = ownN S + cnt T := by
  have : k = 0 ∨ k = 1 := by omega
  unfold ownN
  rw [e]
  rcases this with rfl | rfl
  · rw [set_self _ _ _ _ (by omega), set_ne _ _ _ _ _ (by decide)]
    omega
  · rw [set_self _ _ _ _ (by omega), set_ne _ _ _ _ _ (by decide)]
    omega

theorem add_own {N : Nat} {S : Tb} (ok : TbOk N S) (htl : S.tb.length = 2) (k : Nat) (hk : k < 2) (r p : Int) (b : Bool) (c : Int) :
    ((addS S k ⟨0, r, p, b, 0, c⟩).2.1 = 0 ∧ ownN (addS S k ⟨0, r, p, b, 0, c⟩).2.2 = ownN S + (if b = true then 1 else 0)) ∨ ((addS S k ⟨0, r, p, b, 0, c⟩).2.1 ≠ 0 ∧ ownN (addS S k ⟨0, r, p, b, 0, c⟩).2.2 = ownN S) := by
  by_cases hf : (S.tb.getD k []).length = 256
  · refine .inr ?_
    unfold addS
    rw [if_pos hf]
    exact ⟨by simp, rfl⟩
  · refine .inl ?_
    obtain ⟨h, S', e, _, t, _, _, hn, _⟩ := add_at ok k (by omega) r p b c hf
    rw [e]
    refine ⟨rfl, ?_⟩
    have h1 := ownN_set htl hk t
    rw [cnt_new ⟨h, r, p, b, 0, c⟩ _ hn] at h1
    dsimp only at h1 ⊢
    omega
theorem put_own {N : Nat} {S : Tb} (ok : TbOk N S) (htl : S.tb.length = 2) (i r p : Int) :
    ((putS S i r p).2.1 = 0 ∧ ownN (putS S i r p).2.2 = ownN S + 1) ∨ ((putS S i r p).2.1 ≠ 0 ∧ ownN (putS S i r p).2.2 = ownN S) := by
  unfold putS
  by_cases hm : mayB S.tb.length S.ms.length i r p = true
  · rw [if_pos hm]
    obtain ⟨⟨k, rfl, hk⟩, _⟩ := mayB_nat hm
    exact add_own ok htl k (by omega) r p true 0
  · rw [if_neg hm]
    exact .inr ⟨by simp, rfl⟩
theorem make_own {N : Nat} {S : Tb} (ok : TbOk N S) (htl : S.tb.length = 2) (i r p : Int) :
    ((makeS S i r p).2.1 = 0 ∧ ownN (makeS S i r p).2.2 = ownN S + 1) ∨ ((makeS S i r p).2.1 ≠ 0 ∧ ownN (makeS S i r p).2.2 = ownN S) := by
  unfold makeS
  split
  · exact put_own ok htl i r p
  · exact .inr ⟨by simp, rfl⟩
theorem borrow_own {N : Nat} {S : Tb} (ok : TbOk N S) (htl : S.tb.length = 2) (i r p : Int) : ownN (borrowS S i r p).2.2 = ownN S := by
  unfold borrowS
  split
  · rename_i hm
    split
    · rfl
    · have hm' : mayB S.tb.length S.ms.length i r p = true := by simp at hm; exact hm.1
      obtain ⟨⟨k, rfl, hk⟩, _⟩ := mayB_nat hm'
      rcases add_own ok htl k (by omega) r p false S.cl.length with ⟨_, e⟩ | ⟨_, e⟩
      · exact e
      · exact e
  · rfl
theorem find_facts {N : Nat} {S : Tb} (ok : TbOk N S) {i r h : Int} (hf : (findT S.tb i r h).2 = true) : ∃ k : Nat, i = k ∧ k < S.tb.length ∧ at? (S.tb.getD k []) h = some (findT S.tb i r h).1 ∧ (findT S.tb i r h).1.h = h := by
  unfold findT at hf ⊢
  by_cases hi : hasB S.tb.length i = true
  · rw [if_pos hi] at hf ⊢
    obtain ⟨k, rfl, hk⟩ : ∃ k : Nat, i = k ∧ k < S.tb.length := ⟨i.toNat, by simp [hasB] at hi; omega, by simp [hasB] at hi; omega⟩
    refine ⟨k, rfl, hk, ?_⟩
    rw [fitI] at hf ⊢
    cases e : at? (S.tb.getD k []) h with
    | none => rw [e] at hf; simp at hf
    | some x => exact ⟨rfl, (at?_mem e).2⟩
  · rw [if_neg hi] at hf
    cases hf
theorem drop_own {N : Nat} {S : Tb} (ok : TbOk N S) (htl : S.tb.length = 2) (i r h : Int) :
    ((dropS S i r h).2.2.1 = 0 ∧ ownN (dropS S i r h).2.2.2 + (if (dropS S i r h).2.1 = true then 1 else 0) = ownN S ∧ (dropS S i r h).2.1 = (findT S.tb i r h).1.own) ∨ ((dropS S i r h).2.2.1 ≠ 0 ∧ (dropS S i r h).2.1 = false ∧ ownN (dropS S i r h).2.2.2 = ownN S) := by
  unfold dropS
  by_cases hf : (findT S.tb i r h).2 = true
  · rw [if_pos hf]
    obtain ⟨k, rfl, hk, ha, _⟩ := find_facts ok hf
    split
    · exact .inr ⟨by simp, rfl, rfl⟩
    · refine .inl ⟨rfl, ?_, rfl⟩
      have h1 := ownN_set (S' := { S with tb := S.tb.set (k : Int).toNat (delT h (S.tb.getD (k : Int).toNat [])) }) htl (k := k) (by omega) rfl
      have h2 := cnt_del (ok.rise k hk) ha
      rw [fitI] at h1 ⊢
      dsimp only
      omega
  · rw [if_neg hf]
    exact .inr ⟨by simp, rfl, rfl⟩
theorem take_own {N : Nat} {S : Tb} (ok : TbOk N S) (htl : S.tb.length = 2) (i r h : Int) :
    ((takeS S i r h).2.1 = 0 ∧ ownN (takeS S i r h).2.2 + 1 = ownN S) ∨ ((takeS S i r h).2.1 ≠ 0 ∧ ownN (takeS S i r h).2.2 = ownN S) := by
  unfold takeS
  split
  · rename_i hf
    simp at hf
    rcases drop_own ok htl i r h with ⟨e1, e2, e3⟩ | ⟨e1, _, e3⟩
    · refine .inl ⟨e1, ?_⟩
      rw [e3, hf.2] at e2
      exact e2
    · exact .inr ⟨e1, e3⟩
  · exact .inr ⟨by simp, rfl⟩
theorem lend_own {N : Nat} {S : Tb} (ok : TbOk N S) (htl : S.tb.length = 2) (i r h : Int) : ownN (lendS S i r h).2.2 = ownN S := by
  unfold lendS
  split
  · rename_i hf
    simp at hf
    obtain ⟨k, rfl, hk, ha, hh⟩ := find_facts ok hf.1
    have h1 := ownN_set (S' := { S with tb := S.tb.set k (putT { (findT S.tb k r h).1 with h := h, lends := (findT S.tb k r h).1.lends + 1 } (S.tb.getD k [])), cl := S.cl.set (S.cl.length - 1) ((S.cl.getD (S.cl.length - 1) (0, [])).1, ((k : Int), h) :: (S.cl.getD (S.cl.length - 1) (0, [])).2) }) htl (k := k) (by omega) rfl
    have h2 := cnt_old { (findT S.tb k r h).1 with h := h, lends := (findT S.tb k r h).1.lends + 1 } _ (ok.rise k hk) ha rfl
    rw [h2] at h1
    rw [fitI]
    exact Nat.add_right_cancel h1
  · rfl
theorem enter_own {S : Tb} (i : Int) : ownN (enterS S i).2 = ownN S := by
  unfold enterS
  split
  · split <;> rfl
  · rfl
theorem add_eq {a b c d : Nat} (h : a = c) (k : b = d) : a + b = c + d := by rw [h, k]
theorem leave_own {S : Tb} (htl : S.tb.length = 2) : ownN (leaveS S).2 = ownN S := by
  unfold leaveS
  split
  · rfl
  · split
    · rfl
    · unfold ownN
      dsimp only
      rw [givenT_getD _ _ 0 (by omega), givenT_getD _ _ 1 (by omega)]
      refine add_eq (cnt_map _ _ ?_) (cnt_map _ _ ?_) <;> exact fun _ _ => rfl

/-- More, and fewer, that are owned. -/
def moreB (d : Dh) (t : Int) : Bool := decide (t = 0) && (decide (d.kind = 0) || decide (d.kind = 5))
def fewerB (d : Dh) (t : Int) (o : Bool) : Bool := decide (t = 0) && (decide (d.kind = 4) || o)
theorem does_own {N : Nat} {S : Tb} (ok : TbOk N S) (htl : S.tb.length = 2) (d : Dh) :
    ownN (doesS S d).2.2.2 + (if fewerB d (doesS S d).2.1 (doesS S d).2.2.1 = true then 1 else 0) = ownN S + (if moreB d (doesS S d).2.1 = true then 1 else 0) := by
  obtain ⟨k, i, r, h, near⟩ := d
  unfold doesS moreB fewerB
  dsimp only
  by_cases h0 : k = 0
  · subst h0
    rw [if_pos rfl]
    rcases make_own ok htl i r h with ⟨e1, e2⟩ | ⟨e1, e2⟩ <;> simp [e1, e2]
  rw [if_neg h0]
  by_cases h1 : k = 1
  · subst h1
    simp
  rw [if_neg h1]
  by_cases h2 : k = 2 ∨ k = 3
  · rw [if_pos h2]
    have h4 : ¬ k = 4 := by omega
    have h5 : ¬ k = 5 := by omega
    rcases drop_own ok htl i r h with ⟨e1, e2, _⟩ | ⟨e1, e2, e3⟩
    · simp only [e1, h0, h4, h5, decide_true, decide_false, Bool.false_or, Bool.true_and, Bool.or_false, Bool.and_false, Bool.or_self, Bool.false_eq_true, if_false, Nat.add_zero]
      exact e2
    · simp [e1, e2, e3]
  rw [if_neg h2]
  by_cases h4 : k = 4
  · subst h4
    rw [if_pos rfl]
    rcases take_own ok htl i r h with ⟨e1, e2⟩ | ⟨e1, e2⟩ <;> simp [e1, e2]
  rw [if_neg h4]
  by_cases h5 : k = 5
  · subst h5
    rw [if_pos rfl]
    rcases put_own ok htl i r h with ⟨e1, e2⟩ | ⟨e1, e2⟩ <;> simp [e1, e2]
  rw [if_neg h5]
  by_cases h6 : k = 6
  · subst h6
    simp [lend_own ok htl]
  rw [if_neg h6]
  by_cases h7 : k = 7
  · subst h7
    simp [borrow_own ok htl]
  rw [if_neg h7]
  by_cases h8 : k = 8
  · subst h8
    simp [enter_own]
  rw [if_neg h8]
  simp [leave_own htl, h0, h4, h5]
end Go.Proofs.Ytjdkhhkjnnbpoaa
