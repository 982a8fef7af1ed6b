/- handles: what the laws of lending and of calls ask of states. -/
import Derived.Test.YtjdkhhkjnnbpoaaHeC
set_option linter.unusedVariables false
set_option linter.unusedSimpArgs false
namespace Go.Proofs.Ytjdkhhkjnnbpoaa
open Go.RowKit

theorem find_at {tb : List (List Hd)} {i h : Int} {x : Hd} (hi : hasB tb.length i = true) (ha : at? (tb.getD i.toNat []) h = some x) : findT tb i x.r h = (x, true) := by
  unfold findT
  rw [if_pos hi, ha]
  simp
theorem lend_at {S : Tb} {i h : Int} {x : Hd} (hi : hasB S.tb.length i = true) (ha : at? (S.tb.getD i.toNat []) h = some x) (hr : Rise (S.tb.getD i.toNat [])) (hc : S.cl.length ≠ 0) :
    ∃ S', lendS S i x.r h = (x.rep, 0, S') ∧ at? (S'.tb.getD i.toNat []) h = some { x with lends := x.lends + 1 } ∧ S'.tb = S.tb.set i.toNat (putT { x with lends := x.lends + 1 } (S.tb.getD i.toNat [])) ∧
      S'.cl = S.cl.set (S.cl.length - 1) ((S.cl.getD (S.cl.length - 1) (0, [])).1, (i, h) :: (S.cl.getD (S.cl.length - 1) (0, [])).2) := by
  have hh : x.h = h := (at?_mem ha).2
  have hk : i.toNat < S.tb.length := by simp [hasB] at hi; omega
  refine ⟨{ S with
      tb := S.tb.set i.toNat (putT { x with lends := x.lends + 1 } (S.tb.getD i.toNat []))
      cl := S.cl.set (S.cl.length - 1) ((S.cl.getD (S.cl.length - 1) (0, [])).1, (i, h) :: (S.cl.getD (S.cl.length - 1) (0, [])).2) }, ?_, ?_, rfl, rfl⟩
  · unfold lendS
    rw [find_at hi ha]
    simp only [Bool.true_and, decide_eq_true_eq]
    rw [if_pos hc]
    subst hh
    rfl
  · dsimp only
    rw [set_self _ _ _ _ hk, at?_putT _ _ hr]
    subst hh
    simp
/-- No handle is one of a call's. -/
def NoCall (d : Int) (S : Tb) : Prop := ∀ j, j < S.tb.length → ∀ x ∈ S.tb.getD j [], x.call ≠ d
theorem NoCall.set {d : Int} {S S' : Tb} (h : NoCall d S) {k : Nat} {T : List Hd} (hT : ∀ x ∈ T, x.call ≠ d) (e : S'.tb = S.tb.set k T) : NoCall d S' := by
  intro j hj x hx
  rw [e, List.length_set] at hj
  rw [e] at hx
  by_cases hjk : j = k
  · subst hjk
    rw [set_self _ _ _ _ hj] at hx
    exact hT x hx
  · rw [set_ne _ _ _ _ _ hjk] at hx
    exact h j hj x hx
theorem NoCall.bor {S : Tb} {d : Int} (h : NoCall d S) : borB S.tb d = false := borB_none h
theorem TbOk.noCall {N : Nat} {S : Tb} (h : TbOk N S) {d : Int} (hd : (S.cl.length : Int) < d) : NoCall d S := fun j hj x hx e => by
  have := (h.hd j hj x hx).c2
  omega
theorem at?_map (f : Hd → Hd) (hf : ∀ x, (f x).h = x.h) (k : Int) : ∀ (T : List Hd), at? (T.map f) k = (at? T k).map f
  | [] => rfl
  | x :: r => by
    have ih := at?_map f hf k r
    unfold at? at ih ⊢
    rw [List.map_cons, List.find?_cons, List.find?_cons, hf x]
    by_cases e : x.h = k
    · simp [e]
    · simp only [e, decide_false]
      exact ih
theorem add_at {N : Nat} {S : Tb} (ok : TbOk N S) (k : Nat) (hk : k < S.tb.length) (r p : Int) (b : Bool) (c : Int) (hfull : (S.tb.getD k []).length ≠ 256) :
    ∃ h S', addS S k ⟨0, r, p, b, 0, c⟩ = (h, 0, S') ∧ at? (S'.tb.getD k []) h = some ⟨h, r, p, b, 0, c⟩ ∧ S'.tb = S.tb.set k (putT ⟨h, r, p, b, 0, c⟩ (S.tb.getD k [])) ∧ S'.cl = S.cl ∧ S'.ms = S.ms ∧ at? (S.tb.getD k []) h = none ∧ wf64 h := by
  have hr := ok.rise k hk
  obtain ⟨f1, f2⟩ := freeIn_spec (S.tb.getD k []) 1 hr (fun y hy => (ok.hd k hk y hy).h1)
  obtain ⟨f3, f4⟩ := freeIn_le (S.tb.getD k []) 1
  have hl := ok.len k hk
  have f3' : 1 ≤ freeT (S.tb.getD k []) := f3
  have f4' : freeT (S.tb.getD k []) ≤ 1 + (S.tb.getD k []).length := f4
  refine ⟨freeT (S.tb.getD k []), { S with tb := S.tb.set k (putT ⟨freeT (S.tb.getD k []), r, p, b, 0, c⟩ (S.tb.getD k [])) }, ?_, ?_, rfl, rfl, rfl, f1, wf_small (by omega) (by omega)⟩
  · unfold addS
    rw [if_neg hfull]
  · dsimp only
    rw [set_self _ _ _ _ hk, at?_putT _ _ hr, if_pos rfl]
theorem rise_set {N : Nat} {S S' : Tb} (ok : TbOk N S) {k : Nat} (hk : k < S.tb.length) {x : Hd} (e : S'.tb = S.tb.set k (putT x (S.tb.getD k []))) : Rise (S'.tb.getD k []) ∧ S'.tb.length = S.tb.length := by
  rw [e, set_self _ _ _ _ hk, List.length_set]
  exact ⟨rise_putT _ _ (ok.rise k hk), rfl⟩

/-- What HandlesLent asks of a state with no call. -/
theorem lent_facts {N : Nat} {S : Tb} (ok : TbOk N S) (hms : S.ms = [0, 1]) (htl : S.tb.length = 2) (hcl : S.cl = []) {rep : Int} (h0 : 0 ≤ rep) (h1 : rep ≤ 4294967295) :
    makeS S 0 0 rep = (0, 5, S) ∨ ∃ h S1 S2 S3 S4 S5 S6, wf64 h ∧ makeS S 0 0 rep = (h, 0, S1) ∧ enterS S1 1 = (0, S2) ∧ lendS S2 0 0 h = (rep, 0, S3) ∧ lendS S3 0 0 h = (rep, 0, S4) ∧ dropS S4 0 0 h = (0, false, 18, S4) ∧ takeS S4 0 0 h = (0, 18, S4) ∧ leaveS S4 = (0, S5) ∧ takeS S5 0 0 h = (rep, 0, S6) := by
  have hmk : makeS S 0 0 rep = addS S 0 ⟨0, 0, rep, true, 0, 0⟩ := by
    have hm : mayB S.tb.length S.ms.length 0 0 rep = true := by rw [htl, hms]; simp [mayB, hasB]; omega
    unfold makeS putS
    rw [hm, hms]
    rfl
  have hk0 : 0 < S.tb.length := by omega
  by_cases hfull : (S.tb.getD 0 []).length = 256
  · refine .inl ?_
    rw [hmk]
    unfold addS
    rw [if_pos hfull]
  · refine .inr ?_
    obtain ⟨h, S1, e1, a1, t1, c1, m1, n1, w1⟩ := add_at ok 0 hk0 0 rep true 0 hfull
    obtain ⟨r1, l1⟩ := rise_set ok hk0 t1
    have hi1 : hasB S1.tb.length 0 = true := by rw [l1, htl]; rfl
    -- the call
    obtain ⟨S2, e2, t2, c2⟩ : ∃ S2, enterS S1 1 = (0, S2) ∧ S2.tb = S1.tb ∧ S2.cl = [(1, [])] := by
      refine ⟨{ S1 with cl := [(1, [])] }, ?_, rfl, rfl⟩
      unfold enterS
      rw [l1, htl, c1, hcl]
      rfl
    have hi2 : hasB S2.tb.length 0 = true := by rw [t2]; exact hi1
    obtain ⟨S3, e3, a3, t3, c3⟩ := lend_at (S := S2) (i := 0) (h := h) (x := ⟨h, 0, rep, true, 0, 0⟩) hi2 (by rw [t2]; exact a1) (by rw [t2]; exact r1) (by rw [c2]; simp)
    have l3 : S3.tb.length = 2 := by rw [t3, List.length_set, t2, l1, htl]
    have r3 : Rise (S3.tb.getD 0 []) := by
      rw [t3]
      show Rise ((S2.tb.set 0 _).getD 0 [])
      rw [set_self _ _ _ _ (by rw [t2, l1]; exact hk0), t2]
      exact rise_putT _ _ r1
    have hi3 : hasB S3.tb.length 0 = true := by rw [l3]; rfl
    obtain ⟨S4, e4, a4, t4, c4⟩ := lend_at (S := S3) (i := 0) (h := h) (x := ⟨h, 0, rep, true, 0 + 1, 0⟩) hi3 a3 r3 (by rw [c3, c2]; simp)
    have l4 : S4.tb.length = 2 := by rw [t4, List.length_set, l3]
    have hi4 : hasB S4.tb.length 0 = true := by rw [l4]; rfl
    have f4 := find_at (tb := S4.tb) (i := 0) (h := h) (x := ⟨h, 0, rep, true, 0 + 1 + 1, 0⟩) hi4 a4
    dsimp only at f4
    have c4' : S4.cl = [(1, [(0, h), (0, h)])] := by rw [c4, c3, c2]; rfl
    have nc4 : NoCall 1 S4 := by
      have n0 : NoCall 1 S := ok.noCall (by rw [hcl]; decide)
      have n1' : NoCall 1 S1 := n0.set (fun y hy => by
        rcases mem_putT _ _ _ hy with rfl | hy
        · show (0 : Int) ≠ 1; decide
        · exact n0 0 hk0 y hy) t1
      have n2 : NoCall 1 S2 := fun j hj y hy => by rw [t2] at hj hy; exact n1' j hj y hy
      have n3 : NoCall 1 S3 := n2.set (fun y hy => by
        rcases mem_putT _ _ _ hy with rfl | hy
        · show (0 : Int) ≠ 1; decide
        · exact n2 0 (by rw [t2, l1]; exact hk0) y hy) t3
      exact n3.set (fun y hy => by
        rcases mem_putT _ _ _ hy with rfl | hy
        · show (0 : Int) ≠ 1; decide
        · exact n3 0 (by rw [l3]; decide) y hy) t4
    have hd : dropS S4 0 0 h = (0, false, 18, S4) := by
      unfold dropS
      rw [f4]
      rfl
    obtain ⟨S5, e5, t5, c5⟩ : ∃ S5, leaveS S4 = (0, S5) ∧ S5.tb = givenT [(0, h), (0, h)] S4.tb ∧ S5.cl = [] := by
      refine ⟨{ S4 with tb := givenT [(0, h), (0, h)] S4.tb, cl := [] }, ?_, rfl, rfl⟩
      unfold leaveS
      rw [c4']
      have hb : borB S4.tb (([(1, [(0, h), (0, h)])] : List (Int × List (Int × Int))).length : Int) = false := nc4.bor
      rw [if_neg (by simp), hb]
      rfl
    have a5 : at? (S5.tb.getD 0 []) h = some ⟨h, 0, rep, true, 0, 0⟩ := by
      rw [t5, givenT_getD _ _ 0 (by rw [l4]; decide)]
      refine (at?_map _ ?_ h _).trans ?_
      · exact fun _ => rfl
      · rw [show S4.tb.getD 0 [] = S4.tb.getD (0 : Int).toNat [] from rfl, a4]
        simp
    have hi5 : hasB S5.tb.length 0 = true := by rw [t5, givenT_len, l4]; rfl
    have f5 := find_at (tb := S5.tb) (i := 0) (h := h) (x := ⟨h, 0, rep, true, 0, 0⟩) hi5 a5
    dsimp only at f5
    obtain ⟨S6, e6⟩ : ∃ S6, takeS S5 0 0 h = (rep, 0, S6) := ⟨(takeS S5 0 0 h).2.2, by unfold takeS dropS; rw [f5]; rfl⟩
    refine ⟨h, S1, S2, S3, S4, S5, S6, w1, hmk.trans e1, e2, e3, e4, hd, ?_, e5, e6⟩
    unfold takeS
    rw [f4, hd]
    rfl

/-- What HandlesScoped asks of a state with no call. -/
theorem scoped_facts {N : Nat} {S : Tb} (ok : TbOk N S) (hms : S.ms = [0, 1]) (htl : S.tb.length = 2) (hcl : S.cl = []) {rep : Int} (h0 : 0 ≤ rep) (h1 : rep ≤ 4294967295) :
    ∃ S1, enterS S 1 = (0, S1) ∧ borrowS S1 1 1 rep = (rep, 0, S1) ∧ enterS S1 1 = (19, S1) ∧ (borrowS S1 1 0 rep = (0, 5, S1) ∨ ∃ h S2 S3 S4, wf64 h ∧ borrowS S1 1 0 rep = (h, 0, S2) ∧ leaveS S2 = (18, S2) ∧ takeS S2 1 0 h = (0, 17, S2) ∧ repS S2 1 0 h = (0, 17) ∧ dropS S2 1 0 h = (rep, false, 0, S3) ∧ leaveS S3 = (0, S4)) := by
  obtain ⟨S1, e1, t1, c1, m1⟩ : ∃ S1, enterS S 1 = (0, S1) ∧ S1.tb = S.tb ∧ S1.cl = [(1, [])] ∧ S1.ms = [0, 1] := by
    refine ⟨{ S with cl := [(1, [])] }, ?_, rfl, rfl, hms⟩
    unfold enterS
    rw [htl, hcl]
    rfl
  have ok1 : TbOk N S1 := by
    have := ok.enter 1
    rw [e1] at this
    exact this
  have l1 : S1.tb.length = 2 := by rw [t1, htl]
  have nc1 : NoCall 1 S1 := fun j hj y hy => by
    rw [t1] at hj hy
    exact ok.noCall (d := 1) (by rw [hcl]; decide) j hj y hy
  have hm : ∀ r, 0 ≤ r → r < 2 → mayB S1.tb.length S1.ms.length 1 r rep = true := fun r a b => by rw [l1, m1]; simp [mayB, hasB]; omega
  refine ⟨S1, e1, ?_, ?_, ?_⟩
  · unfold borrowS
    rw [hm 1 (by decide) (by decide), c1, m1]
    rfl
  · unfold enterS
    rw [l1, c1]
    rfl
  · have hb : borrowS S1 1 0 rep = addS S1 1 ⟨0, 0, rep, false, 0, 1⟩ := by
      unfold borrowS
      rw [hm 0 (by decide) (by decide), c1, m1]
      rfl
    have hk : 1 < S1.tb.length := by omega
    by_cases hfull : (S1.tb.getD 1 []).length = 256
    · refine .inl ?_
      rw [hb]
      unfold addS
      rw [if_pos hfull]
    · refine .inr ?_
      obtain ⟨h, S2, e2, a2, t2, c2, m2, n2, w2⟩ := add_at ok1 1 hk 0 rep false 1 hfull
      obtain ⟨r2, l2⟩ := rise_set ok1 hk t2
      have hi2 : hasB S2.tb.length 1 = true := by rw [l2, l1]; rfl
      have f2 := find_at (tb := S2.tb) (i := 1) (h := h) (x := ⟨h, 0, rep, false, 0, 1⟩) hi2 a2
      dsimp only at f2
      have hd : dropS S2 1 0 h = (rep, false, 0, { S2 with tb := S2.tb.set 1 (delT h (S2.tb.getD 1 [])) }) := by
        unfold dropS
        rw [f2]
        rfl
      obtain ⟨S3, hS3⟩ : ∃ S3 : Tb, S3 = { S2 with tb := S2.tb.set 1 (delT h (S2.tb.getD 1 [])) } := ⟨_, rfl⟩
      rw [← hS3] at hd
      have t3 : S3.tb = S2.tb.set 1 (delT h (S2.tb.getD 1 [])) := by rw [hS3]
      have c3 : S3.cl = [(1, [])] := by rw [hS3]; exact c2.trans c1
      have hT2 : S2.tb.getD 1 [] = putT ⟨h, 0, rep, false, 0, 1⟩ (S1.tb.getD 1 []) := by rw [t2, set_self _ _ _ _ hk]
      have nc3 : NoCall 1 S3 := by
        intro j hj x hx
        rw [t3, List.length_set, l2] at hj
        rw [t3] at hx
        by_cases hjk : j = 1
        · subst hjk
          rw [set_self _ _ _ _ (by rw [l2]; exact hk)] at hx
          unfold delT at hx
          obtain ⟨hx1, hx2⟩ := List.mem_filter.1 hx
          rw [hT2] at hx1
          rcases mem_putT _ _ _ hx1 with rfl | hx1
          · simp at hx2
          · exact nc1 1 hk x hx1
        · rw [set_ne _ _ _ _ _ hjk, t2, set_ne _ _ _ _ _ hjk] at hx
          exact nc1 j hj x hx
      obtain ⟨S4, e4⟩ : ∃ S4, leaveS S3 = (0, S4) := by
        refine ⟨(leaveS S3).2, ?_⟩
        unfold leaveS
        rw [c3]
        have hb : borB S3.tb (([(1, [])] : List (Int × List (Int × Int))).length : Int) = false := nc3.bor
        rw [if_neg (by simp), hb]
        rfl
      refine ⟨h, S2, S3, S4, w2, hb.trans e2, ?_, ?_, ?_, hd, e4⟩
      · unfold leaveS
        rw [c2, c1]
        have hb : borB S2.tb (([(1, [])] : List (Int × List (Int × Int))).length : Int) = true := borB_some (j := 1) (by rw [l2]; exact hk) (at?_mem a2).1 rfl
        rw [if_neg (by simp), hb]
        rfl
      · unfold takeS
        rw [f2]
        rfl
      · unfold repS
        rw [f2, m2, m1]
        rfl
end Go.Proofs.Ytjdkhhkjnnbpoaa
