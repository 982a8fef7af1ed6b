/- handles: the reference's Make, Put, Borrow, Rep, without, Drop, Take. -/
import Derived.Test.YtglhfofofacekaaHfE
/- handles: the reference's Make, Put, Borrow, Rep. -/
set_option linter.unusedVariables false
set_option linter.unusedSimpArgs false
namespace Go.Proofs.Ytglhfofofacekaa
open Go.RowKit

theorem Rel.found {N : Nat} {S : Tb} {R : Rf} (h : Rel N S R) (ok : TbOk N S) {i r hh z : Int} (hf : FoundR R.L i r hh z) :
    ((findT S.tb i r hh).2 = true → ∃ k : Nat, z = k ∧ k < R.L.length ∧ R.L.getD k one0 = (i, (findT S.tb i r hh).1)) ∧ ((findT S.tb i r hh).2 = false → z = -1) := by
  constructor
  · intro ht
    obtain ⟨q1, q2, q3⟩ := h.find_yes ht
    rcases hf with ⟨k, rfl, hk, m1, m2, m3⟩ | ⟨_, hno⟩
    · exact ⟨k, rfl, hk, pair_at h.nd (mem_getD hk) q1 m1 (m2.trans q2.symm)⟩
    · exact absurd ⟨rfl, q2, q3⟩ (hno _ q1)
  · intro ht
    rcases hf with ⟨k, rfl, hk, m⟩ | ⟨e, _⟩
    · exact absurd m (h.find_no ok ht _ (mem_getD hk))
    · exact e
theorem isB_nat {n m : Nat} {i r : Int} (h : isB n m i r = true) : (∃ k : Nat, i = k ∧ k < n) ∧ (∃ j : Nat, r = j ∧ j < m) := by
  simp [isB, hasB] at h
  exact ⟨⟨i.toNat, by omega, by omega⟩, ⟨r.toNat, by omega, by omega⟩⟩
theorem repB_nat {p : Int} (h : repB p = true) : 0 ≤ p ∧ p ≤ 4294967295 := by
  simp [repB] at h
  omega
/-- The cell that tells who makes a resource. -/
theorem RfR.maker {w0 : World} {G : Nat → Prop} {b : Nat} {w : World} {R : Rf} {J : RfH} (h : RfR w0 G b w R J) {j : Nat} (hj : j < R.ms.length) : ∃ mb mo, J.ma = some ⟨mb, mo, none⟩ ∧ w.cell? ⟨mb, mo + j, none⟩ = some (.int .i64 (R.ms.getD j 0)) := by
  obtain ⟨mb, mo, e, hc⟩ := h.mks.resolve_left (by omega)
  exact ⟨mb, mo, e, farB (hc j hj) h.base⟩
theorem RfF.stay {w0 : World} {G : Nat → Prop} {b : Nat} {w : World} {S : Tb} {N : Nat} (h : RfF w0 G b w S N) (hN : N < 1000) : RfF w0 G b w S (N + 1) ∧ Kept G w w := ⟨h.more (Nat.le_succ _) (by omega), Kept.refl _ _⟩

theorem RfF.freshI {w0 : World} {G : Nat → Prop} {b : Nat} {w : World} {S : Tb} {N : Nat} (h : RfF w0 G b w S N) (hN : N < 1000) {i r p : Int} (h1 : isB S.tb.length S.ms.length i r = true) (h2 : repB p = true) (own : Bool) (call : Int) (ho : own = decide (call = 0)) (hc : 0 ≤ call ∧ call ≤ S.cl.length) :
    Calls Try.prog 59 #[.pointer (some ⟨b, 0, none⟩), .int .i64 i, .agg #[.int .i64 0, .int .i64 r, .int .i64 p, .bool own, .int .i64 0, .int .i64 call]] w fun e w' => e = .returned (.tuple #[.int .i64 (addS S i.toNat ⟨0, r, p, own, 0, call⟩).1, .int .i64 (addS S i.toNat ⟨0, r, p, own, 0, call⟩).2.1]) ∧ RfF w0 G b w' (addS S i.toNat ⟨0, r, p, own, 0, call⟩).2.2 (N + 1) ∧ Kept G w w' := by
  obtain ⟨⟨k, rfl, hk⟩, ⟨j, rfl, hj⟩⟩ := isB_nat h1
  exact h.fresh hk ⟨0, j, p, own, 0, call⟩ ⟨by show (0 : Int) ≤ j; omega, by show (j : Int) < _; omega⟩ (repB_nat h2) rfl ho hc hN
set_option maxRecDepth 100000 in
set_option maxHeartbeats 4000000 in
theorem RfF.put {w0 : World} {G : Nat → Prop} {b : Nat} {w : World} {S : Tb} {N : Nat} (h : RfF w0 G b w S N) (hN : N < 1000) (i r p : Int) :
    Calls Try.prog 34 #[.pointer (some ⟨b, 0, none⟩), .int .i64 i, .int .i64 r, .int .i64 p] w fun e w' => e = .returned (.tuple #[.int .i64 (putS S i r p).1, .int .i64 (putS S i r p).2.1]) ∧ RfF w0 G b w' (putS S i r p).2.2 (N + 1) ∧ Kept G w w' := by
  obtain ⟨R, J, hR, hrel⟩ := h.at'
  have HI := is_any b R.n R.ms.length J.ma J.mc i r w hR.cells.1 hR.cells.2.1
  rw [hrel.n, hrel.ms] at HI
  have HP := rep_any p w
  have HST := Lib.hid (h.stay hN)
  unfold putS
  rw [mayB_eq]
  cases h1 : isB S.tb.length S.ms.length i r
  · rw [h1] at HI
    clear h hR hrel h1
    simp only [Bool.false_and, Bool.false_eq_true, if_false]
    go_enter Try.func34, Try.ntmps34
    go_wp2_with (first
      | (go_at_call 57; refine HI.mono ?_; rintro e w' ⟨rfl, rfl⟩)
      | (go_at_call 58; refine HP.mono ?_; rintro e w' ⟨rfl, rfl⟩))
    go_ret2
    exact ⟨rfl, HST.out⟩
  · rw [h1] at HI
    cases h2 : repB p
    · rw [h2] at HP
      clear h hR hrel h1 h2
      simp only [Bool.and_false, Bool.false_eq_true, if_false]
      go_enter Try.func34, Try.ntmps34
      go_wp2_with (first
        | (go_at_call 57; refine HI.mono ?_; rintro e w' ⟨rfl, rfl⟩)
        | (go_at_call 58; refine HP.mono ?_; rintro e w' ⟨rfl, rfl⟩))
      go_ret2
      exact ⟨rfl, HST.out⟩
    · rw [h2] at HP
      have HF := h.freshI hN h1 h2 true 0 rfl ⟨by omega, by omega⟩
      clear h hR hrel h1 h2
      simp only [Bool.and_self, if_true]
      generalize addS S i.toNat ⟨0, r, p, true, 0, 0⟩ = z at HF ⊢
      go_enter Try.func34, Try.ntmps34
      go_wp2_with (first
        | (go_at_call 57; refine HI.mono ?_; rintro e w' ⟨rfl, rfl⟩)
        | (go_at_call 58; refine HP.mono ?_; rintro e w' ⟨rfl, rfl⟩)
        | (go_at_call 59; refine HF.mono ?_; rintro e w1 ⟨rfl, h1, h2⟩; have HH := Lib.hid (And.intro h1 h2); clear h1 h2))
      go_ret2
      exact ⟨rfl, HH.out⟩
/-- Make, plainly, by its parts. -/
theorem makeS_parts (S : Tb) (i r p : Int) : makeS S i r p = if isB S.tb.length S.ms.length i r && (decide (S.ms.getD r.toNat 0 = i) && repB p) = true then addS S i.toNat ⟨0, r, p, true, 0, 0⟩ else (0, 17, S) := by
  unfold makeS putS
  rw [mayB_eq]
  cases isB S.tb.length S.ms.length i r <;> cases repB p <;> cases decide (S.ms.getD r.toNat 0 = i) <;> rfl
theorem borrowS_parts (S : Tb) (i r p : Int) : borrowS S i r p = if isB S.tb.length S.ms.length i r && (decide (S.cl.length ≠ 0) && repB p) = true then (if S.ms.getD r.toNat 0 = i then (p, 0, S) else addS S i.toNat ⟨0, r, p, false, 0, S.cl.length⟩) else (0, 17, S) := by
  unfold borrowS
  rw [mayB_eq]
  cases isB S.tb.length S.ms.length i r <;> cases repB p <;> cases decide (S.cl.length ≠ 0) <;> rfl
set_option maxRecDepth 100000 in
set_option maxHeartbeats 4000000 in
theorem RfF.make {w0 : World} {G : Nat → Prop} {b : Nat} {w : World} {S : Tb} {N : Nat} (h : RfF w0 G b w S N) (hN : N < 1000) (i r p : Int) :
    Calls Try.prog 30 #[.pointer (some ⟨b, 0, none⟩), .int .i64 i, .int .i64 r, .int .i64 p] w fun e w' => e = .returned (.tuple #[.int .i64 (makeS S i r p).1, .int .i64 (makeS S i r p).2.1]) ∧ RfF w0 G b w' (makeS S i r p).2.2 (N + 1) ∧ Kept G w w' := by
  obtain ⟨R, J, hR, hrel⟩ := h.at'
  have HI := is_any b R.n R.ms.length J.ma J.mc i r w hR.cells.1 hR.cells.2.1
  rw [hrel.n, hrel.ms] at HI
  have c1 := hR.cells.2.1
  have HP := rep_any p w
  have HST := Lib.hid (h.stay hN)
  rw [makeS_parts]
  cases h1 : isB S.tb.length S.ms.length i r
  · rw [h1] at HI
    clear h hR hrel h1
    simp only [Bool.false_and, Bool.false_eq_true, if_false]
    go_enter Try.func30, Try.ntmps30
    go_wp2_with (first
      | (go_at_call 57; refine HI.mono ?_; rintro e w' ⟨rfl, rfl⟩)
      | (go_at_call 58; refine HP.mono ?_; rintro e w' ⟨rfl, rfl⟩))
    go_ret2
    exact ⟨rfl, HST.out⟩
  · rw [h1] at HI
    obtain ⟨_, ⟨j, rfl, hj⟩⟩ := isB_nat h1
    obtain ⟨mb, mo, ema, hm⟩ := hR.maker (j := j) (by rw [hrel.ms]; exact hj)
    rw [ema] at c1
    rw [hrel.ms] at hm c1
    rw [Int.toNat_natCast]
    by_cases e2 : S.ms.getD j 0 = i
    · have e2' : ((S.ms.getD j 0) != i) = false := by rw [e2]; simp
      cases h2 : repB p
      · rw [h2] at HP
        clear h hR hrel h1 h2 e2
        simp only [Bool.and_false, Bool.false_eq_true, if_false]
        generalize S.ms.getD j 0 = mk at e2' hm
        generalize S.ms.length = ml at c1 hj HI
        go_enter Try.func30, Try.ntmps30
        go_wp2_with (first
          | (go_at_call 57; refine HI.mono ?_; rintro e w' ⟨rfl, rfl⟩)
          | (go_at_call 58; refine HP.mono ?_; rintro e w' ⟨rfl, rfl⟩))
        go_ret2
        exact ⟨rfl, HST.out⟩
      · rw [h2] at HP
        have HF := h.freshI hN h1 h2 true 0 rfl ⟨by omega, by omega⟩
        rw [decide_eq_true e2]
        clear h hR hrel h1 h2 e2
        simp only [Bool.and_self, if_true]
        generalize addS S i.toNat ⟨0, j, p, true, 0, 0⟩ = z at HF ⊢
        generalize S.ms.getD j 0 = mk at e2' hm
        generalize S.ms.length = ml at c1 hj HI
        go_enter Try.func30, Try.ntmps30
        go_wp2_with (first
      | (go_at_call 57; refine HI.mono ?_; rintro e w' ⟨rfl, rfl⟩)
      | (go_at_call 58; refine HP.mono ?_; rintro e w' ⟨rfl, rfl⟩)
      | (go_at_call 59; refine HF.mono ?_; rintro e w1 ⟨rfl, h1, h2⟩; have HH := Lib.hid (And.intro h1 h2); clear h1 h2))
        go_ret2
        exact ⟨rfl, HH.out⟩
    · have e2' : ((S.ms.getD j 0) != i) = true := bne_iff_ne.2 e2
      rw [decide_eq_false e2]
      clear h hR hrel h1 e2
      simp only [Bool.false_and, Bool.and_false, Bool.false_eq_true, if_false]
      generalize S.ms.getD j 0 = mk at e2' hm
      generalize S.ms.length = ml at c1 hj HI
      go_enter Try.func30, Try.ntmps30
      go_wp2_with (first
        | (go_at_call 57; refine HI.mono ?_; rintro e w' ⟨rfl, rfl⟩)
        | (go_at_call 58; refine HP.mono ?_; rintro e w' ⟨rfl, rfl⟩))
      go_ret2
      exact ⟨rfl, HST.out⟩
set_option maxRecDepth 100000 in
set_option maxHeartbeats 4000000 in
theorem RfF.borrow {w0 : World} {G : Nat → Prop} {b : Nat} {w : World} {S : Tb} {N : Nat} (h : RfF w0 G b w S N) (hN : N < 1000) (i r p : Int) :
    Calls Try.prog 36 #[.pointer (some ⟨b, 0, none⟩), .int .i64 i, .int .i64 r, .int .i64 p] w fun e w' => e = .returned (.tuple #[.int .i64 (borrowS S i r p).1, .int .i64 (borrowS S i r p).2.1]) ∧ RfF w0 G b w' (borrowS S i r p).2.2 (N + 1) ∧ Kept G w w' := by
  obtain ⟨R, J, hR, hrel⟩ := h.at'
  have HI := is_any b R.n R.ms.length J.ma J.mc i r w hR.cells.1 hR.cells.2.1
  rw [hrel.n, hrel.ms] at HI
  have c1 := hR.cells.2.1
  have c3 := hR.cells.2.2.2.1
  obtain ⟨ca, cc, ecv⟩ := len_of_own hR.cr
  rw [ecv] at c3
  have hcl : R.cs.length = S.cl.length := by rw [hrel.cs, List.length_map]
  rw [hcl] at c3
  have HP := rep_any p w
  have HST := Lib.hid (h.stay hN)
  rw [borrowS_parts]
  cases h1 : isB S.tb.length S.ms.length i r
  · rw [h1] at HI
    clear h hR hrel h1 hcl
    simp only [Bool.false_and, Bool.false_eq_true, if_false]
    generalize S.cl.length = cn at c3
    go_enter Try.func36, Try.ntmps36
    go_wp2_with (first
      | (go_at_call 57; refine HI.mono ?_; rintro e w' ⟨rfl, rfl⟩)
      | (go_at_call 58; refine HP.mono ?_; rintro e w' ⟨rfl, rfl⟩))
    go_ret2
    exact ⟨rfl, HST.out⟩
  · rw [h1] at HI
    obtain ⟨_, ⟨j, rfl, hj⟩⟩ := isB_nat h1
    obtain ⟨mb, mo, ema, hm⟩ := hR.maker (j := j) (by rw [hrel.ms]; exact hj)
    rw [ema] at c1
    rw [hrel.ms] at hm c1
    rw [Int.toNat_natCast]
    by_cases e0 : S.cl.length = 0
    · have e0' : (((S.cl.length : Nat) : Int) == 0) = true := by simp [e0]
      rw [decide_eq_false (show ¬ S.cl.length ≠ 0 by omega)]
      clear h hR hrel h1 hcl e0 hm
      simp only [Bool.false_and, Bool.and_false, Bool.false_eq_true, if_false]
      generalize S.cl.length = cn at c3 e0'
      generalize S.ms.length = ml at c1 hj HI
      go_enter Try.func36, Try.ntmps36
      go_wp2_with (first
        | (go_at_call 57; refine HI.mono ?_; rintro e w' ⟨rfl, rfl⟩)
        | (go_at_call 58; refine HP.mono ?_; rintro e w' ⟨rfl, rfl⟩))
      go_ret2
      exact ⟨rfl, HST.out⟩
    · have e0' : (((S.cl.length : Nat) : Int) == 0) = false := beq_eq_false_iff_ne.2 (fun q => e0 (by exact_mod_cast q))
      rw [decide_eq_true (show S.cl.length ≠ 0 from e0)]
      cases h2 : repB p
      · rw [h2] at HP
        clear h hR hrel h1 hcl e0 h2 hm
        simp only [Bool.false_and, Bool.and_false, Bool.false_eq_true, if_false]
        generalize S.cl.length = cn at c3 e0'
        generalize S.ms.length = ml at c1 hj HI
        go_enter Try.func36, Try.ntmps36
        go_wp2_with (first
          | (go_at_call 57; refine HI.mono ?_; rintro e w' ⟨rfl, rfl⟩)
          | (go_at_call 58; refine HP.mono ?_; rintro e w' ⟨rfl, rfl⟩))
        go_ret2
        exact ⟨rfl, HST.out⟩
      · rw [h2] at HP
        have HF := h.freshI hN h1 h2 false S.cl.length (show false = decide (((S.cl.length : Nat) : Int) = 0) from (decide_eq_false (fun q => e0 (by exact_mod_cast q))).symm) ⟨by omega, by omega⟩
        simp only [Bool.and_self, if_true]
        by_cases e2 : S.ms.getD j 0 = i
        · have e2' : ((S.ms.getD j 0) == i) = true := by rw [e2]; simp
          rw [if_pos e2]
          clear h hR hrel h1 h2 e2 hcl e0 HF
          generalize S.ms.getD j 0 = mk at e2' hm
          generalize S.cl.length = cn at c3 e0'
          generalize S.ms.length = ml at c1 hj HI
          go_enter Try.func36, Try.ntmps36
          go_wp2_with (first
            | (go_at_call 57; refine HI.mono ?_; rintro e w' ⟨rfl, rfl⟩)
            | (go_at_call 58; refine HP.mono ?_; rintro e w' ⟨rfl, rfl⟩))
          go_ret2
          exact ⟨rfl, HST.out⟩
        · have e2' : ((S.ms.getD j 0) == i) = false := beq_eq_false_iff_ne.2 e2
          rw [if_neg e2]
          clear h hR hrel h1 h2 e2 hcl e0
          generalize addS S i.toNat ⟨0, j, p, false, 0, S.cl.length⟩ = z at HF ⊢
          generalize S.ms.getD j 0 = mk at e2' hm
          generalize S.cl.length = cn at c3 e0' HF
          generalize S.ms.length = ml at c1 hj HI
          go_enter Try.func36, Try.ntmps36
          go_wp2_with (first
      | (go_at_call 57; refine HI.mono ?_; rintro e w' ⟨rfl, rfl⟩)
      | (go_at_call 58; refine HP.mono ?_; rintro e w' ⟨rfl, rfl⟩)
      | (go_at_call 59; refine HF.mono ?_; rintro e w1 ⟨rfl, h1, h2⟩; have HH := Lib.hid (And.intro h1 h2); clear h1 h2))
          go_ret2
          exact ⟨rfl, HH.out⟩
set_option maxRecDepth 100000 in
set_option maxHeartbeats 4000000 in
theorem RfF.rep {w0 : World} {G : Nat → Prop} {b : Nat} {w : World} {S : Tb} {N : Nat} (h : RfF w0 G b w S N) (hN : N < 1000) (i r hh : Int) :
    Calls Try.prog 31 #[.pointer (some ⟨b, 0, none⟩), .int .i64 i, .int .i64 r, .int .i64 hh] w fun e w' => e = .returned (.tuple #[.int .i64 (repS S i r hh).1, .int .i64 (repS S i r hh).2]) ∧ RfF w0 G b w' S (N + 1) ∧ Kept G w w' := by
  obtain ⟨R, J, hR, hrel⟩ := h.at'
  have HF := hR.find (Nat.le_trans hrel.ll (Nat.le_trans h.few (by decide))) i r hh
  have c1 := hR.cells.2.1
  have HST := Lib.hid (h.stay hN)
  have hfo := fun z hz => hrel.found h.ok (i := i) (r := r) (hh := hh) (z := z) hz
  unfold repS
  cases hf : (findT S.tb i r hh).2
  · rw [hf] at hfo
    have HFO := Lib.hid hfo
    clear h hR hrel hfo
    simp only [Bool.false_and, Bool.false_eq_true, if_false]
    go_enter Try.func31, Try.ntmps31
    go_wp2_with (go_at_call 60; refine HF.mono ?_; rintro e w' ⟨⟨z, rfl, hz⟩, rfl⟩; obtain rfl := (HFO.out z hz).2 rfl; clear hz)
    go_ret2
    exact ⟨rfl, HST.out⟩
  · obtain ⟨k, x, rfl, hk, ha, hr, he⟩ := findT_yes hf
    rw [hf] at hfo
    rw [he] at hfo ⊢
    have hx := h.ok.hd k hk x (at?_mem ha).1
    obtain ⟨j, rfl⟩ : ∃ j : Nat, r = j := ⟨r.toNat, by have := hx.r1; omega⟩
    have hj : j < S.ms.length := by have := hx.r2; omega
    obtain ⟨mb, mo, ema, hm⟩ := hR.maker (j := j) (by rw [hrel.ms]; exact hj)
    obtain ⟨la, lc, elv, hrow⟩ := one_row hR.lr
    have c2 := hR.cells.2.2.1
    rw [ema] at c1
    rw [hrel.ms] at hm c1
    rw [elv] at c2
    rw [Int.toNat_natCast]
    have HFO := Lib.hid hfo
    have HRO := Lib.hid hrow
    obtain ⟨xh, xr, xrep, xown, xl, xc⟩ := x
    dsimp only
    clear h hR hrel hfo hx hf ha he hr hrow
    by_cases e2 : S.ms.getD j 0 = (k : Int)
    · have e2' : ((S.ms.getD j 0) != (k : Int)) = false := by rw [e2]; simp
      rw [decide_eq_true e2]
      clear e2
      simp only [Bool.and_self, if_true]
      generalize S.ms.getD j 0 = mk at e2' hm
      generalize S.ms.length = ml at c1 hj
      generalize R.L.length = ll at HFO HRO c2
      go_enter Try.func31, Try.ntmps31
      go_wp2_with (go_at_call 60; refine HF.mono ?_; rintro e w' ⟨⟨z, rfl, hz⟩, rfl⟩; obtain ⟨q, rfl, hq, hp⟩ := (HFO.out z hz).1 rfl; obtain ⟨g, rfl, hcs⟩ := HRO.out.resolve_left (by omega); have hc3 := (hcs q hq).c3; rw [hp] at hc3; clear hz hcs hp)
      go_ret2
      exact ⟨rfl, HST.out⟩
    · have e2' : ((S.ms.getD j 0) != (k : Int)) = true := bne_iff_ne.2 e2
      rw [decide_eq_false e2]
      clear e2
      simp only [Bool.and_false, Bool.false_eq_true, if_false]
      generalize S.ms.getD j 0 = mk at e2' hm
      generalize S.ms.length = ml at c1 hj
      generalize R.L.length = ll at HFO HRO c2
      go_enter Try.func31, Try.ntmps31
      go_wp2_with (go_at_call 60; refine HF.mono ?_; rintro e w' ⟨⟨z, rfl, hz⟩, rfl⟩; obtain ⟨q, rfl, hq, hp⟩ := (HFO.out z hz).1 rfl; clear hz hp)
      go_ret2
      exact ⟨rfl, HST.out⟩
end Go.Proofs.Ytglhfofofacekaa

/- handles: the reference's without, Drop, Take. -/
set_option linter.unusedVariables false
set_option linter.unusedSimpArgs false
namespace Go.Proofs.Ytglhfofofacekaa
open Go.RowKit

/-- An append of no handle: what was there. -/
theorem append_no_one (a b : Option Addr) (n cap cb : Nat) (w : World) (ty : TypeId) (hn : n ≤ cap) :
    (Builtin.append_ #[57, 57] ty #[.slice a n cap, .slice b 0 cb]).run Try.prog w = .ok (.slice a n cap) w := by
  obtain ⟨ti, hi0, hz0, hz1, hz2⟩ := info_parts info_one
  have h2 : ¬ cap < n := by omega
  have h3 : ¬ (cap : Int) < (n : Int) := by omega
  have hl := fun x => run_loadCells_list (P := Try.prog) w x [] (fun j v hj => by simp at hj)
  simp only [List.length_nil] at hl
  cases a <;> cases b <;> simp [Builtin.append_, run_underlying Try.underlying57, sizeOf, typeInfo, hi0, hz1, Builtin.lenOf, Builtin.firstCells, storeCells, hl, h2, h3]
theorem wpList_append_run {P : Program} {w : World} {ops : Array Oper} {rest : List Oper} {o : Oper} {a : Act} {Q : Exit → Act → World → Prop} (hgd : o.guard = none) (d s : Operand) (dT sT : TypeId)
    (ho : o.op = .call { callee := .builtin .append, args := #[d, s], argTypes := #[dT, sT] }) (v : Value) (w' : World)
    (hrun : (Builtin.append_ #[dT, sT] o.type #[a.eval d, a.eval s]).run P w = .ok v w') (h : wpList P ops Q rest (a.put o.dst v) w') : wpList P ops Q (o :: rest) a w :=
  wpList_plain hgd fun K hK => by
    unfold Oper.wp
    simp [execOp, ho, resolve, invoke, builtin, hrun, Result.andThen]
    exact hK _ _ h
/-- An append of a part of a row to an owned row, be it empty or not. -/
theorem app_ones {ops : Array Oper} {rest : List Oper} {o : Oper} {a : Act} {Q : Exit → Act → World → Prop} {w : World} (hgd : o.guard = none) (s x : Operand)
    (ho : o.op = .call { callee := .builtin .append, args := #[s, x], argTypes := #[57, 57] }) (B : Nat) (v : Value) (n : Nat) (vs : List Value) (hs : a.eval s = v) (hown : w.ownsRow B 70 7 v n vs)
    (b : Option Addr) (k c : Nat) (news : List Value) (hx : a.eval x = .slice b k c) (hl : news.length = k * 7) (hc : k = 0 ∨ ∃ ad, b = some ad ∧ ∀ j u, news[j]? = some u → w.cell? (ad.add j) = some u) (h1 : ∀ u ∈ news, u.oneCell' = true) (hn : n + k ≤ 100000) (hbase : B ≤ w.heap.size)
    (h : ∀ a' cap' w', w'.ownsRow B 70 7 (.slice a' (n + k) cap') (n + k) (vs ++ news) → w.grownBy w' v.ownBlock → wpList Try.prog ops Q rest (a.put o.dst (.slice a' (n + k) cap')) w') : wpList Try.prog ops Q (o :: rest) a w := by
  obtain ⟨i0, hi, hz0, hz1, hz2⟩ := info_parts info_one
  rcases Nat.eq_zero_or_pos k with hk | hk
  · subst hk
    have hnews : news = [] := List.length_eq_zero_iff.1 (by rw [hl, Nat.zero_mul])
    subst hnews
    obtain ⟨a', cap', rfl⟩ := len_of_own hown
    have hcap : n ≤ cap' := by
      rcases hown.2 with ⟨e, e0⟩ | ⟨g, cap, cur, e, hh⟩
      · omega
      · injection e with _ _ e3
        subst e3
        first | exact hh.2.2.2.1 | exact hh.2.2.2.2.1 | exact hh.2.2.1 | omega
    refine wpList_append_run hgd s x _ _ ho (.slice a' n cap') w ?_ ?_
    · rw [hs, hx]
      exact append_no_one a' b n cap' c w o.type hcap
    · exact h a' cap' w (by rw [List.append_nil]; exact hown) (World.grownBy.refl _ _)
  · rcases hc with e | ⟨ad, e, hcl⟩
    · omega
    · subst e
      exact wpList_append_lies w hgd s x 57 ho B 70 i0 (.agg #[.int .i64 0, .int .i64 0, .int .i64 0, .int .i64 0, .bool false, .int .i64 0, .int .i64 0]) 7 56 Try.underlying57 hi hz0 hz1 hz2 rfl (by decide) v n vs hs hown ad k c news hx hl hcl h1 hk (by unfold maxLen; omega) (by omega) hbase _ rfl (fun g' cap' w' ho' hg' _ _ => h _ cap' w' ho' hg')
/-- The row of handles, another one. -/
theorem RfR.newL {w0 : World} {G : Nat → Prop} {b : Nat} {w W : World} {R : Rf} {J : RfH} (h : RfR w0 G b w R J) (hnew : ∀ k, w.heap.size ≤ k → G k) (hW : Below w.heap.size w W) {v : Value} {L' : List (Int × Hd)}
    (hown : W.ownsRow w.heap.size 70 7 v L'.length (L'.flatMap oneC)) : RfR w0 G b (W.setCell ⟨b, 2, none⟩ v) { R with L := L' } { J with lv := v } ∧ Kept (· = b) w (W.setCell ⟨b, 2, none⟩ v) := by
  have hb := h.head.lt
  have h1 := h.below hW
  have K5 : Kept (· = b) W (W.setCell ⟨b, 2, none⟩ v) := (Kept.refl (fun x => x = b) W).set (p := ⟨b, 2, none⟩) rfl v
  have K : Kept G w (W.setCell ⟨b, 2, none⟩ v) := (Kept.of_below hW).trans (K5.mono (fun x e => by rw [e]; exact h.gb))
  refine ⟨{ h1 with head := h1.head.put 2 v, base := h.base.trans (K.below h.base.size h.gB), lr := ownsRow_kept (own_base hown (Nat.zero_le _)) K5 (fun g hg e => by have := (World.ownsRow.lt hown g hg).1; omega), cr := ?_, er := ?_, gl := ?_ }, (Kept.of_below hW).trans K5⟩
  · exact ownsRow_kept h1.cr K5 (fun g hg e => own_ne_cells h1.cr h1.head (by decide) (by rw [hg, e]))
  · exact ownsRow_kept h1.er K5 (fun g hg e => own_ne_cells h1.er h1.head (by decide) (by rw [hg, e]))
  · exact fun g hg => hnew g (World.ownsRow.lt hown g hg).1
theorem wgrown_trans {a b c : World} {r : Option Nat} {B : Nat} (h1 : Below B a b) (h2 : b.grownBy c r) (hB : B ≤ a.heap.size) (hr : ∀ j, r = some j → B ≤ j) : Below B a c := h1.grown h2 (Nat.le_trans hB h1.size) hr

theorem OneAt.all {w : World} {g o : Nat} {p : Int × Hd} (h : OneAt w g o p) : ∀ c u, (oneC p)[c]? = some u → w.cell? ⟨g, o + c, none⟩ = some u := by
  intro c u hc
  have hlt : c < 7 := by have := (List.getElem?_eq_some_iff.1 hc).1; simpa [Hd.cs] using this
  have e : c = 0 ∨ c = 1 ∨ c = 2 ∨ c = 3 ∨ c = 4 ∨ c = 5 ∨ c = 6 := by omega
  rcases e with rfl | rfl | rfl | rfl | rfl | rfl | rfl
  · rw [← hc]; exact h.c0
  · rw [← hc]; exact h.c1
  · rw [← hc]; exact h.c2
  · rw [← hc]; exact h.c3
  · rw [← hc]; exact h.c4
  · rw [← hc]; exact h.c5
  · rw [← hc]; exact h.c6
theorem ones_cells {w : World} {g o : Nat} {L : List (Int × Hd)} (h : ∀ j, j < L.length → OneAt w g (o + j * 7) (L.getD j one0)) : ∀ j u, (L.flatMap oneC)[j]? = some u → w.cell? ((⟨g, o, none⟩ : Addr).add j) = some u := by
  intro j u hj
  have hadd : (⟨g, o, none⟩ : Addr).add j = ⟨g, o + j, none⟩ := by unfold Addr.add; split <;> simp_all
  rw [hadd]
  have hlt : j < L.length * 7 := by have := (List.getElem?_eq_some_iff.1 hj).1; rwa [flat_len oneC 7 oneC_len] at this
  have e : j = j / 7 * 7 + j % 7 := by omega
  have hq : j / 7 < L.length := by omega
  rw [e, flat_at oneC 7 oneC_len one0 L (j / 7) (j % 7) hq (Nat.mod_lt _ (by decide))] at hj
  have := (h (j / 7) hq).all (j % 7) u hj
  rwa [Nat.add_assoc, ← e] at this
set_option maxRecDepth 100000 in
set_option maxHeartbeats 4000000 in
theorem RfR.without {w0 : World} {G : Nat → Prop} {b : Nat} {w : World} {R : Rf} {J : RfH} (h : RfR w0 G b w R J) (hnew : ∀ k, w.heap.size ≤ k → G k) (hl : R.L.length ≤ 1000) {k : Nat} (hk : k < R.L.length) :
    Calls Try.prog 61 #[.pointer (some ⟨b, 0, none⟩), .int .i64 (k : Int)] w fun e w' => e = .returned (.tuple #[]) ∧ (∃ J', RfR w0 G b w' { R with L := R.L.eraseIdx k } J') ∧ Kept (· = b) w w' := by
  obtain ⟨la, lc, e, hrow⟩ := one_row h.lr
  have hcap : R.L.length ≤ lc := by
    rcases h.lr.2 with ⟨e1, e0⟩ | ⟨g, cap, cur, e1, hh⟩
    · omega
    · rw [e] at e1
      injection e1 with _ _ e3
      subst e3
      exact hh.2.2.1
  obtain ⟨g, rfl, hcs⟩ := hrow.resolve_left (by omega)
  have c2 := h.cells.2.2.1
  rw [e] at c2
  have HH := Lib.hid h
  have HCS := Lib.hid hcs
  have HNEW := Lib.hid hnew
  have HL := Lib.hid hl
  have hkc : k ≤ lc := by omega
  have hkc2 : k + 1 ≤ lc := by omega
  have hwk : wrap64 ((k : Int) + 1) = (k : Int) + 1 := by unfold wrap64; omega
  clear h e hrow hnew hl
  have HN1 : Hid (((R.L.take k).flatMap oneC).length = k * 7) := Lib.hid (by rw [flat_len oneC 7 oneC_len, List.length_take, Nat.min_eq_left (by omega)])
  have HN2 : Hid (((R.L.drop (k + 1)).flatMap oneC).length = (R.L.length - (k + 1)) * 7) := Lib.hid (by rw [flat_len oneC 7 oneC_len, List.length_drop])
  have HO1A : Hid (∀ u ∈ (R.L.take k).flatMap oneC, u.oneCell' = true) := Lib.hid (fun u hu => by obtain ⟨p, _, hp⟩ := List.mem_flatMap.1 hu; exact one_one p u hp)
  have HO2A : Hid (∀ u ∈ (R.L.drop (k + 1)).flatMap oneC, u.oneCell' = true) := Lib.hid (fun u hu => by obtain ⟨p, _, hp⟩ := List.mem_flatMap.1 hu; exact one_one p u hp)
  have HC1 : Hid (∀ j u, ((R.L.take k).flatMap oneC)[j]? = some u → w.cell? ((⟨g, 0, none⟩ : Addr).add j) = some u) := Lib.hid (ones_cells (fun j hj => by
    rw [List.length_take] at hj
    have h1 : (R.L.take k).getD j one0 = R.L.getD j one0 := by simp only [List.getD_eq_getElem?_getD]; rw [List.getElem?_take_of_lt (by omega)]
    rw [h1, Nat.zero_add]
    exact hcs j (by omega)))
  have HC2 : Hid (∀ j u, ((R.L.drop (k + 1)).flatMap oneC)[j]? = some u → w.cell? ((⟨g, (k + 1) * 7, none⟩ : Addr).add j) = some u) := Lib.hid (ones_cells (fun j hj => by
    rw [List.length_drop] at hj
    have h1 : (R.L.drop (k + 1)).getD j one0 = R.L.getD (k + 1 + j) one0 := by simp only [List.getD_eq_getElem?_getD]; rw [List.getElem?_drop]
    rw [h1, ← Nat.add_mul]
    exact hcs (k + 1 + j) (by omega)))
  clear hcs
  have HEND : Hid (∀ (a2 : Option Addr) (p2 : Nat) (w2 : World), Below w.heap.size w w2 → w2.ownsRow w.heap.size 70 7 (.slice a2 (k + (R.L.length - (k + 1))) p2) (k + (R.L.length - (k + 1))) ((R.L.take k).flatMap oneC ++ (R.L.drop (k + 1)).flatMap oneC) →
      (∃ J', RfR w0 G b (w2.setCell ⟨b, 2, none⟩ (.slice a2 (k + (R.L.length - (k + 1))) p2)) { R with L := R.L.eraseIdx k } J') ∧ Kept (· = b) w (w2.setCell ⟨b, 2, none⟩ (.slice a2 (k + (R.L.length - (k + 1))) p2))) := Lib.hid (fun a2 p2 w2 hb ho => by
    have el : (R.L.eraseIdx k).length = k + (R.L.length - (k + 1)) := by rw [List.length_eraseIdx_of_lt hk]; omega
    have z := HH.out.newL HNEW.out hb (v := .slice a2 (k + (R.L.length - (k + 1))) p2) (L' := R.L.eraseIdx k) (by rw [el, List.eraseIdx_eq_take_drop_succ, List.flatMap_append]; exact ho)
    exact ⟨⟨_, z.1⟩, z.2⟩)
  by_cases hlc : lc = k + 1
  · subst hlc
    have hlk : R.L.length = k + 1 := by omega
    have HEND2 : Hid (∀ (a2 : Option Addr) (p2 : Nat) (w2 : World), Below w.heap.size w w2 → w2.ownsRow w.heap.size 70 7 (.slice a2 k p2) k ((R.L.take k).flatMap oneC) → (∃ J', RfR w0 G b (w2.setCell ⟨b, 2, none⟩ (.slice a2 k p2)) { R with L := R.L.eraseIdx k } J') ∧ Kept (· = b) w (w2.setCell ⟨b, 2, none⟩ (.slice a2 k p2))) := Lib.hid (fun a2 p2 w2 hb ho => by
      have e0 : R.L.length - (k + 1) = 0 := by omega
      have ed : R.L.drop (k + 1) = [] := List.drop_eq_nil_of_le (by omega)
      have := HEND.out a2 p2 w2 hb (by rw [e0, ed, Nat.add_zero]; simpa using ho)
      rw [e0, Nat.add_zero] at this
      exact this)
    clear hlk
    go_enter Try.func61, Try.ntmps61
    go_wp2_with (first
      | (at_builtin; refine app_ones rfl _ _ rfl w.heap.size (.slice a1 k p1) k ((R.L.take k).flatMap oneC) rfl HO1.out (some ⟨g, 0, none⟩) 0 0 [] rfl rfl (.inl rfl) (fun u hu => by simp at hu) (by have := HL.out; omega) HB1.out.size ?_; intro a2 p2 w2 ho2 hg2; have HB2 := Lib.hid (HB1.out.grown hg2 HB1.out.size (fun j e => (World.ownsRow.lt HO1.out j e).1)); rw [Nat.add_zero, List.append_nil] at ho2; rw [Nat.add_zero]; have HO2 := Lib.hid ho2; have q5 := (HH.out.below HB2.out).head; have q52 := q5.cell 2; have f52 := q5.frozen 2; simp at q52; clear ho2 hg2 q5)
      | (at_builtin; refine app_ones rfl _ _ rfl w.heap.size (.slice none 0 0) 0 [] rfl (World.ownsRow_nil _ _ _ _) (some ⟨g, 0, none⟩) k (k + 1) ((R.L.take k).flatMap oneC) rfl HN1.out (.inr ⟨_, rfl, HC1.out⟩) HO1A.out (by have := HL.out; omega) (Nat.le_refl _) ?_; intro a1 p1 w1 ho1 hg1; have HB1 := Lib.hid ((Below.refl w.heap.size w).grown hg1 (Nat.le_refl _) (fun j e => by cases e)); rw [Nat.zero_add, List.nil_append] at ho1; have HO1 := Lib.hid ho1; have d2 := farB c2 HB1.out; rw [Nat.zero_add]; clear ho1 hg1))
    refine bodyPost_void (by rfl) (by rfl) ⟨rfl, ?_⟩
    have hh := HEND2.out _ _ _ HB2.out HO2.out
    exact hh
  · have hlc1 : ¬ k + 1 = lc := fun e => hlc e.symm
    go_enter Try.func61, Try.ntmps61
    go_wp2_with (first
      | (at_builtin; refine app_ones rfl _ _ rfl w.heap.size (.slice a1 k p1) k ((R.L.take k).flatMap oneC) rfl HO1.out (some ⟨g, (k + 1) * 7, none⟩) (R.L.length - (k + 1)) (lc - (k + 1)) ((R.L.drop (k + 1)).flatMap oneC) rfl HN2.out (.inr ⟨_, rfl, fun j u hj => farB (HC2.out j u hj) HB1.out⟩) HO2A.out (by have := HL.out; omega) HB1.out.size ?_; intro a2 p2 w2 ho2 hg2; have HB2 := Lib.hid (HB1.out.grown hg2 HB1.out.size (fun j e => (World.ownsRow.lt HO1.out j e).1)); have HO2 := Lib.hid ho2; have q5 := (HH.out.below HB2.out).head; have q52 := q5.cell 2; have f52 := q5.frozen 2; simp at q52; clear ho2 hg2 q5)
      | (at_builtin; refine app_ones rfl _ _ rfl w.heap.size (.slice none 0 0) 0 [] rfl (World.ownsRow_nil _ _ _ _) (some ⟨g, 0, none⟩) k lc ((R.L.take k).flatMap oneC) rfl HN1.out (.inr ⟨_, rfl, HC1.out⟩) HO1A.out (by have := HL.out; omega) (Nat.le_refl _) ?_; intro a1 p1 w1 ho1 hg1; have HB1 := Lib.hid ((Below.refl w.heap.size w).grown hg1 (Nat.le_refl _) (fun j e => by cases e)); rw [Nat.zero_add, List.nil_append] at ho1; have HO1 := Lib.hid ho1; have d2 := farB c2 HB1.out; rw [Nat.zero_add]; clear ho1 hg1))
    refine bodyPost_void (by rfl) (by rfl) ⟨rfl, ?_⟩
    have hh := HEND.out _ _ _ HB2.out HO2.out
    exact hh
end Go.Proofs.Ytglhfofofacekaa

/- handles: the reference's Drop, Take. -/
set_option linter.unusedVariables false
set_option linter.unusedSimpArgs false
namespace Go.Proofs.Ytglhfofofacekaa
open Go.RowKit

theorem mem_erase {L : List (Int × Hd)} (h : L.Pairwise (fun p q => ¬ (p.1 = q.1 ∧ p.2.h = q.2.h))) {q : Nat} (hq : q < L.length) (p : Int × Hd) :
    p ∈ L.eraseIdx q ↔ p ∈ L ∧ ¬ (p.1 = (L.getD q one0).1 ∧ p.2.h = (L.getD q one0).2.h) := by
  have e : L = L.take q ++ L.getD q one0 :: L.drop (q + 1) := by
    rw [List.getD_eq_getElem?_getD, List.getElem?_eq_getElem hq]
    show L = L.take q ++ L[q] :: L.drop (q + 1)
    rw [← List.drop_eq_getElem_cons hq, List.take_append_drop]
  rw [List.eraseIdx_eq_take_drop_succ]
  generalize L.getD q one0 = y at e ⊢
  rw [e] at h
  obtain ⟨h1, h2, h3⟩ := List.pairwise_append.1 h
  obtain ⟨h4, h5⟩ := List.pairwise_cons.1 h2
  have hm : p ∈ L ↔ p ∈ L.take q ∨ p = y ∨ p ∈ L.drop (q + 1) := by
    conv => lhs; rw [e]
    simp
  rw [hm, List.mem_append]
  constructor
  · rintro (h6 | h6)
    · exact ⟨.inl h6, h3 p h6 y (by simp)⟩
    · exact ⟨.inr (.inr h6), fun q => h4 p h6 ⟨q.1.symm, q.2.symm⟩⟩
  · rintro ⟨h6 | h6 | h6, h7⟩
    · exact .inl h6
    · exact absurd (by rw [h6]; exact ⟨rfl, rfl⟩) h7
    · exact .inr h6
/-- A handle less. -/
theorem Rel.drop {N : Nat} {S : Tb} {R : Rf} (h : Rel N S R) {k q : Nat} (hk : k < S.tb.length) (hq : q < R.L.length) {hh : Int} (e1 : (R.L.getD q one0).1 = k) (e2 : (R.L.getD q one0).2.h = hh) :
    Rel N { S with tb := S.tb.set k (delT hh (S.tb.getD k [])) } { R with L := R.L.eraseIdx q } := by
  have hlen : (S.tb.set k (delT hh (S.tb.getD k []))).length = S.tb.length := List.length_set
  have hm := fun p => mem_erase h.nd hq p
  rw [e1, e2] at hm
  refine { n := ?_, ms := h.ms, cs := h.cs, a1 := ?_, a2 := ?_, nd := h.nd.sublist (List.eraseIdx_sublist _ _), e1 := h.e1, e2 := h.e2, ll := ?_, le := h.le }
  · show R.n = (S.tb.set k _).length
    rw [hlen, h.n]
  · intro p hp
    show ∃ j : Nat, p.1 = j ∧ j < (S.tb.set k _).length ∧ p.2 ∈ (S.tb.set k _).getD j []
    rw [hlen]
    obtain ⟨hp1, hp2⟩ := (hm p).1 hp
    obtain ⟨j, j1, j2, j3⟩ := h.a1 p hp1
    refine ⟨j, j1, j2, ?_⟩
    by_cases e : j = k
    · subst e
      rw [set_self _ _ _ _ hk]
      exact List.mem_filter.2 ⟨j3, by simpa using fun q => hp2 ⟨j1, q⟩⟩
    · rw [set_ne _ _ _ _ _ e]
      exact j3
  · intro j hj y hy
    have hj' : j < S.tb.length := by rw [← hlen]; exact hj
    have hy' : y ∈ (S.tb.set k (delT hh (S.tb.getD k []))).getD j [] := hy
    by_cases e : j = k
    · subst e
      rw [set_self _ _ _ _ hk] at hy'
      obtain ⟨y1, y2⟩ := List.mem_filter.1 hy'
      exact (hm _).2 ⟨h.a2 j hj' y y1, fun q => by simp at y2; exact y2 q.2⟩
    · rw [set_ne _ _ _ _ _ e] at hy'
      exact (hm _).2 ⟨h.a2 j hj' y hy', fun q => e (by have h1 : (j : Int) = k := q.1; omega)⟩
  · exact Nat.le_trans (by rw [List.length_eraseIdx]; split <;> omega) h.ll

set_option maxRecDepth 100000 in
set_option maxHeartbeats 4000000 in
theorem RfF.drop {w0 : World} {G : Nat → Prop} {b : Nat} {w : World} {S : Tb} {N : Nat} (h : RfF w0 G b w S N) (hN : N < 1000) (i r hh : Int) :
    Calls Try.prog 32 #[.pointer (some ⟨b, 0, none⟩), .int .i64 i, .int .i64 r, .int .i64 hh] w fun e w' => e = .returned (.tuple #[.int .i64 (dropS S i r hh).1, .bool (dropS S i r hh).2.1, .int .i64 (dropS S i r hh).2.2.1]) ∧ RfF w0 G b w' (dropS S i r hh).2.2.2 (N + 1) ∧ Kept G w w' := by
  obtain ⟨R, J, hR, hrel⟩ := h.at'
  have HF := hR.find (Nat.le_trans hrel.ll (Nat.le_trans h.few (by decide))) i r hh
  have hfo := fun z hz => hrel.found h.ok (i := i) (r := r) (hh := hh) (z := z) hz
  have HDR := Lib.hid (h.ok.drop i r hh)
  have HST := Lib.hid (fun (w' : World) (hb : Below w.heap.size w w') => (show RfF w0 G b w' S (N + 1) ∧ Kept G w w' from ⟨(h.below hb).more (Nat.le_succ _) (by omega), Kept.of_below hb⟩))
  unfold dropS at HDR ⊢
  cases hf : (findT S.tb i r hh).2
  · rw [hf] at hfo
    have HFO := Lib.hid hfo
    clear h hR hrel hfo HDR
    simp only [Bool.false_eq_true, if_false]
    go_enter Try.func32, Try.ntmps32
    go_wp2_with (go_at_call 60; refine HF.mono ?_; rintro e w' ⟨⟨z, rfl, hz⟩, rfl⟩; obtain rfl := (HFO.out z hz).2 rfl; clear hz)
    go_ret3
    exact ⟨rfl, HST.out _ (Below.refl _ _)⟩
  · obtain ⟨k, x, rfl, hk, ha, hr, he⟩ := findT_yes hf
    rw [hf] at hfo HDR
    rw [he] at hfo HDR ⊢
    have hxh := (at?_mem ha).2
    obtain ⟨la, lc, elv, hrow⟩ := one_row hR.lr
    have c2 := hR.cells.2.2.1
    rw [elv] at c2
    rw [Int.toNat_natCast] at HDR ⊢
    simp only [if_true] at HDR ⊢
    have HFO := Lib.hid hfo
    have HRO := Lib.hid hrow
    obtain ⟨xh, xr, xrep, xown, xl, xc⟩ := x
    dsimp only at hxh HDR ⊢
    have HWO := Lib.hid (fun (w1 : World) (hb : Below w.heap.size w w1) (q : Nat) (hq : q < R.L.length) => (hR.below hb).without (fun y hy => h.new y (Nat.le_trans hb.size hy)) (Nat.le_trans hrel.ll h.few) hq)
    by_cases hl : 0 < xl
    · have hd : decide ((0 : Int) < xl) = true := decide_eq_true hl
      rw [if_pos hl]
      clear h hR hrel hfo hf ha he hr hrow HDR hl HWO
      generalize R.L.length = ll at HFO HRO c2
      go_enter Try.func32, Try.ntmps32
      go_wp2_with (go_at_call 60; refine HF.mono ?_; rintro e w' ⟨⟨z, rfl, hz⟩, rfl⟩; obtain ⟨q, rfl, hq, hp⟩ := (HFO.out z hz).1 rfl; obtain ⟨g, rfl, hcs⟩ := HRO.out.resolve_left (by omega); obtain ⟨x0, x1, x2, x3, x4, x5, x6⟩ := hcs q hq; rw [hp] at x0 x1 x2 x3 x4 x5 x6; dsimp only at x0 x1 x2 x3 x4 x5 x6; clear hz hcs hp)
      go_ret3
      exact ⟨rfl, HST.out _ ((Below.refl _ w).alloc (Nat.le_refl _) _)⟩
    · have hd : decide ((0 : Int) < xl) = false := decide_eq_false hl
      rw [if_neg hl] at HDR ⊢
      have HEND : Hid (∀ (w2 : World) (q : Nat) (J' : RfH), q < R.L.length → R.L.getD q one0 = ((k : Int), ⟨xh, xr, xrep, xown, xl, xc⟩) → RfR w0 G b w2 { R with L := R.L.eraseIdx q } J' → Kept G w w2 → RfF w0 G b w2 { S with tb := S.tb.set k (delT hh (S.tb.getD k [])) } (N + 1) ∧ Kept G w w2) := Lib.hid (fun w2 q J' hq hp hJ hK =>
        ⟨⟨⟨_, _, hJ, (hrel.drop hk hq (by rw [hp]) (by rw [hp]; exact hxh)).mono (Nat.le_succ _)⟩, HDR.out.mono (Nat.le_succ _), fun y hy => h.new y (Nat.le_trans hK.size hy), by omega⟩, hK⟩)
      have HGB := Lib.hid (And.intro hR.head.lt hR.gb)
      clear h hR hrel hfo hf ha he hr hrow HDR hl hxh
      generalize hll : R.L.length = ll at HFO HRO c2 HWO HEND
      clear hll
      go_enter Try.func32, Try.ntmps32
      go_wp2_with (first
        | (go_at_call 61; refine (HWO.out _ ((Below.refl _ w).alloc (Nat.le_refl _) _) q hq).mono ?_; rintro e w2 ⟨rfl, ⟨J', hJ⟩, hk2⟩; have HJ := Lib.hid hJ; have HK2 : Hid (Kept G w w2) := Lib.hid ((Kept.of_below ((Below.refl _ w).alloc (Nat.le_refl _) _)).trans (hk2.mono (fun y e => by rw [e]; exact HGB.out.2))); have bq := (BlkAt.new w #[.int .i64 xh, .int .i64 xr, .int .i64 xrep, .bool xown, .int .i64 xl, .int .i64 xc] 68).kept hk2 (fun e => by have := HGB.out.1; omega); have z2 := bq.cell 2; have z3 := bq.cell 3; simp at z2 z3; clear hJ hk2 bq)
        | (go_at_call 60; refine HF.mono ?_; rintro e w' ⟨⟨z, rfl, hz⟩, rfl⟩; obtain ⟨q, rfl, hq, hp⟩ := (HFO.out z hz).1 rfl; obtain ⟨g, rfl, hcs⟩ := HRO.out.resolve_left (by omega); obtain ⟨x0, x1, x2, x3, x4, x5, x6⟩ := hcs q hq; have HP := Lib.hid hp; rw [hp] at x0 x1 x2 x3 x4 x5 x6; dsimp only at x0 x1 x2 x3 x4 x5 x6; clear hz hcs hp))
      go_region
      all_goals go_wp2
      all_goals go_ret3
      all_goals have hh := HEND.out _ q J' hq HP.out (HJ.out.kept (F := fun _ => False) (Kept.refl _ _).drew (fun _ _ e => e) (fun _ e => e.elim)) HK2.out.drew
      all_goals exact ⟨rfl, hh.1, hh.2⟩
set_option maxRecDepth 100000 in
set_option maxHeartbeats 4000000 in
theorem RfF.take {w0 : World} {G : Nat → Prop} {b : Nat} {w : World} {S : Tb} {N : Nat} (h : RfF w0 G b w S N) (hN : N < 1000) (i r hh : Int) :
    Calls Try.prog 33 #[.pointer (some ⟨b, 0, none⟩), .int .i64 i, .int .i64 r, .int .i64 hh] w fun e w' => e = .returned (.tuple #[.int .i64 (takeS S i r hh).1, .int .i64 (takeS S i r hh).2.1]) ∧ RfF w0 G b w' (takeS S i r hh).2.2 (N + 1) ∧ Kept G w w' := by
  obtain ⟨R, J, hR, hrel⟩ := h.at'
  have HF := hR.find (Nat.le_trans hrel.ll (Nat.le_trans h.few (by decide))) i r hh
  have hfo := fun z hz => hrel.found h.ok (i := i) (r := r) (hh := hh) (z := z) hz
  have HDR := Lib.hid (h.ok.drop i r hh)
  have HST := Lib.hid (fun (w' : World) (hb : Below w.heap.size w w') => (show RfF w0 G b w' S (N + 1) ∧ Kept G w w' from ⟨(h.below hb).more (Nat.le_succ _) (by omega), Kept.of_below hb⟩))
  unfold takeS
  unfold dropS at HDR ⊢
  cases hf : (findT S.tb i r hh).2
  · rw [hf] at hfo
    have HFO := Lib.hid hfo
    clear h hR hrel hfo HDR
    simp only [Bool.false_and, Bool.false_eq_true, if_false]
    go_enter Try.func33, Try.ntmps33
    go_wp2_with (go_at_call 60; refine HF.mono ?_; rintro e w' ⟨⟨z, rfl, hz⟩, rfl⟩; obtain rfl := (HFO.out z hz).2 rfl; clear hz)
    go_ret2
    exact ⟨rfl, HST.out _ (Below.refl _ _)⟩
  · obtain ⟨k, x, rfl, hk, ha, hr, he⟩ := findT_yes hf
    rw [hf] at hfo HDR
    rw [he] at hfo HDR ⊢
    have hxh := (at?_mem ha).2
    obtain ⟨la, lc, elv, hrow⟩ := one_row hR.lr
    have c2 := hR.cells.2.2.1
    rw [elv] at c2
    rw [Int.toNat_natCast] at HDR ⊢
    simp only [if_true] at HDR ⊢
    have HFO := Lib.hid hfo
    have HRO := Lib.hid hrow
    obtain ⟨xh, xr, xrep, xown, xl, xc⟩ := x
    dsimp only at hxh HDR ⊢
    have HWO := Lib.hid (fun (w1 : World) (hb : Below w.heap.size w w1) (q : Nat) (hq : q < R.L.length) => (hR.below hb).without (fun y hy => h.new y (Nat.le_trans hb.size hy)) (Nat.le_trans hrel.ll h.few) hq)
    cases xown
    · clear h hR hrel hfo hf ha he hr hrow HDR HWO
      simp only [Bool.and_false, Bool.false_eq_true, if_false]
      generalize R.L.length = ll at HFO HRO c2
      go_enter Try.func33, Try.ntmps33
      go_wp2_with (go_at_call 60; refine HF.mono ?_; rintro e w' ⟨⟨z, rfl, hz⟩, rfl⟩; obtain ⟨q, rfl, hq, hp⟩ := (HFO.out z hz).1 rfl; obtain ⟨g, rfl, hcs⟩ := HRO.out.resolve_left (by omega); obtain ⟨x0, x1, x2, x3, x4, x5, x6⟩ := hcs q hq; rw [hp] at x0 x1 x2 x3 x4 x5 x6; dsimp only at x0 x1 x2 x3 x4 x5 x6; clear hz hcs hp)
      go_ret2
      exact ⟨rfl, HST.out _ (Below.refl _ _)⟩
    · simp only [Bool.and_self, if_true]
      by_cases hl : 0 < xl
      · have hd : decide ((0 : Int) < xl) = true := decide_eq_true hl
        rw [if_pos hl]
        clear h hR hrel hfo hf ha he hr hrow HDR hl HWO
        generalize R.L.length = ll at HFO HRO c2
        go_enter Try.func33, Try.ntmps33
        go_wp2_with (go_at_call 60; refine HF.mono ?_; rintro e w' ⟨⟨z, rfl, hz⟩, rfl⟩; obtain ⟨q, rfl, hq, hp⟩ := (HFO.out z hz).1 rfl; obtain ⟨g, rfl, hcs⟩ := HRO.out.resolve_left (by omega); obtain ⟨x0, x1, x2, x3, x4, x5, x6⟩ := hcs q hq; rw [hp] at x0 x1 x2 x3 x4 x5 x6; dsimp only at x0 x1 x2 x3 x4 x5 x6; clear hz hcs hp)
        go_ret2
        exact ⟨rfl, HST.out _ ((Below.refl _ w).alloc (Nat.le_refl _) _)⟩
      · have hd : decide ((0 : Int) < xl) = false := decide_eq_false hl
        rw [if_neg hl] at HDR ⊢
        have HEND : Hid (∀ (w2 : World) (q : Nat) (J' : RfH), q < R.L.length → R.L.getD q one0 = ((k : Int), ⟨xh, xr, xrep, true, xl, xc⟩) → RfR w0 G b w2 { R with L := R.L.eraseIdx q } J' → Kept G w w2 → RfF w0 G b w2 { S with tb := S.tb.set k (delT hh (S.tb.getD k [])) } (N + 1) ∧ Kept G w w2) := Lib.hid (fun w2 q J' hq hp hJ hK =>
          ⟨⟨⟨_, _, hJ, (hrel.drop hk hq (by rw [hp]) (by rw [hp]; exact hxh)).mono (Nat.le_succ _)⟩, HDR.out.mono (Nat.le_succ _), fun y hy => h.new y (Nat.le_trans hK.size hy), by omega⟩, hK⟩)
        have HGB := Lib.hid (And.intro hR.head.lt hR.gb)
        clear h hR hrel hfo hf ha he hr hrow HDR hl hxh
        generalize hll : R.L.length = ll at HFO HRO c2 HWO HEND
        clear hll
        generalize ({ S with tb := S.tb.set k (delT hh (S.tb.getD k [])) } : Tb) = S' at HEND ⊢
        go_enter Try.func33, Try.ntmps33
        go_wp2_with (first
          | (go_at_call 61; refine (HWO.out _ ((Below.refl _ w).alloc (Nat.le_refl _) _) q hq).mono ?_; rintro e w2 ⟨rfl, ⟨J', hJ⟩, hk2⟩; have HJ := Lib.hid hJ; have HK2 : Hid (Kept G w w2) := Lib.hid ((Kept.of_below ((Below.refl _ w).alloc (Nat.le_refl _) _)).trans (hk2.mono (fun y e => by rw [e]; exact HGB.out.2))); have bq := (BlkAt.new w #[.int .i64 xh, .int .i64 xr, .int .i64 xrep, .bool true, .int .i64 xl, .int .i64 xc] 68).kept hk2 (fun e => by have := HGB.out.1; omega); have z2 := bq.cell 2; have z3 := bq.cell 3; simp at z2 z3; clear hJ hk2 bq)
          | (go_at_call 60; refine HF.mono ?_; rintro e w' ⟨⟨z, rfl, hz⟩, rfl⟩; obtain ⟨q, rfl, hq, hp⟩ := (HFO.out z hz).1 rfl; obtain ⟨g, rfl, hcs⟩ := HRO.out.resolve_left (by omega); obtain ⟨x0, x1, x2, x3, x4, x5, x6⟩ := hcs q hq; have HP := Lib.hid hp; rw [hp] at x0 x1 x2 x3 x4 x5 x6; dsimp only at x0 x1 x2 x3 x4 x5 x6; clear hz hcs hp))
        go_ret2
        have hh := HEND.out _ q J' hq HP.out HJ.out HK2.out
        exact ⟨rfl, hh.1, hh.2⟩
end Go.Proofs.Ytglhfofofacekaa
