/- ctype: CtypeAligned: pure facts, and what the law asks of the numbers. -/
import Derived.Test.YtlkbgdhlbdjbiaaDoorCtCc
/- ctype: pure facts of sizes and places. -/
set_option linter.unusedVariables false
set_option linter.unusedSimpArgs false
namespace Go.Proofs.YtlkbgdhlbdjbiaaDoor
open Go.RowKit
open Lex Ct

theorem deep_kind {k : Nat} {t : Ty} (h : deepK k t = true) : t.kind ≠ 0 := by
  cases k with
  | zero => cases h
  | succ k =>
    intro e
    unfold deepK shapedB at h
    rw [e] at h
    simp [okW] at h
/-- The members: none where that may be, or as deep as one less. -/
theorem deep_part {k : Nat} {t x : Ty} (h : deepK (k + 1) t = true) (hx : x ∈ t.l) : isNone x = true ∨ deepK k x = true := by
  unfold deepK at h
  simp only [Bool.and_eq_true, List.all_eq_true, Bool.or_eq_true] at h
  rcases h.2 x hx with h | h
  · exact .inl h.2
  · exact .inr h
theorem deep_up : ∀ (k : Nat) (t : Ty), deepK k t = true → deepK (k + 1) t = true
  | 0, t, h => by cases h
  | k + 1, t, h => by
    have h0 := h
    unfold deepK at h ⊢
    simp only [Bool.and_eq_true, List.all_eq_true, Bool.or_eq_true] at h ⊢
    refine ⟨h.1, fun x hx => ?_⟩
    rcases h.2 x hx with h2 | h2
    · exact .inl h2
    · exact .inr (deep_up k x h2)
theorem csum_congr {k m : Nat} : ∀ (l : List Ty), (∀ x ∈ l, x.kind ≠ 0 → cntK k x = cntK m x) → csum k l = csum m l
  | [], _ => rfl
  | x :: r, h => by
    rw [csum_cons, csum_cons, csum_congr r fun y hy => h y (List.mem_cons_of_mem _ hy)]
    by_cases e : x.kind = 0
    · rw [if_pos e, if_pos e]
    · rw [if_neg e, if_neg e, h x List.mem_cons_self e]
theorem cnt_up : ∀ (k : Nat) (t : Ty), deepK k t = true → cntK (k + 1) t = cntK k t
  | 0, t, h => by cases h
  | k + 1, t, h => by
    rw [cntK_succ, cntK_succ, csum_congr t.l fun x hx hk => ?_]
    rcases deep_part h hx with h2 | h2
    · exact absurd (isNone_kind h2) hk
    · exact cnt_up k x h2
theorem fldS_congr {f g : Ty → Nat × Nat} (l : List Ty) (h : ∀ x ∈ l, f x = g x) : fldS f l = fldS g l := by
  unfold fldS
  generalize (([], 0, 1) : List Nat × Nat × Nat) = st
  induction l generalizing st with
  | nil => rfl
  | cons x r ih =>
    rw [List.foldl_cons, List.foldl_cons, h x List.mem_cons_self]
    exact ih (fun y hy => h y (List.mem_cons_of_mem _ hy)) _
theorem casS_congr {f g : Ty → Nat × Nat} (l : List Ty) (h : ∀ x ∈ l, f x = g x) : casS f l = casS g l := by
  unfold casS
  generalize ((0, 1) : Nat × Nat) = st
  induction l generalizing st with
  | nil => rfl
  | cons x r ih =>
    rw [List.foldl_cons, List.foldl_cons, h x List.mem_cons_self]
    exact ih (fun y hy => h y (List.mem_cons_of_mem _ hy)) _
theorem plainL_mem {t x : Ty} (h : x ∈ plainL t) : x.kind = 0 ∨ x ∈ t.l := by
  unfold plainL at h
  split at h
  · rw [List.eq_of_mem_replicate h]; exact .inl rfl
  · split at h
    · rcases List.mem_cons.1 h with rfl | h
      · exact .inl rfl
      · exact .inr h
    · exact .inr h
theorem lieK_zero {t : Ty} (h : t.kind = 0) : ∀ k, lieK k t = (0, 1)
  | 0 => rfl
  | k + 1 => by unfold lieK; rw [if_pos h]
theorem lie_up : ∀ (k : Nat) (t : Ty), deepK k t = true → lieK (k + 1) t = lieK k t
  | 0, t, h => by cases h
  | k + 1, t, h => by
    have hc : ∀ x ∈ t.l, lieK (k + 1) x = lieK k x := by
      intro x hx
      rcases deep_part h hx with h2 | h2
      · rw [lieK_zero (isNone_kind h2), lieK_zero (isNone_kind h2)]
      · exact lie_up k x h2
    have hp : ∀ x ∈ plainL t, lieK (k + 1) x = lieK k x := by
      intro x hx
      rcases plainL_mem hx with h2 | h2
      · rw [lieK_zero h2, lieK_zero h2]
      · exact hc x h2
    have e1 : fldV (lieK (k + 1)) t.l = fldV (lieK k) t.l := by unfold fldV; rw [fldS_congr t.l hc]
    have e2 : casV (lieK (k + 1)) (plainL t) = casV (lieK k) (plainL t) := by unfold casV casAt; rw [casS_congr (plainL t) hp]
    rw [lieK, lieK, e1, e2]
theorem okT_of {t : Ty} (h1 : deepK 16 t = true) (h2 : cntK 16 t ≤ 500) : okT t = true := by
  unfold okT
  rw [mayK_eq, if_pos ⟨h1, by omega⟩]
  rfl
theorem csum_mem {k : Nat} : ∀ {l : List Ty} {x : Ty}, x ∈ l → x.kind ≠ 0 → cntK k x ≤ csum k l
  | [], x, h, _ => by cases h
  | y :: r, x, h, hk => by
    rw [csum_cons]
    rcases List.mem_cons.1 h with rfl | h
    · rw [if_neg hk]; omega
    · have := csum_mem (k := k) h hk
      omega
/-- A MEMBER OF A TYPE THAT MAY BE is none, or may be itself, and lies as the whole reckons it. -/
theorem okT_child {t x : Ty} (h : okT t = true) (hx : x ∈ t.l) : x.kind = 0 ∨ (okT x = true ∧ lieK 16 x = lieK 15 x) := by
  obtain ⟨h1, h2⟩ := okT_deep h
  rcases deep_part h1 hx with h3 | h3
  · exact .inl (isNone_kind h3)
  · have hk := deep_kind h3
    refine .inr ⟨okT_of (deep_up 15 x h3) ?_, lie_up 15 x h3⟩
    rw [cnt_up 15 x h3]
    rw [show (16 : Nat) = 15 + 1 from rfl, cntK_succ] at h2
    have := csum_mem (k := 15) hx hk
    omega
/-- A SIZE is divided by its alignment; of what may be there is at least one byte. -/
theorem fldV_mod {f : Ty → Nat × Nat} {l : List Ty} (h : Al (fldS f l).2.2) : (fldV f l).1 % (fldV f l).2 = 0 := nxt_mod h
theorem casV_mod {f : Ty → Nat × Nat} {l : List Ty} (h : Al (casS f l).2) : (casV f l).1 % (casV f l).2 = 0 := nxt_mod (h.max (casB_al _))
theorem fldS_al (k : Nat) (l : List Ty) : Al (fldS (lieK k) l).2.2 := (fld_good (lieK_good k) l ([], 0, 1) 0 (.inl rfl) (Nat.le_refl _)).1
theorem casS_al (k : Nat) (l : List Ty) : Al (casS (lieK k) l).2 := (cas_good (lieK_good k) l (0, 1) 0 (.inl rfl) (.inl rfl)).1
theorem lie_mod (k : Nat) (t : Ty) : (lieK k t).1 % (lieK k t).2 = 0 := by
  cases k with
  | zero => rfl
  | succ k =>
    unfold lieK
    repeat' split
    any_goals rfl
    · unfold flg
      repeat' split
      all_goals rfl
    · exact fldV_mod (fldS_al k _)
    · exact casV_mod (casS_al k _)
/-- Fields: so many places as fields; each behind the one before, and divided. -/
theorem fldS_many (f : Ty → Nat × Nat) (l : List Ty) : ∀ i, i ≤ l.length → (fldS f (l.take i)).1.length = i
  | 0, _ => by rw [List.take_zero]; rfl
  | i + 1, h => by
    have hx : l[i]? = some l[i] := List.getElem?_eq_getElem h
    rw [fldS_snoc hx]
    show ((fldS f (l.take i)).1 ++ [_]).length = i + 1
    rw [List.length_append, fldS_many f l i (by omega)]
    rfl
theorem fldS_pre (f : Ty → Nat × Nat) (l : List Ty) (i : Nat) : ∀ m, i < m → m ≤ l.length → (fldS f (l.take m)).1[i]? = (fldS f (l.take (i + 1))).1[i]?
  | 0, h, _ => by omega
  | m + 1, h, hm => by
    by_cases e : i = m
    · rw [e]
    · have hx : l[m]? = some l[m] := List.getElem?_eq_getElem hm
      rw [fldS_snoc hx]
      show ((fldS f (l.take m)).1 ++ [_])[i]? = _
      rw [List.getElem?_append_left (by rw [fldS_many f l m (by omega)]; omega)]
      exact fldS_pre f l i m (by omega) (by omega)
/-- The place of field i; where the fields before it end. -/
theorem fldS_at (f : Ty → Nat × Nat) (l : List Ty) (i : Nat) (x : Ty) (hx : l[i]? = some x) : (fldS f l).1[i]? = some (nxt (fldS f (l.take i)).2.1 (f x).2) ∧ (fldS f (l.take (i + 1))).2.1 = nxt (fldS f (l.take i)).2.1 (f x).2 + (f x).1 := by
  have hi := (List.getElem?_eq_some_iff.1 hx).1
  have h1 := fldS_pre f l i l.length hi (Nat.le_refl _)
  rw [List.take_length] at h1
  rw [h1, fldS_snoc hx]
  refine ⟨?_, rfl⟩
  show ((fldS f (l.take i)).1 ++ [_])[i]? = _
  rw [List.getElem?_append_right (by rw [fldS_many f l i (by omega)]; omega), fldS_many f l i (by omega), Nat.sub_self]
  rfl
/-- The whole's alignment is divided by each field's. -/
theorem fold_max_le {f : Ty → Nat × Nat} : ∀ (l : List Ty) (st : List Nat × Nat × Nat), st.2.2 ≤ (l.foldl (fun st x => fldOne st (f x)) st).2.2 ∧ ∀ x ∈ l, (f x).2 ≤ (l.foldl (fun st x => fldOne st (f x)) st).2.2
  | [], st => ⟨Nat.le_refl _, fun x h => by cases h⟩
  | y :: r, st => by
    rw [List.foldl_cons]
    have ih := fold_max_le (f := f) r (fldOne st (f y))
    have h1 : max st.2.2 (f y).2 ≤ _ := ih.1
    refine ⟨by omega, fun x h => ?_⟩
    rcases List.mem_cons.1 h with rfl | h
    · omega
    · exact ih.2 x h
theorem cas_max_le {f : Ty → Nat × Nat} : ∀ (l : List Ty) (st : Nat × Nat), (st.1 ≤ (l.foldl (fun st x => casOne st (f x)) st).1 ∧ st.2 ≤ (l.foldl (fun st x => casOne st (f x)) st).2) ∧ ∀ x ∈ l, (f x).1 ≤ (l.foldl (fun st x => casOne st (f x)) st).1 ∧ (f x).2 ≤ (l.foldl (fun st x => casOne st (f x)) st).2
  | [], st => ⟨⟨Nat.le_refl _, Nat.le_refl _⟩, fun x h => by cases h⟩
  | y :: r, st => by
    rw [List.foldl_cons]
    have ih := cas_max_le (f := f) r (casOne st (f y))
    have h1 : max st.1 (f y).1 ≤ _ := ih.1.1
    have h2 : max st.2 (f y).2 ≤ _ := ih.1.2
    refine ⟨⟨by omega, by omega⟩, fun x h => ?_⟩
    rcases List.mem_cons.1 h with rfl | h
    · exact ⟨by omega, by omega⟩
    · exact ih.2 x h
end Go.Proofs.YtlkbgdhlbdjbiaaDoor

/- ctype: CtypeAligned: what the law asks of the numbers. -/
set_option linter.unusedVariables false
set_option linter.unusedSimpArgs false
namespace Go.Proofs.YtlkbgdhlbdjbiaaDoor
open Go.RowKit
open Lex Ct

/-- What the law asks of the numbers. -/
structure Nums (t : Ty) (n by' : Nat) (pl : List Nat) (E : Nat → Nat) (first inside : Nat) (xl : List Ty) : Prop where
  al : Al by'
  n1 : 1 ≤ n
  n2 : n ≤ 9000
  mod : n % by' = 0
  len : pl.length = t.l.length ∨ pl = []
  small : t.l.length ≤ 64
  e0 : E 0 = 0
  eb : ∀ i, i ≤ pl.length → E i ≤ n
  at' : ∀ i p x, pl[i]? = some p → t.l[i]? = some x → okT x = true ∧ E i ≤ p ∧ p % (lieK 16 x).2 = 0 ∧ by' % (lieK 16 x).2 = 0 ∧ E (i + 1) = p + (lieK 16 x).1
  xs : 0 < first → ∀ x ∈ xl, x.kind = 0 ∨ (okT x = true ∧ inside % (lieK 16 x).2 = 0 ∧ first ≤ inside ∧ inside + (lieK 16 x).1 ≤ n)
  xn : xl.length ≤ 64
theorem nxt_ge {n b : Nat} (h : Al b) : n ≤ nxt n b := (nxt_bound h).1
theorem lie_al (k : Nat) (t : Ty) : Al (lieK k t).2 := (lieK_good k t).al
/-- A type that may be is one of these. -/
theorem deep_shape {k : Nat} {t : Ty} (h : deepK (k + 1) t = true) : okW t.kind t.names.length t.l.length = true := by
  unfold deepK shapedB at h
  simp only [Bool.and_eq_true] at h
  exact h.1.1.1
theorem deep_mem {k : Nat} {t x : Ty} (h : deepK (k + 1) t = true) (ho : orN t.kind = false) (hx : x ∈ t.l) : deepK k x = true := by
  unfold deepK at h
  simp only [Bool.and_eq_true, List.all_eq_true, Bool.or_eq_true] at h
  rcases h.2 x hx with h2 | h2
  · rw [ho] at h2; cases h2.1
  · exact h2
theorem fld_pos {f : Ty → Nat × Nat} (hal : ∀ x, Al (f x).2) {l : List Ty} (hl : 1 ≤ l.length) (hs : ∀ x ∈ l, 1 ≤ (f x).1) : 1 ≤ (fldS f l).2.1 := by
  obtain ⟨i, hi⟩ : ∃ i, l.length = i + 1 := ⟨l.length - 1, by omega⟩
  have hx : l[i]? = some l[i] := List.getElem?_eq_getElem (by omega)
  have h1 := (fldS_at f l i _ hx).2
  rw [← hi, List.take_length] at h1
  have h2 := hs _ (List.mem_of_getElem? hx)
  omega
theorem lie_pos : ∀ (k : Nat) (t : Ty), deepK k t = true → 1 ≤ (lieK k t).1
  | 0, t, h => by cases h
  | k + 1, t, h => by
    have hk := deep_kind h
    have hw := deep_shape h
    unfold lieK
    rw [if_neg hk]
    split
    · exact Nat.le_refl _
    split
    · decide
    split
    · decide
    split
    · decide
    split
    · unfold flg
      repeat' split
      all_goals decide
    split
    · rename_i h13
      have ho : orN t.kind = false := by rcases h13 with e | e <;> rw [e] <;> rfl
      have hl : 1 ≤ t.l.length := by
        rcases h13 with e | e <;> rw [e] at hw <;> simp [okW] at hw <;> omega
      have h1 := fld_pos (lie_al k) hl fun x hx => lie_pos k x (deep_mem h ho hx)
      have h2 := nxt_ge (n := (fldS (lieK k) t.l).2.1) (fldS_al k t.l)
      show 1 ≤ nxt (fldS (lieK k) t.l).2.1 (fldS (lieK k) t.l).2.2
      omega
    split
    · have h1 : 1 ≤ casB (plainL t).length := by unfold casB; split <;> decide
      have h2 := nxt_ge (n := casB (plainL t).length) (casS_al k (plainL t))
      have h3 := nxt_ge (n := casAt (lieK k) (plainL t) + (casS (lieK k) (plainL t)).1) ((casS_al k (plainL t)).max (casB_al (plainL t).length))
      have h4 : casAt (lieK k) (plainL t) = nxt (casB (plainL t).length) (casS (lieK k) (plainL t)).2 := rfl
      show 1 ≤ nxt (casAt (lieK k) (plainL t) + (casS (lieK k) (plainL t)).1) _
      omega
    · decide
def endF (t : Ty) (i : Nat) : Nat := (fldS (lieK 15) (t.l.take i)).2.1
theorem endF_step {t x : Ty} {i : Nat} (hx : t.l[i]? = some x) : endF t (i + 1) = nxt (endF t i) (lieK 15 x).2 + (lieK 15 x).1 := (fldS_at (lieK 15) t.l i x hx).2
theorem endF_le {t : Ty} : ∀ (m i : Nat), i ≤ m → m ≤ t.l.length → endF t i ≤ endF t m
  | 0, i, h, _ => by rw [show i = 0 by omega]; exact Nat.le_refl _
  | m + 1, i, h, hm => by
    by_cases e : i = m + 1
    · rw [e]; exact Nat.le_refl _
    · have hx : t.l[m]? = some t.l[m] := List.getElem?_eq_getElem hm
      have h1 := endF_step hx
      have h2 := nxt_ge (n := endF t m) (lie_al 15 t.l[m])
      have h3 := endF_le (t := t) m i (by omega) (by omega)
      omega
theorem lie_record {t : Ty} (h : t.kind = 13 ∨ t.kind = 14) : lieK 16 t = fldV (lieK 15) t.l := by
  unfold lieK
  rcases h with e | e <;> rw [e] <;> simp
theorem lie_variant {t : Ty} (h : t.kind = 15 ∨ t.kind = 16 ∨ t.kind = 17 ∨ t.kind = 18) : lieK 16 t = casV (lieK 15) (plainL t) := by
  unfold lieK
  rcases h with e | e | e | e <;> rw [e] <;> simp
theorem plain_variant {t : Ty} (h : (plainT t).kind = 15) (ho : okT t = true) : t.kind = 15 ∨ t.kind = 16 ∨ t.kind = 17 ∨ t.kind = 18 := by
  unfold plainT at h
  split at h
  · cases h
  split at h
  · omega
  split at h
  · omega
  split at h
  · omega
  · omega
theorem nums_of (t : Ty) (ho : okT t = true) : Nums t (lieK 16 t).1 (lieK 16 t).2 (placesL t) (endF t) (caseP t).1 (caseP t).2 (plainL t) := by
  obtain ⟨hd, hc⟩ := okT_deep ho
  have hg := lieK_good 16 t
  have hk := okT_zero ho
  have hn1 := lie_pos 16 t hd
  have hn2 := hg.some hk
  have hpl : placesL t = if t.kind = 13 ∨ t.kind = 14 then (fldS (lieK 15) t.l).1 else [] := by
    unfold placesL
    by_cases e : t.kind = 13 ∨ t.kind = 14
    · rw [if_pos ⟨ho, e⟩, if_pos e]
    · rw [if_neg (fun q => e q.2), if_neg e]
  have hm := fldS_many (lieK 15) t.l t.l.length (Nat.le_refl _)
  rw [List.take_length] at hm
  refine ⟨hg.al, hn1, by omega, lie_mod 16 t, ?_, (okT_lens ho).2.1, rfl, ?_, ?_, ?_, (okT_lens ho).2.2⟩
  · rw [hpl]
    split
    · exact .inl hm
    · exact .inr rfl
  · intro i hi
    rw [hpl] at hi
    split at hi
    · rename_i hr
      rw [hm] at hi
      have h1 := endF_le (t := t) t.l.length i hi (Nat.le_refl _)
      have h2 : endF t t.l.length = (fldS (lieK 15) t.l).2.1 := by unfold endF; rw [List.take_length]
      have h3 := nxt_ge (n := (fldS (lieK 15) t.l).2.1) (fldS_al 15 t.l)
      rw [lie_record hr]
      show endF t i ≤ nxt (fldS (lieK 15) t.l).2.1 (fldS (lieK 15) t.l).2.2
      omega
    · have hi0 : i = 0 := by simpa using hi
      subst hi0
      exact Nat.zero_le _
  · intro i p x hp hx
    rw [hpl] at hp
    split at hp
    · rename_i hr
      have hmem := List.mem_of_getElem? hx
      have horn : orN t.kind = false := by rcases hr with e | e <;> rw [e] <;> rfl
      have hxd := deep_mem hd horn hmem
      have hxk := deep_kind hxd
      obtain ⟨hox, hlx⟩ := (okT_child ho hmem).resolve_left hxk
      obtain ⟨h1, h2⟩ := fldS_at (lieK 15) t.l i x hx
      rw [h1] at hp
      cases hp
      rw [hlx]
      have hmax := (fold_max_le (f := lieK 15) t.l ([], 0, 1)).2 x hmem
      refine ⟨hox, nxt_ge (lie_al 15 x), nxt_mod (lie_al 15 x), ?_, h2⟩
      rw [lie_record hr]
      exact Al.dvd (lie_al 15 x) (fldS_al 15 t.l) hmax
    · simp at hp
  · intro hf x hx
    unfold caseP at hf ⊢
    split at hf
    · rename_i h15
      rw [if_pos h15]
      have hv := plain_variant h15 ho
      rcases plainL_mem hx with h0 | hmem
      · exact .inl h0
      · rcases okT_child ho hmem with h0 | ⟨hox, hlx⟩
        · exact .inl h0
        · right
          rw [hlx, lie_variant hv]
          obtain ⟨hmax1, hmax2⟩ := (cas_max_le (f := lieK 15) (plainL t) (0, 1)).2 x hx
          have hal := casS_al 15 (plainL t)
          have hcd := Al.dvd (lie_al 15 x) hal hmax2
          have hat : casAt (lieK 15) (plainL t) = nxt (casB (plainL t).length) (casS (lieK 15) (plainL t)).2 := rfl
          have hge := nxt_ge (n := casB (plainL t).length) hal
          have hge2 := nxt_ge (n := casAt (lieK 15) (plainL t) + (casS (lieK 15) (plainL t)).1) (hal.max (casB_al (plainL t).length))
          have hmod := nxt_mod (n := casB (plainL t).length) hal
          refine ⟨hox, ?_, by show casB (plainL t).length ≤ casAt (lieK 15) (plainL t); omega, ?_⟩
          · show casAt (lieK 15) (plainL t) % (lieK 15 x).2 = 0
            rw [hat]
            exact Nat.mod_eq_zero_of_dvd (Nat.dvd_trans (Nat.dvd_of_mod_eq_zero hcd) (Nat.dvd_of_mod_eq_zero hmod))
          · have hmax1' : (lieK 15 x).1 ≤ (casS (lieK 15) (plainL t)).1 := hmax1
            show casAt (lieK 15) (plainL t) + (lieK 15 x).1 ≤ nxt (casAt (lieK 15) (plainL t) + (casS (lieK 15) (plainL t)).1) _
            omega
    · cases hf
end Go.Proofs.YtlkbgdhlbdjbiaaDoor
