/- ctype, the reference -/
import Derived.Test.YtikgkjkgdlnekaaGreatDoorCtWC
import Derived.Deep.RegionHeld3
import Derived.Test.YtikgkjkgdlnekaaGreatDoorUtfBits
import Derived.Deep.RegionWith
import Derived.Deep.RegionLaw
import Derived.Deep.AppendLies
/- ctype: CtypeAligned: pure facts, and what the law asks of the numbers. -/
/- ctype: pure facts of sizes and places. -/
set_option linter.unusedVariables false
set_option linter.unusedSimpArgs false
namespace Go.Proofs.YtikgkjkgdlnekaaGreatDoor
open Go.RowKit
open Lex Ct

theorem deep_kind {k : Nat} {t : Ty} (h : deepK k t = true) : t.kind ≠ 0 := by
  cases k with
  | zero => cases h
  | succ k =>
    intro e
    unfold deepK shapedB at h
    rw [e] at h
    simp [okW] at h
/-- The members: none where that may be, or as deep as one less. -/
theorem deep_part {k : Nat} {t x : Ty} (h : deepK (k + 1) t = true) (hx : x ∈ t.l) : isNone x = true ∨ deepK k x = true := by
  unfold deepK at h
  simp only [Bool.and_eq_true, List.all_eq_true, Bool.or_eq_true] at h
  rcases h.2 x hx with h | h
  · exact .inl h.2
  · exact .inr h
theorem deep_up : ∀ (k : Nat) (t : Ty), deepK k t = true → deepK (k + 1) t = true
  | 0, t, h => by cases h
  | k + 1, t, h => by
    have h0 := h
    unfold deepK at h ⊢
    simp only [Bool.and_eq_true, List.all_eq_true, Bool.or_eq_true] at h ⊢
    refine ⟨h.1, fun x hx => ?_⟩
    rcases h.2 x hx with h2 | h2
    · exact .inl h2
    · exact .inr (deep_up k x h2)
theorem csum_congr {k m : Nat} : ∀ (l : List Ty), (∀ x ∈ l, x.kind ≠ 0 → cntK k x = cntK m x) → csum k l = csum m l
  | [], _ => rfl
  | x :: r, h => by
    rw [csum_cons, csum_cons, csum_congr r fun y hy => h y (List.mem_cons_of_mem _ hy)]
    by_cases e : x.kind = 0
    · rw [if_pos e, if_pos e]
    · rw [if_neg e, if_neg e, h x List.mem_cons_self e]
theorem cnt_up : ∀ (k : Nat) (t : Ty), deepK k t = true → cntK (k + 1) t = cntK k t
  | 0, t, h => by cases h
  | k + 1, t, h => by
    rw [cntK_succ, cntK_succ, csum_congr t.l fun x hx hk => ?_]
    rcases deep_part h hx with h2 | h2
    · exact absurd (isNone_kind h2) hk
    · exact cnt_up k x h2
theorem fldS_congr {f g : Ty → Nat × Nat} (l : List Ty) (h : ∀ x ∈ l, f x = g x) : fldS f l = fldS g l := by
  unfold fldS
  generalize (([], 0, 1) : List Nat × Nat × Nat) = st
  induction l generalizing st with
  | nil => rfl
  | cons x r ih =>
    rw [List.foldl_cons, List.foldl_cons, h x List.mem_cons_self]
    exact ih (fun y hy => h y (List.mem_cons_of_mem _ hy)) _
theorem casS_congr {f g : Ty → Nat × Nat} (l : List Ty) (h : ∀ x ∈ l, f x = g x) : casS f l = casS g l := by
  unfold casS
  generalize ((0, 1) : Nat × Nat) = st
  induction l generalizing st with
  | nil => rfl
  | cons x r ih =>
    rw [List.foldl_cons, List.foldl_cons, h x List.mem_cons_self]
    exact ih (fun y hy => h y (List.mem_cons_of_mem _ hy)) _
theorem plainL_mem {t x : Ty} (h : x ∈ plainL t) : x.kind = 0 ∨ x ∈ t.l := by
  unfold plainL at h
  split at h
  · rw [List.eq_of_mem_replicate h]; exact .inl rfl
  · split at h
    · rcases List.mem_cons.1 h with rfl | h
      · exact .inl rfl
      · exact .inr h
    · exact .inr h
theorem lieK_zero {t : Ty} (h : t.kind = 0) : ∀ k, lieK k t = (0, 1)
  | 0 => rfl
  | k + 1 => by unfold lieK; rw [if_pos h]
theorem lie_up : ∀ (k : Nat) (t : Ty), deepK k t = true → lieK (k + 1) t = lieK k t
  | 0, t, h => by cases h
  | k + 1, t, h => by
    have hc : ∀ x ∈ t.l, lieK (k + 1) x = lieK k x := by
      intro x hx
      rcases deep_part h hx with h2 | h2
      · rw [lieK_zero (isNone_kind h2), lieK_zero (isNone_kind h2)]
      · exact lie_up k x h2
    have hp : ∀ x ∈ plainL t, lieK (k + 1) x = lieK k x := by
      intro x hx
      rcases plainL_mem hx with h2 | h2
      · rw [lieK_zero h2, lieK_zero h2]
      · exact hc x h2
    have e1 : fldV (lieK (k + 1)) t.l = fldV (lieK k) t.l := by unfold fldV; rw [fldS_congr t.l hc]
    have e2 : casV (lieK (k + 1)) (plainL t) = casV (lieK k) (plainL t) := by unfold casV casAt; rw [casS_congr (plainL t) hp]
    rw [lieK, lieK, e1, e2]
theorem okT_of {t : Ty} (h1 : deepK 16 t = true) (h2 : cntK 16 t ≤ 500) : okT t = true := by
  unfold okT
  rw [mayK_eq, if_pos ⟨h1, by omega⟩]
  rfl
theorem csum_mem {k : Nat} : ∀ {l : List Ty} {x : Ty}, x ∈ l → x.kind ≠ 0 → cntK k x ≤ csum k l
  | [], x, h, _ => by cases h
  | y :: r, x, h, hk => by
    rw [csum_cons]
    rcases List.mem_cons.1 h with rfl | h
    · rw [if_neg hk]; omega
    · have := csum_mem (k := k) h hk
      omega
/-- A MEMBER OF A TYPE THAT MAY BE is none, or may be itself, and lies as the whole reckons it. -/
theorem okT_child {t x : Ty} (h : okT t = true) (hx : x ∈ t.l) : x.kind = 0 ∨ (okT x = true ∧ lieK 16 x = lieK 15 x) := by
  obtain ⟨h1, h2⟩ := okT_deep h
  rcases deep_part h1 hx with h3 | h3
  · exact .inl (isNone_kind h3)
  · have hk := deep_kind h3
    refine .inr ⟨okT_of (deep_up 15 x h3) ?_, lie_up 15 x h3⟩
    rw [cnt_up 15 x h3]
    rw [show (16 : Nat) = 15 + 1 from rfl, cntK_succ] at h2
    have := csum_mem (k := 15) hx hk
    omega
/-- A SIZE is divided by its alignment; of what may be there is at least one byte. -/
theorem fldV_mod {f : Ty → Nat × Nat} {l : List Ty} (h : Al (fldS f l).2.2) : (fldV f l).1 % (fldV f l).2 = 0 := nxt_mod h
theorem casV_mod {f : Ty → Nat × Nat} {l : List Ty} (h : Al (casS f l).2) : (casV f l).1 % (casV f l).2 = 0 := nxt_mod (h.max (casB_al _))
theorem fldS_al (k : Nat) (l : List Ty) : Al (fldS (lieK k) l).2.2 := (fld_good (lieK_good k) l ([], 0, 1) 0 (.inl rfl) (Nat.le_refl _)).1
theorem casS_al (k : Nat) (l : List Ty) : Al (casS (lieK k) l).2 := (cas_good (lieK_good k) l (0, 1) 0 (.inl rfl) (.inl rfl)).1
theorem lie_mod (k : Nat) (t : Ty) : (lieK k t).1 % (lieK k t).2 = 0 := by
  cases k with
  | zero => rfl
  | succ k =>
    unfold lieK
    repeat' split
    any_goals rfl
    · unfold flg
      repeat' split
      all_goals rfl
    · exact fldV_mod (fldS_al k _)
    · exact casV_mod (casS_al k _)
/-- Fields: so many places as fields; each behind the one before, and divided. -/
theorem fldS_many (f : Ty → Nat × Nat) (l : List Ty) : ∀ i, i ≤ l.length → (fldS f (l.take i)).1.length = i
  | 0, _ => by rw [List.take_zero]; rfl
  | i + 1, h => by
    have hx : l[i]? = some l[i] := List.getElem?_eq_getElem h
    rw [fldS_snoc hx]
    show ((fldS f (l.take i)).1 ++ [_]).length = i + 1
    rw [List.length_append, fldS_many f l i (by omega)]
    rfl
theorem fldS_pre (f : Ty → Nat × Nat) (l : List Ty) (i : Nat) : ∀ m, i < m → m ≤ l.length → (fldS f (l.take m)).1[i]? = (fldS f (l.take (i + 1))).1[i]?
  | 0, h, _ => by omega
  | m + 1, h, hm => by
    by_cases e : i = m
    · rw [e]
    · have hx : l[m]? = some l[m] := List.getElem?_eq_getElem hm
      rw [fldS_snoc hx]
      show ((fldS f (l.take m)).1 ++ [_])[i]? = _
      rw [List.getElem?_append_left (by rw [fldS_many f l m (by omega)]; omega)]
      exact fldS_pre f l i m (by omega) (by omega)
/-- The place of field i; where the fields before it end. -/
theorem fldS_at (f : Ty → Nat × Nat) (l : List Ty) (i : Nat) (x : Ty) (hx : l[i]? = some x) : (fldS f l).1[i]? = some (nxt (fldS f (l.take i)).2.1 (f x).2) ∧ (fldS f (l.take (i + 1))).2.1 = nxt (fldS f (l.take i)).2.1 (f x).2 + (f x).1 := by
  have hi := (List.getElem?_eq_some_iff.1 hx).1
  have h1 := fldS_pre f l i l.length hi (Nat.le_refl _)
  rw [List.take_length] at h1
  rw [h1, fldS_snoc hx]
  refine ⟨?_, rfl⟩
  show ((fldS f (l.take i)).1 ++ [_])[i]? = _
  rw [List.getElem?_append_right (by rw [fldS_many f l i (by omega)]; omega), fldS_many f l i (by omega), Nat.sub_self]
  rfl
/-- The whole's alignment is divided by each field's. -/
theorem fold_max_le {f : Ty → Nat × Nat} : ∀ (l : List Ty) (st : List Nat × Nat × Nat), st.2.2 ≤ (l.foldl (fun st x => fldOne st (f x)) st).2.2 ∧ ∀ x ∈ l, (f x).2 ≤ (l.foldl (fun st x => fldOne st (f x)) st).2.2
  | [], st => ⟨Nat.le_refl _, fun x h => by cases h⟩
  | y :: r, st => by
    rw [List.foldl_cons]
    have ih := fold_max_le (f := f) r (fldOne st (f y))
    have h1 : max st.2.2 (f y).2 ≤ _ := ih.1
    refine ⟨by omega, fun x h => ?_⟩
    rcases List.mem_cons.1 h with rfl | h
    · omega
    · exact ih.2 x h
theorem cas_max_le {f : Ty → Nat × Nat} : ∀ (l : List Ty) (st : Nat × Nat), (st.1 ≤ (l.foldl (fun st x => casOne st (f x)) st).1 ∧ st.2 ≤ (l.foldl (fun st x => casOne st (f x)) st).2) ∧ ∀ x ∈ l, (f x).1 ≤ (l.foldl (fun st x => casOne st (f x)) st).1 ∧ (f x).2 ≤ (l.foldl (fun st x => casOne st (f x)) st).2
  | [], st => ⟨⟨Nat.le_refl _, Nat.le_refl _⟩, fun x h => by cases h⟩
  | y :: r, st => by
    rw [List.foldl_cons]
    have ih := cas_max_le (f := f) r (casOne st (f y))
    have h1 : max st.1 (f y).1 ≤ _ := ih.1.1
    have h2 : max st.2 (f y).2 ≤ _ := ih.1.2
    refine ⟨⟨by omega, by omega⟩, fun x h => ?_⟩
    rcases List.mem_cons.1 h with rfl | h
    · exact ⟨by omega, by omega⟩
    · exact ih.2 x h
end Go.Proofs.YtikgkjkgdlnekaaGreatDoor

/- ctype: CtypeAligned: what the law asks of the numbers. -/
set_option linter.unusedVariables false
set_option linter.unusedSimpArgs false
namespace Go.Proofs.YtikgkjkgdlnekaaGreatDoor
open Go.RowKit
open Lex Ct

/-- What the law asks of the numbers. -/
structure Nums (t : Ty) (n by' : Nat) (pl : List Nat) (E : Nat → Nat) (first inside : Nat) (xl : List Ty) : Prop where
  al : Al by'
  n1 : 1 ≤ n
  n2 : n ≤ 9000
  mod : n % by' = 0
  len : pl.length = t.l.length ∨ pl = []
  small : t.l.length ≤ 64
  e0 : E 0 = 0
  eb : ∀ i, i ≤ pl.length → E i ≤ n
  at' : ∀ i p x, pl[i]? = some p → t.l[i]? = some x → okT x = true ∧ E i ≤ p ∧ p % (lieK 16 x).2 = 0 ∧ by' % (lieK 16 x).2 = 0 ∧ E (i + 1) = p + (lieK 16 x).1
  xs : 0 < first → ∀ x ∈ xl, x.kind = 0 ∨ (okT x = true ∧ inside % (lieK 16 x).2 = 0 ∧ first ≤ inside ∧ inside + (lieK 16 x).1 ≤ n)
  xn : xl.length ≤ 64
theorem nxt_ge {n b : Nat} (h : Al b) : n ≤ nxt n b := (nxt_bound h).1
theorem lie_al (k : Nat) (t : Ty) : Al (lieK k t).2 := (lieK_good k t).al
/-- A type that may be is one of these. -/
theorem deep_shape {k : Nat} {t : Ty} (h : deepK (k + 1) t = true) : okW t.kind t.names.length t.l.length = true := by
  unfold deepK shapedB at h
  simp only [Bool.and_eq_true] at h
  exact h.1.1.1
theorem deep_mem {k : Nat} {t x : Ty} (h : deepK (k + 1) t = true) (ho : orN t.kind = false) (hx : x ∈ t.l) : deepK k x = true := by
  unfold deepK at h
  simp only [Bool.and_eq_true, List.all_eq_true, Bool.or_eq_true] at h
  rcases h.2 x hx with h2 | h2
  · rw [ho] at h2; cases h2.1
  · exact h2
theorem fld_pos {f : Ty → Nat × Nat} (hal : ∀ x, Al (f x).2) {l : List Ty} (hl : 1 ≤ l.length) (hs : ∀ x ∈ l, 1 ≤ (f x).1) : 1 ≤ (fldS f l).2.1 := by
  obtain ⟨i, hi⟩ : ∃ i, l.length = i + 1 := ⟨l.length - 1, by omega⟩
  have hx : l[i]? = some l[i] := List.getElem?_eq_getElem (by omega)
  have h1 := (fldS_at f l i _ hx).2
  rw [← hi, List.take_length] at h1
  have h2 := hs _ (List.mem_of_getElem? hx)
  omega
theorem lie_pos : ∀ (k : Nat) (t : Ty), deepK k t = true → 1 ≤ (lieK k t).1
  | 0, t, h => by cases h
  | k + 1, t, h => by
    have hk := deep_kind h
    have hw := deep_shape h
    unfold lieK
    rw [if_neg hk]
    split
    · exact Nat.le_refl _
    split
    · decide
    split
    · decide
    split
    · decide
    split
    · unfold flg
      repeat' split
      all_goals decide
    split
    · rename_i h13
      have ho : orN t.kind = false := by rcases h13 with e | e <;> rw [e] <;> rfl
      have hl : 1 ≤ t.l.length := by
        rcases h13 with e | e <;> rw [e] at hw <;> simp [okW] at hw <;> omega
      have h1 := fld_pos (lie_al k) hl fun x hx => lie_pos k x (deep_mem h ho hx)
      have h2 := nxt_ge (n := (fldS (lieK k) t.l).2.1) (fldS_al k t.l)
      show 1 ≤ nxt (fldS (lieK k) t.l).2.1 (fldS (lieK k) t.l).2.2
      omega
    split
    · have h1 : 1 ≤ casB (plainL t).length := by unfold casB; split <;> decide
      have h2 := nxt_ge (n := casB (plainL t).length) (casS_al k (plainL t))
      have h3 := nxt_ge (n := casAt (lieK k) (plainL t) + (casS (lieK k) (plainL t)).1) ((casS_al k (plainL t)).max (casB_al (plainL t).length))
      have h4 : casAt (lieK k) (plainL t) = nxt (casB (plainL t).length) (casS (lieK k) (plainL t)).2 := rfl
      show 1 ≤ nxt (casAt (lieK k) (plainL t) + (casS (lieK k) (plainL t)).1) _
      omega
    · decide
def endF (t : Ty) (i : Nat) : Nat := (fldS (lieK 15) (t.l.take i)).2.1
theorem endF_step {t x : Ty} {i : Nat} (hx : t.l[i]? = some x) : endF t (i + 1) = nxt (endF t i) (lieK 15 x).2 + (lieK 15 x).1 := (fldS_at (lieK 15) t.l i x hx).2
theorem endF_le {t : Ty} : ∀ (m i : Nat), i ≤ m → m ≤ t.l.length → endF t i ≤ endF t m
  | 0, i, h, _ => by rw [show i = 0 by omega]; exact Nat.le_refl _
  | m + 1, i, h, hm => by
    by_cases e : i = m + 1
    · rw [e]; exact Nat.le_refl _
    · have hx : t.l[m]? = some t.l[m] := List.getElem?_eq_getElem hm
      have h1 := endF_step hx
      have h2 := nxt_ge (n := endF t m) (lie_al 15 t.l[m])
      have h3 := endF_le (t := t) m i (by omega) (by omega)
      omega
theorem lie_record {t : Ty} (h : t.kind = 13 ∨ t.kind = 14) : lieK 16 t = fldV (lieK 15) t.l := by
  unfold lieK
  rcases h with e | e <;> rw [e] <;> simp
theorem lie_variant {t : Ty} (h : t.kind = 15 ∨ t.kind = 16 ∨ t.kind = 17 ∨ t.kind = 18) : lieK 16 t = casV (lieK 15) (plainL t) := by
  unfold lieK
  rcases h with e | e | e | e <;> rw [e] <;> simp
theorem plain_variant {t : Ty} (h : (plainT t).kind = 15) (ho : okT t = true) : t.kind = 15 ∨ t.kind = 16 ∨ t.kind = 17 ∨ t.kind = 18 := by
  unfold plainT at h
  split at h
  · cases h
  split at h
  · omega
  split at h
  · omega
  split at h
  · omega
  · omega
theorem nums_of (t : Ty) (ho : okT t = true) : Nums t (lieK 16 t).1 (lieK 16 t).2 (placesL t) (endF t) (caseP t).1 (caseP t).2 (plainL t) := by
  obtain ⟨hd, hc⟩ := okT_deep ho
  have hg := lieK_good 16 t
  have hk := okT_zero ho
  have hn1 := lie_pos 16 t hd
  have hn2 := hg.some hk
  have hpl : placesL t = if t.kind = 13 ∨ t.kind = 14 then (fldS (lieK 15) t.l).1 else [] := by
    unfold placesL
    by_cases e : t.kind = 13 ∨ t.kind = 14
    · rw [if_pos ⟨ho, e⟩, if_pos e]
    · rw [if_neg (fun q => e q.2), if_neg e]
  have hm := fldS_many (lieK 15) t.l t.l.length (Nat.le_refl _)
  rw [List.take_length] at hm
  refine ⟨hg.al, hn1, by omega, lie_mod 16 t, ?_, (okT_lens ho).2.1, rfl, ?_, ?_, ?_, (okT_lens ho).2.2⟩
  · rw [hpl]
    split
    · exact .inl hm
    · exact .inr rfl
  · intro i hi
    rw [hpl] at hi
    split at hi
    · rename_i hr
      rw [hm] at hi
      have h1 := endF_le (t := t) t.l.length i hi (Nat.le_refl _)
      have h2 : endF t t.l.length = (fldS (lieK 15) t.l).2.1 := by unfold endF; rw [List.take_length]
      have h3 := nxt_ge (n := (fldS (lieK 15) t.l).2.1) (fldS_al 15 t.l)
      rw [lie_record hr]
      show endF t i ≤ nxt (fldS (lieK 15) t.l).2.1 (fldS (lieK 15) t.l).2.2
      omega
    · have hi0 : i = 0 := by simpa using hi
      subst hi0
      exact Nat.zero_le _
  · intro i p x hp hx
    rw [hpl] at hp
    split at hp
    · rename_i hr
      have hmem := List.mem_of_getElem? hx
      have horn : orN t.kind = false := by rcases hr with e | e <;> rw [e] <;> rfl
      have hxd := deep_mem hd horn hmem
      have hxk := deep_kind hxd
      obtain ⟨hox, hlx⟩ := (okT_child ho hmem).resolve_left hxk
      obtain ⟨h1, h2⟩ := fldS_at (lieK 15) t.l i x hx
      rw [h1] at hp
      cases hp
      rw [hlx]
      have hmax := (fold_max_le (f := lieK 15) t.l ([], 0, 1)).2 x hmem
      refine ⟨hox, nxt_ge (lie_al 15 x), nxt_mod (lie_al 15 x), ?_, h2⟩
      rw [lie_record hr]
      exact Al.dvd (lie_al 15 x) (fldS_al 15 t.l) hmax
    · simp at hp
  · intro hf x hx
    unfold caseP at hf ⊢
    split at hf
    · rename_i h15
      rw [if_pos h15]
      have hv := plain_variant h15 ho
      rcases plainL_mem hx with h0 | hmem
      · exact .inl h0
      · rcases okT_child ho hmem with h0 | ⟨hox, hlx⟩
        · exact .inl h0
        · right
          rw [hlx, lie_variant hv]
          obtain ⟨hmax1, hmax2⟩ := (cas_max_le (f := lieK 15) (plainL t) (0, 1)).2 x hx
          have hal := casS_al 15 (plainL t)
          have hcd := Al.dvd (lie_al 15 x) hal hmax2
          have hat : casAt (lieK 15) (plainL t) = nxt (casB (plainL t).length) (casS (lieK 15) (plainL t)).2 := rfl
          have hge := nxt_ge (n := casB (plainL t).length) hal
          have hge2 := nxt_ge (n := casAt (lieK 15) (plainL t) + (casS (lieK 15) (plainL t)).1) (hal.max (casB_al (plainL t).length))
          have hmod := nxt_mod (n := casB (plainL t).length) hal
          refine ⟨hox, ?_, by show casB (plainL t).length ≤ casAt (lieK 15) (plainL t); omega, ?_⟩
          · show casAt (lieK 15) (plainL t) % (lieK 15 x).2 = 0
            rw [hat]
            exact Nat.mod_eq_zero_of_dvd (Nat.dvd_trans (Nat.dvd_of_mod_eq_zero hcd) (Nat.dvd_of_mod_eq_zero hmod))
          · have hmax1' : (lieK 15 x).1 ≤ (casS (lieK 15) (plainL t)).1 := hmax1
            show casAt (lieK 15) (plainL t) + (lieK 15 x).1 ≤ nxt (casAt (lieK 15) (plainL t) + (casS (lieK 15) (plainL t)).1) _
            omega
    · cases hf
end Go.Proofs.YtikgkjkgdlnekaaGreatDoor

/- ctype: the chapter's examples. -/
set_option linter.unusedVariables false
set_option linter.unusedSimpArgs false
namespace Go.Proofs.YtikgkjkgdlnekaaGreatDoor
open Go.RowKit
open Lex Ct

namespace Ct
def tU8 : Ty := .mk 3 [] [] 0
def tU16 : Ty := .mk 5 [] [] 0
def tU32 : Ty := .mk 7 [] [] 0
def tU64 : Ty := .mk 9 [] [] 0
def tStr : Ty := .mk 11 [] [] 0
def exA : Ty := .mk 13 [[97], [98], [99]] [tU8, tU32, tU16] 0
def exB : Ty := .mk 17 [] [tU64] 0
def exC : Ty := .mk 15 [[97], [98]] [tStr, tU64] 0
theorem okA : okT exA = true := by decide +kernel
theorem okB : okT exB = true := by decide +kernel
theorem okC : okT exC = true := by decide +kernel
theorem lieA : lieK 16 exA = (12, 4) := by decide +kernel
theorem lieB : lieK 16 exB = (16, 8) := by decide +kernel
theorem plcA : placesL exA = [0, 4, 8] := by decide +kernel
theorem corB : coreK 16 exB = [127, 126] := by decide +kernel
theorem corC : coreK 16 exC = [127, 126, 127] := by decide +kernel
theorem fine_mk {k r : Int} {n : List Nm} {l : List Ty} (hn : ∀ b ∈ n, NmOk b) (hl : ∀ x ∈ l, FineT x) : FineT (.mk k n l r) := by
  have h1 : FineL (n.map U.s) := by
    rw [← flat_strs]
    clear hl
    induction n with
    | nil => exact trivial
    | cons b r ih =>
      rw [List.flatMap_cons]
      exact ⟨hn b List.mem_cons_self, ih fun x hx => hn x (List.mem_cons_of_mem _ hx)⟩
  have h2 : FineL (encTys l) := by
    clear h1 hn
    induction l with
    | nil => exact trivial
    | cons x r ih =>
      show FineL (encTy x ++ encTys r)
      exact FineL_append.2 ⟨hl x List.mem_cons_self, ih fun y hy => hl y (List.mem_cons_of_mem _ hy)⟩
  exact ⟨trivial, h1, h2, trivial, trivial⟩
theorem fine_leaf (k : Int) : FineT (.mk k [] [] 0) := fine_mk (fun b hb => by cases hb) (fun b hb => by cases hb)
theorem nm_one (c : Int) (h : 0 ≤ c ∧ c < 256) : NmOk [c] := ⟨fun z hz => by rw [List.mem_singleton.1 hz]; exact h, by simp [maxLen]⟩
theorem fineA : FineT exA := fine_mk (fun b hb => by simp at hb; rcases hb with rfl | rfl | rfl <;> exact nm_one _ (by decide)) (fun x hx => by simp at hx; rcases hx with rfl | rfl | rfl <;> exact fine_leaf _)
theorem fineB : FineT exB := fine_mk (fun b hb => by cases hb) (fun x hx => by simp at hx; rcases hx with rfl; exact fine_leaf _)
theorem fineC : FineT exC := fine_mk (fun b hb => by simp at hb; rcases hb with rfl | rfl <;> exact nm_one _ (by decide)) (fun x hx => by simp at hx; rcases hx with rfl | rfl <;> exact fine_leaf _)
end Ct
theorem BlkAt.up {w : World} {b : Nat} {cs : Array Value} {T : TypeId} (h : BlkAt w b cs T) (o : Obj) : BlkAt (w.alloc o) b cs T := h.kept (F := fun _ => False) ((Kept.refl _ _).new o) id
abbrev leafO (k : Int) : Obj := .cells #[.int .i64 k, .slice none 0 0, .slice none 0 0, .int .i64 0] 25
abbrev awA (w : World) : World := (((((((((w.alloc (leafO 3)).alloc (leafO 5)).alloc (leafO 7)).alloc (leafO 9)).alloc (leafO 11)).alloc (leafO 3)).alloc (leafO 5)).alloc (leafO 7)).alloc (leafO 9)).alloc (leafO 11)
abbrev awNA : Array Value := #[.string ⟨#[97]⟩, .string ⟨#[98]⟩, .string ⟨#[99]⟩]
abbrev awLA : Array Value := #[.int .i64 3, .slice none 0 0, .slice none 0 0, .int .i64 0, .int .i64 7, .slice none 0 0, .slice none 0 0, .int .i64 0, .int .i64 5, .slice none 0 0, .slice none 0 0, .int .i64 0]
abbrev awTA (b : Nat) : Array Value := #[.int .i64 13, .slice (some ⟨b, 0, none⟩) 3 3, .slice (some ⟨b + 1, 0, none⟩) 3 3, .int .i64 0]
abbrev awB (w : World) : World := (((awA w).alloc (.cells awNA 9)).alloc (.cells awLA 25)).alloc (.cells (awTA (w.heap.size + 1 + 1 + 1 + 1 + 1 + 1 + 1 + 1 + 1 + 1)) 25)
abbrev awLB : Array Value := #[.int .i64 9, .slice none 0 0, .slice none 0 0, .int .i64 0]
abbrev awTB (b : Nat) : Array Value := #[.int .i64 17, .slice none 0 0, .slice (some ⟨b, 0, none⟩) 1 1, .int .i64 0]
abbrev awC (w : World) : World := (((awB w).alloc (.cells awLB 25)).alloc (.cells (awTB (w.heap.size + 1 + 1 + 1 + 1 + 1 + 1 + 1 + 1 + 1 + 1 + 1 + 1 + 1)) 25)).alloc (.cells (awTB (w.heap.size + 1 + 1 + 1 + 1 + 1 + 1 + 1 + 1 + 1 + 1 + 1 + 1 + 1)) 25)
abbrev awNC : Array Value := #[.string ⟨#[97]⟩, .string ⟨#[98]⟩]
abbrev awLC : Array Value := #[.int .i64 11, .slice none 0 0, .slice none 0 0, .int .i64 0, .int .i64 9, .slice none 0 0, .slice none 0 0, .int .i64 0]
abbrev awTC (b : Nat) : Array Value := #[.int .i64 15, .slice (some ⟨b, 0, none⟩) 2 2, .slice (some ⟨b + 1, 0, none⟩) 2 2, .int .i64 0]
abbrev awD (w : World) : World := (((awC w).alloc (.cells awNC 9)).alloc (.cells awLC 25)).alloc (.cells (awTC (w.heap.size + 1 + 1 + 1 + 1 + 1 + 1 + 1 + 1 + 1 + 1 + 1 + 1 + 1 + 1 + 1 + 1)) 25)
/-- What the examples' blocks are. -/
structure AwkAt (n0 : Nat) (w : World) : Prop where
  a : BlkAt w (n0 + 1 + 1) (awTA n0) 25
  na : BlkAt w n0 awNA 9
  la : BlkAt w (n0 + 1) awLA 25
  b : BlkAt w (n0 + 1 + 1 + 1 + 1 + 1) (awTB (n0 + 1 + 1 + 1)) 25
  lb : BlkAt w (n0 + 1 + 1 + 1) awLB 25
  c : BlkAt w (n0 + 1 + 1 + 1 + 1 + 1 + 1 + 1 + 1) (awTC (n0 + 1 + 1 + 1 + 1 + 1 + 1)) 25
  nc : BlkAt w (n0 + 1 + 1 + 1 + 1 + 1 + 1) awNC 9
  lc : BlkAt w (n0 + 1 + 1 + 1 + 1 + 1 + 1 + 1) awLC 25
theorem AwkAt.kept {b : Nat} {w w' : World} (h : AwkAt b w) (k : Kept (fun _ => False) w w') : AwkAt b w' := ⟨h.a.kept k id, h.na.kept k id, h.la.kept k id, h.b.kept k id, h.lb.kept k id, h.c.kept k id, h.nc.kept k id, h.lc.kept k id⟩
theorem leaf_lies (k : Int) (w : World) : LiesL AnyB w (encTy (.mk k [] [] 0)) [.int .i64 k, .slice none 0 0, .slice none 0 0, .int .i64 0] := ty_lies (t := .mk k [] [] 0) (liesU_nil _ _) (liesU_nil _ _)
theorem AwkAt.tyA {b : Nat} {w : World} (h : AwkAt b w) : TyAt w exA (some ⟨b, 0, none⟩) 3 (some ⟨b + 1, 0, none⟩) 3 :=
  ⟨liesU_blk (us := [U.s [97], U.s [98], U.s [99]]) h.na (Nat.le_refl _) (by omega) rfl (.cons (liesU_s [97]) (.cons (liesU_s [98]) (.cons (liesU_s [99]) .nil))),
   liesU_blk (us := encTy tU8 ++ (encTy tU32 ++ (encTy tU16 ++ []))) h.la (Nat.le_refl _) (by omega) rfl ((leaf_lies 3 w).append ((leaf_lies 7 w).append ((leaf_lies 5 w).append .nil)))⟩
theorem AwkAt.tyB {b : Nat} {w : World} (h : AwkAt b w) : TyAt w exB none 0 (some ⟨b + 1 + 1 + 1, 0, none⟩) 1 :=
  ⟨liesU_nil _ _, liesU_blk (us := encTy tU64 ++ []) h.lb (Nat.le_refl _) (by omega) rfl ((leaf_lies 9 w).append .nil)⟩
theorem AwkAt.tyC {b : Nat} {w : World} (h : AwkAt b w) : TyAt w exC (some ⟨b + 1 + 1 + 1 + 1 + 1 + 1, 0, none⟩) 2 (some ⟨b + 1 + 1 + 1 + 1 + 1 + 1 + 1, 0, none⟩) 2 :=
  ⟨liesU_blk (us := [U.s [97], U.s [98]]) h.nc (Nat.le_refl _) (by omega) rfl (.cons (liesU_s [97]) (.cons (liesU_s [98]) .nil)),
   liesU_blk (us := encTy tStr ++ (encTy tU64 ++ [])) h.lc (Nat.le_refl _) (by omega) rfl ((leaf_lies 11 w).append ((leaf_lies 9 w).append .nil))⟩
theorem awA_size (w : World) : (awA w).heap.size = w.heap.size + 1 + 1 + 1 + 1 + 1 + 1 + 1 + 1 + 1 + 1 := by simp only [World.size_alloc]
theorem awB_size (w : World) : (awB w).heap.size = w.heap.size + 1 + 1 + 1 + 1 + 1 + 1 + 1 + 1 + 1 + 1 + 1 + 1 + 1 := by simp only [World.size_alloc]
theorem awC_size (w : World) : (awC w).heap.size = w.heap.size + 1 + 1 + 1 + 1 + 1 + 1 + 1 + 1 + 1 + 1 + 1 + 1 + 1 + 1 + 1 + 1 := by simp only [World.size_alloc]
theorem awk_at (w : World) : AwkAt (w.heap.size + 1 + 1 + 1 + 1 + 1 + 1 + 1 + 1 + 1 + 1) (awD w) := by
  have a1 := BlkAt.new (awA w) awNA 9
  have a2 := BlkAt.new ((awA w).alloc (.cells awNA 9)) awLA 25
  have a3 := BlkAt.new (((awA w).alloc (.cells awNA 9)).alloc (.cells awLA 25)) (awTA (w.heap.size + 1 + 1 + 1 + 1 + 1 + 1 + 1 + 1 + 1 + 1)) 25
  have b1 := BlkAt.new (awB w) awLB 25
  have b3 := BlkAt.new (((awB w).alloc (.cells awLB 25)).alloc (.cells (awTB (w.heap.size + 1 + 1 + 1 + 1 + 1 + 1 + 1 + 1 + 1 + 1 + 1 + 1 + 1)) 25)) (awTB (w.heap.size + 1 + 1 + 1 + 1 + 1 + 1 + 1 + 1 + 1 + 1 + 1 + 1 + 1)) 25
  have c1 := BlkAt.new (awC w) awNC 9
  have c2 := BlkAt.new ((awC w).alloc (.cells awNC 9)) awLC 25
  have c3 := BlkAt.new (((awC w).alloc (.cells awNC 9)).alloc (.cells awLC 25)) (awTC (w.heap.size + 1 + 1 + 1 + 1 + 1 + 1 + 1 + 1 + 1 + 1 + 1 + 1 + 1 + 1 + 1 + 1)) 25
  simp only [World.size_alloc] at a1 a2 a3 b1 b3 c1 c2 c3
  exact ⟨(((((a3.up _).up _).up _).up _).up _).up _, (((((((a1.up _).up _).up _).up _).up _).up _).up _).up _, ((((((a2.up _).up _).up _).up _).up _).up _).up _, ((b3.up _).up _).up _, ((((b1.up _).up _).up _).up _).up _, c3, (c1.up _).up _, c2.up _⟩
theorem awD_kept (w : World) : Kept (fun _ => False) w (awD w) := ((((((((((((((((((((Kept.refl _ w).new _).new _).new _).new _).new _).new _).new _).new _).new _).new _).new _).new _).new _).new _).new _).new _).new _).new _).new _)
end Go.Proofs.YtikgkjkgdlnekaaGreatDoor

/- ctype: the reference's core types: one behind the other. -/
set_option linter.unusedVariables false
set_option linter.unusedSimpArgs false
namespace Go.Proofs.YtikgkjkgdlnekaaGreatDoor
open Go.RowKit
open Lex Ct

namespace Ct
/-- An enum has no types within. -/
def e16K : Nat → Ty → Prop
  | 0, _ => True
  | k + 1, t => (t.kind = 16 → t.l = []) ∧ ∀ x ∈ t.l, e16K k x
theorem e16_zero {k : Nat} {t : Ty} (hl : t.l = []) : e16K k t := by
  cases k with
  | zero => trivial
  | succ k => exact ⟨fun _ => hl, fun x hx => by rw [hl] at hx; cases hx⟩
theorem isNone_l {t : Ty} (h : isNone t = true) : t.l = [] := by
  unfold isNone at h
  simp at h
  exact h.2.2.2
theorem deepK_e16 : ∀ {k : Nat} {t : Ty}, deepK k t = true → e16K k t
  | 0, t, h => trivial
  | k + 1, t, h => by
    unfold deepK at h
    simp only [Bool.and_eq_true, List.all_eq_true, Bool.or_eq_true] at h
    have hs := h.1.1
    unfold shapedB at hs
    simp only [Bool.and_eq_true] at hs
    refine ⟨fun e => ?_, fun x hx => ?_⟩
    · have := hs.1
      rw [e] at this
      unfold okW at this
      simp at this
      exact this.2.2
    · rcases h.2 x hx with h1 | h1
      · exact e16_zero (isNone_l h1.2)
      · exact deepK_e16 h1
theorem ovF_plain {k : Nat} {t : Ty} (h : t.kind = 16 → t.l = []) : ovF (coreK k) (plainL t) = ovF (coreK k) t.l := by
  have hz : coreK k .zero = [] := (coreK_len k .zero).1 rfl
  unfold plainL
  by_cases h16 : t.kind = 16
  · rw [if_pos h16, h h16]
    have : ∀ (n : Nat) (o : List Int), (List.replicate n Ty.zero).foldl (fun o x => ovR o 0 (coreK k x)) o = o := by
      intro n
      induction n with
      | zero => intro o; rfl
      | succ n ih =>
        intro o
        rw [List.replicate_succ, List.foldl_cons, hz]
        exact ih o
    exact this _ _
  · rw [if_neg h16]
    split
    · unfold ovF
      rw [List.foldl_cons, hz]
      rfl
    · rfl
end Ct
end Go.Proofs.YtikgkjkgdlnekaaGreatDoor

/- ctype: the reference's core types: one over the other; a type's. -/
set_option linter.unusedVariables false
set_option linter.unusedSimpArgs false
namespace Go.Proofs.YtikgkjkgdlnekaaGreatDoor
open Go.RowKit
open Lex Ct

end Go.Proofs.YtikgkjkgdlnekaaGreatDoor

/- ctype: the reference's next multiple, alignment and size. -/
set_option linter.unusedVariables false
set_option linter.unusedSimpArgs false
namespace Go.Proofs.YtikgkjkgdlnekaaGreatDoor
open Go.RowKit
open Lex Ct

theorem nxt_at {n b m : Nat} (hb : Al b) (h1 : n ≤ m) (h2 : m ≤ nxt n b) (h3 : m % b = 0) : m = nxt n b := by
  unfold nxt at *
  rcases hb with rfl | rfl | rfl | rfl <;> omega
theorem nxt_below {n b m : Nat} (hb : Al b) (h1 : n ≤ m) (h2 : m ≤ nxt n b) (h3 : m % b ≠ 0) : m + 1 ≤ nxt n b := by
  unfold nxt at *
  rcases hb with rfl | rfl | rfl | rfl <;> omega
theorem alNe {A : Nat} (h : Al A) : ((A : Int) == 0) = false := by rw [beq_eq_false_iff_ne]; have := h.le; omega
theorem alLt {A : Nat} (h : Al A) : decide ((A : Int) < 1) = false := decide_eq_false (by have := h.le; omega)
theorem stepUp {n k : Nat} (h : k < n) : n - (intOf (Value.int .i64 ((k : Int) + 1))).toNat < n - (intOf (Value.int .i64 (k : Int))).toNat := by
  simp [intOf]
  omega
theorem tmod_cast (a b : Nat) : (a : Int).tmod (b : Int) = ((a % b : Nat) : Int) := by
  rw [Int.tmod_eq_emod_of_nonneg (by omega)]
  first | exact (Int.natCast_emod a b).symm | exact (Int.ofNat_emod a b).symm | simp
def mxS (f : Ty → Nat × Nat) (l : List Ty) : Nat := (casS f l).1
def mxA (f : Ty → Nat × Nat) (l : List Ty) : Nat := (casS f l).2
theorem mxA_step {f : Ty → Nat × Nat} {l : List Ty} {i : Nat} {x : Ty} (hx : l[i]? = some x) : mxA f (l.take (i + 1)) = max (mxA f (l.take i)) (f x).2 := by
  unfold mxA
  rw [casS_snoc hx]
  rfl
theorem mxS_step {f : Ty → Nat × Nat} {l : List Ty} {i : Nat} {x : Ty} (hx : l[i]? = some x) : mxS f (l.take (i + 1)) = max (mxS f (l.take i)) (f x).1 := by
  unfold mxS
  rw [casS_snoc hx]
  rfl
theorem mxCast (a b : Nat) : max (a : Int) (b : Int) = ((max a b : Nat) : Int) := by omega
end Go.Proofs.YtikgkjkgdlnekaaGreatDoor

/- ctype: the reference's size. -/
set_option linter.unusedVariables false
set_option linter.unusedSimpArgs false
namespace Go.Proofs.YtikgkjkgdlnekaaGreatDoor
open Go.RowKit
open Lex Ct

abbrev NumR (F : FuncId) (t : Ty) (v : Nat) : Prop := ∀ an cn al cl w, TyAt w t an cn al cl → Calls Tryz.prog F #[tyV t an cn al cl] w fun y w' => y = .returned (.int .i64 (v : Nat)) ∧ Kept (fun _ => False) w w'
end Go.Proofs.YtikgkjkgdlnekaaGreatDoor

/- ctype: the reference's size, of what has types within. -/
set_option linter.unusedVariables false
set_option linter.unusedSimpArgs false
namespace Go.Proofs.YtikgkjkgdlnekaaGreatDoor
open Go.RowKit
open Lex Ct

def endN (f : Ty → Nat × Nat) (l : List Ty) (i : Nat) : Nat := (fldS f (l.take i)).2.1
theorem endN_step {f : Ty → Nat × Nat} {l : List Ty} {i : Nat} {x : Ty} (hx : l[i]? = some x) : endN f l (i + 1) = nxt (endN f l i) (f x).2 + (f x).1 := (fldS_at f l i x hx).2
end Go.Proofs.YtikgkjkgdlnekaaGreatDoor

/- ctype: the reference's alignment and size, of every type that may be. -/
set_option linter.unusedVariables false
set_option linter.unusedSimpArgs false
namespace Go.Proofs.YtikgkjkgdlnekaaGreatDoor
open Go.RowKit
open Lex Ct

/-- A type of kinds that there are. -/
def gK : Nat → Ty → Prop
  | 0, t => t.kind = 0
  | k + 1, t => t.kind = 0 ∨ ((1 ≤ t.kind ∧ t.kind ≤ 21) ∧ (t.kind = 16 → t.l = []) ∧ ∀ x ∈ t.l, gK k x)
theorem gK_zero {k : Nat} {t : Ty} (h : t.kind = 0) : gK k t := by
  cases k with
  | zero => exact h
  | succ k => exact .inl h
theorem deepK_gK : ∀ {k : Nat} {t : Ty}, deepK k t = true → gK k t
  | 0, t, h => by cases h
  | k + 1, t, h => by
    refine .inr ⟨deepK_kind h, fun e => ?_, fun x hx => ?_⟩
    · have hw := deep_shape h
      rw [e] at hw
      simp [okW] at hw
      exact hw.2.2
    · rcases deep_part h hx with h2 | h2
      · exact gK_zero (isNone_kind h2)
      · exact deepK_gK h2
theorem casS_plain {f : Ty → Nat × Nat} {t : Ty} (hz : f .zero = (0, 1)) (h : t.kind = 16 → t.l = []) : casS f (plainL t) = casS f t.l := by
  unfold plainL
  by_cases h16 : t.kind = 16
  · rw [if_pos h16, h h16]
    have : ∀ (n : Nat) (o : Nat × Nat), 1 ≤ o.2 → (List.replicate n Ty.zero).foldl (fun o x => casOne o (f x)) o = o := by
      intro n
      induction n with
      | zero => intro o _; rfl
      | succ n ih =>
        intro o ho
        rw [List.replicate_succ, List.foldl_cons, hz]
        have e : casOne o (0, 1) = o := by
          unfold casOne
          obtain ⟨a, b⟩ := o
          have ho : 1 ≤ b := ho
          show (max a 0, max b 1) = (a, b)
          rw [Nat.max_eq_left (Nat.zero_le _), Nat.max_eq_left ho]
        rw [e]
        exact ih o ho
    exact this _ _ (Nat.le_refl _)
  · rw [if_neg h16]
    split
    · unfold casS
      rw [List.foldl_cons, hz]
      rfl
    · rfl
theorem fld_cas {f : Ty → Nat × Nat} (l : List Ty) : (fldS f l).2.2 = (casS f l).2 := by
  unfold fldS casS
  have : ∀ (l : List Ty) (a : List Nat × Nat × Nat) (b : Nat × Nat), a.2.2 = b.2 → (l.foldl (fun st x => fldOne st (f x)) a).2.2 = (l.foldl (fun st x => casOne st (f x)) b).2 := by
    intro l
    induction l with
    | nil => intro a b h; exact h
    | cons x r ih =>
      intro a b h
      rw [List.foldl_cons, List.foldl_cons]
      exact ih _ _ (by show max a.2.2 (f x).2 = max b.2 (f x).2; rw [h])
  exact this l _ _ rfl
theorem fit_len {k : Nat} {t : Ty} (h : Fit (k + 1) t) (h0 : t.kind ≠ 0) : t.l.length ≤ 64 ∧ t.names.length ≤ 64 := by
  rcases h.fit with e | e
  · exact absurd e h0
  · exact ⟨e.2.1, e.1⟩
end Go.Proofs.YtikgkjkgdlnekaaGreatDoor

/- ctype: what is told of a type as Plain: the same numbers, the same core types. -/
set_option linter.unusedVariables false
set_option linter.unusedSimpArgs false
namespace Go.Proofs.YtikgkjkgdlnekaaGreatDoor
open Go.RowKit
open Lex Ct

theorem plain_kinds {t : Ty} (ho : okT t = true) : (plainT t).kind = 13 ∧ (t.kind = 13 ∨ t.kind = 14) ∨ (plainT t).kind = 15 ∧ (t.kind = 15 ∨ t.kind = 16 ∨ t.kind = 17 ∨ t.kind = 18) ∨ plainT t = t ∧ t.kind ≠ 13 ∧ t.kind ≠ 14 ∧ t.kind ≠ 15 ∧ t.kind ≠ 16 ∧ t.kind ≠ 17 ∧ t.kind ≠ 18 := by
  have hw := deep_shape (k := 15) (okT_deep ho).1
  unfold plainT
  by_cases h14 : t.kind = 14
  · rw [if_pos h14]; exact .inl ⟨rfl, .inr h14⟩
  rw [if_neg h14]
  by_cases h16 : t.kind = 16
  · rw [if_pos h16]; exact .inr (.inl ⟨rfl, by omega⟩)
  rw [if_neg h16]
  by_cases h17 : t.kind = 17
  · have hl : t.l.length = 1 := by
      rw [h17] at hw
      simp [okW] at hw
      exact hw.2
    rw [if_pos ⟨h17, hl⟩]; exact .inr (.inl ⟨rfl, by omega⟩)
  rw [if_neg (fun q => h17 q.1)]
  by_cases h18 : t.kind = 18
  · have hl : t.l.length = 2 := by
      rw [h18] at hw
      simp [okW] at hw
      exact hw.2
    rw [if_pos ⟨h18, hl⟩]; exact .inr (.inl ⟨rfl, by omega⟩)
  rw [if_neg (fun q => h18 q.1)]
  by_cases h13 : t.kind = 13
  · exact .inl ⟨h13, .inl h13⟩
  by_cases h15 : t.kind = 15
  · exact .inr (.inl ⟨h15, .inl h15⟩)
  exact .inr (.inr ⟨rfl, h13, h14, h15, h16, h17, h18⟩)
theorem e16_of {t : Ty} (ho : okT t = true) : t.kind = 16 → t.l = [] := fun e => by
  have hw := deep_shape (k := 15) (okT_deep ho).1
  rw [e] at hw
  simp [okW] at hw
  exact hw.2.2
theorem csum_plainE {k : Nat} {t : Ty} (h : t.kind = 16 → t.l = []) : csum k (plainL t) = csum k t.l := by
  unfold plainL
  by_cases h16 : t.kind = 16
  · rw [if_pos h16, h h16]
    have : ∀ n, csum k (List.replicate n Ty.zero) = 0 := by
      intro n
      induction n with
      | zero => rfl
      | succ n ih => rw [List.replicate_succ, csum_cons, ih]; rfl
    rw [this]
    rfl
  · rw [if_neg h16]
    split
    · rw [csum_cons]
      show (if (0 : Int) = 0 then 0 else _) + _ = _
      rw [if_pos rfl, Nat.zero_add]
    · rfl
theorem plain_child {t x : Ty} (ho : okT t = true) (hx : x ∈ plainL t) : x.kind = 0 ∨ deepK 15 x = true := by
  rcases plainL_mem hx with h | h
  · exact .inl h
  · rcases deep_part (k := 15) (okT_deep ho).1 h with h2 | h2
    · exact .inl (isNone_kind h2)
    · exact .inr h2
theorem plain_names {t : Ty} (ho : okT t = true) : (plainT t).names.length ≤ 64 := by
  have h := okT_lens ho
  unfold plainT
  split
  · show ((List.range t.l.length).map digs).length ≤ 64
    rw [List.length_map, List.length_range]
    exact h.2.1
  split
  · exact h.1
  split
  · show 2 ≤ 64; decide
  split
  · show 2 ≤ 64; decide
  · exact h.1
theorem plain_fit {t : Ty} (ho : okT t = true) : Fit 16 (plainT t) := by
  refine ⟨.inr ⟨plain_names ho, by rw [plainT_l]; exact (okT_lens ho).2.2, fun x hx => ?_⟩, fun _ => ?_⟩
  · rw [plainT_l] at hx
    rcases plain_child ho hx with h | h
    · exact fit_zero h
    · exact deepK_fit h
  · have h := (okT_deep ho).2
    rw [show (16 : Nat) = 15 + 1 from rfl, cntK_succ] at h ⊢
    rw [plainT_l, csum_plainE (e16_of ho)]
    exact h
theorem e16_kind0 {k : Nat} {t : Ty} (h : t = .zero) : e16K k t := by rw [h]; exact e16_zero rfl
theorem plain_zero_or {t x : Ty} (hx : x ∈ plainL t) : x = .zero ∨ x ∈ t.l := by
  unfold plainL at hx
  split at hx
  · exact .inl (List.eq_of_mem_replicate hx)
  · split at hx
    · rcases List.mem_cons.1 hx with rfl | hx
      · exact .inl rfl
      · exact .inr hx
    · exact .inr hx
theorem plain_e16 {t : Ty} (ho : okT t = true) : e16K 16 (plainT t) := by
  refine ⟨fun e => ?_, fun x hx => ?_⟩
  · rcases plain_kinds ho with ⟨h, _⟩ | ⟨h, _⟩ | ⟨h, h2⟩
    · omega
    · omega
    · rw [h] at e; omega
  · rw [plainT_l] at hx
    rcases plain_zero_or hx with h | h
    · exact e16_kind0 h
    · exact (deepK_e16 (okT_deep ho).1).2 x h
theorem plain_gK {t : Ty} (ho : okT t = true) : gK 16 (plainT t) := by
  have hk := deepK_kind (okT_deep ho).1
  refine .inr ⟨?_, fun e => ?_, fun x hx => ?_⟩
  · rcases plain_kinds ho with ⟨h, _⟩ | ⟨h, _⟩ | ⟨h, h2⟩
    · omega
    · omega
    · rw [h]; exact hk
  · rcases plain_kinds ho with ⟨h, _⟩ | ⟨h, _⟩ | ⟨h, h2⟩
    · omega
    · omega
    · rw [h] at e; omega
  · rw [plainT_l] at hx
    rcases plain_child ho hx with h | h
    · exact gK_zero h
    · exact deepK_gK h
theorem plainL_again {t : Ty} (ho : okT t = true) : plainL (plainT t) = plainL t := by
  rcases plain_kinds ho with ⟨h, _⟩ | ⟨h, _⟩ | ⟨h, h2⟩
  · rw [← plainT_l t]
    unfold plainL
    rw [if_neg (by omega), if_neg (by omega)]
  · rw [← plainT_l t]
    conv => lhs; unfold plainL
    rw [if_neg (by omega), if_neg (by omega)]
  · rw [h]
theorem plain_lie {t : Ty} (ho : okT t = true) : lieK 16 (plainT t) = lieK 16 t := by
  rcases plain_kinds ho with ⟨h, h2⟩ | ⟨h, h2⟩ | ⟨h, h2⟩
  · rw [lie_record (.inl h), lie_record h2, plainT_l]
    unfold plainL
    rw [if_neg (by omega), if_neg (by omega)]
  · rw [lie_variant (.inl h), lie_variant h2, plainL_again ho]
  · rw [h]
theorem core_record {t : Ty} (h : t.kind = 13 ∨ t.kind = 14) : coreK 16 t = behL (coreK 15) t.l := by
  unfold coreK
  rcases h with e | e <;> rw [e] <;> simp
theorem core_variant {t : Ty} (h : t.kind = 15 ∨ t.kind = 16 ∨ t.kind = 17 ∨ t.kind = 18) : coreK 16 t = ovF (coreK 15) (plainL t) := by
  unfold coreK
  rcases h with e | e | e | e <;> rw [e] <;> simp
theorem plain_core {t : Ty} (ho : okT t = true) : coreK 16 (plainT t) = coreK 16 t := by
  rcases plain_kinds ho with ⟨h, h2⟩ | ⟨h, h2⟩ | ⟨h, h2⟩
  · rw [core_record (.inl h), core_record h2, plainT_l]
    unfold plainL
    rw [if_neg (by omega), if_neg (by omega)]
  · rw [core_variant (.inl h), core_variant h2, plainL_again ho]
  · rw [h]
end Go.Proofs.YtikgkjkgdlnekaaGreatDoor

/- ctype: the reference's digits. -/
set_option linter.unusedVariables false
set_option linter.unusedSimpArgs false
namespace Go.Proofs.YtikgkjkgdlnekaaGreatDoor
open Go.RowKit
open Lex Ct

theorem conv_at (b : Nat) (n : Int) (w : World) (hc : w.cell? ⟨b, 0, none⟩ = some (.int .u8 n)) : (convert 91 9 (.slice (some ⟨b, 0, none⟩) 1 1)).run Tryz.prog w = .ok (.string (strOfNums [n])) w := by
  refine run_convert_bytes_arg _ 91 5 Tryz.underlying91 Tryz.underlying5 b 0 1 1 [n] rfl ?_ 9 Tryz.underlying9
  intro i hi
  obtain rfl : i = 0 := by omega
  exact hc
theorem one_conv_drew' (n : Int) (w : World) : (convert 91 9 (.slice (some ⟨w.heap.size, 0, none⟩) 1 1)).run Tryz.prog (w.alloc (.cells #[.int .u8 n] 5)).drew = .ok (.string (strOfNums [n])) (w.alloc (.cells #[.int .u8 n] 5)).drew :=
  conv_at _ _ _ (World.cell?_alloc_mark w _ _ _ 0)
set_option maxRecDepth 100000 in
set_option maxHeartbeats 2000000 in
theorem ref_dig1 (n : Nat) (h10 : n < 10) (w : World) :
    Calls Tryz.prog 63 #[.int .i64 n] w fun e w' => e = .returned (.string (strOfNums [48 + (n : Int)])) ∧ Below w.heap.size w w' := by
  have hb := Below.refl w.heap.size w
  have hcv := one_conv (48 + (n : Int)) w
  go_enter Tryz.func63, Tryz.ntmps63
  go_wp2_with fail
  go_ret
  exact ⟨rfl, hb.alloc (Nat.le_refl _) _⟩
set_option maxRecDepth 100000 in
set_option maxHeartbeats 1000000 in
theorem rdRefDigits (n : Nat) (h64 : n < 64) (w : World) :
    Calls Tryz.prog 63 #[.int .i64 n] w fun e w' => e = .returned (.string (strOfNums (digs n))) ∧ Below w.heap.size w w' := by
  unfold digs
  by_cases h10 : n < 10
  · rw [if_pos h10]
    exact ref_dig1 n h10 w
  rw [if_neg h10]
  obtain ⟨r, hr⟩ : ∃ r, r = n % 10 := ⟨_, rfl⟩
  obtain ⟨q, hq⟩ : ∃ q, q = n / 10 := ⟨_, rfl⟩
  have hr9 : r < 10 := by omega
  have hq10 : q < 10 := by omega
  have e1 : (n : Int).tdiv 10 = (q : Int) := by rw [Int.tdiv_eq_ediv_of_nonneg (by omega), hq]; omega
  have e2 : (n : Int).tmod 10 = (r : Int) := by rw [Int.tmod_eq_emod_of_nonneg (by omega), hr]; omega
  rw [← hr, ← hq]
  obtain ⟨D, hD⟩ : ∃ D, D = strOfNums [48 + (q : Int)] := ⟨_, rfl⟩
  have hi := fun w => ref_dig1 q hq10 w
  have hfin : strOfNums [48 + (q : Int), 48 + (r : Int)] = D ++ strOfNums [48 + (r : Int)] := by rw [hD, strOfNums_app]; rfl
  have hDs : D.size ≤ 4 := by rw [hD, strOfNums_size]; simp
  have hS1 : (strOfNums [48 + (r : Int)]).size = 1 := strOfNums_size _
  rw [← hD] at hi
  rw [hfin]
  have IH := Lib.hid hi
  have hn10 : 10 ≤ n := by omega
  have hb := Below.refl w.heap.size w
  clear hi hfin hD hq hr h10
  have hcv := one_conv_drew' (48 + (r : Int)) w
  have hwq : IntKind.i64.wrap (q : Int) = (q : Int) := by rw [IntKind.wrap_i64]; omega
  have hwr : IntKind.i64.wrap (r : Int) = (r : Int) := by rw [IntKind.wrap_i64]; omega
  have hws : IntKind.i64.wrap (48 + (r : Int)) = 48 + (r : Int) := by rw [IntKind.wrap_i64]; omega
  have hwu : IntKind.u8.wrap (48 + (r : Int)) = 48 + (r : Int) := by simp [IntKind.wrap, IntKind.signed, IntKind.bits]; omega
  go_enter Tryz.func63, Tryz.ntmps63
  go_wp2_with fail
  have HPRE : Hid (∀ w2, Below (w.alloc (.cells #[.int .u8 (48 + (r : Int))] 5)).drew.heap.size (w.alloc (.cells #[.int .u8 (48 + (r : Int))] 5)).drew w2 → w2.cell? ⟨w.heap.size, 0, none⟩ = some (.int .u8 (48 + (r : Int)))) :=
    Lib.hid fun w2 k => (k.cell (p := ⟨w.heap.size, 0, none⟩) (by simp)).trans (World.cell?_alloc_mark w _ _ _ 0)
  go_region_with (first
    | (go_at_call 63; refine (IH.out w.drew).mono ?_; rintro e w2 ⟨rfl, k2⟩; have hb2 := hb.drew.trans k2; have hb3 := hb2.alloc hb2.size (.cells #[.int .u8 (48 + (r : Int))] 5); have hcv2 := one_conv (48 + (r : Int)) w2)
    | (go_at_call 63; refine (IH.out (w.alloc (.cells #[.int .u8 (48 + (r : Int))] 5)).drew).mono ?_; rintro e w2 ⟨rfl, k2⟩; have hb2 := ((hb.alloc (Nat.le_refl _) (.cells #[.int .u8 (48 + (r : Int))] 5)).drew).trans (k2.mono (show w.heap.size ≤ (w.alloc (.cells #[.int .u8 (48 + (r : Int))] 5)).drew.heap.size by simp)); have hcv3 := conv_at w.heap.size (48 + (r : Int)) w2 (HPRE.out w2 k2)))
  all_goals go_wp2
  all_goals go_ret
  all_goals first | exact ⟨rfl, hb2⟩ | exact ⟨rfl, hb2.alloc hb2.size _⟩ | exact ⟨rfl, hb3⟩
end Go.Proofs.YtikgkjkgdlnekaaGreatDoor

/- ctype: the reference's Plain: what is itself; a result. -/
set_option linter.unusedVariables false
set_option linter.unusedSimpArgs false
namespace Go.Proofs.YtikgkjkgdlnekaaGreatDoor
open Go.RowKit
open Lex Ct

set_option maxRecDepth 100000 in
set_option maxHeartbeats 4000000 in
theorem rp_same (t : Ty) (an : Option Addr) (cn : Nat) (al : Option Addr) (cl : Nat) (w : World) (h : TyAt w t an cn al cl) (b14 : (t.kind == 14) = false) (b16 : (t.kind == 16) = false) (b17 : (t.kind == 17) = false) (b18 : (t.kind == 18) = false) :
    Calls Tryz.prog 39 #[tyV t an cn al cl] w (PlainR t w) := by
  have HL := Lib.hid h
  clear h
  unfold PlainR
  go_enter Tryz.func39, Tryz.ntmps39
  go_wp2_with fail
  exact bodyPost_ret (v := tyV t an cn al cl) (by simp [results, Tryz.results39, go_sem]) rfl ⟨_, _, _, _, rfl, HL.out.kept ((((Kept.refl _ _).new _).new _).new _), (((Kept.refl _ _).new _).new _).new _⟩
set_option maxRecDepth 100000 in
set_option maxHeartbeats 4000000 in
theorem rp_18 (n : List Nm) (l : List Ty) (r : Int) (an : Option Addr) (cn : Nat) (al : Option Addr) (cl : Nat) (w : World) (h : TyAt w (.mk 18 n l r) an cn al cl) :
    Calls Tryz.prog 39 #[.agg #[.int .i64 18, .slice an n.length cn, .slice al l.length cl, .int .i64 r]] w (PlainR (.mk 15 [nmOk, nmError] l 0) w) := by
  have HL := Lib.hid h.l
  clear h
  go_enter Tryz.func39, Tryz.ntmps39
  go_wp2_with fail
  have kk : Kept (fun _ => False) w _ := ((((Kept.refl _ w).new (.cells #[.int .i64 18, .slice an n.length cn, .slice al l.length cl, .int .i64 r] 25)).new (.cells #[.int .i64 15, .slice (some ⟨w.heap.size + 1 + 1 + 1, 0, none⟩) 2 2, .slice al l.length cl, .int .i64 0] 25)).new (.cells #[.int .i64 15, .slice (some ⟨w.heap.size + 1 + 1 + 1, 0, none⟩) 2 2, .slice al l.length cl, .int .i64 0] 25)).new (.cells #[.string ⟨#[111, 107]⟩, .string ⟨#[101, 114, 114, 111, 114]⟩] 9)
  have hS := BlkAt.new (((w.alloc (.cells #[.int .i64 18, .slice an n.length cn, .slice al l.length cl, .int .i64 r] 25)).alloc (.cells #[.int .i64 15, .slice (some ⟨w.heap.size + 1 + 1 + 1, 0, none⟩) 2 2, .slice al l.length cl, .int .i64 0] 25)).alloc (.cells #[.int .i64 15, .slice (some ⟨w.heap.size + 1 + 1 + 1, 0, none⟩) 2 2, .slice al l.length cl, .int .i64 0] 25)) #[.string ⟨#[111, 107]⟩, .string ⟨#[101, 114, 114, 111, 114]⟩] 9
  rw [World.size_alloc, World.size_alloc, World.size_alloc] at hS
  refine bodyPost_ret (v := .agg #[.int .i64 15, .slice (some ⟨w.heap.size + 1 + 1 + 1, 0, none⟩) 2 2, .slice al l.length cl, .int .i64 0]) (by simp [results, Tryz.results39, go_sem]) rfl ⟨_, _, _, _, rfl, ⟨?_, HL.out.kept kk⟩, kk⟩
  exact liesU_blk (us := [U.s nmOk, U.s nmError]) hS (Nat.le_refl _) (by omega) rfl (.cons (liesU_s nmOk) (.cons (liesU_s nmError) .nil))
end Go.Proofs.YtikgkjkgdlnekaaGreatDoor

/- ctype: the reference's Plain: a tuple. -/
set_option linter.unusedVariables false
set_option linter.unusedSimpArgs false
namespace Go.Proofs.YtikgkjkgdlnekaaGreatDoor
open Go.RowKit
open Lex Ct

/-- The names' values. -/
def nmV (i : Nat) : List Value := ((List.range i).map digs).map fun d => .string (strOfNums d)
theorem nmV_succ (i : Nat) : nmV (i + 1) = nmV i ++ [.string (strOfNums (digs i))] := by
  unfold nmV
  rw [List.range_succ, List.map_append, List.map_append]
  rfl
theorem nmV_lies (w : World) (d : List Nm) : LiesL AnyB w (d.map .s) (d.map fun d => .string (strOfNums d)) := by
  induction d with
  | nil => exact rfl
  | cons a r ih => exact LiesL.cons (liesU_s a) ih
theorem own_lt {T : TypeId} {m B : Nat} {v : Value} {n : Nat} {vs : List Value} {w : World} (h : w.ownsRow B T m v n vs) : ∀ k, v.ownBlock = some k → B ≤ k ∧ k < w.heap.size := fun k hk => World.ownsRow.lt h k hk
theorem own_slice {T : TypeId} {m B : Nat} {v : Value} {n : Nat} {vs : List Value} {w : World} (h : w.ownsRow B T m v n vs) : ∃ a c, v = .slice a n c := by
  rcases h.2 with ⟨hv, h0⟩ | ⟨g, cap, cur, hv, _⟩
  · exact ⟨none, 0, by rw [hv, h0]⟩
  · exact ⟨_, cap, hv⟩
theorem own_lies {T : TypeId} {m B : Nat} {v : Value} {n : Nat} {vs : List Value} {w : World} {us : List U} (h : w.ownsRow B T m v n vs) (hl : LiesL AnyB w us vs) : LiesU AnyB w (.sl T m n us) v :=
  OwnU.lies (B := B) (P := AnyB) (x := .sl T m n us) ⟨vs, h, hl⟩ (fun _ _ => trivial) (fun _ _ => trivial)
/-- What is told of a value that is laid into the result's box. -/
theorem plainR_of {t : Ty} {w wr : World} {a1 : Option Addr} {c1 : Nat} {a2 : Option Addr} {c2 : Nat} {vs2 : List Value} {B : Nat} (hk : Kept (fun _ => False) w wr) {b : Nat} (hb : w.heap.size ≤ b)
    (hn : ∀ w', Kept (· = b) wr w' → Kept (fun _ => False) w w' → LiesU AnyB w' (strsU t.names) (.slice a1 t.names.length c1)) (h2 : wr.ownsRow B 25 4 (.slice a2 t.l.length c2) t.l.length vs2) (hl2 : LiesL AnyB w (encTys t.l) vs2) (hBb : b < B) (hbw : b < wr.heap.size) (v0 v1 v2 v3 : Value) :
    PlainR t w (.returned (tyV t a1 c1 a2 c2)) ((((wr.setCell ⟨b, 0, none⟩ v0).setCell ⟨b, 1, none⟩ v1).setCell ⟨b, 2, none⟩ v2).setCell ⟨b, 3, none⟩ v3) := by
  have ks : Kept (· = b) wr ((((wr.setCell ⟨b, 0, none⟩ v0).setCell ⟨b, 1, none⟩ v1).setCell ⟨b, 2, none⟩ v2).setCell ⟨b, 3, none⟩ v3) :=
    ((((Kept.refl (· = b) wr).set (p := ⟨b, 0, none⟩) rfl v0).set (p := ⟨b, 1, none⟩) rfl v1).set (p := ⟨b, 2, none⟩) rfl v2).set (p := ⟨b, 3, none⟩) rfl v3
  have kk : Kept (fun _ => False) w ((((wr.setCell ⟨b, 0, none⟩ v0).setCell ⟨b, 1, none⟩ v1).setCell ⟨b, 2, none⟩ v2).setCell ⟨b, 3, none⟩ v3) := ((hk.any (F := (w.heap.size ≤ ·))).trans (ks.mono fun i e => by show w.heap.size ≤ i; omega)).clear (fun i hi e => by have e : w.heap.size ≤ i := e; omega)
  have o2 := ownsRow_kept h2 ks fun k hk e => by have := own_lt h2 k hk; omega
  refine ⟨a1, c1, a2, c2, rfl, ⟨hn _ ks kk, own_lies o2 (hl2.kept kk)⟩, kk⟩
theorem news1 (w : World) (T : TypeId) (v : Value) : ∀ j u, [v][j]? = some u → (w.alloc (.cells #[v] T)).cell? ((⟨w.heap.size, 0, none⟩ : Addr).add j) = some u := World.news_of_block (BlkAt.new w #[v] T)
/-- A tuple's fields so far: its names, its types. -/
structure TupAt (w wr : World) (n : List Nm) (l : List Ty) (r : Int) (an : Option Addr) (cn : Nat) (al : Option Addr) (cl : Nat) (i j : Nat) (nv tv : Value) : Prop where
  kept : Kept (fun _ => False) w wr
  t : BlkAt wr w.heap.size #[.int .i64 14, .slice an n.length cn, .slice al l.length cl, .int .i64 r] 25
  res : BlkAt wr (w.heap.size + 1) #[.int .i64 0, .slice none 0 0, .slice none 0 0, .int .i64 0] 25
  x : BlkAt wr (w.heap.size + 1 + 1) #[.int .i64 13, nv, tv, .int .i64 0] 25
  nrow : wr.ownsRow (w.heap.size + 1 + 1 + 1) 9 1 nv i (nmV i)
  trow : ∃ vs, wr.ownsRow (w.heap.size + 1 + 1 + 1) 25 4 tv j vs ∧ LiesL AnyB w (encTys (l.take j)) vs
  apart : ∀ k, nv.ownBlock = some k → tv.ownBlock ≠ some k
theorem TupAt.names {w wr : World} {n : List Nm} {l : List Ty} {r : Int} {an : Option Addr} {cn : Nat} {al : Option Addr} {cl : Nat} {i j : Nat} {nv tv : Value} (h : TupAt w wr n l r an cn al cl i j nv tv) {w2 w5 : World} (k : Kept (fun _ => False) wr w2) (hg : w2.grownBy w5 nv.ownBlock) {g cap H : Nat}
    (ho : w5.ownsRow (w.heap.size + 1 + 1 + 1) 9 1 (.slice (some ⟨g, 0, none⟩) (i + 1) cap) (i + 1) (nmV i ++ [.string (strOfNums (digs i))])) (hat : nv.ownBlock = some g ∨ g = H) (hH : w2.heap.size = H) :
    BlkAt w5 (w.heap.size + 1 + 1) #[.int .i64 13, nv, tv, .int .i64 0] 25 ∧ TupAt w (w5.setCell ⟨w.heap.size + 1 + 1, 1, none⟩ (.slice (some ⟨g, 0, none⟩) (i + 1) cap)) n l r an cn al cl (i + 1) j (.slice (some ⟨g, 0, none⟩) (i + 1) cap) tv := by
  have hn := own_lt h.nrow
  obtain ⟨vs, hv, hl⟩ := h.trow
  have ht := own_lt hv
  have kg := Kept.grow hg
  have hgg := own_lt ho g rfl
  have hsz := k.size
  have x5 : BlkAt w5 (w.heap.size + 1 + 1) #[.int .i64 13, nv, tv, .int .i64 0] 25 := (h.x.kept k id).kept kg fun e => by have := hn _ e.symm; omega
  have ks : Kept (· = w.heap.size + 1 + 1) w5 (w5.setCell ⟨w.heap.size + 1 + 1, 1, none⟩ (.slice (some ⟨g, 0, none⟩) (i + 1) cap)) := (Kept.refl (· = w.heap.size + 1 + 1) w5).set (p := ⟨w.heap.size + 1 + 1, 1, none⟩) rfl _
  refine ⟨x5, ?_, ?_, ?_, ?_, ?_, ⟨vs, ?_, hl⟩, ?_⟩
  · exact ((((h.kept.trans k).any (F := (w.heap.size ≤ ·))).trans (kg.mono fun b e => by have := hn b e.symm; show w.heap.size ≤ b; omega)).trans (ks.mono fun b e => by show w.heap.size ≤ b; omega)).clear (fun b hb e => by have e : w.heap.size ≤ b := e; omega)
  · exact (((h.t.kept k id).kept kg fun e => by have := hn _ e.symm; omega).kept ks (by omega))
  · exact (((h.res.kept k id).kept kg fun e => by have := hn _ e.symm; omega).kept ks (by omega))
  · exact x5.put 1 _
  · rw [nmV_succ]
    exact ownsRow_kept ho ks fun b hb e => by have := own_lt ho b hb; omega
  · exact ownsRow_kept (ownsRow_kept (ownsRow_kept hv k fun _ _ e => e) kg fun b hb e => h.apart b e.symm hb) ks fun b hb e => by have := ht b hb; omega
  · intro b hb hb'
    have e : g = b := by simpa [Value.ownBlock] using hb
    subst e
    rcases hat with q | q
    · exact h.apart _ q hb'
    · have := ht _ hb'; omega
theorem TupAt.types {w wr : World} {n : List Nm} {l : List Ty} {r : Int} {an : Option Addr} {cn : Nat} {al : Option Addr} {cl : Nat} {i j : Nat} {nv tv : Value} (h : TupAt w wr n l r an cn al cl i j nv tv) {vs : List Value} (hl : LiesL AnyB w (encTys (l.take j)) vs) {y : Ty} (hy : l[j]? = some y) {ys : List Value} (hys : LiesL AnyB w (encTy y) ys)
    {w2 w5 : World} (k : Kept (fun _ => False) wr w2) (hg : w2.grownBy w5 tv.ownBlock) {g cap H : Nat}
    (ho : w5.ownsRow (w.heap.size + 1 + 1 + 1) 25 4 (.slice (some ⟨g, 0, none⟩) (j + 1) cap) (j + 1) (vs ++ ys)) (hat : tv.ownBlock = some g ∨ g = H) (hH : w2.heap.size = H) :
    BlkAt w5 (w.heap.size + 1 + 1) #[.int .i64 13, nv, tv, .int .i64 0] 25 ∧ TupAt w (w5.setCell ⟨w.heap.size + 1 + 1, 2, none⟩ (.slice (some ⟨g, 0, none⟩) (j + 1) cap)) n l r an cn al cl i (j + 1) nv (.slice (some ⟨g, 0, none⟩) (j + 1) cap) := by
  have hn := own_lt h.nrow
  have ht : ∀ k, tv.ownBlock = some k → w.heap.size + 1 + 1 + 1 ≤ k ∧ k < wr.heap.size := by
    obtain ⟨vs, hv, _⟩ := h.trow
    exact own_lt hv
  have kg := Kept.grow hg
  have hgg := own_lt ho g rfl
  have hsz := k.size
  have x5 : BlkAt w5 (w.heap.size + 1 + 1) #[.int .i64 13, nv, tv, .int .i64 0] 25 := (h.x.kept k id).kept kg fun e => by have := ht _ e.symm; omega
  have ks : Kept (· = w.heap.size + 1 + 1) w5 (w5.setCell ⟨w.heap.size + 1 + 1, 2, none⟩ (.slice (some ⟨g, 0, none⟩) (j + 1) cap)) := (Kept.refl (· = w.heap.size + 1 + 1) w5).set (p := ⟨w.heap.size + 1 + 1, 2, none⟩) rfl _
  refine ⟨x5, ?_, ?_, ?_, ?_, ?_, ⟨vs ++ ys, ?_, ?_⟩, ?_⟩
  · exact ((((h.kept.trans k).any (F := (w.heap.size ≤ ·))).trans (kg.mono fun b e => by have := ht b e.symm; show w.heap.size ≤ b; omega)).trans (ks.mono fun b e => by show w.heap.size ≤ b; omega)).clear (fun b hb e => by have e : w.heap.size ≤ b := e; omega)
  · exact (((h.t.kept k id).kept kg fun e => by have := ht _ e.symm; omega).kept ks (by omega))
  · exact (((h.res.kept k id).kept kg fun e => by have := ht _ e.symm; omega).kept ks (by omega))
  · exact x5.put 2 _
  · exact ownsRow_kept (ownsRow_kept (ownsRow_kept h.nrow k fun _ _ e => e) kg fun b hb e => h.apart b hb e.symm) ks fun b hb e => by have := hn b hb; omega
  · exact ownsRow_kept ho ks fun b hb e => by have := own_lt ho b hb; omega
  · rw [List.take_add_one, hy, encTys_append]
    exact hl.append (by rw [show encTys (Option.toList (some y)) = encTy y ++ [] from rfl, List.append_nil]; exact hys)
  · intro b hb hb'
    have e : g = b := by simpa [Value.ownBlock] using hb'
    subst e
    rcases hat with q | q
    · exact h.apart _ hb q
    · have := hn _ hb; omega
theorem tup_start (w : World) (n : List Nm) (l : List Ty) (r : Int) (an : Option Addr) (cn : Nat) (al : Option Addr) (cl : Nat) :
    TupAt w (((w.alloc (.cells #[.int .i64 14, .slice an n.length cn, .slice al l.length cl, .int .i64 r] 25)).alloc (.cells #[.int .i64 0, .slice none 0 0, .slice none 0 0, .int .i64 0] 25)).alloc (.cells #[.int .i64 13, .slice none 0 0, .slice none 0 0, .int .i64 0] 25)) n l r an cn al cl 0 0 (.slice none 0 0) (.slice none 0 0) := by
  have h1 := BlkAt.new w #[.int .i64 14, .slice an n.length cn, .slice al l.length cl, .int .i64 r] 25
  have h2 := BlkAt.new (w.alloc (.cells #[.int .i64 14, .slice an n.length cn, .slice al l.length cl, .int .i64 r] 25)) #[.int .i64 0, .slice none 0 0, .slice none 0 0, .int .i64 0] 25
  have h3 := BlkAt.new ((w.alloc (.cells #[.int .i64 14, .slice an n.length cn, .slice al l.length cl, .int .i64 r] 25)).alloc (.cells #[.int .i64 0, .slice none 0 0, .slice none 0 0, .int .i64 0] 25)) #[.int .i64 13, .slice none 0 0, .slice none 0 0, .int .i64 0] 25
  rw [World.size_alloc] at h2
  rw [World.size_alloc, World.size_alloc] at h3
  refine ⟨(((Kept.refl _ _).new _).new _).new _, h1.kept (F := fun _ => False) (((Kept.refl _ _).new _).new _) id, h2.kept (F := fun _ => False) ((Kept.refl _ _).new _) id, h3, ⟨rfl, .inl ⟨rfl, rfl⟩⟩, ⟨[], ⟨rfl, .inl ⟨rfl, rfl⟩⟩, by rw [List.take_zero]; exact rfl⟩, ?_⟩
  intro k hk
  exact absurd hk (by simp [Value.ownBlock])
set_option maxRecDepth 100000 in
set_option maxHeartbeats 8000000 in
theorem rp_14 (n : List Nm) (l : List Ty) (r : Int) (an : Option Addr) (cn : Nat) (al : Option Addr) (cl : Nat) (w : World) (h : TyAt w (.mk 14 n l r) an cn al cl) (hn : l.length ≤ 64) :
    Calls Tryz.prog 39 #[.agg #[.int .i64 14, .slice an n.length cn, .slice al l.length cl, .int .i64 r]] w (PlainR (.mk 13 ((List.range l.length).map digs) l 0) w) := by
  have HL := Lib.hid h.row
  clear h
  obtain ⟨i0, hi0, hz0, hz1, hz2⟩ := info_text
  obtain ⟨i1, hi1, hy0, hy1, hy2⟩ := info_ty
  have HA := Lib.hid (And.intro hi0 (And.intro hz0 (And.intro hz1 hz2)))
  have HB := Lib.hid (And.intro hi1 (And.intro hy0 (And.intro hy1 hy2)))
  clear hi0 hz0 hz1 hz2 hi1 hy0 hy1 hy2
  go_enter Tryz.func39, Tryz.ntmps39
  go_wp2_with fail
  go_loopw [4] (fun u wr => ∃ (i : Nat) (nv tv : Value), u = .int .i64 i ∧ i ≤ l.length ∧ Hid (TupAt w wr n l r an cn al cl i i nv tv)) (fun u _ => l.length - (intOf u).toNat)
  case atStart => exact ⟨0, .slice none 0 0, .slice none 0 0, rfl, Nat.zero_le _, Lib.hid (tup_start w n l r an cn al cl)⟩
  case round =>
    obtain ⟨i, nv, tv, rfl, hi, hst⟩ := hrel
    have b0 := hst.out.t.cell 0
    have b1 := hst.out.t.cell 1
    have b2 := hst.out.t.cell 2
    have b3 := hst.out.t.cell 3
    have x0 := hst.out.x.cell 0
    have x1 := hst.out.x.cell 1
    have x2 := hst.out.x.cell 2
    have x3 := hst.out.x.cell 3
    have y1 := hst.out.x.frozen 1
    have y2 := hst.out.x.frozen 2
    simp at b0 b1 b2 b3 x0 x1 x2 x3
    by_cases hlt : i < l.length
    · obtain ⟨y, hy⟩ : ∃ y, l[i]? = some y := ⟨_, List.getElem?_eq_getElem hlt⟩
      obtain ⟨g', o, ax, cx, ay, cy, rfl, hgl, htx, c0, c1, c2, c3⟩ := HL.out.at hy
      have HC := Lib.hid (And.intro htx (And.intro c0 (And.intro c1 (And.intro c2 c3))))
      clear hgl htx c0 c1 c2 c3
      have HD := Lib.hid (fun w' => rdRefDigits i (by omega) w')
      have q0 : Kept (fun _ => False) wr wr.drew := (Kept.refl _ _).drew
      have q3 : i + 1 ≤ maxLen := by unfold maxLen; omega
      have q4 : (i + 1) * 16 ≤ 140737488355328 := by omega
      have q5 : (i + 1) * 64 ≤ 140737488355328 := by omega
      have hBw : w.heap.size + 1 + 1 + 1 ≤ wr.heap.size := hst.out.x.lt
      have HQ := Lib.hid (And.intro q3 (And.intro q4 (And.intro q5 hBw)))
      clear q3 q4 q5 hBw
      go_wp2_with fail
      go_region_law (first
        | (go_simp; go_at_call 63; refine (HD.out _).mono ?_; rintro e w2 ⟨rfl, k2⟩
           have q2 := q0.trans (Kept.of_below k2)
           have HQ2 := Lib.hid q2
           have z1 := (hst.out.x.kept (F := fun _ => False) q2 id).cell 1
           have z2 := (hst.out.x.kept (F := fun _ => False) q2 id).frozen 1
           simp at z1
           have z3 := cell_box z1 (.cells #[.string (strOfNums (digs i))] 9)
           clear q2 k2)
        | (refine step_append_lies _ (by rfl) _ _ 22 (by rfl) (w.heap.size + 1 + 1 + 1) 9 i0 (.string ByteArray.empty) 1 16 Tryz.underlying22 HA.out.1 HA.out.2.1 HA.out.2.2.1 HA.out.2.2.2 rfl (by decide) nv i (nmV i) (by rfl) (World.ownsRow.alloc (ownsRow_kept hst.out.nrow HQ2.out (fun _ _ e => e)) _) ⟨w2.heap.size, 0, none⟩ 1 1 [.string (strOfNums (digs i))] (by rfl) (by rfl) (news1 _ _ _) (by simp [Value.oneCell']) (by decide) HQ.out.1 HQ.out.2.1 (le_alloc (Nat.le_trans HQ.out.2.2.2 HQ2.out.size)) (w2.heap.size + 1) (World.size_alloc _ _) ?_
           intro g cap w5 hown5 hgrow hat hlt5
           have M := hst.out.names (HQ2.out.new _) hgrow hown5 hat (World.size_alloc _ _)
           have m1 := M.1.cell 1
           have m2 := M.1.frozen 1
           simp at m1
           have HM := Lib.hid M.2
           clear M hown5 hgrow hat hlt5))
      all_goals
        try clear m1
        try clear m2
        try clear z1
        try clear z2
        try clear z3
        try clear HQ2
        clear b0 b1 b2 b3 x0 x1 x2 x3 y1 y2 hst q0
        revert HM
        generalize w5.setCell ⟨w.heap.size + 1 + 1, 1, none⟩ (.slice (some ⟨g, 0, none⟩) (i + 1) cap) = W6
        intro HM
        obtain ⟨vs, hvs, hlv⟩ := HM.out.trow
        have HV := Lib.hid (And.intro hvs hlv)
        have b0 := HM.out.t.cell 0
        have b2 := HM.out.t.cell 2
        have x2 := HM.out.x.cell 2
        have y2 := HM.out.x.frozen 2
        simp at b0 b2 x2
        have kc := HM.out.kept
        have c0 := (kc.cell1 (World.block_lt_of_cell? w _ HC.out.2.1)).trans HC.out.2.1
        have c1 := (kc.cell1 (World.block_lt_of_cell? w _ HC.out.2.2.1)).trans HC.out.2.2.1
        have c2 := (kc.cell1 (World.block_lt_of_cell? w _ HC.out.2.2.2.1)).trans HC.out.2.2.2.1
        have c3 := (kc.cell1 (World.block_lt_of_cell? w _ HC.out.2.2.2.2)).trans HC.out.2.2.2.2
        have d2 : W6.drew.cell? ⟨w.heap.size + 1 + 1, 2, none⟩ = some tv := x2
        have d3 := cell_box d2 (.cells #[.int .i64 y.kind, .slice ax y.names.length cx, .slice ay y.l.length cy, .int .i64 y.r] 25)
        have d4 : (W6.alloc (.cells #[.int .i64 y.kind, .slice ax y.names.length cx, .slice ay y.l.length cy, .int .i64 y.r] 25)).drew.cell? ⟨w.heap.size + 1 + 1, 2, none⟩ = some tv := d3
        have hsz6 : w.heap.size + 1 + 1 + 1 ≤ W6.heap.size := HM.out.x.lt
        clear hvs hlv kc d2
        go_wp2_with fail
        go_region_law (
          (refine step_append_lies _ (by rfl) _ _ 23 (by rfl) (w.heap.size + 1 + 1 + 1) 25 i1 (.agg #[.int .i64 0, .slice none 0 0, .slice none 0 0, .int .i64 0]) 4 64 Tryz.underlying23 HB.out.1 HB.out.2.1 HB.out.2.2.1 HB.out.2.2.2 rfl (by decide) tv i vs (by rfl) (ownsRow_kept HV.out.1 (by first | exact ((Kept.refl (fun _ => False) W6).new _).drew | exact ((Kept.refl (fun _ => False) W6).drew).new _) (fun _ _ e => e)) ⟨W6.heap.size, 0, none⟩ 1 1 [.int .i64 y.kind, .slice ax y.names.length cx, .slice ay y.l.length cy, .int .i64 y.r] (by rfl) (by rfl) (World.news_of_block (cs := #[.int .i64 y.kind, .slice ax y.names.length cx, .slice ay y.l.length cy, .int .i64 y.r]) (BlkAt.new W6 #[.int .i64 y.kind, .slice ax y.names.length cx, .slice ay y.l.length cy, .int .i64 y.r] 25)) (by simp [Value.oneCell']) (by decide) HQ.out.1 HQ.out.2.2.1 (le_alloc hsz6) (W6.heap.size + 1) (World.size_alloc _ _) ?_
           intro g7 cap7 w7 hown7 hgrow7 hat7 hlt7
           have M := HM.out.types HV.out.2 hy (ty_lies HC.out.1.n HC.out.1.l) (by first | exact ((Kept.refl (fun _ => False) W6).new _).drew | exact ((Kept.refl (fun _ => False) W6).drew).new _) hgrow7 hown7 hat7 (World.size_alloc _ _)
           have m1 := M.1.cell 2
           have m2 := M.1.frozen 2
           simp at m1
           have HM7 := Lib.hid M.2
           clear M hown7 hgrow7 hat7 hlt7))
        all_goals
          clear b0 b2 x2 y2 c0 c1 c2 c3 d3 d4 m1 m2 HC HV HM HQ
          revert HM7
          generalize w7.setCell ⟨w.heap.size + 1 + 1, 2, none⟩ (.slice (some ⟨g7, 0, none⟩) (i + 1) cap7) = W7
          intro HM7
          have hw : IntKind.i64.wrap ((i : Int) + 1) = ((i + 1 : Nat) : Int) := by rw [IntKind.wrap_i64]; omega
          go_wp2_with fail
          exact ⟨⟨i + 1, _, _, by first | rw [hw] | rfl, hlt, HM7⟩, by simp [intOf]; omega⟩
    · have he : i = l.length := by omega
      subst he
      obtain ⟨a1, c1, rfl⟩ := own_slice hst.out.nrow
      obtain ⟨vs2, hv2, hl2⟩ := hst.out.trow
      obtain ⟨a2, c2, rfl⟩ := own_slice hv2
      have HV := Lib.hid (And.intro hv2 hl2)
      have r0 := hst.out.res.cell 0
      have r1 := hst.out.res.cell 1
      have r2 := hst.out.res.cell 2
      have r3 := hst.out.res.cell 3
      have s0 := hst.out.res.frozen 0
      have s1 := hst.out.res.frozen 1
      have s2 := hst.out.res.frozen 2
      have s3 := hst.out.res.frozen 3
      simp at r0 r1 r2 r3
      clear hv2 hl2
      go_wp2_with fail
      have G := (((hst.out.res.put 0 (.int .i64 13)).put 1 (.slice a1 l.length c1)).put 2 (.slice a2 l.length c2)).put 3 (.int .i64 0)
      have u0 := G.cell 0
      have u1 := G.cell 1
      have u2 := G.cell 2
      have u3 := G.cell 3
      simp at u0 u1 u2 u3
      have hl : ((List.range l.length).map digs).length = l.length := by simp
      have hR := plainR_of (t := .mk 13 ((List.range l.length).map digs) l 0) (a1 := a1) (c1 := c1) (a2 := a2) (c2 := c2) hst.out.kept (b := w.heap.size + 1) (Nat.le_succ _)
        (fun w' k _ => by
          show LiesU AnyB w' (.sl 9 1 ((List.range l.length).map digs).length (((List.range l.length).map digs).map .s)) (.slice a1 ((List.range l.length).map digs).length c1)
          rw [hl]
          exact own_lies (ownsRow_kept hst.out.nrow k fun q hq e => by have := own_lt hst.out.nrow q hq; omega) (nmV_lies w' _))
        HV.out.1 (by have := HV.out.2; rwa [List.take_length] at this) (by omega) hst.out.res.lt (.int .i64 13) (.slice a1 l.length c1) (.slice a2 l.length c2) (.int .i64 0)
      refine bodyPost_ret (v := .agg #[.int .i64 13, .slice a1 l.length c1, .slice a2 l.length c2, .int .i64 0]) (by simp [results, Tryz.results39, go_sem, u0, u1, u2, u3]) rfl ?_
      have e : tyV (.mk 13 ((List.range l.length).map digs) l 0) a1 c1 a2 c2 = .agg #[.int .i64 13, .slice a1 l.length c1, .slice a2 l.length c2, .int .i64 0] := by
        show Value.agg #[.int .i64 13, .slice a1 ((List.range l.length).map digs).length c1, .slice a2 l.length c2, .int .i64 0] = _
        rw [hl]
      rw [e] at hR
      exact hR
end Go.Proofs.YtikgkjkgdlnekaaGreatDoor

/- ctype: the reference's Plain: an enum, an option. -/
set_option linter.unusedVariables false
set_option linter.unusedSimpArgs false
namespace Go.Proofs.YtikgkjkgdlnekaaGreatDoor
open Go.RowKit
open Lex Ct

/-- What is in the making: a box of its own, whose types grow. -/
structure GroAt (w wr : World) (ct : Array Value) (k : Int) (nv tv : Value) (ts : List Ty) : Prop where
  kept : Kept (fun _ => False) w wr
  t : BlkAt wr w.heap.size ct 25
  res : BlkAt wr (w.heap.size + 1) #[.int .i64 0, .slice none 0 0, .slice none 0 0, .int .i64 0] 25
  x : BlkAt wr (w.heap.size + 1 + 1) #[.int .i64 k, nv, tv, .int .i64 0] 25
  trow : ∃ vs, wr.ownsRow (w.heap.size + 1 + 1 + 1) 25 4 tv ts.length vs ∧ LiesL AnyB w (encTys ts) vs
theorem GroAt.types {w wr : World} {ct : Array Value} {k : Int} {nv tv : Value} {ts : List Ty} (h : GroAt w wr ct k nv tv ts) {vs : List Value} (hl : LiesL AnyB w (encTys ts) vs) {y : Ty} {ys : List Value} (hys : LiesL AnyB w (encTy y) ys)
    {w2 w5 : World} (kk : Kept (fun _ => False) wr w2) (hg : w2.grownBy w5 tv.ownBlock) {g cap : Nat}
    (ho : w5.ownsRow (w.heap.size + 1 + 1 + 1) 25 4 (.slice (some ⟨g, 0, none⟩) (ts.length + 1) cap) (ts.length + 1) (vs ++ ys)) :
    BlkAt w5 (w.heap.size + 1 + 1) #[.int .i64 k, nv, tv, .int .i64 0] 25 ∧ GroAt w (w5.setCell ⟨w.heap.size + 1 + 1, 2, none⟩ (.slice (some ⟨g, 0, none⟩) (ts.length + 1) cap)) ct k nv (.slice (some ⟨g, 0, none⟩) (ts.length + 1) cap) (ts ++ [y]) ∧ Kept (w.heap.size + 1 + 1 ≤ ·) wr w5 := by
  have ht : ∀ k, tv.ownBlock = some k → w.heap.size + 1 + 1 + 1 ≤ k ∧ k < wr.heap.size := by
    obtain ⟨vs, hv, _⟩ := h.trow
    exact own_lt hv
  have kg := Kept.grow hg
  have hgg := own_lt ho g rfl
  have hsz := kk.size
  have x5 : BlkAt w5 (w.heap.size + 1 + 1) #[.int .i64 k, nv, tv, .int .i64 0] 25 := (h.x.kept kk id).kept kg fun e => by have := ht _ e.symm; omega
  have ks : Kept (· = w.heap.size + 1 + 1) w5 (w5.setCell ⟨w.heap.size + 1 + 1, 2, none⟩ (.slice (some ⟨g, 0, none⟩) (ts.length + 1) cap)) := (Kept.refl (· = w.heap.size + 1 + 1) w5).set (p := ⟨w.heap.size + 1 + 1, 2, none⟩) rfl _
  have kw : Kept (w.heap.size + 1 + 1 ≤ ·) wr w5 := (kk.any (F := (w.heap.size + 1 + 1 ≤ ·))).trans (Kept.clear (F := fun k => some k = tv.ownBlock) (kg.then (Kept.refl _ _) fun i hi e => e) (fun b hb e => by have := ht b e.symm; show w.heap.size + 1 + 1 ≤ b; omega))
  refine ⟨x5, ⟨?_, ?_, ?_, ?_, ⟨vs ++ ys, ?_, ?_⟩⟩, kw⟩
  · exact ((((h.kept.trans kk).any (F := (w.heap.size ≤ ·))).trans (kg.mono fun b e => by have := ht b e.symm; show w.heap.size ≤ b; omega)).trans (ks.mono fun b e => by show w.heap.size ≤ b; omega)).clear (fun b hb e => by have e : w.heap.size ≤ b := e; omega)
  · exact (((h.t.kept kk id).kept kg fun e => by have := ht _ e.symm; omega).kept ks (by omega))
  · exact (((h.res.kept kk id).kept kg fun e => by have := ht _ e.symm; omega).kept ks (by omega))
  · exact x5.put 2 _
  · rw [List.length_append]
    exact ownsRow_kept ho ks fun b hb e => by have := own_lt ho b hb; omega
  · rw [encTys_append]
    exact hl.append (by rw [encTys_one]; exact hys)
theorem gro_start (w : World) (c0 c1 c2 c3 : Value) (k : Int) (nv : Value) :
    GroAt w (((w.alloc (.cells #[c0, c1, c2, c3] 25)).alloc (.cells #[.int .i64 0, .slice none 0 0, .slice none 0 0, .int .i64 0] 25)).alloc (.cells #[.int .i64 k, nv, .slice none 0 0, .int .i64 0] 25)) #[c0, c1, c2, c3] k nv (.slice none 0 0) [] := by
  have h1 := BlkAt.new w #[c0, c1, c2, c3] 25
  have h2 := BlkAt.new (w.alloc (.cells #[c0, c1, c2, c3] 25)) #[.int .i64 0, .slice none 0 0, .slice none 0 0, .int .i64 0] 25
  have h3 := BlkAt.new ((w.alloc (.cells #[c0, c1, c2, c3] 25)).alloc (.cells #[.int .i64 0, .slice none 0 0, .slice none 0 0, .int .i64 0] 25)) #[.int .i64 k, nv, .slice none 0 0, .int .i64 0] 25
  rw [World.size_alloc] at h2
  rw [World.size_alloc, World.size_alloc] at h3
  exact ⟨(((Kept.refl _ _).new _).new _).new _, h1.kept (F := fun _ => False) (((Kept.refl _ _).new _).new _) id, h2.kept (F := fun _ => False) ((Kept.refl _ _).new _) id, h3, ⟨[], World.ownsRow_nil _ _ _ _, LiesL.nil⟩⟩
/-- The zero type, in cells. -/
theorem zero_lies (w : World) : LiesL AnyB w (encTy .zero) [.int .i64 0, .slice none 0 0, .slice none 0 0, .int .i64 0] := ty_lies (t := Ty.zero) (liesU_nil _ _) (liesU_nil _ _)
/-- The end of both. -/
theorem GroAt.end' {w wr : World} {ct : Array Value} {nm : List Nm} {a1 : Option Addr} {c1 : Nat} {a2 : Option Addr} {c2 : Nat} {ts : List Ty} (h : GroAt w wr ct 15 (.slice a1 nm.length c1) (.slice a2 ts.length c2) ts)
    (hn : ∀ w', Kept (· = w.heap.size + 1) wr w' → Kept (fun _ => False) w w' → LiesU AnyB w' (strsU nm) (.slice a1 nm.length c1)) :
    (∀ v0 v1 v2 v3, PlainR (.mk 15 nm ts 0) w (.returned (.agg #[.int .i64 15, .slice a1 nm.length c1, .slice a2 ts.length c2, .int .i64 0])) ((((wr.setCell ⟨w.heap.size + 1, 0, none⟩ v0).setCell ⟨w.heap.size + 1, 1, none⟩ v1).setCell ⟨w.heap.size + 1, 2, none⟩ v2).setCell ⟨w.heap.size + 1, 3, none⟩ v3)) ∧
    (let W := ((((wr.setCell ⟨w.heap.size + 1, 0, none⟩ (.int .i64 15)).setCell ⟨w.heap.size + 1, 1, none⟩ (.slice a1 nm.length c1)).setCell ⟨w.heap.size + 1, 2, none⟩ (.slice a2 ts.length c2)).setCell ⟨w.heap.size + 1, 3, none⟩ (.int .i64 0))
     W.cell? ⟨w.heap.size + 1, 0, none⟩ = some (.int .i64 15) ∧ W.cell? ⟨w.heap.size + 1, 1, none⟩ = some (.slice a1 nm.length c1) ∧ W.cell? ⟨w.heap.size + 1, 2, none⟩ = some (.slice a2 ts.length c2) ∧ W.cell? ⟨w.heap.size + 1, 3, none⟩ = some (.int .i64 0)) := by
  obtain ⟨vs, hv, hl⟩ := h.trow
  constructor
  · intro v0 v1 v2 v3
    exact plainR_of (t := .mk 15 nm ts 0) (a1 := a1) (c1 := c1) (a2 := a2) (c2 := c2) h.kept (b := w.heap.size + 1) (Nat.le_succ _) hn hv hl (by omega) h.res.lt v0 v1 v2 v3
  · have G := (((h.res.put 0 (.int .i64 15)).put 1 (.slice a1 nm.length c1)).put 2 (.slice a2 ts.length c2)).put 3 (.int .i64 0)
    have u0 := G.cell 0
    have u1 := G.cell 1
    have u2 := G.cell 2
    have u3 := G.cell 3
    simp at u0 u1 u2 u3
    exact ⟨u0, u1, u2, u3⟩
set_option maxRecDepth 100000 in
set_option maxHeartbeats 8000000 in
theorem rp_16 (n : List Nm) (l : List Ty) (r : Int) (an : Option Addr) (cn : Nat) (al : Option Addr) (cl : Nat) (w : World) (h : TyAt w (.mk 16 n l r) an cn al cl) (hn : n.length ≤ 64) :
    Calls Tryz.prog 39 #[.agg #[.int .i64 16, .slice an n.length cn, .slice al l.length cl, .int .i64 r]] w (PlainR (.mk 15 n (List.replicate n.length .zero) 0) w) := by
  have HL := Lib.hid h.n
  clear h
  obtain ⟨i1, hi1, hy0, hy1, hy2⟩ := info_ty
  have HB := Lib.hid (And.intro hi1 (And.intro hy0 (And.intro hy1 hy2)))
  clear hi1 hy0 hy1 hy2
  go_enter Tryz.func39, Tryz.ntmps39
  go_wp2_with fail
  go_loopw [5] (fun u wr => ∃ (i : Nat) (tv : Value), u = .int .i64 i ∧ i ≤ n.length ∧ Hid (GroAt w wr #[.int .i64 16, .slice an n.length cn, .slice al l.length cl, .int .i64 r] 15 (.slice an n.length cn) tv (List.replicate i .zero))) (fun u _ => n.length - (intOf u).toNat)
  case atStart => exact ⟨0, .slice none 0 0, rfl, Nat.zero_le _, Lib.hid (gro_start w _ _ _ _ 15 _)⟩
  case round =>
    obtain ⟨i, tv, rfl, hi, hst⟩ := hrel
    have b0 := hst.out.t.cell 0
    have b1 := hst.out.t.cell 1
    have x0 := hst.out.x.cell 0
    have x1 := hst.out.x.cell 1
    have x2 := hst.out.x.cell 2
    have x3 := hst.out.x.cell 3
    have y2 := hst.out.x.frozen 2
    simp at b0 b1 x0 x1 x2 x3
    by_cases hlt : i < n.length
    · have q3 : i + 1 ≤ maxLen := by unfold maxLen; omega
      have q5 : (i + 1) * 64 ≤ 140737488355328 := by omega
      have hBw : w.heap.size + 1 + 1 + 1 ≤ wr.heap.size := hst.out.x.lt
      obtain ⟨vs, hvs, hlv⟩ := hst.out.trow
      rw [List.length_replicate] at hvs
      have HV := Lib.hid (And.intro hvs hlv)
      have HQ := Lib.hid (And.intro q3 (And.intro q5 hBw))
      have hw : IntKind.i64.wrap ((i : Int) + 1) = ((i + 1 : Nat) : Int) := by rw [IntKind.wrap_i64]; omega
      clear q3 q5 hBw hvs hlv
      go_wp2_with (first
        | (at_builtin; refine wpList_append_lies _ rfl _ _ 23 rfl (w.heap.size + 1 + 1 + 1) 25 i1 (.agg #[.int .i64 0, .slice none 0 0, .slice none 0 0, .int .i64 0]) 4 64 Tryz.underlying23 HB.out.1 HB.out.2.1 HB.out.2.2.1 HB.out.2.2.2 rfl (by decide) tv i vs rfl (World.ownsRow.alloc HV.out.1 _) ⟨wr.heap.size, 0, none⟩ 1 1 [.int .i64 0, .slice none 0 0, .slice none 0 0, .int .i64 0] rfl rfl (World.news_of_block (cs := #[.int .i64 0, .slice none 0 0, .slice none 0 0, .int .i64 0]) (BlkAt.new wr #[.int .i64 0, .slice none 0 0, .slice none 0 0, .int .i64 0] 25)) (by simp [Value.oneCell']) (by decide) HQ.out.1 HQ.out.2.1 (le_alloc HQ.out.2.2) _ rfl ?_
           intro g cap w5 hown5 hgrow hat hlt5
           have M := hst.out.types HV.out.2 (zero_lies w) ((Kept.refl (fun _ => False) wr).new _) hgrow (by rw [List.length_replicate]; exact hown5)
           rw [List.length_replicate, ← List.replicate_succ'] at M
           have m1 := M.1.cell 2
           have m2 := M.1.frozen 2
           simp at m1
           have HM := Lib.hid M.2.1
           clear M hown5 hgrow hat hlt5))
      exact ⟨⟨i + 1, _, by first | rw [hw] | rfl, hlt, HM⟩, by simp [intOf]; omega⟩
    · have he : i = n.length := by omega
      subst he
      obtain ⟨vs2, hv2, hl2⟩ := hst.out.trow
      rw [List.length_replicate] at hv2
      obtain ⟨a2, c2, rfl⟩ := own_slice hv2
      have r0 := hst.out.res.cell 0
      have r1 := hst.out.res.cell 1
      have r2 := hst.out.res.cell 2
      have r3 := hst.out.res.cell 3
      have s0 := hst.out.res.frozen 0
      have s1 := hst.out.res.frozen 1
      have s2 := hst.out.res.frozen 2
      have s3 := hst.out.res.frozen 3
      simp at r0 r1 r2 r3
      clear hv2 hl2
      go_wp2_with fail
      have hst' : GroAt w wr #[.int .i64 16, .slice an n.length cn, .slice al l.length cl, .int .i64 r] 15 (.slice an n.length cn) (.slice a2 (List.replicate n.length Ty.zero).length c2) (List.replicate n.length .zero) := by rw [List.length_replicate]; exact hst.out
      have E := hst'.end' fun w' _ k => HL.out.kept k
      rw [List.length_replicate] at E
      obtain ⟨E1, u0, u1, u2, u3⟩ := E
      exact bodyPost_ret (v := .agg #[.int .i64 15, .slice an n.length cn, .slice a2 n.length c2, .int .i64 0]) (by simp [results, Tryz.results39, go_sem, u0, u1, u2, u3]) rfl (E1 _ _ _ _)
theorem opt_start (w : World) (c0 c1 c2 c3 : Value) :
    GroAt w (((((w.alloc (.cells #[c0, c1, c2, c3] 25)).alloc (.cells #[.int .i64 0, .slice none 0 0, .slice none 0 0, .int .i64 0] 25)).alloc (.cells #[.int .i64 15, .slice (some ⟨w.heap.size + 1 + 1 + 1, 0, none⟩) 2 2, .slice (some ⟨w.heap.size + 1 + 1 + 1 + 1, 0, none⟩) 1 1, .int .i64 0] 25)).alloc (.cells #[.string ⟨#[110, 111, 110, 101]⟩, .string ⟨#[115, 111, 109, 101]⟩] 9)).alloc (.cells #[.int .i64 0, .slice none 0 0, .slice none 0 0, .int .i64 0] 25)) #[c0, c1, c2, c3] 15 (.slice (some ⟨w.heap.size + 1 + 1 + 1, 0, none⟩) 2 2) (.slice (some ⟨w.heap.size + 1 + 1 + 1 + 1, 0, none⟩) 1 1) [.zero] ∧ BlkAt (((((w.alloc (.cells #[c0, c1, c2, c3] 25)).alloc (.cells #[.int .i64 0, .slice none 0 0, .slice none 0 0, .int .i64 0] 25)).alloc (.cells #[.int .i64 15, .slice (some ⟨w.heap.size + 1 + 1 + 1, 0, none⟩) 2 2, .slice (some ⟨w.heap.size + 1 + 1 + 1 + 1, 0, none⟩) 1 1, .int .i64 0] 25)).alloc (.cells #[.string ⟨#[110, 111, 110, 101]⟩, .string ⟨#[115, 111, 109, 101]⟩] 9)).alloc (.cells #[.int .i64 0, .slice none 0 0, .slice none 0 0, .int .i64 0] 25)) (w.heap.size + 1 + 1 + 1) #[.string ⟨#[110, 111, 110, 101]⟩, .string ⟨#[115, 111, 109, 101]⟩] 9 ∧
    (((((w.alloc (.cells #[c0, c1, c2, c3] 25)).alloc (.cells #[.int .i64 0, .slice none 0 0, .slice none 0 0, .int .i64 0] 25)).alloc (.cells #[.int .i64 15, .slice (some ⟨w.heap.size + 1 + 1 + 1, 0, none⟩) 2 2, .slice (some ⟨w.heap.size + 1 + 1 + 1 + 1, 0, none⟩) 1 1, .int .i64 0] 25)).alloc (.cells #[.string ⟨#[110, 111, 110, 101]⟩, .string ⟨#[115, 111, 109, 101]⟩] 9)).alloc (.cells #[.int .i64 0, .slice none 0 0, .slice none 0 0, .int .i64 0] 25)).ownsRow (w.heap.size + 1 + 1 + 1) 25 4 (.slice (some ⟨w.heap.size + 1 + 1 + 1 + 1, 0, none⟩) 1 1) 1 [.int .i64 0, .slice none 0 0, .slice none 0 0, .int .i64 0] := by
  have h1 := BlkAt.new w #[c0, c1, c2, c3] 25
  have h2 := BlkAt.new (w.alloc (.cells #[c0, c1, c2, c3] 25)) #[.int .i64 0, .slice none 0 0, .slice none 0 0, .int .i64 0] 25
  have h3 := BlkAt.new ((w.alloc (.cells #[c0, c1, c2, c3] 25)).alloc (.cells #[.int .i64 0, .slice none 0 0, .slice none 0 0, .int .i64 0] 25)) #[.int .i64 15, .slice (some ⟨w.heap.size + 1 + 1 + 1, 0, none⟩) 2 2, .slice (some ⟨w.heap.size + 1 + 1 + 1 + 1, 0, none⟩) 1 1, .int .i64 0] 25
  have h4 := BlkAt.new (((w.alloc (.cells #[c0, c1, c2, c3] 25)).alloc (.cells #[.int .i64 0, .slice none 0 0, .slice none 0 0, .int .i64 0] 25)).alloc (.cells #[.int .i64 15, .slice (some ⟨w.heap.size + 1 + 1 + 1, 0, none⟩) 2 2, .slice (some ⟨w.heap.size + 1 + 1 + 1 + 1, 0, none⟩) 1 1, .int .i64 0] 25)) #[.string ⟨#[110, 111, 110, 101]⟩, .string ⟨#[115, 111, 109, 101]⟩] 9
  have h5 := World.ownsRow_lit (base := w.heap.size + 1 + 1 + 1) (e := 25) (size := 4) ((((w.alloc (.cells #[c0, c1, c2, c3] 25)).alloc (.cells #[.int .i64 0, .slice none 0 0, .slice none 0 0, .int .i64 0] 25)).alloc (.cells #[.int .i64 15, .slice (some ⟨w.heap.size + 1 + 1 + 1, 0, none⟩) 2 2, .slice (some ⟨w.heap.size + 1 + 1 + 1 + 1, 0, none⟩) 1 1, .int .i64 0] 25)).alloc (.cells #[.string ⟨#[110, 111, 110, 101]⟩, .string ⟨#[115, 111, 109, 101]⟩] 9)) #[.int .i64 0, .slice none 0 0, .slice none 0 0, .int .i64 0] 1 (by simp) (by decide) rfl
  rw [World.size_alloc] at h2
  rw [World.size_alloc, World.size_alloc] at h3
  rw [World.size_alloc, World.size_alloc, World.size_alloc] at h4
  rw [World.size_alloc, World.size_alloc, World.size_alloc, World.size_alloc] at h5
  refine ⟨⟨(((((Kept.refl _ _).new _).new _).new _).new _).new _, h1.kept (F := fun _ => False) (((((Kept.refl _ _).new _).new _).new _).new _) id, h2.kept (F := fun _ => False) ((((Kept.refl _ _).new _).new _).new _) id, h3.kept (F := fun _ => False) (((Kept.refl _ _).new _).new _) id, ⟨_, h5, by rw [encTys_one]; exact zero_lies w⟩⟩, h4.kept (F := fun _ => False) ((Kept.refl _ _).new _) id, h5⟩
set_option maxRecDepth 100000 in
set_option maxHeartbeats 8000000 in
theorem rp_17 (n : List Nm) (x : Ty) (r : Int) (an : Option Addr) (cn : Nat) (al : Option Addr) (cl : Nat) (w : World) (h : TyAt w (.mk 17 n [x] r) an cn al cl) :
    Calls Tryz.prog 39 #[.agg #[.int .i64 17, .slice an n.length cn, .slice al 1 cl, .int .i64 r]] w (PlainR (.mk 15 [nmNone, nmSome] [.zero, x] 0) w) := by
  obtain ⟨g, o, ax, cx, ay, cy, rfl, hgl, htx, c0, c1, c2, c3⟩ := h.row.at (i := 0) (x := x) rfl
  rw [Nat.zero_mul, Nat.add_zero] at c0 c1 c2 c3
  have HC := Lib.hid (And.intro htx (And.intro c0 (And.intro c1 (And.intro c2 c3))))
  clear h hgl htx c0 c1 c2 c3
  obtain ⟨i1, hi1, hy0, hy1, hy2⟩ := info_ty
  have HB := Lib.hid (And.intro hi1 (And.intro hy0 (And.intro hy1 hy2)))
  clear hi1 hy0 hy1 hy2
  go_enter Tryz.func39, Tryz.ntmps39
  have G0 := opt_start w (.int .i64 17) (.slice an n.length cn) (.slice (some ⟨g, o, none⟩) 1 cl) (.int .i64 r)
  have HG := Lib.hid G0
  have e0 : ∀ j u, ([.int .i64 x.kind, .slice ax x.names.length cx, .slice ay x.l.length cy, .int .i64 x.r] : List Value)[j]? = some u → (((((w.alloc (.cells #[.int .i64 17, .slice an n.length cn, .slice (some ⟨g, o, none⟩) 1 cl, .int .i64 r] 25)).alloc (.cells #[.int .i64 0, .slice none 0 0, .slice none 0 0, .int .i64 0] 25)).alloc (.cells #[.int .i64 15, .slice (some ⟨w.heap.size + 1 + 1 + 1, 0, none⟩) 2 2, .slice (some ⟨w.heap.size + 1 + 1 + 1 + 1, 0, none⟩) 1 1, .int .i64 0] 25)).alloc (.cells #[.string ⟨#[110, 111, 110, 101]⟩, .string ⟨#[115, 111, 109, 101]⟩] 9)).alloc (.cells #[.int .i64 0, .slice none 0 0, .slice none 0 0, .int .i64 0] 25)).cell? ((⟨g, o, none⟩ : Addr).add j) = some u := fun j u hj => by
    have q := HC.out
    rw [Addr.add_lit]
    match j, hj with
    | 0, hj => cases hj; exact cell_box (cell_box (cell_box (cell_box (cell_box q.2.1 _) _) _) _) _
    | 1, hj => cases hj; exact cell_box (cell_box (cell_box (cell_box (cell_box q.2.2.1 _) _) _) _) _
    | 2, hj => cases hj; exact cell_box (cell_box (cell_box (cell_box (cell_box q.2.2.2.1 _) _) _) _) _
    | 3, hj => cases hj; exact cell_box (cell_box (cell_box (cell_box (cell_box q.2.2.2.2 _) _) _) _) _
    | j + 4, hj => simp at hj
  have HE := Lib.hid e0
  clear e0 G0
  go_wp2_with (first
        | (at_builtin; refine wpList_append_lies _ rfl _ _ 23 rfl (w.heap.size + 1 + 1 + 1) 25 i1 (.agg #[.int .i64 0, .slice none 0 0, .slice none 0 0, .int .i64 0]) 4 64 Tryz.underlying23 HB.out.1 HB.out.2.1 HB.out.2.2.1 HB.out.2.2.2 rfl (by decide) (.slice (some ⟨w.heap.size + 1 + 1 + 1 + 1, 0, none⟩) 1 1) 1 [.int .i64 0, .slice none 0 0, .slice none 0 0, .int .i64 0] rfl HG.out.2.2 ⟨g, o, none⟩ 1 cl [.int .i64 x.kind, .slice ax x.names.length cx, .slice ay x.l.length cy, .int .i64 x.r] rfl rfl HE.out (by simp [Value.oneCell']) (by decide) (by decide) (by decide) (by simp) _ rfl ?_
           intro g5 cap w5 hown5 hgrow hat hlt5
           have M := HG.out.1.types (zero_lies w |> fun q => by rw [encTys_one]; exact q) (ty_lies HC.out.1.n HC.out.1.l) (Kept.refl (fun _ => False) _) hgrow hown5
           have m0 := M.1.cell 0
           have m1 := M.1.cell 1
           have m2 := M.1.cell 2
           have m3 := M.1.cell 3
           have m4 := M.1.frozen 2
           simp at m0 m1 m2 m3
           have T5 := HG.out.1.t.kept (Kept.grow hgrow) (fun e => absurd (Option.some.inj (show some (w.heap.size) = some (w.heap.size + 1 + 1 + 1 + 1) from e)) (by omega))
           have R5 := HG.out.1.res.kept (Kept.grow hgrow) (fun e => absurd (Option.some.inj (show some (w.heap.size + 1) = some (w.heap.size + 1 + 1 + 1 + 1) from e)) (by omega))
           have t0 := T5.cell 0
           have r0 := R5.cell 0
           have r1 := R5.cell 1
           have r2 := R5.cell 2
           have r3 := R5.cell 3
           have s0 := R5.frozen 0
           have s1 := R5.frozen 1
           have s2 := R5.frozen 2
           have s3 := R5.frozen 3
           simp at t0 r0 r1 r2 r3
           clear T5 R5
           have N5 := HG.out.2.1.kept (Kept.grow hgrow) (fun e => absurd (Option.some.inj (show some (w.heap.size + 1 + 1 + 1) = some (w.heap.size + 1 + 1 + 1 + 1) from e)) (by omega))
           have N6 := N5.other (b' := w.heap.size + 1 + 1) (by omega) 2 (.slice (some ⟨g5, 0, none⟩) (1 + 1) cap)
           have HM := Lib.hid M.2.1
           have HN := Lib.hid N6
           clear M hown5 hgrow hat hlt5 N5 N6))
  have HM' : GroAt w (w5.setCell ⟨w.heap.size + 1 + 1, 2, none⟩ (.slice (some ⟨g5, 0, none⟩) 2 cap)) #[.int .i64 17, .slice an n.length cn, .slice (some ⟨g, o, none⟩) 1 cl, .int .i64 r] 15 (.slice (some ⟨w.heap.size + 1 + 1 + 1, 0, none⟩) [nmNone, nmSome].length 2) (.slice (some ⟨g5, 0, none⟩) [Ty.zero, x].length cap) [.zero, x] := HM.out
  have HN' : BlkAt (w5.setCell ⟨w.heap.size + 1 + 1, 2, none⟩ (.slice (some ⟨g5, 0, none⟩) 2 cap)) (w.heap.size + 1 + 1 + 1) #[.string ⟨#[110, 111, 110, 101]⟩, .string ⟨#[115, 111, 109, 101]⟩] 9 := HN.out
  obtain ⟨E1, u0, u1, u2, u3⟩ := HM'.end' fun w' k _ => liesU_blk (us := [U.s nmNone, U.s nmSome]) (HN'.kept k (by omega)) (Nat.le_refl _) (by omega) rfl (.cons (liesU_s nmNone) (.cons (liesU_s nmSome) .nil))
  exact bodyPost_ret (v := .agg #[.int .i64 15, .slice (some ⟨w.heap.size + 1 + 1 + 1, 0, none⟩) [nmNone, nmSome].length 2, .slice (some ⟨g5, 0, none⟩) [Ty.zero, x].length cap, .int .i64 0]) (by simp only [List.length_cons, List.length_nil, Nat.zero_add, Nat.reduceAdd] at u0 u1 u2 u3 ⊢; simp [results, Tryz.results39, go_sem, u0, u1, u2, u3]) rfl (E1 _ _ _ _)
/-- THE REFERENCE'S PLAIN, of a type that may be. -/
theorem rdRefPlain (t : Ty) (ho : okT t = true) (hn : t.names.length ≤ 64) (hl : t.l.length ≤ 64) (an : Option Addr) (cn : Nat) (al : Option Addr) (cl : Nat) (w : World) (h : TyAt w t an cn al cl) :
    Calls Tryz.prog 39 #[tyV t an cn al cl] w (PlainR (plainT t) w) := by
  have hw := deep_shape (k := 15) (okT_deep ho).1
  cases t with
  | mk k n l r =>
    have hn : n.length ≤ 64 := hn
    have hl : l.length ≤ 64 := hl
    by_cases h14 : k = 14
    · subst h14
      have := rp_14 n l r an cn al cl w h hl
      rw [show plainT (.mk 14 n l r) = .mk 13 ((List.range l.length).map digs) l 0 from if_pos rfl]
      exact this
    by_cases h16 : k = 16
    · subst h16
      have := rp_16 n l r an cn al cl w h hn
      rw [show plainT (.mk 16 n l r) = .mk 15 n (List.replicate n.length .zero) 0 from (if_neg (fun q => absurd (show (16 : Int) = 14 from q) (by decide))).trans (if_pos rfl)]
      exact this
    by_cases h17 : k = 17
    · subst h17
      have hl1 : l.length = 1 := by
        simp [okW] at hw
        exact hw.2
      obtain ⟨x, rfl⟩ := List.length_eq_one_iff.1 hl1
      have := rp_17 n x r an cn al cl w h
      rw [show plainT (.mk 17 n [x] r) = .mk 15 [nmNone, nmSome] [.zero, x] 0 from (if_neg (fun q => absurd (show (17 : Int) = 14 from q) (by decide))).trans ((if_neg (fun q => absurd (show (17 : Int) = 16 from q) (by decide))).trans (if_pos ⟨rfl, rfl⟩))]
      exact this
    by_cases h18 : k = 18
    · subst h18
      have hl2 : l.length = 2 := by
        simp [okW] at hw
        exact hw.2
      have := rp_18 n l r an cn al cl w h
      rw [show plainT (.mk 18 n l r) = .mk 15 [nmOk, nmError] l 0 from (if_neg (fun q => absurd (show (18 : Int) = 14 from q) (by decide))).trans ((if_neg (fun q => absurd (show (18 : Int) = 16 from q) (by decide))).trans ((if_neg (fun q => absurd (show (18 : Int) = 17 from q.1) (by decide))).trans (if_pos ⟨rfl, hl2⟩)))]
      exact this
    have e : plainT (.mk k n l r) = .mk k n l r := (if_neg h14).trans ((if_neg h16).trans ((if_neg (fun q => h17 q.1)).trans (if_neg (fun q => h18 q.1))))
    rw [e]
    exact rp_same (.mk k n l r) an cn al cl w h (beq_eq_false_iff_ne.2 h14) (beq_eq_false_iff_ne.2 h16) (beq_eq_false_iff_ne.2 h17) (beq_eq_false_iff_ne.2 h18)
end Go.Proofs.YtikgkjkgdlnekaaGreatDoor
