/- lex: the document's own names. -/
import Derived.Test.YtlkbgdhlbdjbiaaDoorLexJ
namespace Go.Proofs.YtlkbgdhlbdjbiaaDoor
open Go.RowKit
open Lex

theorem far_all {p : Int → Bool} : ∀ {l : List Int}, far p l = l.length → ∀ x ∈ l, p x = true
  | [], _, x, hx => by cases hx
  | c :: r, h, x, hx => by
    by_cases hp : p c = true
    · rw [far_next hp, List.length_cons] at h
      rcases List.mem_cons.1 hx with h2 | h2
      · rw [h2]; exact hp
      · exact far_all (by omega) x h2
    · rw [far_stop (by simpa using hp)] at h
      cases h
theorem all_far {p : Int → Bool} : ∀ {l : List Int}, (∀ x ∈ l, p x = true) → far p l = l.length
  | [], _ => rfl
  | c :: r, h => by
    rw [far_next (h c List.mem_cons_self), all_far (fun x hx => h x (List.mem_cons_of_mem _ hx)), List.length_cons]

namespace Lex
def knd (c : Int) : Int := if sml c then 1 else if grt c then 2 else if dig c then 3 else if c = 45 then 4 else if c = 46 then 5 else 0
/-- The document's own walk over a name: at a part's beginning, or within a part of letters of this size. -/
def goR : Bool → Int → List Int → Bool
  | b, _, [] => !b
  | true, _, c :: r => if ltr c then goR false (knd c) r else false
  | false, z, c :: r => if knd c = z ∨ knd c = 3 ∨ knd c = 4 then goR (c == 45) z r else false
theorem goR_t (z c : Int) (r : List Int) : goR true z (c :: r) = if ltr c then goR false (knd c) r else false := rfl
theorem goR_f (z c : Int) (r : List Int) : goR false z (c :: r) = if knd c = z ∨ knd c = 3 ∨ knd c = 4 then goR (c == 45) z r else false := rfl
theorem sml_dig {c : Int} (h : sml c = true) : dig c = false ∧ grt c = false := by
  unfold sml at h
  unfold dig grt
  have := of_decide_eq_true h
  simp
  omega
theorem grt_dig {c : Int} (h : grt c = true) : dig c = false ∧ sml c = false := by
  unfold grt at h
  unfold dig sml
  have := of_decide_eq_true h
  simp
  omega
theorem far_eq (p : Int → Bool) (l : List Int) : decide (far p l = l.length) = l.all p := by
  rw [Bool.eq_iff_iff, decide_eq_true_iff, List.all_eq_true]
  exact ⟨fun h => far_all h, fun h => all_far h⟩
theorem prt_eq (c : Int) (r : List Int) : prt (c :: r) = ((sml c && r.all smd) || (grt c && r.all grd)) := by
  have h : prt (c :: r) = (!dig c && ((c :: r).all smd || (c :: r).all grd)) := by
    show (!dig c && decide (max (far smd (c :: r)) (far grd (c :: r)) = (c :: r).length)) = _
    congr 1
    rw [← far_eq, ← far_eq, Bool.eq_iff_iff, decide_eq_true_iff, Bool.or_eq_true, decide_eq_true_iff, decide_eq_true_iff]
    have h1 := far_le smd (c :: r)
    have h2 := far_le grd (c :: r)
    omega
  rw [h, List.all_cons, List.all_cons]
  unfold smd grd
  cases h1 : sml c
  · cases h2 : grt c
    · cases dig c <;> simp
    · rw [(grt_dig h2).1]; simp
  · rw [(sml_dig h1).1, (sml_dig h1).2]; simp
theorem knd_s {c : Int} (h : sml c = true) : knd c = 1 := by unfold knd; rw [if_pos h]
theorem knd_g {c : Int} (h : grt c = true) : knd c = 2 := by unfold knd; rw [if_neg (by rw [(grt_dig h).2]; decide), if_pos h]
theorem knd_1 {c : Int} (h : knd c = 1) : sml c = true := by
  unfold knd at h
  repeat' split at h
  all_goals first | assumption | (exfalso; omega)
theorem knd_2 {c : Int} (h : knd c = 2) : grt c = true := by
  unfold knd at h
  repeat' split at h
  all_goals first | assumption | (exfalso; omega)
theorem knd_3 {c : Int} : knd c = 3 ↔ dig c = true := by
  constructor
  · intro h
    unfold knd at h
    repeat' split at h
    all_goals first | assumption | (exfalso; omega)
  · intro h
    have h1 : sml c = false := by
      cases hs : sml c
      · rfl
      · rw [(sml_dig hs).1] at h; cases h
    have h2 : grt c = false := by
      cases hs : grt c
      · rfl
      · rw [(grt_dig hs).1] at h; cases h
    unfold knd
    rw [h1, h2, h]
    rfl
theorem knd_4 {c : Int} : knd c = 4 ↔ c = 45 := by
  constructor
  · intro h
    unfold knd at h
    repeat' split at h
    all_goals first | assumption | (exfalso; omega)
  · intro h
    rw [h]
    rfl
/-- One letter, digit more in a part. -/
theorem prt_snoc {h : Int} {t : List Int} {c : Int} (hp : prt (h :: t) = true) (hc : c ≠ 45) : prt (h :: (t ++ [c])) = decide (knd c = knd h ∨ knd c = 3 ∨ knd c = 4) := by
  have h4 : knd c ≠ 4 := fun e => hc (knd_4.1 e)
  rw [prt_eq] at hp ⊢
  rw [List.all_append, List.all_append]
  cases hs : sml h
  · cases hg : grt h
    · rw [hs, hg] at hp
      simp at hp
    · rw [hs, hg, Bool.false_and, Bool.false_or, Bool.true_and] at hp
      rw [hp, knd_g hg]
      simp only [Bool.false_and, Bool.false_or, Bool.true_and, List.all_cons, List.all_nil, Bool.and_true]
      unfold grd
      rw [Bool.eq_iff_iff, Bool.or_eq_true, decide_eq_true_iff]
      constructor
      · rintro (h | h)
        · exact .inl (knd_g h)
        · exact .inr (.inl (knd_3.2 h))
      · rintro (h | h | h)
        · exact .inl (knd_2 h)
        · exact .inr (knd_3.1 h)
        · exact absurd h h4
  · have hg := (sml_dig hs).2
    rw [hs, hg, Bool.false_and, Bool.or_false, Bool.true_and] at hp
    rw [hp, hg, knd_s hs]
    simp only [Bool.false_and, Bool.or_false, Bool.true_and, List.all_cons, List.all_nil, Bool.and_true]
    unfold smd
    rw [Bool.eq_iff_iff, Bool.or_eq_true, decide_eq_true_iff]
    constructor
    · rintro (h | h)
      · exact .inl (knd_s h)
      · exact .inr (.inl (knd_3.2 h))
    · rintro (h | h | h)
      · exact .inl (knd_1 h)
      · exact .inr (knd_3.1 h)
      · exact absurd h h4
theorem prt_bad {h : Int} {t : List Int} {c : Int} (hp : prt (h :: t) = false) : prt (h :: (t ++ [c])) = false := by
  rw [prt_eq] at hp ⊢
  rw [List.all_append, List.all_append]
  revert hp
  cases sml h <;> cases grt h <;> cases t.all smd <;> cases t.all grd <;> simp
theorem cuts_name : ∀ (l : List Int), (∀ z, (cuts 45 [] l).all prt = goR true z l) ∧ (∀ h t, prt (h :: t) = true → (cuts 45 (h :: t) l).all prt = goR false (knd h) l) ∧ (∀ h t, prt (h :: t) = false → (cuts 45 (h :: t) l).all prt = false)
  | [] => ⟨fun z => rfl, fun h t hp => by rw [cuts, List.all_cons, hp]; rfl, fun h t hp => by rw [cuts, List.all_cons, hp]; rfl⟩
  | c :: r => by
    obtain ⟨i1, i2, i3⟩ := cuts_name r
    by_cases hc : c = 45
    · subst hc
      refine ⟨fun z => ?_, fun h t hp => ?_, fun h t hp => ?_⟩
      · rw [cuts, if_pos rfl, List.all_cons]
        rfl
      · rw [cuts, if_pos rfl, List.all_cons, hp, Bool.true_and, i1 (knd h), goR_f, if_pos (.inr (.inr rfl))]
        rfl
      · rw [cuts, if_pos rfl, List.all_cons, hp, Bool.false_and]
    · have hb : (c == 45) = false := by simpa using hc
      refine ⟨fun z => ?_, fun h t hp => ?_, fun h t hp => ?_⟩
      · rw [cuts, if_neg hc, goR_t]
        have h1 : prt (c :: []) = ltr c := by rw [prt_eq]; unfold ltr; simp
        show (cuts 45 (c :: []) r).all prt = _
        cases hl : ltr c
        · rw [i3 c [] (h1.trans hl)]; rfl
        · rw [i2 c [] (h1.trans hl)]; rfl
      · rw [cuts, if_neg hc, goR_f, hb]
        have h1 := prt_snoc (c := c) hp hc
        show (cuts 45 (h :: (t ++ [c])) r).all prt = _
        by_cases hk : knd c = knd h ∨ knd c = 3 ∨ knd c = 4
        · rw [if_pos hk]
          exact i2 h _ (h1.trans (decide_eq_true hk))
        · rw [if_neg hk]
          exact i3 h _ (h1.trans (decide_eq_false hk))
      · rw [cuts, if_neg hc]
        exact i3 h _ (prt_bad hp)
theorem name_goR (l : List Int) (z : Int) : nameL l = (decide (l.length ≤ 100) && goR true z l) := by
  unfold nameL
  rw [(cuts_name l).1 z]
end Lex

set_option maxRecDepth 100000 in
theorem kind_any (c : Int) (w : World) : Calls Tryd.prog 59 #[.int .u8 c] w fun e w' => e = .returned (.int .i64 (knd c)) ∧ w = w' := by
  go_enter Tryd.func59, Tryd.ntmps59
  go_wp2
  all_goals go_ret
  all_goals refine ⟨congrArg (fun z => Ending.returned (.int .i64 z)) ?_, rfl⟩
  all_goals unfold knd sml grt dig
  all_goals simp at *
  all_goals (repeat' split)
  all_goals first | rfl | omega
end Go.Proofs.YtlkbgdhlbdjbiaaDoor
