/- value: what a value is made of: the reference's reckoning, and the project's, are one. -/
import Derived.Test.YtikgkjkgdlnekaaGreatDoorVbG
import Derived.Test.YtikgkjkgdlnekaaGreatDoorVbF
import Derived.Test.YtikgkjkgdlnekaaGreatDoorVaP
set_option linter.unusedVariables false
set_option linter.unusedSimpArgs false
namespace Go.Proofs.YtikgkjkgdlnekaaGreatDoor
open Go.RowKit
open Lex Ct

namespace Ct
/-- The types of what a value has within. -/
def insO (t : Ty) (v : Vl) : Option (List Ty) :=
  if t.kind = 12 then (if v.n = 0 ∧ v.l.length ≤ 1000 then some (List.replicate v.l.length (t.l.getD 0 .zero)) else none)
  else if t.kind = 13 ∨ t.kind = 14 then (if v.n = 0 ∧ v.l.length = t.l.length then some t.l else none)
  else if t.kind = 15 ∨ t.kind = 16 ∨ t.kind = 17 ∨ t.kind = 18 then
    (if 0 ≤ v.n ∧ v.n < (plainL t).length then (if v.l.length = heldK ((plainL t).getD v.n.toNat .zero) then some (if heldK ((plainL t).getD v.n.toNat .zero) = 0 then [] else [(plainL t).getD v.n.toNat .zero]) else none) else none)
  else if v.l.length = 0 then some [] else none
def sumL (g : Ty → Vl → Nat) : List Ty → List Vl → Nat → Nat
  | _, [], n => n
  | [], _ :: _, _ => 0
  | t :: ts, v :: vs, n => if g t v = 0 ∨ 4000 < n + g t v then 0 else sumL g ts vs (n + g t v)
def partsK : Nat → Ty → Vl → Nat
  | 0, _, _ => 0
  | k + 1, t, v =>
    if wholeK t.kind v.n ≠ 0 then (if wholeK t.kind v.n = 1 ∨ v.s.length ≠ 0 ∨ v.l.length ≠ 0 then 0 else 1)
    else if t.kind = 10 then (if Utf.scal v.n = false ∨ v.s.length ≠ 0 ∨ v.l.length ≠ 0 then 0 else 1)
    else if t.kind = 11 then (if v.s.all Utf.scal = true ∧ v.n = 0 ∧ v.l.length = 0 ∧ v.s.length ≤ 1000 then 1 + v.s.length else 0)
    else if v.s.length ≠ 0 then 0
    else if t.kind = 19 then (if bitsB v.n t.names.length = true ∧ v.l.length = 0 then 1 else 0)
    else match insO t v with
      | none => 0
      | some ts => sumL (partsK k) ts v.l 1
theorem sumL_ge {g : Ty → Vl → Nat} : ∀ (ts : List Ty) (vs : List Vl) (n : Nat), sumL g ts vs n = 0 ∨ n ≤ sumL g ts vs n
  | _, [], n => by unfold sumL; exact .inr (Nat.le_refl _)
  | [], _ :: _, _ => by unfold sumL; exact .inl rfl
  | t :: ts, v :: vs, n => by
    unfold sumL
    split
    · exact .inl rfl
    · rcases sumL_ge ts vs (n + g t v) with h | h
      · exact .inl h
      · exact .inr (by omega)
theorem sumL_le {g : Ty → Vl → Nat} : ∀ (ts : List Ty) (vs : List Vl) (n : Nat), n ≤ 4000 → sumL g ts vs n ≤ 4000
  | _, [], n, h => by unfold sumL; exact h
  | [], _ :: _, _, _ => by unfold sumL; omega
  | t :: ts, v :: vs, n, h => by
    unfold sumL
    split
    · omega
    · exact sumL_le ts vs _ (by omega)
theorem partsK_le : ∀ (k : Nat) (t : Ty) (v : Vl), partsK k t v ≤ 4000
  | 0, t, v => by unfold partsK; omega
  | k + 1, t, v => by
    unfold partsK
    repeat' split
    all_goals first
      | omega
      | exact sumL_le _ _ _ (by omega)
/-- What is left of so many. -/
def leftO (p c : Nat) : Option Nat := if p ≠ 0 ∧ p ≤ c then some (c - p) else none
theorem sum_of {g : Ty → Vl → Nat} {F : Nat → Vl → Nat → Option Nat} : ∀ (ts : List Ty) (vs : List Vl) (i n c : Nat), ts.length = vs.length → n + c ≤ 4000 → 1 ≤ n →
    (∀ (j : Nat) (t : Ty) (x : Vl) (d : Nat), ts[j]? = some t → vs[j]? = some x → d ≤ 4000 → F (i + j) x d = leftO (g t x) d) →
    ofL F i vs c = if sumL g ts vs n ≠ 0 ∧ sumL g ts vs n ≤ n + c then some (n + c - sumL g ts vs n) else none
  | [], [], i, n, c, hl, hn, h1, hF => by
    unfold ofL sumL
    rw [if_pos (by omega)]
    congr 1
    omega
  | [], v :: vs, i, n, c, hl, hn, h1, hF => by cases hl
  | t :: ts, [], i, n, c, hl, hn, h1, hF => by cases hl
  | t :: ts, v :: vs, i, n, c, hl, hn, h1, hF => by
    have h0 := hF 0 t v c rfl rfl (by omega)
    rw [Nat.add_zero] at h0
    unfold ofL
    rw [h0]
    unfold leftO
    by_cases hz : g t v ≠ 0 ∧ g t v ≤ c
    · rw [if_pos hz]
      show ofL F (i + 1) vs (c - g t v) = _
      have e : sumL g (t :: ts) (v :: vs) n = sumL g ts vs (n + g t v) := by
        conv => lhs; unfold sumL
        rw [if_neg (by omega)]
      rw [e, sum_of ts vs (i + 1) (n + g t v) (c - g t v) (by simpa using hl) (by omega) (by omega) (fun j t x d ht hx hd => by
        have := hF (j + 1) t x d ht hx hd
        rw [show i + 1 + j = i + (j + 1) by omega]
        exact this)]
      rw [show n + g t v + (c - g t v) = n + c by omega]
    · rw [if_neg hz]
      show none = _
      have : ¬ (sumL g (t :: ts) (v :: vs) n ≠ 0 ∧ sumL g (t :: ts) (v :: vs) n ≤ n + c) := by
        unfold sumL
        split
        · omega
        · rcases sumL_ge (g := g) ts vs (n + g t v) with h | h
          · omega
          · omega
      rw [if_neg this]
/-- The kind, here, of the plain type. -/
theorem plP_kind {k : Nat} {t : Ty} (h : deepK (k + 1) t = true) : (plP t).kind = if t.kind = 16 ∨ t.kind = 17 ∨ t.kind = 18 then 15 else t.kind := by
  have hw := deep_shape h
  unfold plP
  split
  · rename_i e
    unfold plainT
    rw [if_neg (by omega)]
    by_cases h16 : t.kind = 16
    · rw [if_pos h16]; rfl
    rw [if_neg h16]
    by_cases h17 : t.kind = 17
    · have hl : t.l.length = 1 := by
        rw [h17] at hw
        simp [okW] at hw
        exact hw.2
      rw [if_pos ⟨h17, hl⟩]; rfl
    rw [if_neg (fun q => h17 q.1)]
    have h18 : t.kind = 18 := by omega
    have hl : t.l.length = 2 := by
      rw [h18] at hw
      simp [okW] at hw
      exact hw.2
    rw [if_pos ⟨h18, hl⟩]; rfl
  · rfl
theorem deep_kids {k : Nat} {t x : Ty} (h : deepK (k + 1) t = true) (hx : x ∈ t.l) : (isNone x = true ∧ (t.kind = 15 ∨ t.kind = 18)) ∨ deepK k x = true := by
  unfold deepK at h
  simp only [Bool.and_eq_true, List.all_eq_true, Bool.or_eq_true] at h
  rcases h.2 x hx with h | h
  · have h1 := h.1
    unfold orN at h1
    simp at h1
    exact .inl ⟨h.2, h1⟩
  · exact .inr h
theorem plK_kind {k : Nat} {t : Ty} : (plK (k + 1) t).kind = (plP t).kind := rfl
theorem plK_names {k : Nat} {t : Ty} : (plK (k + 1) t).names = (plP t).names := rfl
theorem plK_l {k : Nat} {t : Ty} : (plK (k + 1) t).l = (plP t).l.map (plK k) := rfl
theorem ok_pl : ∀ (k : Nat) (t : Ty), deepK k t = true → okP k (plK (k + 1) t)
  | 0, t, h => by cases h
  | k + 1, t, h => by
    have hw := deep_shape h
    have hk := plP_kind h
    refine ⟨fun e => ?_, fun e => ?_, fun x hx => ?_⟩
    · rw [plK_kind, hk] at e
      split at e
      · omega
      · rename_i hn
        rw [plK_l, plP_l, if_neg hn]
        rw [e] at hw
        simp [okW] at hw
        intro e2
        rw [List.map_eq_nil_iff] at e2
        rw [e2] at hw
        simp at hw
    · rw [plK_kind, hk] at e
      split at e
      · omega
      · rename_i hn
        have e2 : plP t = t := if_neg hn
        rw [plK_names, e2]
        rw [e] at hw
        simp [okW] at hw
        omega
    · rw [plK_l] at hx
      obtain ⟨y, hy, rfl⟩ := List.mem_map.1 hx
      rw [show (plK (k + 1 + 1) t).kind = (plP t).kind from rfl, hk]
      have key : isNone y = true → (plK (k + 1) y).kind = 0 := fun h => by rw [plK_none h]; exact isNone_kind h
      rw [plP_l] at hy
      split at hy
      · rename_i e
        rw [if_pos e]
        rcases plainL_mem' hy with rfl | hy
        · exact .inl ⟨key none_zero5, rfl⟩
        · rcases deep_kids h hy with h2 | h2
          · exact .inl ⟨key h2.1, rfl⟩
          · exact .inr (ok_pl k y h2)
      · rename_i e
        rw [if_neg e]
        rcases deep_kids h hy with h2 | h2
        · exact .inl ⟨key h2.1, by omega⟩
        · exact .inr (ok_pl k y h2)
theorem held_pl {k : Nat} {x : Ty} (h : goodT k x) : heldK (plK (k + 1) x) = heldK x := by
  unfold heldK
  rcases h with h | h
  · rw [plK_none h]
  · cases k with
    | zero => cases h
    | succ k =>
      have := (deepK_kind h).1
      rw [plK_kind, plP_kind h]
      by_cases e : x.kind = 16 ∨ x.kind = 17 ∨ x.kind = 18
      · rw [if_pos e, if_neg (by decide), if_neg (by omega)]
      · rw [if_neg e]
theorem leaf_of {k : Nat} {t : Ty} {v : Vl} {c : Nat} (h : shapedV t v = true → v.l = []) : ofK (k + 1) t v c = leftO (if shapedV t v = true then 1 + v.s.length else 0) c := by
  unfold ofK leftO
  by_cases hs : shapedV t v = true
  · rw [if_pos hs, h hs]
    by_cases hc : c < 1 + v.s.length
    · rw [if_pos hc, if_neg (by omega)]
    · rw [if_neg hc, if_neg (by rw [hs]; decide), if_pos (by omega)]
      rfl
  · rw [if_neg hs, if_pos (Bool.eq_false_iff.2 hs)]
    rw [if_neg (show ¬ ((0 : Nat) ≠ 0 ∧ (0 : Nat) ≤ c) by omega)]
    split <;> rfl
theorem len0 {α : Type} {l : List α} : (l.length == 0) = true ↔ l.length = 0 := by simp
/-- The numbers of the kinds of whole numbers. -/
theorem whole_num (t : Ty) (n : Int) : (wholeK t.kind n ≠ 0 ↔ (1 ≤ t.kind ∧ t.kind ≤ 9) ∨ t.kind = 20 ∨ t.kind = 21) ∧ (wholeK t.kind n ≠ 0 → (numB t n = true ↔ wholeK t.kind n ≠ 1)) := by
  have e1 : ((2 ^ 1 : Nat) : Int) = 2 := by decide
  have e8 : ((2 ^ 8 : Nat) : Int) = 256 := by decide
  have e16 : ((2 ^ 16 : Nat) : Int) = 65536 := by decide
  have e32 : ((2 ^ 32 : Nat) : Int) = 4294967296 := by decide
  unfold wholeK numB bitsB
  rw [e1, e8, e16, e32]
  generalize t.kind = k
  generalize ((2 ^ t.names.length : Nat) : Int) = m
  constructor
  · repeat' split
    all_goals (simp; try omega)
  · intro h
    by_cases h1 : k = 1
    · subst h1; simp; try omega
    by_cases h2 : k = 2
    · subst h2; simp; try omega
    by_cases h3 : k = 3
    · subst h3; simp; try omega
    by_cases h4 : k = 4
    · subst h4; simp; try omega
    by_cases h5 : k = 5
    · subst h5; simp; try omega
    by_cases h6 : k = 6
    · subst h6; simp; try omega
    by_cases h7 : k = 7 ∨ k = 20 ∨ k = 21
    · rw [if_neg h1, if_neg h2, if_neg h3, if_neg h4, if_neg h5, if_neg h6, if_pos h7, if_neg h1, if_neg h2, if_neg h3, if_neg h4, if_neg h5, if_neg h6, if_pos h7, decide_eq_true_iff]
      split <;> simp_all
    by_cases h8 : k = 8 ∨ k = 9
    · rw [if_neg h1, if_neg h2, if_neg h3, if_neg h4, if_neg h5, if_neg h6, if_neg h7, if_pos h8, if_neg h1, if_neg h2, if_neg h3, if_neg h4, if_neg h5, if_neg h6, if_neg h7, if_neg (by omega), if_neg (by omega), decide_eq_true_iff]
      omega
    · rw [if_neg h1, if_neg h2, if_neg h3, if_neg h4, if_neg h5, if_neg h6, if_neg h7, if_neg h8] at h
      exact absurd rfl h
theorem numB_congr {t u : Ty} (h1 : t.kind = u.kind) (h2 : t.names = u.names) (n : Int) : numB t n = numB u n := by
  unfold numB
  rw [h1, h2]
theorem good_kid {k : Nat} {t x : Ty} (h : deepK (k + 1) t = true) (hx : x ∈ plainL t) : goodT k x := by
  rcases plainL_mem' hx with rfl | hx
  · exact .inl none_zero5
  · exact deep_part h hx
theorem variant_l {t : Ty} (h : t.kind = 15 ∨ t.kind = 16 ∨ t.kind = 17 ∨ t.kind = 18) : (plP t).l = plainL t := by
  rw [plP_l]
  split
  · rfl
  · unfold plainL
    rw [if_neg (by omega), if_neg (by omega)]
theorem getD_at {l : List Ty} {i : Nat} (h : i < l.length) : l.getD i .zero = l[i] := by
  rw [List.getD_eq_getElem?_getD, List.getElem?_eq_getElem h]
  rfl
/-- THE TWO RECKONINGS ARE ONE. -/
theorem rel_all : ∀ (k : Nat) (t : Ty) (v : Vl) (c : Nat), deepK k t = true → c ≤ 4000 → ofK k (plK (k + 1) t) v c = leftO (partsK k t v) c
  | 0, t, v, c, h, hc => by cases h
  | k + 1, t, v, c, h, hc => by
    have hk := plP_kind h
    have hkind := deepK_kind h
    have hw := deep_shape h
    have hwh := whole_num t v.n
    by_cases hcp : 12 ≤ t.kind ∧ t.kind ≤ 18
    · have hz : ¬ (wholeK t.kind v.n ≠ 0) := by rw [hwh.1]; omega
      have hp : partsK (k + 1) t v = if v.s.length ≠ 0 then 0 else match insO t v with
          | none => 0
          | some ts => sumL (partsK k) ts v.l 1 := by
        conv => lhs; unfold partsK
        rw [if_neg hz, if_neg (by omega), if_neg (by omega)]
        split
        · rfl
        · rw [if_neg (by omega)]
      have hK : (plK (k + 1 + 1) t).kind = if t.kind = 16 ∨ t.kind = 17 ∨ t.kind = 18 then 15 else t.kind := hk
      have hK11 : (plK (k + 1 + 1) t).kind ≠ 11 := by rw [hK]; split <;> omega
      by_cases hs : v.s.length = 0
      · rw [hp, if_neg (by omega)]
        -- what is within
        have key : (shapedV (plK (k + 1 + 1) t) v = true ∧ ∃ ts, insO t v = some ts ∧ ts.length = v.l.length ∧ ∀ j u x, ts[j]? = some u → v.l[j]? = some x → deepK k u = true ∧ witO (plK (k + 1 + 1) t) v.n j = some (plK (k + 1) u)) ∨ (shapedV (plK (k + 1 + 1) t) v = false ∧ insO t v = none) := by
          by_cases h12 : t.kind = 12
          · have hl1 : t.l.length = 1 := by rw [h12] at hw; simp [okW] at hw; exact hw.2
            obtain ⟨u, hu⟩ := List.length_eq_one_iff.1 hl1
            have hK12 : (plK (k + 1 + 1) t).kind = 12 := by rw [hK, if_neg (by omega)]; exact h12
            have hsh : shapedV (plK (k + 1 + 1) t) v = (v.n == 0 && decide (v.l.length ≤ 1000)) := by
              unfold shapedV
              rw [if_neg hK11, if_neg (by omega), if_pos hK12]
            have hi : insO t v = if v.n = 0 ∧ v.l.length ≤ 1000 then some (List.replicate v.l.length (t.l.getD 0 .zero)) else none := by unfold insO; rw [if_pos h12]
            by_cases hq : v.n = 0 ∧ v.l.length ≤ 1000
            · refine .inl ⟨by rw [hsh]; simp [hq.1, hq.2], _, by rw [hi, if_pos hq], by simp, fun j y x hy hx => ?_⟩
              have hy2 := List.mem_of_getElem? hy
              rw [List.eq_of_mem_replicate hy2, hu]
              refine ⟨?_, ?_⟩
              · rcases deep_kids h (show u ∈ t.l by rw [hu]; exact List.mem_cons_self) with h2 | h2
                · omega
                · exact h2
              · unfold witO
                rw [if_pos hK12, plK_l, plP_l, if_neg (by omega), hu]
                rfl
            · refine .inr ⟨?_, by rw [hi, if_neg hq]⟩
              rw [hsh, Bool.eq_false_iff]
              intro q
              simp only [Bool.and_eq_true, beq_iff_eq, decide_eq_true_eq] at q
              exact hq q
          · by_cases h13 : t.kind = 13 ∨ t.kind = 14
            · have hKe : (plK (k + 1 + 1) t).kind = t.kind := by rw [hK, if_neg (by omega)]
              have hle : (plK (k + 1 + 1) t).l = t.l.map (plK (k + 1)) := by rw [plK_l, plP_l, if_neg (by omega)]
              have hsh : shapedV (plK (k + 1 + 1) t) v = (v.n == 0 && v.l.length == t.l.length) := by
                unfold shapedV
                rw [if_neg hK11, if_neg (by omega), if_neg (by omega), if_pos (by omega), hle, List.length_map]
              have hi : insO t v = if v.n = 0 ∧ v.l.length = t.l.length then some t.l else none := by unfold insO; rw [if_neg h12, if_pos h13]
              by_cases hq : v.n = 0 ∧ v.l.length = t.l.length
              · refine .inl ⟨by rw [hsh]; simp [hq.1, hq.2], _, by rw [hi, if_pos hq], hq.2.symm, fun j y x hy hx => ?_⟩
                refine ⟨?_, ?_⟩
                · rcases deep_kids h (List.mem_of_getElem? hy) with h2 | h2
                  · omega
                  · exact h2
                · unfold witO
                  rw [if_neg (by omega), if_neg (by omega), hle, List.getElem?_map, hy]
                  rfl
              · refine .inr ⟨?_, by rw [hi, if_neg hq]⟩
                rw [hsh, Bool.eq_false_iff]
                intro q
                simp only [Bool.and_eq_true, beq_iff_eq] at q
                exact hq q
            · have h15 : t.kind = 15 ∨ t.kind = 16 ∨ t.kind = 17 ∨ t.kind = 18 := by omega
              have hK15 : (plK (k + 1 + 1) t).kind = 15 := by rw [hK]; split <;> omega
              have hle : (plK (k + 1 + 1) t).l = (plainL t).map (plK (k + 1)) := by rw [plK_l, variant_l h15]
              have hll : (plK (k + 1 + 1) t).l.length = (plainL t).length := by rw [hle, List.length_map]
              have hi : insO t v = if 0 ≤ v.n ∧ v.n < (plainL t).length then (if v.l.length = heldK ((plainL t).getD v.n.toNat .zero) then some (if heldK ((plainL t).getD v.n.toNat .zero) = 0 then [] else [(plainL t).getD v.n.toNat .zero]) else none) else none := by
                unfold insO
                rw [if_neg h12, if_neg h13, if_pos h15]
              have hsh : shapedV (plK (k + 1 + 1) t) v = (decide (0 ≤ v.n ∧ v.n < (plainL t).length) && (v.l.length == heldK ((plK (k + 1 + 1) t).l.getD v.n.toNat .zero))) := by
                unfold shapedV
                rw [if_neg hK11, if_neg (by omega), if_neg (by omega), if_neg (by omega), if_pos hK15, hll]
              by_cases hq : 0 ≤ v.n ∧ v.n < (plainL t).length
              · have hlt : v.n.toNat < (plainL t).length := by omega
                have hg : goodT k (plainL t)[v.n.toNat] := good_kid h (List.getElem_mem hlt)
                have hh : heldK ((plK (k + 1 + 1) t).l.getD v.n.toNat .zero) = heldK (plainL t)[v.n.toNat] := by
                  rw [getD_at (by rw [hll]; exact hlt)]
                  have : (plK (k + 1 + 1) t).l[v.n.toNat]'(by rw [hll]; exact hlt) = plK (k + 1) (plainL t)[v.n.toNat] := by
                    simp only [hle, List.getElem_map]
                  rw [this, held_pl hg]
                rw [hh, decide_eq_true hq, Bool.true_and] at hsh
                rw [if_pos hq, getD_at hlt] at hi
                by_cases hv : v.l.length = heldK (plainL t)[v.n.toNat]
                · refine .inl ⟨by rw [hsh]; simp [hv], _, by rw [hi, if_pos hv], ?_, fun j y x hy hx => ?_⟩
                  · split
                    · rename_i e; rw [hv, e]; rfl
                    · rename_i e
                      unfold heldK at hv e
                      split at e
                      · exact absurd rfl e
                      · rename_i e3
                        rw [if_neg e3] at hv
                        rw [hv]; rfl
                  · split at hy
                    · cases hy
                    · rename_i e
                      have hj : j = 0 := by
                        have := (List.getElem?_eq_some_iff.1 hy).1
                        simp at this
                        exact this
                      subst hj
                      have hy : some (plainL t)[v.n.toNat] = some y := hy
                      have hy := Option.some.inj hy
                      subst hy
                      refine ⟨?_, ?_⟩
                      · rcases hg with hg | hg
                        · exfalso
                          apply e
                          unfold heldK
                          rw [if_pos (isNone_kind hg)]
                        · exact hg
                      · unfold witO
                        rw [if_neg (by omega), if_pos hK15, if_pos hq.1, hle, List.getElem?_map, List.getElem?_eq_getElem hlt]
                        rfl
                · exact .inr ⟨by rw [hsh]; simp [hv], by rw [hi, if_neg hv]⟩
              · exact .inr ⟨by rw [hsh, decide_eq_false hq, Bool.false_and], by rw [hi, if_neg hq]⟩
        rcases key with ⟨hsh, ts, hi, hlen, hin⟩ | ⟨hsh, hi⟩
        · rw [hi]
          show ofK (k + 1) (plK (k + 1 + 1) t) v c = leftO (sumL (partsK k) ts v.l 1) c
          unfold ofK leftO
          by_cases hc0 : c < 1 + v.s.length
          · rw [if_pos hc0, if_neg (by omega)]
          · rw [if_neg hc0, if_neg (by rw [hsh]; decide)]
            have := sum_of (g := partsK k) (F := fun i x c => match witO (plK (k + 1 + 1) t) v.n i with
              | none => none
              | some u => ofK k u x c) ts v.l 0 1 (c - (1 + v.s.length)) hlen (by omega) (Nat.le_refl _) (fun j u x d hu hx hd => by
                obtain ⟨h1, h2⟩ := hin j u x hu hx
                rw [Nat.zero_add]
                show (match witO (plK (k + 1 + 1) t) v.n j with
                  | none => none
                  | some u => ofK k u x d) = _
                rw [h2]
                exact rel_all k u x d h1 hd)
            refine this.trans ?_
            rw [show 1 + (c - (1 + v.s.length)) = c by omega]
        · rw [hi]
          show ofK (k + 1) (plK (k + 1 + 1) t) v c = leftO 0 c
          unfold ofK leftO
          rw [if_neg (show ¬ ((0 : Nat) ≠ 0 ∧ (0 : Nat) ≤ c) by omega), if_pos hsh]
          split <;> rfl
      · rw [hp, if_pos hs]
        have hsh : shapedV (plK (k + 1 + 1) t) v = false := by
          unfold shapedV
          rw [if_neg hK11, if_pos hs]
        unfold ofK leftO
        rw [if_neg (show ¬ ((0 : Nat) ≠ 0 ∧ (0 : Nat) ≤ c) by omega), if_pos hsh]
        split <;> rfl
    · have e : plP t = t := if_neg (by omega)
      have eK : (plK (k + 1 + 1) t).kind = t.kind := by rw [plK_kind, e]
      have eN : (plK (k + 1 + 1) t).names = t.names := by rw [plK_names, e]
      have eq : shapedV (plK (k + 1 + 1) t) v = (if t.kind = 11 then v.n == 0 && (isTextB v.s && v.l.length == 0) else if v.s.length ≠ 0 then false else numB t v.n && v.l.length == 0) := by
        unfold shapedV
        rw [eK, numB_congr eK eN]
        split
        · rfl
        · split
          · rfl
          · rw [if_neg (by omega), if_neg (by omega), if_neg (by omega)]
      rw [leaf_of (fun hs => by
        rw [eq] at hs
        split at hs
        · simp only [Bool.and_eq_true, beq_iff_eq] at hs
          exact List.length_eq_zero_iff.1 hs.2.2
        · split at hs
          · cases hs
          · simp only [Bool.and_eq_true, beq_iff_eq] at hs
            exact List.length_eq_zero_iff.1 hs.2)]
      congr 1
      rw [eq]
      unfold partsK
      by_cases hz : wholeK t.kind v.n ≠ 0
      · have hzk := hwh.1.1 hz
        have hnb := hwh.2 hz
        rw [if_pos hz, if_neg (show ¬ t.kind = 11 by omega)]
        by_cases hs : v.s.length ≠ 0
        · rw [if_pos hs, if_neg (show ¬ (false = true) by decide), if_pos (.inr (.inl hs))]
        · rw [if_neg hs]
          by_cases hn : numB t v.n = true
          · by_cases hl : v.l.length = 0
            · rw [if_pos (by rw [hn, hl]; rfl), if_neg (by rw [hnb] at hn; omega)]
              omega
            · rw [if_neg (by rw [hn, Bool.true_and]; simpa using hl), if_pos (.inr (.inr hl))]
          · have hn1 : wholeK t.kind v.n = 1 := by
              rw [hnb] at hn
              omega
            rw [if_neg (by rw [Bool.eq_false_iff.2 hn, Bool.false_and]; decide), if_pos (.inl hn1)]
      · rw [if_neg hz]
        rw [hwh.1] at hz
        by_cases h10 : t.kind = 10
        · have hnb : numB t v.n = Utf.scal v.n := by unfold numB; rw [h10]; simp
          rw [if_pos h10, if_neg (show ¬ t.kind = 11 by omega), hnb]
          by_cases hs : v.s.length ≠ 0
          · rw [if_pos hs, if_neg (show ¬ (false = true) by decide), if_pos (.inr (.inl hs))]
          · rw [if_neg hs]
            cases hsc : Utf.scal v.n
            · rw [Bool.false_and, if_neg (by decide), if_pos (.inl rfl)]
            · rw [Bool.true_and]
              by_cases hl : v.l.length = 0
              · rw [if_pos (by rw [hl]; rfl), if_neg (fun q => by rcases q with q | q | q; exact absurd q (by decide); exact hs q; exact q hl)]
                omega
              · rw [if_neg (by simpa using hl), if_pos (.inr (.inr hl))]
        · rw [if_neg h10]
          by_cases h11 : t.kind = 11
          · rw [if_pos h11, if_pos h11]
            unfold isTextB
            by_cases hq : v.s.all Utf.scal = true ∧ v.n = 0 ∧ v.l.length = 0 ∧ v.s.length ≤ 1000
            · rw [if_pos hq, if_pos (by rw [hq.1, hq.2.1, hq.2.2.1]; simp [hq.2.2.2])]
            · rw [if_neg hq, if_neg (fun q => hq (by
                simp only [Bool.and_eq_true, beq_iff_eq, decide_eq_true_eq] at q
                exact ⟨q.2.1.1, q.1, q.2.2, q.2.1.2⟩))]
          · rw [if_neg h11, if_neg h11]
            have h19 : t.kind = 19 := by omega
            have hnb : numB t v.n = bitsB v.n t.names.length := by unfold numB; rw [h19]; simp
            by_cases hs : v.s.length ≠ 0
            · rw [if_pos hs, if_neg (show ¬ (false = true) by decide), if_pos hs]
            · rw [if_neg hs, if_neg hs, if_pos h19, hnb]
              by_cases hq : bitsB v.n t.names.length = true ∧ v.l.length = 0
              · rw [if_pos hq, if_pos (by rw [hq.1, hq.2]; rfl)]
                omega
              · rw [if_neg hq, if_neg (fun q => hq (by simpa using q))]
end Ct
end Go.Proofs.YtikgkjkgdlnekaaGreatDoor
