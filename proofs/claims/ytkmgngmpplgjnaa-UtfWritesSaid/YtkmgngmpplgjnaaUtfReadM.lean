/- Reading characters: what a text's bytes are, and that they are of one list of characters alone: numbers and lists, no program. -/
import Derived.Test.YtkmgngmpplgjnaaUtfMath
import Derived.Test.YtkmgngmpplgjnaaKit0
namespace Go.Proofs.Ytkmgngmpplgjnaa
namespace Utf

theorem oneL_length (form p : Int) : (oneL form p).length ≤ 4 := by
  unfold oneL
  repeat' split
  all_goals simp

/-- The shapes of a character's bytes, by forms. -/
theorem shape2 {p : Int} (h : oneL 2 p ≠ []) : oneL 2 p = [p] ∧ 0 ≤ p ∧ p ≤ 255 := by
  by_cases hs : scal p = true
  · have h' := scal_parts hs
    by_cases hp : 255 < p
    · exact absurd (oneL_2a hs hp) h
    · exact ⟨oneL_2 hs hp, by omega, by omega⟩
  · exact absurd (oneL_no (by cases hb : scal p <;> simp_all)) h
theorem shape1 {p : Int} (h : oneL 1 p ≠ []) : (oneL 1 p = [p % 256, p / 256] ∧ 0 ≤ p ∧ p < 65536 ∧ (p < 55296 ∨ 57343 < p)) ∨
    (oneL 1 p = [hiU p % 256, hiU p / 256, loU p % 256, loU p / 256] ∧ 65536 ≤ p ∧ p ≤ 1114111) := by
  by_cases hs : scal p = true
  · have h' := scal_parts hs
    by_cases hp : p < 65536
    · exact .inl ⟨oneL_1a hs hp, by omega, by omega, by omega⟩
    · exact .inr ⟨oneL_1b hs hp, by omega, by omega⟩
  · exact absurd (oneL_no (by cases hb : scal p <;> simp_all)) h
theorem shape0 {p : Int} (h : oneL 0 p ≠ []) : (oneL 0 p = [p] ∧ 0 ≤ p ∧ p < 128) ∨ (oneL 0 p = [192 + p / 64, 128 + p % 64] ∧ 128 ≤ p ∧ p < 2048) ∨
    (oneL 0 p = [224 + p / 4096, 128 + p / 64 % 64, 128 + p % 64] ∧ 2048 ≤ p ∧ p < 65536) ∨
    (oneL 0 p = [240 + p / 262144, 128 + p / 4096 % 64, 128 + p / 64 % 64, 128 + p % 64] ∧ 65536 ≤ p ∧ p ≤ 1114111) := by
  by_cases hs : scal p = true
  · have h' := scal_parts hs
    by_cases h1 : p < 128
    · exact .inl ⟨oneL_0a hs h1, by omega, h1⟩
    · by_cases h2 : p < 2048
      · exact .inr (.inl ⟨oneL_0b hs h1 h2, by omega, h2⟩)
      · by_cases h3 : p < 65536
        · exact .inr (.inr (.inl ⟨oneL_0c hs h2 h3, by omega, h3⟩))
        · exact .inr (.inr (.inr ⟨oneL_0d hs h3, by omega, by omega⟩))
  · exact absurd (oneL_no (by cases hb : scal p <;> simp_all)) h
theorem form_of {form p : Int} (h : oneL form p ≠ []) : form = 0 ∨ form = 1 ∨ form = 2 := by
  by_cases h0 : form = 0
  · exact .inl h0
  · by_cases h1 : form = 1
    · exact .inr (.inl h1)
    · by_cases h2 : form = 2
      · exact .inr (.inr h2)
      · exact absurd (oneL_other h0 h1 h2) h

/-- What a character would be whose bytes l begins with, if it has so many. -/
def guessL (form : Int) (l : List Int) (n : Nat) : Int :=
  if n = 1 then l.getD 0 0
  else if form = 1 then
    (if n = 2 then l.getD 0 0 + 256 * l.getD 1 0 else if n = 3 then -1
     else 65536 + (l.getD 0 0 + 256 * l.getD 1 0 - 55296) * 1024 + l.getD 2 0 + 256 * l.getD 3 0 - 56320)
  else if n = 2 then l.getD 0 0 % 32 * 64 + l.getD 1 0 % 64
  else if n = 3 then l.getD 0 0 % 16 * 4096 + l.getD 1 0 % 64 * 64 + l.getD 2 0 % 64
  else l.getD 0 0 % 8 * 262144 + l.getD 1 0 % 64 * 4096 + l.getD 2 0 % 64 * 64 + l.getD 3 0 % 64

theorem guess_ok {form p : Int} (x : List Int) (h : oneL form p ≠ []) : guessL form (oneL form p ++ x) (oneL form p).length = p := by
  rcases form_of h with rfl | rfl | rfl
  · rcases shape0 h with ⟨e, h1, h2⟩ | ⟨e, h1, h2⟩ | ⟨e, h1, h2⟩ | ⟨e, h1, h2⟩
    all_goals
      rw [e]
      simp [guessL]
      try omega
  · rcases shape1 h with ⟨e, h1, h2, h3⟩ | ⟨e, h1, h2⟩
    · rw [e]
      simp [guessL]
      omega
    · rw [e]
      simp [guessL, hiU, loU]
      omega
  · obtain ⟨e, h1, h2⟩ := shape2 h
    rw [e]
    simp [guessL]

/-- No character's bytes begin with another one's. -/
theorem uniq {form p q : Int} {x y : List Int} (hp : oneL form p ≠ []) (hq : oneL form q ≠ []) (h : oneL form p ++ x = oneL form q ++ y) : p = q := by
  have hl : (oneL form p).length = (oneL form q).length := by
    rcases form_of hp with rfl | rfl | rfl
    · rcases shape0 hp with ⟨e, h1, h2⟩ | ⟨e, h1, h2⟩ | ⟨e, h1, h2⟩ | ⟨e, h1, h2⟩ <;>
        rcases shape0 hq with ⟨f, h3, h4⟩ | ⟨f, h3, h4⟩ | ⟨f, h3, h4⟩ | ⟨f, h3, h4⟩ <;>
        (rw [e, f] at h; rw [e, f]; simp at h ⊢; try omega)
    · rcases shape1 hp with ⟨e, h1, h2, h3⟩ | ⟨e, h1, h2⟩ <;>
        rcases shape1 hq with ⟨f, h4, h5, h6⟩ | ⟨f, h4, h5⟩ <;>
        (rw [e, f] at h; rw [e, f]; simp [hiU, loU] at h ⊢; try omega)
    · obtain ⟨e, h1, h2⟩ := shape2 hp
      obtain ⟨f, h3, h4⟩ := shape2 hq
      rw [e, f]
      rfl
  have g1 := guess_ok x hp
  have g2 := guess_ok y hq
  rw [h, hl, g2] at g1
  exact g1.symm

def catL (form : Int) (zs : List Int) : List Int := zs.flatMap (oneL form)
def allW (form : Int) (zs : List Int) : Bool := zs.all fun z => decide (oneL form z ≠ [])
def inForm (form : Int) : Bool := decide (0 ≤ form ∧ form ≤ 2)
def wTup (form : Int) (zs : List Int) : Value := if allW form zs = true then .tuple #[.string (strOfNums (catL form zs)), .bool (inForm form)] else .tuple #[.string ⟨#[]⟩, .bool false]
theorem catL_length (form : Int) (zs : List Int) : (catL form zs).length ≤ 4 * zs.length := by
  induction zs with
  | nil => simp [catL]
  | cons z zs ih =>
    have := oneL_length form z
    unfold catL at ih ⊢
    rw [List.flatMap_cons, List.length_append, List.length_cons]
    omega
theorem take_next {zs : List Int} {k : Nat} (h : k < zs.length) : zs.take (k + 1) = zs.take k ++ [zs.getD k 0] := by
  rw [List.take_succ_eq_append_getElem h, List.getD_eq_getElem?_getD, List.getElem?_eq_getElem h]
  rfl
theorem catL_next (form : Int) {zs : List Int} {k : Nat} (h : k < zs.length) : catL form (zs.take (k + 1)) = catL form (zs.take k) ++ oneL form (zs.getD k 0) := by
  unfold catL
  rw [take_next h, List.flatMap_append, List.flatMap_cons, List.flatMap_nil, List.append_nil]
theorem allW_next (form : Int) {zs : List Int} {k : Nat} (h : k < zs.length) (ha : allW form (zs.take k) = true) (hz : oneL form (zs.getD k 0) ≠ []) : allW form (zs.take (k + 1)) = true := by
  unfold allW at ha ⊢
  rw [take_next h, List.all_append, ha, List.all_cons, List.all_nil, decide_eq_true hz]
  rfl
theorem allW_no (form : Int) {zs : List Int} {k : Nat} (h : k < zs.length) (hz : oneL form (zs.getD k 0) = []) : allW form zs = false := by
  have hm : zs.getD k 0 ∈ zs := by
    rw [List.getD_eq_getElem?_getD, List.getElem?_eq_getElem h]
    exact List.getElem_mem _
  unfold allW
  rw [List.all_eq_false]
  exact ⟨_, hm, by rw [hz]; simp⟩
theorem toList_ne {l : List Int} (h : l ≠ []) : (strOfNums l).toList.isEmpty = false := by
  rw [ByteArray.toList_eq, strOfNums_data]
  cases l with
  | nil => exact absurd rfl h
  | cons a l => rfl

/-- These bytes are those of these characters. -/
def Reads (form : Int) (l ps : List Int) : Prop := inForm form = true ∧ allW form ps = true ∧ catL form ps = l
theorem catL_cons (form p : Int) (ps : List Int) : catL form (p :: ps) = oneL form p ++ catL form ps := by
  unfold catL
  rw [List.flatMap_cons]
theorem allW_cons {form p : Int} {ps : List Int} (h : allW form (p :: ps) = true) : oneL form p ≠ [] ∧ allW form ps = true := by
  unfold allW at h ⊢
  rw [List.all_cons, Bool.and_eq_true] at h
  exact ⟨of_decide_eq_true h.1, h.2⟩
theorem allW_snoc {form p : Int} {ps : List Int} (h : allW form ps = true) (hp : oneL form p ≠ []) : allW form (ps ++ [p]) = true := by
  unfold allW at h ⊢
  rw [List.all_append, h, List.all_cons, List.all_nil, decide_eq_true hp]
  rfl
theorem catL_snoc (form p : Int) (ps : List Int) : catL form (ps ++ [p]) = catL form ps ++ oneL form p := by
  unfold catL
  rw [List.flatMap_append, List.flatMap_cons, List.flatMap_nil, List.append_nil]
/-- Two lists of characters, the one's bytes behind the other's beginning. -/
theorem cat_uniq (form : Int) : ∀ (ps qs x : List Int), allW form ps = true → allW form qs = true → catL form qs = catL form ps ++ x → ∃ rs, qs = ps ++ rs ∧ catL form rs = x ∧ allW form rs = true := by
  intro ps
  induction ps with
  | nil => intro qs x _ hq h; exact ⟨qs, rfl, by simpa [catL] using h, hq⟩
  | cons p ps ih =>
    intro qs x hp hq h
    obtain ⟨hp1, hp2⟩ := allW_cons hp
    cases qs with
    | nil =>
      exfalso
      rw [catL_cons, List.append_assoc] at h
      have hl := congrArg List.length h
      have h0 : 0 < (oneL form p).length := List.length_pos_iff.2 hp1
      simp [catL] at hl
      omega
    | cons q qs =>
      obtain ⟨hq1, hq2⟩ := allW_cons hq
      rw [catL_cons, catL_cons, List.append_assoc] at h
      have e := uniq hq1 hp1 h
      subst e
      obtain ⟨rs, h1, h2, h3⟩ := ih qs x hp2 hq2 (List.append_cancel_left h)
      exact ⟨rs, by rw [h1]; rfl, h2, h3⟩
theorem reads_uniq {form : Int} {l ps qs : List Int} (hp : Reads form l ps) (hq : Reads form l qs) : ps = qs := by
  obtain ⟨_, hp1, hp2⟩ := hp
  obtain ⟨_, hq1, hq2⟩ := hq
  obtain ⟨rs, h1, h2, h3⟩ := cat_uniq form ps qs [] hp1 hq1 (by rw [hq2, hp2, List.append_nil])
  cases rs with
  | nil => rw [h1, List.append_nil]
  | cons r rs =>
    exfalso
    rw [catL_cons] at h2
    exact (allW_cons h3).1 (List.append_eq_nil_iff.1 h2).1

/-- Are the first k bytes a character's? -/
def hitB (form : Int) (l : List Int) (k : Nat) : Bool := decide (k ≤ l.length ∧ oneL form (guessL form l k) = l.take k)
theorem hit_yes {form : Int} {l : List Int} {k : Nat} (hk : 1 ≤ k) (h : hitB form l k = true) : oneL form (guessL form l k) ≠ [] ∧ l = oneL form (guessL form l k) ++ l.drop k := by
  obtain ⟨h1, h2⟩ : k ≤ l.length ∧ oneL form (guessL form l k) = l.take k := of_decide_eq_true h
  constructor
  · intro h0
    rw [h0] at h2
    have hl := congrArg List.length h2
    rw [List.length_take] at hl
    simp at hl
    omega
  · rw [h2, List.take_append_drop]
theorem hit_of {form p : Int} (x : List Int) (h : oneL form p ≠ []) : hitB form (oneL form p ++ x) (oneL form p).length = true := by
  refine decide_eq_true ⟨by rw [List.length_append]; omega, ?_⟩
  rw [guess_ok x h, List.take_left]
/-- No character's bytes stand at the beginning. -/
def NoHead (form : Int) (l : List Int) : Prop := ∀ p x, oneL form p ≠ [] → l ≠ oneL form p ++ x
theorem noHead_of {form : Int} {l : List Int} (h : ∀ k, 1 ≤ k → k ≤ 4 → k ≤ l.length → hitB form l k = false) : NoHead form l := by
  intro p x hp e
  have h1 := hit_of x hp
  rw [← e] at h1
  have h0 : 0 < (oneL form p).length := List.length_pos_iff.2 hp
  have h4 := oneL_length form p
  have hl : (oneL form p).length ≤ l.length := by rw [e, List.length_append]; omega
  rw [h _ h0 h4 hl] at h1
  cases h1
/-- Behind some characters none stands any more: they are none. -/
theorem reads_none {form : Int} {ps l : List Int} (hp : allW form ps = true) (hl : l ≠ []) (hn : NoHead form l) : ∀ qs, ¬ Reads form (catL form ps ++ l) qs := by
  rintro qs ⟨_, hq1, hq2⟩
  obtain ⟨rs, h1, h2, h3⟩ := cat_uniq form ps qs l hp hq1 hq2
  cases rs with
  | nil => exact hl (by rw [← h2]; rfl)
  | cons r rs =>
    rw [catL_cons] at h2
    exact hn r _ (allW_cons h3).1 h2.symm
theorem reads_form {form : Int} (h : inForm form = false) (l : List Int) : ∀ qs, ¬ Reads form l qs := by
  rintro qs ⟨h1, _⟩
  rw [h] at h1
  cases h1
end Utf
end Go.Proofs.Ytkmgngmpplgjnaa
