/- The project's own questions about numbers: characters, forms, sizes. -/
import Derived.Test.YtkmgngmpplgjnaaUtfLow
namespace Go.Proofs.Ytkmgngmpplgjnaa
open Go.RowKit

theorem scalar_any (p : Int) (w : World) :
    Calls Try.prog 19 #[.int .i64 p] w fun e w' => e = .returned (.bool (Utf.scal p)) ∧ w = w' := by
  by_cases h : Utf.scal p = true
  · have h' := Utf.scal_parts h
    rw [h]
    obtain ⟨h1, h2, h3⟩ := h'
    clear h
    rcases h3 with h3 | h3
    all_goals
      go_enter Try.func19, Try.ntmps19
      go_wp2_with fail
      go_ret
      exact ⟨by first | rfl | (refine congrArg (fun c => Ending.returned (.bool c)) ?_; simp; done) | (refine congrArg (fun c => Ending.returned (.bool c)) ?_; simp; omega), rfl⟩
  · have h' : p < 0 ∨ 1114111 < p ∨ (55296 ≤ p ∧ p ≤ 57343) := by
      have hn : ¬ (0 ≤ p ∧ p ≤ 1114111 ∧ (p < 55296 ∨ 57343 < p)) := fun hp => h (decide_eq_true hp)
      omega
    rw [not_true h]
    clear h
    rcases h' with h | h | ⟨h, h2⟩
    all_goals
      go_enter Try.func19, Try.ntmps19
      go_wp2_with fail
      go_ret
      exact ⟨by first | rfl | (refine congrArg (fun c => Ending.returned (.bool c)) ?_; simp; done) | (refine congrArg (fun c => Ending.returned (.bool c)) ?_; simp; omega), rfl⟩
theorem form_parts (form : Int) : (form = 0 ∧ (form == 0) = true ∧ Utf.inForm form = true) ∨ (form = 1 ∧ (form == 0) = false ∧ (form == 1) = true ∧ Utf.inForm form = true) ∨
    (form = 2 ∧ (form == 0) = false ∧ (form == 1) = false ∧ (form == 2) = true ∧ Utf.inForm form = true) ∨
    ((form ≠ 0 ∧ form ≠ 1 ∧ form ≠ 2) ∧ (form == 0) = false ∧ (form == 1) = false ∧ (form == 2) = false ∧ Utf.inForm form = false) := by
  by_cases h0 : form = 0
  · subst h0; exact .inl ⟨rfl, rfl, rfl⟩
  · by_cases h1 : form = 1
    · subst h1; exact .inr (.inl ⟨rfl, rfl, rfl, rfl⟩)
    · by_cases h2 : form = 2
      · subst h2; exact .inr (.inr (.inl ⟨rfl, rfl, rfl, rfl, rfl⟩))
      · exact .inr (.inr (.inr ⟨⟨h0, h1, h2⟩, by simpa using h0, by simpa using h1, by simpa using h2, decide_eq_false (by omega)⟩))
theorem isForm_any (form : Int) (w : World) :
    Calls Try.prog 26 #[.int .i64 form] w fun e w' => e = .returned (.bool (Utf.inForm form)) ∧ w = w' := by
  rcases form_parts form with ⟨_, f0, hf⟩ | ⟨_, f0, f1, hf⟩ | ⟨_, f0, f1, f2, hf⟩ | ⟨_, f0, f1, f2, hf⟩
  all_goals
    rw [hf]
    clear hf
    go_enter Try.func26, Try.ntmps26
    go_wp2_with fail
    go_ret
    exact ⟨rfl, rfl⟩

def hasB (form p : Int) : Bool := decide (Utf.oneL form p ≠ [])
theorem hasB_no (form : Int) {p : Int} (h : Utf.scal p = false) : hasB form p = false := decide_eq_false (by rw [Utf.oneL_no h]; simp)
theorem hasB_0 {p : Int} (h : Utf.scal p = true) : hasB 0 p = true := decide_eq_true (by
  unfold Utf.oneL
  rw [if_pos h, if_neg (by decide), if_neg (by decide), if_pos rfl]
  repeat' split
  all_goals simp)
theorem hasB_1 {p : Int} (h : Utf.scal p = true) : hasB 1 p = true := decide_eq_true (by
  unfold Utf.oneL
  rw [if_pos h, if_neg (by decide), if_pos rfl]
  repeat' split
  all_goals simp)
theorem hasB_2a {p : Int} (h : Utf.scal p = true) (hp : 255 < p) : hasB 2 p = false := decide_eq_false (by rw [Utf.oneL_2a h hp]; simp)
theorem hasB_2 {p : Int} (h : Utf.scal p = true) (hp : p ≤ 255) : hasB 2 p = true := decide_eq_true (by rw [Utf.oneL_2 h (by omega)]; simp)
theorem hasB_other {form : Int} (p : Int) (h : form ≠ 0 ∧ form ≠ 1 ∧ form ≠ 2) : hasB form p = false := decide_eq_false (by rw [Utf.oneL_other h.1 h.2.1 h.2.2]; simp)

theorem has_any (form p : Int) (w : World) :
    Calls Try.prog 30 #[.int .i64 form, .int .i64 p] w fun e w' => e = .returned (.bool (hasB form p)) ∧ w = w' := by
  obtain ⟨b, hb⟩ : ∃ b, b = Utf.scal p := ⟨_, rfl⟩
  obtain ⟨c, hc⟩ : ∃ c, c = Utf.inForm form := ⟨_, rfl⟩
  have HS : Hid (∀ w, Calls Try.prog 19 #[.int .i64 p] w fun e w' => e = .returned (.bool b) ∧ w = w') := Lib.hid fun w => hb ▸ scalar_any p w
  have HF : Hid (∀ w, Calls Try.prog 26 #[.int .i64 form] w fun e w' => e = .returned (.bool c) ∧ w = w') := Lib.hid fun w => hc ▸ isForm_any form w
  have key : (b = false ∧ hasB form p = false) ∨ (b = true ∧ c = false ∧ hasB form p = false) ∨ (b = true ∧ c = true ∧ (form != 2) = true ∧ hasB form p = true) ∨
      (b = true ∧ c = true ∧ (form != 2) = false ∧ 255 < p ∧ hasB form p = false) ∨ (b = true ∧ c = true ∧ (form != 2) = false ∧ p ≤ 255 ∧ hasB form p = true) := by
    cases b
    · exact .inl ⟨rfl, hasB_no form hb.symm⟩
    · rcases form_parts form with ⟨rfl, _⟩ | ⟨rfl, _⟩ | ⟨rfl, _⟩ | ⟨h, _, _, _, hf⟩
      · exact .inr (.inr (.inl ⟨rfl, hc, rfl, hasB_0 hb.symm⟩))
      · exact .inr (.inr (.inl ⟨rfl, hc, rfl, hasB_1 hb.symm⟩))
      · by_cases hp : 255 < p
        · exact .inr (.inr (.inr (.inl ⟨rfl, hc, rfl, hp, hasB_2a hb.symm hp⟩)))
        · exact .inr (.inr (.inr (.inr ⟨rfl, hc, rfl, by omega, hasB_2 hb.symm (by omega)⟩)))
      · exact .inr (.inl ⟨rfl, by rw [hc, hf], hasB_other p h⟩)
  clear hb hc
  rcases key with ⟨rfl, k⟩ | ⟨rfl, rfl, k⟩ | ⟨rfl, rfl, h2, k⟩ | ⟨rfl, rfl, h2, hp, k⟩ | ⟨rfl, rfl, h2, hp, k⟩
  all_goals
    rw [k]
    clear k
    go_enter Try.func30, Try.ntmps30
    go_wp2_with (first
      | (go_at_call 19; refine (HS.out _).mono ?_; rintro e w1 ⟨rfl, rfl⟩)
      | (go_at_call 26; refine (HF.out _).mono ?_; rintro e w1 ⟨rfl, rfl⟩))
    go_ret
    exact ⟨by first | rfl | (refine congrArg (fun c => Ending.returned (.bool c)) ?_; simp; done) | (refine congrArg (fun c => Ending.returned (.bool c)) ?_; simp; omega), rfl⟩

set_option maxRecDepth 100000 in
theorem narrow_any (a : Option Addr) (cap : Nat) (zs : List Int) (w : World) (hv : View w a zs.length zs) (hlen : zs.length ≤ 300) :
    Calls Try.prog 33 #[.slice a zs.length cap] w fun e w' => e = .returned (.int .i64 (if Utf.great zs = true then 1 else 2)) ∧ w = w' := by
  have HV := Lib.hid hv
  clear hv
  obtain ⟨r, hr⟩ : ∃ r : Int, r = if Utf.great zs = true then 1 else 2 := ⟨_, rfl⟩
  rw [← hr]
  have HR := Lib.hid hr
  clear hr
  go_enter Try.func33, Try.ntmps33
  go_wp2_with fail
  go_loop [4, 7] (fun _ i => ∃ k : Nat, i = .int .i64 k ∧ k ≤ zs.length ∧ Utf.great (zs.take k) = false) (fun _ i => zs.length - (intOf i).toNat)
  case atStart => exact ⟨0, rfl, by omega, rfl⟩
  case round =>
    obtain ⟨k, rfl, hk, ha⟩ := hrel
    by_cases hlt : k < zs.length
    · obtain ⟨b, off, rfl, hc⟩ := HV.out.resolve_left (by omega)
      have hcr := hc k hlt
      have hn1 := Utf.great_next hlt ha
      have hn2 := Utf.great_yes hlt
      clear hc ha
      revert hcr hn1 hn2
      generalize zs.getD k 0 = z
      intro hcr hn1 hn2
      have HN1 := Lib.hid hn1
      have HN2 := Lib.hid hn2
      clear hn1 hn2
      by_cases hz : 255 < z
      · go_wp2_with fail
        go_ret
        rw [HR.out, if_pos (HN2.out hz)]
        exact ⟨rfl, rfl⟩
      · go_wp2_with fail
        exact ⟨⟨k + 1, by go_num, by omega, HN1.out (by omega)⟩, by simp [intOf]; omega⟩
    · have hke : k = zs.length := by omega
      subst hke
      rw [List.take_length] at ha
      have HA := Lib.hid ha
      clear ha
      go_wp2_with fail
      go_ret
      rw [HR.out, HA.out]
      exact ⟨rfl, rfl⟩
theorem form_any (enc : Int) (a : Option Addr) (cap : Nat) (zs : List Int) (w : World) (hv : View w a zs.length zs) (hlen : zs.length ≤ 300) :
    Calls Try.prog 23 #[.int .i64 enc, .slice a zs.length cap] w fun e w' => e = .returned (.int .i64 (Utf.formL enc zs)) ∧ w = w' := by
  obtain ⟨g, hg⟩ : ∃ g : Int, g = if Utf.great zs = true then 1 else 2 := ⟨_, rfl⟩
  have HC : Hid (∀ cap, Calls Try.prog 33 #[.slice a zs.length cap] w fun e w' => e = .returned (.int .i64 g) ∧ w = w') := Lib.hid fun cap => hg ▸ narrow_any a cap zs w hv hlen
  clear hv
  have key : ∃ r, Utf.formL enc zs = r ∧ (((enc == 0) = true ∧ r = 0) ∨ ((enc == 0) = false ∧ (enc == 1) = true ∧ r = 1) ∨
      ((enc == 0) = false ∧ (enc == 1) = false ∧ (enc == 2) = true ∧ r = g) ∨ ((enc == 0) = false ∧ (enc == 1) = false ∧ (enc == 2) = false ∧ r = enc)) := by
    refine ⟨_, rfl, ?_⟩
    unfold Utf.formL
    rcases form_parts enc with ⟨rfl, _⟩ | ⟨rfl, _⟩ | ⟨rfl, _⟩ | ⟨hf, f0, f1, f2, _⟩
    · exact .inl ⟨rfl, rfl⟩
    · exact .inr (.inl ⟨rfl, rfl, rfl⟩)
    · exact .inr (.inr (.inl ⟨rfl, rfl, rfl, hg.symm⟩))
    · exact .inr (.inr (.inr ⟨f0, f1, f2, if_neg hf.2.2⟩))
  obtain ⟨r, hr, key⟩ := key
  rw [hr]
  clear hr hg
  rcases key with ⟨f0, hf⟩ | ⟨f0, f1, hf⟩ | ⟨f0, f1, f2, hf⟩ | ⟨f0, f1, f2, hf⟩
  all_goals
    have HF := Lib.hid hf
    clear hf
    go_enter Try.func23, Try.ntmps23
    go_wp2_with (go_at_call 33; refine (HC.out _).mono ?_; rintro e w1 ⟨rfl, rfl⟩)
    go_ret
    rw [HF.out]
    exact ⟨rfl, rfl⟩

set_option maxRecDepth 100000 in
set_option maxHeartbeats 400000 in
theorem size_any (form : Int) (a : Option Addr) (cap : Nat) (zs : List Int) (w : World) (hv : View w a zs.length zs) (hlen : zs.length ≤ 300) :
    Calls Try.prog 21 #[.int .i64 form, .slice a zs.length cap] w fun e w' => e = .returned (sizeTup form zs) ∧ w = w' := by
  have HV := Lib.hid hv
  clear hv
  have hf : ((form == 1) = true ∧ form = 1) ∨ ((form == 1) = false ∧ form ≠ 1) := by
    by_cases h : form = 1
    · subst h; exact .inl ⟨rfl, rfl⟩
    · exact .inr ⟨by simpa using h, h⟩
  rcases hf with ⟨f1, hf⟩ | ⟨f1, hf⟩
  all_goals
    have HF := Lib.hid hf
    clear hf
    go_enter Try.func21, Try.ntmps21
    go_wp2_with fail
    go_loop [6, 8, 11] (fun n _ i => ∃ k : Nat, i = .int .i64 k ∧ k ≤ zs.length ∧ n = .int .i64 (Utf.sizeL form (zs.take k))) (fun _ _ i => zs.length - (intOf i).toNat)
    case atStart => exact ⟨0, rfl, by omega, rfl⟩
    case round =>
      obtain ⟨k, rfl, hk, rfl⟩ := hrel
      have hsl := Utf.sizeL_le form (zs.take k)
      have htl : (zs.take k).length ≤ 300 := by rw [List.length_take]; omega
      by_cases hlt : k < zs.length
      · obtain ⟨b, off, rfl, hc⟩ := HV.out.resolve_left (by omega)
        have hcr := hc k hlt
        have hn1 := Utf.sizeL_next form hlt
        clear hc
        revert hcr hn1
        generalize zs.getD k 0 = z
        intro hcr hn1
        have hz := Utf.szL_le form z
        have HN1 := Lib.hid hn1
        clear hn1
        go_wp2_with (go_at_call 32; refine (width_any form z _).mono ?_; rintro e w1 ⟨rfl, rfl⟩)
        refine ⟨⟨k + 1, by go_num, by omega, congrArg (Value.int .i64) ?_⟩, by simp [intOf]; omega⟩
        rw [HN1.out]
      · have hke : k = zs.length := by omega
        subst hke
        rw [List.take_length] at hsl
        rw [List.take_length]
        have HS : Hid (sizeTup form zs = .tuple #[.int .i64 (Utf.sizeL form zs), .int .i64 (if form = 1 then Utf.sizeL form zs / 2 else Utf.sizeL form zs)]) := Lib.hid rfl
        go_wp2_with fail
        go_ret2
        rw [HS.out]
        first
          | (rw [if_pos HF.out]; exact ⟨rfl, rfl⟩)
          | (rw [if_neg HF.out]; exact ⟨rfl, rfl⟩)
end Go.Proofs.Ytkmgngmpplgjnaa
