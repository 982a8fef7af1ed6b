/- lex: names, plainly: what two names make. -/
import Derived.Test.YtnnajiaakfeocaaLexP
namespace Go.Proofs.Ytnnajiaakfeocaa
open Go.RowKit
open Lex

namespace Lex
theorem cuts_app (c : Int) : ∀ (A acc B : List Int), cuts c acc (A ++ c :: B) = cuts c acc A ++ cuts c [] B
  | [], acc, B => by
    rw [List.nil_append]
    show (if c = c then acc :: cuts c [] B else _) = [acc] ++ cuts c [] B
    rw [if_pos rfl]
    rfl
  | x :: A, acc, B => by
    rw [List.cons_append, cuts, cuts]
    split
    · rw [cuts_app c A [] B]; rfl
    · rw [cuts_app c A _ B]
theorem cuts_ne (c : Int) : ∀ (A acc : List Int), cuts c acc A ≠ []
  | [], acc => by rw [cuts]; simp
  | x :: A, acc => by
    rw [cuts]
    split
    · simp
    · exact cuts_ne c A _
/-- A list without the sign is one part. -/
theorem cuts_one (c : Int) : ∀ (A acc : List Int), c ∉ A → cuts c acc A = [acc ++ A]
  | [], acc, _ => by rw [cuts, List.append_nil]
  | x :: A, acc, h => by
    rw [cuts, if_neg (fun e => h (by rw [e]; exact List.mem_cons_self)), cuts_one c A _ (fun hm => h (List.mem_cons_of_mem _ hm)), List.append_assoc]
    rfl
/-- The first part begins as what is under way does. -/
theorem cuts_head (c x : Int) : ∀ (A acc : List Int), ∃ p ps, cuts c (x :: acc) A = (x :: p) :: ps
  | [], acc => ⟨acc, [], by rw [cuts]⟩
  | y :: A, acc => by
    rw [cuts]
    split
    · exact ⟨_, _, rfl⟩
    · obtain ⟨p, ps, h⟩ := cuts_head c x A (acc ++ [y])
      exact ⟨p, ps, h⟩
/-- Whatever is no sign lies in a part. -/
theorem cuts_mem (c : Int) : ∀ (A acc : List Int) (x : Int), (x ∈ acc ∨ (x ∈ A ∧ x ≠ c)) → ∃ p ∈ cuts c acc A, x ∈ p
  | [], acc, x, h => by
    rcases h with h | ⟨h, _⟩
    · exact ⟨acc, by rw [cuts]; simp, h⟩
    · cases h
  | y :: A, acc, x, h => by
    rw [cuts]
    split
    · rename_i hy
      rcases h with h | ⟨h, hx⟩
      · exact ⟨acc, List.mem_cons_self, h⟩
      · rcases List.mem_cons.1 h with h | h
        · exact absurd (h.trans hy) hx
        · obtain ⟨p, hp, hm⟩ := cuts_mem c A [] x (.inr ⟨h, hx⟩)
          exact ⟨p, List.mem_cons_of_mem _ hp, hm⟩
    · obtain ⟨p, hp, hm⟩ := cuts_mem c A (acc ++ [y]) x (by
        rcases h with h | ⟨h, hx⟩
        · exact .inl (List.mem_append_left _ h)
        · rcases List.mem_cons.1 h with h | h
          · exact .inl (by rw [h]; exact List.mem_append_right _ List.mem_cons_self)
          · exact .inr ⟨h, hx⟩)
      exact ⟨p, hp, hm⟩
theorem far_all {p : Int → Bool} : ∀ {l : List Int}, far p l = l.length → ∀ x ∈ l, p x = true
  | [], _, x, hx => by cases hx
  | c :: r, h, x, hx => by
    by_cases hp : p c = true
    · rw [far_next hp, List.length_cons] at h
      rcases List.mem_cons.1 hx with h2 | h2
      · rw [h2]; exact hp
      · exact far_all (by omega) x h2
    · rw [far_stop (by simpa using hp)] at h
      cases h
theorem all_far {p : Int → Bool} : ∀ {l : List Int}, (∀ x ∈ l, p x = true) → far p l = l.length
  | [], _ => rfl
  | c :: r, h => by
    rw [far_next (h c List.mem_cons_self), all_far (fun x hx => h x (List.mem_cons_of_mem _ hx)), List.length_cons]
/-- What stands in a name's part: letters and digits. -/
theorem prt_mem {l : List Int} (h : prt l = true) : ∀ x ∈ l, ltr x = true ∨ dig x = true := by
  cases l with
  | nil => cases h
  | cons c r =>
    unfold prt at h
    simp only [Bool.and_eq_true, decide_eq_true_eq] at h
    have h2 := h.2
    intro x hx
    by_cases h3 : far smd (c :: r) = (c :: r).length
    · have := far_all h3 x hx
      unfold smd at this
      unfold ltr
      revert this
      cases sml x <;> cases dig x <;> simp
    · have h4 : far grd (c :: r) = (c :: r).length := by
        have := far_le smd (c :: r)
        have := far_le grd (c :: r)
        omega
      have := far_all h4 x hx
      unfold grd at this
      unfold ltr
      revert this
      cases grt x <;> cases dig x <;> simp
theorem name_all {l : List Int} (h : nameL l = true) : (cuts 45 [] l).all prt = true := by
  unfold nameL at h
  exact (Bool.and_eq_true_iff.1 h).2
theorem name_join {A B : List Int} (hA : nameL A = true) (hB : nameL B = true) (hl : A.length + B.length < 100) : nameL (A ++ 45 :: B) = true := by
  unfold nameL
  rw [cuts_app, List.all_append, name_all hA, name_all hB, Bool.and_true, Bool.and_true, decide_eq_true_iff]
  simp
  omega
theorem name_no {l : List Int} (h : (cuts 45 [] l).all prt = false) : nameL l = false := by
  unfold nameL
  rw [h, Bool.and_false]
theorem name_two (A B : List Int) : nameL (A ++ 45 :: (45 :: B)) = false := by
  apply name_no
  rw [cuts_app, List.all_append, cuts, if_pos rfl, List.all_cons]
  simp [prt]
theorem name_head (A : List Int) : nameL (45 :: A) = false := by
  apply name_no
  rw [cuts, if_pos rfl, List.all_cons]
  rfl
theorem name_last (A : List Int) : nameL (A ++ [45]) = false := by
  apply name_no
  rw [cuts_app, List.all_append, cuts]
  simp [prt]
theorem name_sign (A B : List Int) : nameL (A ++ 95 :: B) = false := by
  apply name_no
  rw [Bool.eq_false_iff]
  intro h
  obtain ⟨p, hp, hm⟩ := cuts_mem 45 (A ++ 95 :: B) [] 95 (.inr ⟨by simp, by decide⟩)
  have := prt_mem (List.all_eq_true.1 h p hp) 95 hm
  revert this
  decide
theorem name_digit (A : List Int) : nameL (49 :: A) = false := by
  apply name_no
  rw [cuts, if_neg (by decide)]
  obtain ⟨p, ps, h⟩ := cuts_head 45 49 A []
  have hp : prt (49 :: p) = false := by
    show (!dig 49 && decide (max (far smd (49 :: p)) (far grd (49 :: p)) = (49 :: p).length)) = false
    rw [show dig 49 = true by decide]
    rfl
  rw [List.nil_append, h, List.all_cons, hp, Bool.false_and]
end Lex

theorem Name_pure (s : ByteArray) (hs : s.size ≤ 2000) (w : World) :
    Calls Try.prog 12 #[.string s] w fun e W' => e = .returned (.bool (nameL (bl s))) ∧ Below w.heap.size w W' := by
  have hm : s.size ≤ maxLen := by unfold maxLen; omega
  rw [← nameB_eq s hm]
  exact Name_any s hm w
theorem sz_app (a b : ByteArray) : (a ++ b).size = a.size + b.size := ByteArray.size_append
theorem sz_45 : (⟨#[45]⟩ : ByteArray).size = 1 := rfl
theorem sz_4545 : (⟨#[45, 45]⟩ : ByteArray).size = 2 := rfl
theorem sz_95 : (⟨#[95]⟩ : ByteArray).size = 1 := rfl
theorem sz_49 : (⟨#[49]⟩ : ByteArray).size = 1 := rfl
theorem bl_45 : bl (⟨#[45]⟩ : ByteArray) = [45] := rfl
theorem bl_4545 : bl (⟨#[45, 45]⟩ : ByteArray) = [45, 45] := rfl
theorem bl_95 : bl (⟨#[95]⟩ : ByteArray) = [95] := rfl
theorem bl_49 : bl (⟨#[49]⟩ : ByteArray) = [49] := rfl

set_option maxRecDepth 100000 in
set_option maxHeartbeats 1000000 in
theorem LexParts_small (a b : ByteArray) (hab : a.size + b.size ≤ 1000) (w : World) :
    Calls Try.prog 6 #[.string a, .string b] w fun e w' => e = .returned (.bool true) ∧ Below w.heap.size w w' := by
  have F4 : Hid (nameL (bl (a ++ ⟨#[45, 45]⟩ ++ b)) = false) := Lib.hid (by rw [bl_app, bl_app, bl_4545, List.append_assoc]; exact name_two _ _)
  have F5 : Hid (nameL (bl (a ++ ⟨#[95]⟩ ++ b)) = false) := Lib.hid (by rw [bl_app, bl_app, bl_95, List.append_assoc]; exact name_sign _ _)
  have F6 : Hid (nameL (bl (⟨#[45]⟩ ++ a)) = false) := Lib.hid (by rw [bl_app, bl_45]; exact name_head _)
  have F7 : Hid (nameL (bl (a ++ ⟨#[45]⟩)) = false) := Lib.hid (by rw [bl_app, bl_45]; exact name_last _)
  have F8 : Hid (nameL (bl (⟨#[49]⟩ ++ a)) = false) := Lib.hid (by rw [bl_app, bl_49]; exact name_digit _)
  have hb := Below.refl w.heap.size w
  obtain ⟨A, hA⟩ : ∃ A, nameL (bl a) = A := ⟨_, rfl⟩
  obtain ⟨B, hB⟩ : ∃ B, nameL (bl b) = B := ⟨_, rfl⟩
  by_cases h3 : A = true ∧ B = true ∧ a.size + b.size < 100
  · obtain ⟨rfl, rfl, h100⟩ := h3
    have F3 : Hid (nameL (bl (a ++ ⟨#[45]⟩ ++ b)) = true) := Lib.hid (by rw [bl_app, bl_app, bl_45, List.append_assoc]; exact name_join (A := bl a) (B := bl b) hA hB (by rw [bl_length, bl_length]; exact h100))
    have F1 := Lib.hid hA
    have F2 := Lib.hid hB
    clear hA hB
    go_enter Try.func6, Try.ntmps6
    go_wp2_with (first
      | (go_at_call 12; refine (Name_pure _ (by first | omega | (simp only [sz_app, sz_45, sz_4545, sz_95, sz_49]; omega)) _).mono ?_; rintro e w1 ⟨rfl, k⟩; replace hb := hb.trans (k.mono hb.size); clear k; first | rw [F4.out] | rw [F5.out] | rw [F3.out] | rw [F6.out] | rw [F7.out] | rw [F8.out] | rw [F1.out] | rw [F2.out])
      | (go_at_call 11; refine (awake_any _).mono ?_; rintro e w1 ⟨rfl, k⟩; replace hb := hb.trans (k.mono hb.size); clear k))
    go_ret
    exact ⟨rfl, hb⟩
  · have F1 := Lib.hid hA
    have F2 := Lib.hid hB
    clear hA hB
    cases A
    · clear h3
      go_enter Try.func6, Try.ntmps6
      go_wp2_with (first
        | (go_at_call 12; refine (Name_pure _ (by first | omega | (simp only [sz_app, sz_45, sz_4545, sz_95]; omega)) _).mono ?_; rintro e w1 ⟨rfl, k⟩; replace hb := hb.trans (k.mono hb.size); clear k; first | rw [F4.out] | rw [F5.out] | rw [F6.out] | rw [F7.out] | rw [F8.out] | rw [F1.out] | rw [F2.out])
        | (go_at_call 11; refine (awake_any _).mono ?_; rintro e w1 ⟨rfl, k⟩; replace hb := hb.trans (k.mono hb.size); clear k))
      go_ret
      exact ⟨rfl, hb⟩
    · cases B
      · clear h3
        go_enter Try.func6, Try.ntmps6
        go_wp2_with (first
          | (go_at_call 12; refine (Name_pure _ (by first | omega | (simp only [sz_app, sz_45, sz_4545, sz_95, sz_49]; omega)) _).mono ?_; rintro e w1 ⟨rfl, k⟩; replace hb := hb.trans (k.mono hb.size); clear k; first | rw [F4.out] | rw [F5.out] | rw [F6.out] | rw [F7.out] | rw [F8.out] | rw [F1.out] | rw [F2.out])
          | (go_at_call 11; refine (awake_any _).mono ?_; rintro e w1 ⟨rfl, k⟩; replace hb := hb.trans (k.mono hb.size); clear k))
        go_ret
        exact ⟨rfl, hb⟩
      · have h100 : 100 ≤ a.size + b.size := by
          rcases Nat.lt_or_ge (a.size + b.size) 100 with h | h
          · exact absurd ⟨rfl, rfl, h⟩ h3
          · exact h
        clear h3
        go_enter Try.func6, Try.ntmps6
        go_wp2_with (first
          | (go_at_call 12; refine (Name_pure _ (by first | omega | (simp only [sz_app, sz_45, sz_4545, sz_95, sz_49]; omega)) _).mono ?_; rintro e w1 ⟨rfl, k⟩; replace hb := hb.trans (k.mono hb.size); clear k; first | rw [F4.out] | rw [F5.out] | rw [F6.out] | rw [F7.out] | rw [F8.out] | rw [F1.out] | rw [F2.out])
          | (go_at_call 11; refine (awake_any _).mono ?_; rintro e w1 ⟨rfl, k⟩; replace hb := hb.trans (k.mono hb.size); clear k))
        go_ret
        exact ⟨rfl, hb⟩
theorem LexParts_walk (a b : ByteArray) (_ha : a.size ≤ maxLen) (_hb : b.size ≤ maxLen) (za : a.size ≤ 140737488351232) (zb : b.size ≤ 140737488351232) (w : World) :
    Calls Try.prog 6 #[.string a, .string b] w fun e w' => e = .returned (.bool true) ∧ Below w.heap.size w w' := by
  by_cases h : a.size + b.size ≤ 1000
  · exact LexParts_small a b h w
  · have hb := Below.refl w.heap.size w
    have hbig : 1000 < a.size + b.size := by omega
    clear h _ha _hb
    go_enter Try.func6, Try.ntmps6
    go_wp2_with (first
      | (go_at_call 11; refine (awake_any _).mono ?_; rintro e w1 ⟨rfl, k⟩; replace hb := hb.trans (k.mono hb.size); clear k))
    go_ret
    exact ⟨rfl, hb⟩
end Go.Proofs.Ytnnajiaakfeocaa
