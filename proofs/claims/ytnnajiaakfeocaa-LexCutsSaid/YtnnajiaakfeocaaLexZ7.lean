/- lex: the document's own token: signs. -/
import Derived.Test.YtnnajiaakfeocaaLexZ6
namespace Go.Proofs.Ytnnajiaakfeocaa
open Go.RowKit
open Lex

theorem ltr_not {c : Int} (h1 : knd c ≠ 1) (h2 : knd c ≠ 2) : ltr c = false := by
  rcases ltr_knd c with ⟨_, h⟩ | ⟨_, h⟩ | ⟨h, _⟩
  · exact absurd h h1
  · exact absurd h h2
  · exact h
theorem dig_not {c : Int} (h3 : knd c ≠ 3) : dig c = false := by
  cases h : dig c
  · rfl
  · exact absurd (knd_3.2 h) h3
theorem spn_sign {c : Nat} {r : List Int} (h37 : c ≠ 37) (h1 : knd (c : Int) ≠ 1) (h2 : knd (c : Int) ≠ 2) (h3 : knd (c : Int) ≠ 3) : spn ((c : Int) :: r) = if pre [45, 62] ((c : Int) :: r) then (4, 0, 2) else (4, 0, 1) := by
  rw [spn_cons, if_neg (by omega), ltr_not h1 h2, dig_not h3]
  rfl
theorem pre_two {a : Int} {l : List Int} : pre [45, 62] (a :: l) = true ↔ a = 45 ∧ ∃ r, l = 62 :: r := by
  unfold pre
  rw [List.isPrefixOf_iff_prefix]
  constructor
  · rintro ⟨t, ht⟩
    injection ht with h1 h2
    exact ⟨h1.symm, t, h2.symm⟩
  · rintro ⟨rfl, r, rfl⟩
    exact ⟨r, rfl⟩

set_option maxRecDepth 100000 in
set_option maxHeartbeats 1000000 in
theorem refToken_arrow (s : ByteArray) (hs : s.size ≤ 8192) (i : Nat) (hi : i + 1 < s.size) (h45 : s[i].toNat = 45) (h62 : s[i + 1].toNat = 62) (w : World) :
    Calls Try.prog 23 #[.string s, .int .i64 i] w fun e w' => e = .returned (rtkV s i) ∧ Below w.heap.size w w' := by
  have hi0 : i < s.size := by omega
  have hl := bl_cons (s := s) hi0
  rw [bl_get s i hi0, h45, bl_cons hi, bl_get s (i + 1) hi, h62] at hl
  have hsp : spn ((bl s).drop i) = (4, 0, 2) := by rw [hl]; rfl
  have hS : (((bl s).drop i).drop 0).take (2 - 0) = [45, 62] := by rw [hl]; rfl
  have hst : strOfNums [45, 62] = ⟨#[45, 62]⟩ := rfl
  have hb := Below.refl w.heap.size w
  obtain ⟨V, hV⟩ : ∃ V, V = rtkV s i := ⟨_, rfl⟩
  rw [← hV]
  rw [rtkV_yes (k := 4) (a := 0) (b := 2) hsp (by rw [hS]; rfl), hS, hst] at hV
  have HV := Lib.hid hV
  have HK : Hid (knd ((s[i].toNat : Nat) : Int) = 4) := Lib.hid (by rw [h45]; rfl)
  have t37 : ((s[i].toNat : Int) == 37) = false := by rw [h45]; rfl
  have t45 : ((s[i].toNat : Int) == 45) = true := by rw [h45]; rfl
  have t62 : ((s[i + 1].toNat : Int) == 62) = true := by rw [h62]; rfl
  clear hl hsp hS hst hV h45 h62
  go_enter Try.func23, Try.ntmps23
  go_wp2_with (first
    | (go_at_call 26; refine (kind_any _ _).mono ?_; rintro e w1 ⟨rfl, rfl⟩; rw [HK.out]))
  refine bodyPost_ret (v := V) ?_ rfl ⟨rfl, hb.alloc (Nat.le_refl _) _⟩
  rw [HV.out]
  simp [results, Try.f23, go_sem]
set_option maxRecDepth 100000 in
set_option maxHeartbeats 1000000 in
theorem refToken_sign (s : ByteArray) (hs : s.size ≤ 8192) (i : Nat) (hi : i < s.size) (h37 : s[i].toNat ≠ 37) (h1 : knd ((s[i].toNat : Nat) : Int) ≠ 1) (h2 : knd ((s[i].toNat : Nat) : Int) ≠ 2) (h3 : knd ((s[i].toNat : Nat) : Int) ≠ 3)
    (hno : s[i].toNat ≠ 45 ∨ i + 1 = s.size ∨ ∃ h : i + 1 < s.size, s[i].toNat = 45 ∧ s[i + 1].toNat ≠ 62) (w : World) :
    Calls Try.prog 23 #[.string s, .int .i64 i] w fun e w' => e = .returned (rtkV s i) ∧ Below w.heap.size w w' := by
  have hl := bl_cons (s := s) hi
  rw [bl_get s i hi] at hl
  have hpre : pre [45, 62] (((s[i].toNat : Nat) : Int) :: (bl s).drop (i + 1)) = false := by
    rw [Bool.eq_false_iff]
    intro h
    obtain ⟨g1, r, g2⟩ := pre_two.1 h
    rcases hno with h | h | ⟨hlt, _, h⟩
    · exact h (by omega)
    · rw [bl_over (by omega)] at g2; cases g2
    · rw [bl_cons hlt, bl_get s (i + 1) hlt] at g2
      injection g2 with g2 _
      exact h (by omega)
  have hsp : spn ((bl s).drop i) = (4, 0, 1) := by rw [hl, spn_sign h37 h1 h2 h3, hpre]; rfl
  have hS : (((bl s).drop i).drop 0).take (1 - 0) = [((s[i].toNat : Nat) : Int)] := by rw [hl]; rfl
  have hst : strOfNums ((((bl s).drop i).drop 0).take (1 - 0)) = s.extract i (i + 1) := part_eq s i 0 1 (by omega)
  have hmay : may 4 [((s[i].toNat : Nat) : Int)] = sgn ((s[i].toNat : Nat) : Int) := by
    unfold may
    rw [if_neg (by decide), if_pos rfl]
    have : decide ([((s[i].toNat : Nat) : Int)] = [45, 62]) = false := by simp
    rw [this]
    rfl
  have hb := Below.refl w.heap.size w
  have ht : ((s[i].toNat : Int) == 45) = false ∨ (((s[i].toNat : Int) == 45) = true ∧ i + 1 = s.size) ∨ ((s[i].toNat : Int) == 45) = true ∧ ∃ h : i + 1 < s.size, ((s[i + 1].toNat : Int) == 62) = false := by
    by_cases h45 : s[i].toNat = 45
    · rcases hno with h | h | ⟨hlt, _, h⟩
      · exact absurd h45 h
      · exact .inr (.inl ⟨by simp; omega, h⟩)
      · exact .inr (.inr ⟨by simp; omega, hlt, by simp; omega⟩)
    · exact .inl (by simp; omega)
  obtain ⟨V, hV⟩ : ∃ V, V = rtkV s i := ⟨_, rfl⟩
  rw [← hV]
  obtain ⟨kc, hkc⟩ : ∃ kc, kc = knd ((s[i].toNat : Nat) : Int) := ⟨_, rfl⟩
  rw [← hkc] at h1 h2 h3
  have HK := Lib.hid hkc.symm
  have u1 : (kc == 1) = false := by simpa using h1
  have u2 : (kc == 2) = false := by simpa using h2
  have u3 : (kc == 3) = false := by simpa using h3
  have t37 : ((s[i].toNat : Int) == 37) = false := by simp; omega
  have hsg := fun w => refSign_any s[i].toNat w
  obtain ⟨ok, hok⟩ : ∃ ok, sgn ((s[i].toNat : Nat) : Int) = ok := ⟨_, rfl⟩
  rw [hok] at hsg hmay
  have HG := Lib.hid hsg
  cases ok
  · rw [rtkV_no (k := 4) (a := 0) (b := 1) hsp (by rw [hS]; exact hmay)] at hV
    have HV := Lib.hid hV
    clear hl hpre hsp hS hst hmay hno hV hkc h1 h2 h3 h37 hsg hok
    rcases ht with t45 | ⟨t45, he⟩ | ⟨t45, hlt, t62⟩
    all_goals
      go_enter Try.func23, Try.ntmps23
      go_wp2_with (first
        | (go_at_call 26; refine (kind_any _ _).mono ?_; rintro e w1 ⟨rfl, rfl⟩; rw [HK.out])
        | (go_at_call 36; refine (HG.out _).mono ?_; rintro e w1 ⟨rfl, rfl⟩))
      all_goals refine bodyPost_ret (v := V) ?_ rfl ⟨rfl, hb.alloc (Nat.le_refl _) _⟩
      all_goals rw [HV.out]
      all_goals simp [results, Try.f23, go_sem]
  · rw [rtkV_yes (k := 4) (a := 0) (b := 1) hsp (by rw [hS]; exact hmay), hst] at hV
    have HV := Lib.hid hV
    clear hl hpre hsp hS hst hmay hno hV hkc h1 h2 h3 h37 hsg hok
    rcases ht with t45 | ⟨t45, he⟩ | ⟨t45, hlt, t62⟩
    all_goals
      go_enter Try.func23, Try.ntmps23
      go_wp2_with (first
        | (go_at_call 26; refine (kind_any _ _).mono ?_; rintro e w1 ⟨rfl, rfl⟩; rw [HK.out])
        | (go_at_call 36; refine (HG.out _).mono ?_; rintro e w1 ⟨rfl, rfl⟩))
      all_goals refine bodyPost_ret (v := V) ?_ rfl ⟨rfl, hb.alloc (Nat.le_refl _) _⟩
      all_goals rw [HV.out]
      all_goals simp [results, Try.f23, go_sem]
      all_goals rw [show i + 1 = s.size by omega]
theorem refToken_any (s : ByteArray) (hs : s.size ≤ 8192) (i : Nat) (hi : i < s.size) (w : World) :
    Calls Try.prog 23 #[.string s, .int .i64 i] w fun e w' => e = .returned (rtkV s i) ∧ Below w.heap.size w w' := by
  by_cases h37 : s[i].toNat = 37
  · exact refToken_pct s hs i hi h37 w
  · by_cases h1 : knd ((s[i].toNat : Nat) : Int) = 1
    · exact refToken_sml s hs i hi h1 w
    · by_cases h2 : knd ((s[i].toNat : Nat) : Int) = 2
      · exact refToken_grt s hs i hi h2 w
      · by_cases h3 : knd ((s[i].toNat : Nat) : Int) = 3
        · exact refToken_dig s hs i hi h3 w
        · by_cases h45 : s[i].toNat = 45
          · by_cases hlt : i + 1 < s.size
            · by_cases h62 : s[i + 1].toNat = 62
              · exact refToken_arrow s hs i hlt h45 h62 w
              · exact refToken_sign s hs i hi h37 h1 h2 h3 (.inr (.inr ⟨hlt, h45, h62⟩)) w
            · exact refToken_sign s hs i hi h37 h1 h2 h3 (.inr (.inl (by omega))) w
          · exact refToken_sign s hs i hi h37 h1 h2 h3 (.inl h45) w
end Go.Proofs.Ytnnajiaakfeocaa
