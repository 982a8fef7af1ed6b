/- The walks of what takes numbers: each function comes to the sums of LebMath. -/
import Derived.Test.YtfhifnkekegkkaaProg
import Derived.Test.YtfhifnkekegkkaaLebPutMath
import Derived.Test.YtfhifnkekegkkaaKit0
import Derived.WalkKit
import Derived.WalkSpells
import Derived.WalkLawsBesides
import Derived.Lib.Hide
import Derived.Below
import Derived.BigQuiet
import Derived.Deep.QuietTactic
import Derived.WalkMore
import Derived.WalkSmall
import Derived.ScopeJumps
namespace Go.Proofs.Ytfhifnkekegkkaa
open Go.RowKit
open Leb (byt len7 lenF sum7 sg7)

theorem u8_and127 (n : Nat) (h : n < 256) : bits .and .u8 (n : Int) 127 = (n : Int) % 128 :=
  bits_mask .u8 8 (by decide) wraps_u8 7 (by decide) n (by omega) (by omega)
theorem or_sum' (s : ByteArray) (m : Nat) (hm : m ≤ 9) : bits .or .i64 (wrap64 (sum7 s m)) (wrap64 ((byt s m : Int) % 128 * 2 ^ (7 * m))) = wrap64 (sum7 s (m + 1)) := by
  have h := Leb.or_sum s m hm
  have e : ((byt s m % 128 : Nat) : Int) = (byt s m : Int) % 128 := by omega
  rw [e] at h
  exact h

/-- What takeSevens gives: the bits, and how many bytes. -/
def sevN (s : ByteArray) (most : Nat) : Int := if len7 s most = 0 then 0 else wrap64 (sum7 s (len7 s most))
theorem sevN_none {s : ByteArray} {most : Nat} (h : len7 s most = 0) : sevN s most = 0 := if_pos h
theorem sevN_some {s : ByteArray} {most n : Nat} (h : len7 s most = n + 1) : sevN s most = wrap64 (sum7 s (n + 1)) := by
  unfold sevN
  rw [if_neg (by omega), h]

def SevAt (s : ByteArray) (most : Nat) (a : Act) : Prop :=
  ∃ (m : Nat) (u8 u9 u10 u11 u12 u13 u14 u15 u16 u17 u18 u19 u20 u21 u22 u23 u24 u25 u26 u27 u28 u29 u30 u31 u32 u33 u34 : Value), a = { tmps := #[.string s, .int .i64 most, undef, undef, .int .i64 0, .int .i64 0, .int .i64 (wrap64 (sum7 s m)), .int .i64 m, u8, u9, u10, u11, u12, u13, u14, u15, u16, u17, u18, u19, u20, u21, u22, u23, u24, u25, u26, u27, u28, u29, u30, u31, u32, u33, u34], defers := [] } ∧ m ≤ s.size ∧ m ≤ most ∧ lenF s most (most - m) m = len7 s most

theorem wrap64_zero : wrap64 0 = 0 := IntWalk.wrap64_in 0 (by decide)
theorem SevAt_start (s : ByteArray) (most : Nat) : SevAt s most { tmps := #[.string s, .int .i64 most, undef, undef, .int .i64 0, .int .i64 0, .int .i64 0, .int .i64 0, undef, undef, undef, undef, undef, undef, undef, undef, undef, undef, undef, undef, undef, undef, undef, undef, undef, undef, undef, undef, undef, undef, undef, undef, undef, undef, undef], defers := [] } := by
  refine ⟨0, undef, undef, undef, undef, undef, undef, undef, undef, undef, undef, undef, undef, undef, undef, undef, undef, undef, undef, undef, undef, undef, undef, undef, undef, undef, undef, undef, ?_, by omega, by omega, rfl⟩
  have h : wrap64 ((sum7 s 0 : Nat) : Int) = 0 := wrap64_zero
  rw [h]
  rfl

set_option maxRecDepth 100000 in
theorem sevens_any (s : ByteArray) (most : Nat) (hs : s.size ≤ maxLen) (h1 : most ≤ 10) (w : World) :
    Calls Try.prog 82 #[.string s, .int .i64 most] w fun e w' => e = .returned (.tuple #[.int .i64 (sevN s most), .int .i64 (len7 s most)]) ∧ w = w' := by
  unfold maxLen at hs
  go_enter Try.func82, Try.ntmps82
  go_wp2_with fail
  refine wp_scope_label 0 (fun a' w' => w = w' ∧ SevAt s most a') (fun a' _ => (10 - intOf (a'.tmps.getD 7 undef)).toNat) rfl ?_ ?_
  · rintro a' w' ⟨rfl, m, u8, u9, u10, u11, u12, u13, u14, u15, u16, u17, u18, u19, u20, u21, u22, u23, u24, u25, u26, u27, u28, u29, u30, u31, u32, u33, u34, rfl, hm, hm2, hF⟩
    by_cases hlt : m < s.size ∧ m < most
    · obtain ⟨h2, h3⟩ := hlt
      obtain ⟨f, hf⟩ : ∃ f, most - m = f + 1 := ⟨most - m - 1, by omega⟩
      rw [hf] at hF
      have e1 : ((m : Int) == (most : Int)) = false := by simp; omega
      have e2 : ((m : Int) == (s.size : Int)) = false := by simp; omega
      have e3 := Leb.byt_get s m h2
      have e4 := u8_and127 (byt s m) (Leb.byt_lt s m)
      have e5 := Leb.byt_lt s m
      have e6 := or_sum' s m (by omega)
      by_cases hb : 128 ≤ byt s m
      · rw [Leb.lenF_next s most f m h2 h3 hb] at hF
        have HF := Lib.hid hF
        have hfe : f = most - (m + 1) := by omega
        have HE := Lib.hid hfe
        clear hF hf hfe
        go_wp2
        go_step3
        refine ⟨rfl, ⟨rfl, m + 1, _, _, _, _, _, _, _, _, _, _, _, _, _, _, _, _, _, _, _, _, _, _, _, _, _, _, _, rfl, by omega, by omega, ?_⟩, by simp [intOf]; omega⟩
        rw [← HE.out]
        exact HF.out
      · rw [Leb.lenF_here s most f m h2 h3 (by omega)] at hF
        have HF := Lib.hid hF
        clear hF hf
        go_wp2
        simp only [Exit.jump]
        go_ret2
        rw [sevN_some HF.out.symm, ← HF.out]
        exact ⟨rfl, rfl⟩
    · rw [Leb.lenF_end s most _ m (by omega)] at hF
      have h0 : len7 s most = 0 := hF.symm
      have H0 := Lib.hid h0
      clear hF h0
      by_cases hmm : m = most
      · subst hmm
        go_wp2
        simp only [Exit.jump]
        go_ret2
        rw [sevN_none H0.out, H0.out]
        exact ⟨rfl, rfl⟩
      · have e1 : ((m : Int) == (most : Int)) = false := by simp; omega
        have e2 : m = s.size := by omega
        subst e2
        go_wp2
        simp only [Exit.jump]
        go_ret2
        rw [sevN_none H0.out, H0.out]
        exact ⟨rfl, rfl⟩
  · intro hpass
    go_wp2
    go_step3
    rename_i hK
    exact hK _ _ (hpass.out _ _ ⟨rfl, SevAt_start s most⟩)

/-! ### TakeU -/
def okU (s : ByteArray) : Bool := decide (len7 s 5 ≠ 0 ∧ sum7 s (len7 s 5) < 4294967296)
def uN (s : ByteArray) : Int := if okU s then sum7 s (len7 s 5) else 0
def uR (s : ByteArray) : ByteArray := if okU s then s.extract (len7 s 5) s.size else ⟨#[]⟩
def uE (s : ByteArray) : Int := if okU s then 0 else 2
def uTup (s : ByteArray) : Value := .tuple #[.int .i64 (uN s), .string (uR s), .int .i64 (uE s)]
theorem uTup_bad {s : ByteArray} (h : okU s = false) : uTup s = .tuple #[.int .i64 0, .string ⟨#[]⟩, .int .i64 2] := by
  unfold uTup uN uR uE
  rw [h]
  rfl
theorem uTup_good {s : ByteArray} (h : okU s = true) : uTup s = .tuple #[.int .i64 (sum7 s (len7 s 5)), .string (s.extract (len7 s 5) s.size), .int .i64 0] := by
  unfold uTup uN uR uE
  rw [h]
  rfl
theorem okU_none {s : ByteArray} (h : len7 s 5 = 0) : okU s = false := decide_eq_false (by omega)
theorem okU_big {s : ByteArray} (h : 4294967296 ≤ sum7 s (len7 s 5)) : okU s = false := decide_eq_false (by omega)
theorem okU_yes {s : ByteArray} (h0 : len7 s 5 ≠ 0) (h : sum7 s (len7 s 5) < 4294967296) : okU s = true := decide_eq_true ⟨h0, h⟩
theorem sum7_lt' (s : ByteArray) (k : Nat) (h : k ≤ 9) : sum7 s k < 9223372036854775808 := by
  have h1 := Leb.sum7_lt s k
  rw [Leb.pow7] at h1
  exact Leb.below63 _ _ (by omega) h1
theorem sevN_small {s : ByteArray} {most : Nat} (hm : most ≤ 9) : sevN s most = if len7 s most = 0 then 0 else (sum7 s (len7 s most) : Int) := by
  unfold sevN
  split
  · rfl
  · have h := sum7_lt' s (len7 s most) (by have := (Leb.len7_le s most).1; omega)
    exact IntWalk.wrap64_in _ (by omega)

theorem TakeU_any (s : ByteArray) (hs : s.size ≤ maxLen) (w : World) :
    Calls Try.prog 72 #[.string s] w fun e w' => e = .returned (uTup s) ∧ Below w.heap.size w w' := by
  have hs' := hs
  unfold maxLen at hs'
  have hle := Leb.len7_le s 5
  have hN := sevN_small (s := s) (most := 5) (by decide)
  by_cases h0 : len7 s 5 = 0
  · rw [if_pos h0] at hN
    have HP := Lib.hid (uTup_bad (okU_none h0))
    go_enter Try.func72, Try.ntmps72
    go_wp2_with (go_at_call 82; refine (sevens_any s 5 hs (by decide) _).mono ?_; rintro e w' ⟨rfl, rfl⟩)
    go_ret3
    rw [HP.out]
    exact ⟨rfl, Below.refl _ _⟩
  · rw [if_neg h0] at hN
    have h0' : ((len7 s 5 : Int) == 0) = false := by simp; omega
    by_cases hb : 4294967296 ≤ sum7 s (len7 s 5)
    · have HP := Lib.hid (uTup_bad (okU_big hb))
      go_enter Try.func72, Try.ntmps72
      go_wp2_with (go_at_call 82; refine (sevens_any s 5 hs (by decide) _).mono ?_; rintro e w' ⟨rfl, rfl⟩)
      go_ret3
      rw [HP.out]
      exact ⟨rfl, Below.refl _ _⟩
    · have HP := Lib.hid (uTup_good (okU_yes h0 (by omega)))
      go_enter Try.func72, Try.ntmps72
      go_wp2_with (go_at_call 82; refine (sevens_any s 5 hs (by decide) _).mono ?_; rintro e w' ⟨rfl, rfl⟩)
      go_quiet (fail)
      go_wp2
      go_ret3
      rw [HP.out]
      exact ⟨rfl, below_drewN (Below.refl _ _) _⟩

/-! ### TakeS -/
/-- The bits that there are, with how many bytes they have at most, and how far a number goes. -/
def Bw (b : Int) (most : Nat) (half : Int) : Prop := (b = 32 ∧ most = 5 ∧ half = 2147483648) ∨ (b = 33 ∧ most = 5 ∧ half = 4294967296) ∨ (b = 64 ∧ most = 10 ∧ half = 9223372036854775808)
def tenOk (s : ByteArray) (u : Nat) : Prop := u = 10 → byt s 9 = 0 ∨ byt s 9 = 127

theorem sg7_in (s : ByteArray) (u : Nat) (h1 : 1 ≤ u) (h2 : u ≤ 10) (ht : tenOk s u) : -9223372036854775808 ≤ sg7 s u ∧ sg7 s u ≤ 9223372036854775807 := by
  by_cases h : u = 10
  · subst h
    rw [← Leb.sign_of10 s (ht rfl)]
    unfold wrap64
    omega
  · rw [← Leb.sign_of s u h1 (by omega)]
    generalize hX : wrap64 (wrap64 ((sum7 s u : Nat) : Int) * 2 ^ (64 - 7 * u)) = X
    have hb : -9223372036854775808 ≤ X ∧ X ≤ 9223372036854775807 := by
      subst hX
      generalize wrap64 ((sum7 s u : Nat) : Int) * 2 ^ (64 - 7 * u) = Y
      unfold wrap64
      omega
    have hQ : (0 : Int) < 2 ^ (64 - 7 * u) := Int.pow_pos (by decide)
    generalize (2 : Int) ^ (64 - 7 * u) = Q at *
    constructor
    · refine (Int.le_ediv_iff_mul_le hQ).2 ?_
      have : (9223372036854775808 : Int) * 1 ≤ 9223372036854775808 * Q := Int.mul_le_mul_of_nonneg_left (by omega) (by decide)
      omega
    · have : X / Q ≤ 9223372036854775807 / Q := Int.ediv_le_ediv hQ hb.2
      have h3 : (9223372036854775807 : Int) / Q ≤ 9223372036854775807 := Int.ediv_le_self _ (by decide)
      omega

theorem tenth_yes (s : ByteArray) (u : Nat) (hu : u ≤ s.size) (h10 : u ≤ 10) (hs : s.size ≤ maxLen) (h : tenOk s u) (w : World) :
    Calls Try.prog 88 #[.string s, .int .i64 u] w fun e w' => e = .returned (.bool true) ∧ w = w' := by
  unfold maxLen at hs
  by_cases hlt : u < 10
  · go_enter Try.func88, Try.ntmps88
    go_wp2
    go_ret
    exact ⟨rfl, rfl⟩
  · have e : u = 10 := by omega
    have h9 := h e
    subst e
    clear h hlt
    have hi : (9 : Nat) < s.size := by omega
    have e3 := Leb.byt_get s 9 hi
    rcases h9 with h9 | h9
    · rw [h9] at e3
      go_enter Try.func88, Try.ntmps88
      go_wp2
      go_ret
      exact ⟨rfl, rfl⟩
    · rw [h9] at e3
      go_enter Try.func88, Try.ntmps88
      go_wp2
      go_ret
      exact ⟨rfl, rfl⟩
theorem tenth_no (s : ByteArray) (u : Nat) (hu : u ≤ s.size) (h10 : u ≤ 10) (hs : s.size ≤ maxLen) (h : ¬ tenOk s u) (w : World) :
    Calls Try.prog 88 #[.string s, .int .i64 u] w fun e w' => e = .returned (.bool false) ∧ w = w' := by
  unfold maxLen at hs
  obtain ⟨rfl, h1, h2⟩ : u = 10 ∧ byt s 9 ≠ 0 ∧ byt s 9 ≠ 127 := by unfold tenOk at h; omega
  clear h
  have hi : (9 : Nat) < s.size := by omega
  have e3 := Leb.byt_get s 9 hi
  have k1 : ((byt s 9 : Int) == 0) = false := by simp; omega
  have k2 : ((byt s 9 : Int) == 127) = false := by simp; omega
  clear h1 h2
  go_enter Try.func88, Try.ntmps88
  go_wp2
  go_ret
  exact ⟨rfl, rfl⟩

theorem wrap64_wrap64 (x : Int) : wrap64 (wrap64 x) = wrap64 x := by
  unfold wrap64
  omega
theorem withSign_any (s : ByteArray) (u : Nat) (h1 : 1 ≤ u) (h2 : u ≤ 10) (ht : tenOk s u) (w : World) :
    Calls Try.prog 89 #[.int .i64 (wrap64 (sum7 s u)), .int .i64 u] w fun e w' => e = .returned (.int .i64 (sg7 s u)) ∧ w = w' := by
  by_cases h : u = 10
  · subst h
    have HS := Lib.hid (Leb.sign_of10 s (ht rfl))
    clear ht
    go_enter Try.func89, Try.ntmps89
    go_wp2
    go_ret
    refine ⟨?_, rfl⟩
    rw [wrap64_wrap64, HS.out]
    rfl
  · have HS := Lib.hid (Leb.sign_of s u h1 (by omega))
    clear ht
    have h3 : u < 10 := by omega
    clear h
    go_enter Try.func89, Try.ntmps89
    go_wp2
    go_ret
    refine ⟨?_, rfl⟩
    rw [HS.out]
    rfl

theorem fits_yes (n b : Int) (most : Nat) (half : Int) (hw : Bw b most half) (h1 : -half ≤ n) (h2 : n < half) (w : World) :
    Calls Try.prog 90 #[.int .i64 n, .int .i64 b] w fun e w' => e = .returned (.bool true) ∧ w = w' := by
  by_cases h0 : 0 ≤ n
  all_goals
    rcases hw with ⟨rfl, rfl, rfl⟩ | ⟨rfl, rfl, rfl⟩ | ⟨rfl, rfl, rfl⟩
    all_goals
      go_enter Try.func90, Try.ntmps90
      go_wp2
      all_goals
        go_ret
        exact ⟨by first | rfl | (refine congrArg (fun c => Ending.returned (.bool c)) ?_; simp; omega), rfl⟩
theorem fits_no (n b : Int) (most : Nat) (half : Int) (hw : Bw b most half) (h0 : -9223372036854775808 ≤ n) (h00 : n ≤ 9223372036854775807) (h : ¬(-half ≤ n ∧ n < half)) (w : World) :
    Calls Try.prog 90 #[.int .i64 n, .int .i64 b] w fun e w' => e = .returned (.bool false) ∧ w = w' := by
  rcases hw with ⟨rfl, rfl, rfl⟩ | ⟨rfl, rfl, rfl⟩ | ⟨rfl, rfl, rfl⟩
  all_goals
    go_enter Try.func90, Try.ntmps90
    go_wp2
    all_goals
      go_ret
      exact ⟨by first | rfl | (refine congrArg (fun c => Ending.returned (.bool c)) ?_; simp; omega), rfl⟩
end Go.Proofs.Ytfhifnkekegkkaa
