/- lex: remarks and blanks, whole. -/
import Derived.Test.YtnnajiaakfeocaaLexD
namespace Go.Proofs.Ytnnajiaakfeocaa
open Go.RowKit
open Lex

namespace Lex
def rem (l : List Int) : Option Nat := if pre [47, 47] l then some (far lin l) else if pre [47, 42] l then clo 0 0 l else some 0
def blaF : Nat → Nat → List Int → Option Nat
  | 0, _, _ => none
  | f + 1, n, l => match rem (l.drop (far blk l)) with
    | none => none
    | some 0 => some (n + far blk l)
    | some (m + 1) => blaF f (n + far blk l + (m + 1)) ((l.drop (far blk l)).drop (m + 1))
/-- Behind blanks and remarks; none: a remark has no end. -/
def bla (l : List Int) : Option Nat := blaF (l.length + 1) 0 l
theorem clo_le : ∀ (l : List Int) (d n m : Nat), clo d n l = some m → m ≤ n + l.length
  | [], d, n, m, h => by rw [clo_nil] at h; cases h
  | [a], d, n, m, h => by rw [clo_one] at h; cases h
  | a :: b :: r, d, n, m, h => by
    rw [clo_two] at h
    have hl : (a :: b :: r).length = r.length + 2 := rfl
    have hl2 : (b :: r).length = r.length + 1 := rfl
    split at h
    · have := clo_le r _ _ _ h; omega
    · split at h
      · split at h
        · cases h; omega
        · have := clo_le r _ _ _ h; omega
      · have := clo_le (b :: r) _ _ _ h; omega
theorem rem_le {l : List Int} {m : Nat} (h : rem l = some m) : m ≤ l.length := by
  unfold rem at h
  split at h
  · cases h; exact far_le _ _
  · split at h
    · have := clo_le l 0 0 m h; omega
    · cases h; omega
end Lex

set_option maxRecDepth 100000 in
theorem remark_any (s : ByteArray) (hs : s.size ≤ 8192) (w : World) :
    Calls Try.prog 31 #[.string s] w fun e w' => e = .returned (.tuple #[.int .i64 (oN (rem (bl s))), .bool (oB (rem (bl s)))]) ∧ w = w' := by
  have hm : s.size ≤ maxLen := by unfold maxLen; omega
  have b1 : bl (⟨#[47, 47]⟩ : ByteArray) = [47, 47] := rfl
  have b2 : bl (⟨#[47, 42]⟩ : ByteArray) = [47, 42] := rfl
  have HP := Lib.hid (fun w => hasPrefix_any s ⟨#[47, 47]⟩ w)
  have HQ := Lib.hid (fun w => hasPrefix_any s ⟨#[47, 42]⟩ w)
  rw [b1] at HP
  rw [b2] at HQ
  clear b1 b2
  by_cases h1 : pre [47, 47] (bl s) = true
  · have hr : rem (bl s) = some (far lin (bl s)) := by unfold rem; rw [if_pos h1]
    rw [hr]
    rw [h1] at HP
    clear h1 hr
    go_enter Try.func31, Try.ntmps31
    go_wp2_with (first
      | (go_at_call 43; refine (HP.out _).mono ?_; rintro e w1 ⟨rfl, rfl⟩; clear HP)
      | (go_at_call 29; refine (reach_lin s hm _).mono ?_; rintro e w1 ⟨rfl, rfl⟩))
    go_ret2
    exact ⟨rfl, rfl⟩
  · have h1' := not_true h1
    rw [h1'] at HP
    by_cases h2 : pre [47, 42] (bl s) = true
    · have hr : rem (bl s) = clo 0 0 (bl s) := by unfold rem; rw [if_neg h1, if_pos h2]
      rw [hr]
      have HC := Lib.hid (fun w => closed_any s hs h2 w)
      rw [h2] at HQ
      clear h1 h1' h2 hr
      go_enter Try.func31, Try.ntmps31
      go_wp2_with (first
        | (go_at_call 43; refine (HP.out _).mono ?_; rintro e w1 ⟨rfl, rfl⟩; clear HP)
        | (go_at_call 43; refine (HQ.out _).mono ?_; rintro e w1 ⟨rfl, rfl⟩; clear HQ)
        | (go_at_call 45; refine (HC.out _).mono ?_; rintro e w1 ⟨rfl, rfl⟩))
      go_ret2
      exact ⟨rfl, rfl⟩
    · have hr : rem (bl s) = some 0 := by unfold rem; rw [if_neg h1, if_neg h2]
      rw [hr]
      have h2' := not_true h2
      rw [h2'] at HQ
      clear h1 h1' h2 h2' hr
      go_enter Try.func31, Try.ntmps31
      go_wp2_with (first
        | (go_at_call 43; refine (HP.out _).mono ?_; rintro e w1 ⟨rfl, rfl⟩; clear HP)
        | (go_at_call 43; refine (HQ.out _).mono ?_; rintro e w1 ⟨rfl, rfl⟩; clear HQ))
      go_ret2
      exact ⟨rfl, rfl⟩

set_option maxRecDepth 100000 in
theorem blanks_any (s : ByteArray) (hs : s.size ≤ 8192) (w : World) :
    Calls Try.prog 20 #[.string s] w fun e w' => e = .returned (.tuple #[.int .i64 (oN (bla (bl s))), .bool (oB (bla (bl s)))]) ∧ w = w' := by
  obtain ⟨R, hR⟩ : ∃ R, R = bla (bl s) := ⟨_, rfl⟩
  rw [← hR]
  have HR := Lib.hid hR
  clear hR
  go_enter Try.func20, Try.ntmps20
  go_wp2_with fail
  go_loop [4] (fun nv => ∃ n f : Nat, nv = .int .i64 n ∧ n ≤ s.size ∧ s.size - n < f ∧ R = blaF f n ((bl s).drop n)) (fun nv => s.size - (intOf nv).toNat)
  case atStart => exact ⟨0, s.size + 1, rfl, by omega, by omega, by rw [HR.out]; unfold bla; rw [bl_length]; rfl⟩
  case round =>
    obtain ⟨n, f, rfl, hn, hf, hbla⟩ := hrel
    obtain ⟨f', rfl⟩ : ∃ f', f = f' + 1 := ⟨f - 1, by omega⟩
    have q1 : (s.extract n s.size).size ≤ maxLen := by rw [ByteArray.size_extract]; unfold maxLen; omega
    have hr1 := reach_blk (s.extract n s.size) q1
    rw [bl_drop] at hr1
    obtain ⟨k, hk⟩ : ∃ k, k = far blk ((bl s).drop n) := ⟨_, rfl⟩
    have hkl := far_le blk ((bl s).drop n)
    rw [← hk, List.length_drop, bl_length] at hkl
    rw [← hk] at hr1
    have hnk : n + k ≤ s.size := by omega
    have q2 : (s.extract (n + k) s.size).size ≤ 8192 := by rw [ByteArray.size_extract]; omega
    have hr2 := remark_any (s.extract (n + k) s.size) q2
    rw [bl_drop] at hr2
    rw [blaF, ← hk, List.drop_drop] at hbla
    obtain ⟨o, ho⟩ : ∃ o, o = rem ((bl s).drop (n + k)) := ⟨_, rfl⟩
    rw [← ho] at hr2 hbla
    have hol : ∀ m, o = some m → n + k + m ≤ s.size := fun m hm => by
      have := rem_le (ho.symm.trans hm)
      rw [List.length_drop, bl_length] at this
      omega
    have H1 := Lib.hid hr1
    have H2 := Lib.hid hr2
    clear hr1 hr2 hk hkl ho q1 q2
    cases o with
    | none =>
      have HB := Lib.hid (show R = none from hbla)
      clear hbla hol
      go_wp2_with (first
        | (go_at_call 29; refine (H1.out _).mono ?_; rintro e w1 ⟨rfl, rfl⟩)
        | (go_at_call 31; refine (H2.out _).mono ?_; rintro e w1 ⟨rfl, rfl⟩))
      go_ret2
      rw [HB.out]
      exact ⟨rfl, rfl⟩
    | some m =>
      have hm := hol m rfl
      cases m with
      | zero =>
        have HB := Lib.hid (show R = some (n + k) from hbla)
        clear hbla hol hm
        go_wp2_with (first
          | (go_at_call 29; refine (H1.out _).mono ?_; rintro e w1 ⟨rfl, rfl⟩)
          | (go_at_call 31; refine (H2.out _).mono ?_; rintro e w1 ⟨rfl, rfl⟩))
        go_ret2
        rw [HB.out]
        exact ⟨rfl, rfl⟩
      | succ m =>
        have HB := Lib.hid (show R = blaF f' (n + k + (m + 1)) (((bl s).drop (n + k)).drop (m + 1)) from hbla)
        clear hbla hol
        go_wp2_with (first
          | (go_at_call 29; refine (H1.out _).mono ?_; rintro e w1 ⟨rfl, rfl⟩)
          | (go_at_call 31; refine (H2.out _).mono ?_; rintro e w1 ⟨rfl, rfl⟩))
        have e : wrap64 (↑n + ↑k + oN (some (m + 1))) = ((n + k + (m + 1) : Nat) : Int) := by
          show wrap64 (↑n + ↑k + ((m + 1 : Nat) : Int)) = _
          rw [IntWalk.wrap64_in]
          · push_cast; omega
          · omega
        rw [e]
        exact ⟨⟨n + k + (m + 1), f', rfl, hm, by omega, by rw [HB.out, List.drop_drop]⟩, by simp [intOf]; omega⟩
end Go.Proofs.Ytnnajiaakfeocaa
