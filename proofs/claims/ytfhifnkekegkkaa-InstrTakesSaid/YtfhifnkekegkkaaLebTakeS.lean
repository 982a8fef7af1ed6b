/- The walk of leb.TakeS. -/
import Derived.Test.YtfhifnkekegkkaaLebTakeW
namespace Go.Proofs.Ytfhifnkekegkkaa
open Go.RowKit
open Leb (byt len7 lenF sum7 sg7)

def okS (s : ByteArray) (most : Nat) (half : Int) : Bool :=
  decide (len7 s most ≠ 0 ∧ (len7 s most = 10 → byt s 9 = 0 ∨ byt s 9 = 127) ∧ -half ≤ sg7 s (len7 s most) ∧ sg7 s (len7 s most) < half)
def sN (s : ByteArray) (most : Nat) (half : Int) : Int := if okS s most half then sg7 s (len7 s most) else 0
def sR (s : ByteArray) (most : Nat) (half : Int) : ByteArray := if okS s most half then s.extract (len7 s most) s.size else ⟨#[]⟩
def sE (s : ByteArray) (most : Nat) (half : Int) : Int := if okS s most half then 0 else 2
def sTup (s : ByteArray) (most : Nat) (half : Int) : Value := .tuple #[.int .i64 (sN s most half), .string (sR s most half), .int .i64 (sE s most half)]
theorem sTup_bad {s : ByteArray} {most : Nat} {half : Int} (h : okS s most half = false) : sTup s most half = .tuple #[.int .i64 0, .string ⟨#[]⟩, .int .i64 2] := by
  unfold sTup sN sR sE
  rw [h]
  rfl
theorem sTup_good {s : ByteArray} {most : Nat} {half : Int} (h : okS s most half = true) : sTup s most half = .tuple #[.int .i64 (sg7 s (len7 s most)), .string (s.extract (len7 s most) s.size), .int .i64 0] := by
  unfold sTup sN sR sE
  rw [h]
  rfl

theorem TakeS_arg (s : ByteArray) (b : Int) (h32 : b ≠ 32) (h33 : b ≠ 33) (h64 : b ≠ 64) (w : World) :
    Calls Try.prog 86 #[.string s, .int .i64 b] w fun e w' => e = .returned (.tuple #[.int .i64 0, .string ⟨#[]⟩, .int .i64 1]) ∧ w = w' := by
  have k1 : (b != 32) = true := by simpa using h32
  have k2 : (b != 33) = true := by simpa using h33
  have k3 : (b != 64) = true := by simpa using h64
  clear h32 h33 h64
  go_enter Try.func86, Try.ntmps86
  go_wp2_with fail
  go_ret3
  exact ⟨rfl, rfl⟩

theorem TakeS_none (s : ByteArray) (b : Int) (most : Nat) (half : Int) (hw : Bw b most half) (hs : s.size ≤ maxLen) (h0 : len7 s most = 0) (w : World) :
    Calls Try.prog 86 #[.string s, .int .i64 b] w fun e w' => e = .returned (sTup s most half) ∧ Below w.heap.size w w' := by
  rw [sTup_bad (decide_eq_false (by omega))]
  have hN := sevN_none h0
  rcases hw with ⟨rfl, rfl, rfl⟩ | ⟨rfl, rfl, rfl⟩ | ⟨rfl, rfl, rfl⟩
  all_goals
    go_enter Try.func86, Try.ntmps86
    go_wp2_with (go_at_call 82; refine (sevens_any s _ hs (by decide) _).mono ?_; rintro e w' ⟨rfl, rfl⟩)
    go_ret3
    exact ⟨rfl, Below.refl _ _⟩

theorem TakeS_ten (s : ByteArray) (b : Int) (most : Nat) (half : Int) (hw : Bw b most half) (hs : s.size ≤ maxLen) (h0 : len7 s most ≠ 0) (ht : ¬ tenOk s (len7 s most)) (w : World) :
    Calls Try.prog 86 #[.string s, .int .i64 b] w fun e w' => e = .returned (sTup s most half) ∧ Below w.heap.size w w' := by
  rw [sTup_bad (decide_eq_false (fun h => ht h.2.1))]
  have h0' : ((len7 s most : Int) == 0) = false := by simp; omega
  have hle := Leb.len7_le s most
  have HT := Lib.hid ht
  clear ht h0
  rcases hw with ⟨rfl, rfl, rfl⟩ | ⟨rfl, rfl, rfl⟩ | ⟨rfl, rfl, rfl⟩
  all_goals
    go_enter Try.func86, Try.ntmps86
    go_wp2_with (first
      | (go_at_call 82; refine (sevens_any s _ hs (by decide) _).mono ?_; rintro e w' ⟨rfl, rfl⟩)
      | (go_at_call 88; refine (tenth_no s _ hle.2 (by omega) hs HT.out _).mono ?_; rintro e w' ⟨rfl, rfl⟩))
    go_ret3
    exact ⟨rfl, Below.refl _ _⟩

theorem TakeS_far (s : ByteArray) (b : Int) (most : Nat) (half : Int) (hw : Bw b most half) (hs : s.size ≤ maxLen) (n : Nat) (hn : len7 s most = n + 1) (ht : tenOk s (n + 1)) (hr : ¬(-half ≤ sg7 s (n + 1) ∧ sg7 s (n + 1) < half)) (w : World) :
    Calls Try.prog 86 #[.string s, .int .i64 b] w fun e w' => e = .returned (sTup s most half) ∧ Below w.heap.size w w' := by
  rw [sTup_bad (decide_eq_false (fun h => hr (hn ▸ h.2.2)))]
  have hN := sevN_some hn
  have hle := Leb.len7_le s most
  rw [hn] at hle
  have hm : most ≤ 10 := by rcases hw with ⟨rfl, rfl, rfl⟩ | ⟨rfl, rfl, rfl⟩ | ⟨rfl, rfl, rfl⟩ <;> decide
  have hin := sg7_in s (n + 1) (by omega) (by omega) ht
  have hS := Lib.hid (sevens_any s most hs hm)
  rw [hn, hN] at hS
  have HT := Lib.hid ht
  have HR := Lib.hid hr
  have HW := Lib.hid hw
  clear ht hr hn hN
  rcases hw with ⟨rfl, rfl, rfl⟩ | ⟨rfl, rfl, rfl⟩ | ⟨rfl, rfl, rfl⟩
  all_goals
    go_enter Try.func86, Try.ntmps86
    go_wp2_with (first
      | (go_at_call 82; refine (hS.out _).mono ?_; rintro e w' ⟨rfl, rfl⟩)
      | (go_at_call 88; refine (tenth_yes s (n + 1) hle.2 (by omega) hs HT.out _).mono ?_; rintro e w' ⟨rfl, rfl⟩)
      | (go_at_call 89; refine (withSign_any s (n + 1) (by omega) (by omega) HT.out _).mono ?_; rintro e w' ⟨rfl, rfl⟩)
      | (go_at_call 90; refine (fits_no _ _ _ _ HW.out hin.1 hin.2 HR.out _).mono ?_; rintro e w' ⟨rfl, rfl⟩))
    go_ret3
    exact ⟨rfl, Below.refl _ _⟩

theorem TakeS_good (s : ByteArray) (b : Int) (most : Nat) (half : Int) (hw : Bw b most half) (hs : s.size ≤ maxLen) (n : Nat) (hn : len7 s most = n + 1) (ht : tenOk s (n + 1)) (hr : -half ≤ sg7 s (n + 1) ∧ sg7 s (n + 1) < half) (w : World) :
    Calls Try.prog 86 #[.string s, .int .i64 b] w fun e w' => e = .returned (sTup s most half) ∧ Below w.heap.size w w' := by
  rw [sTup_good (decide_eq_true (by rw [hn]; exact ⟨by omega, ht, hr⟩)), hn]
  have hN := sevN_some hn
  have hle := Leb.len7_le s most
  rw [hn] at hle
  have hm : most ≤ 10 := by rcases hw with ⟨rfl, rfl, rfl⟩ | ⟨rfl, rfl, rfl⟩ | ⟨rfl, rfl, rfl⟩ <;> decide
  have hS := Lib.hid (sevens_any s most hs hm)
  rw [hn, hN] at hS
  have hs' := hs
  unfold maxLen at hs'
  have HT := Lib.hid ht
  have HR := Lib.hid hr
  have HW := Lib.hid hw
  clear ht hr hn hN
  rcases hw with ⟨rfl, rfl, rfl⟩ | ⟨rfl, rfl, rfl⟩ | ⟨rfl, rfl, rfl⟩
  all_goals
    go_enter Try.func86, Try.ntmps86
    go_wp2_with (first
      | (go_at_call 82; refine (hS.out _).mono ?_; rintro e w' ⟨rfl, rfl⟩)
      | (go_at_call 88; refine (tenth_yes s (n + 1) hle.2 (by omega) hs HT.out _).mono ?_; rintro e w' ⟨rfl, rfl⟩)
      | (go_at_call 89; refine (withSign_any s (n + 1) (by omega) (by omega) HT.out _).mono ?_; rintro e w' ⟨rfl, rfl⟩)
      | (go_at_call 90; refine (fits_yes _ _ _ _ HW.out HR.out.1 HR.out.2 _).mono ?_; rintro e w' ⟨rfl, rfl⟩))
    go_quiet (fail)
    go_wp2
    go_ret3
    exact ⟨rfl, below_drewN (Below.refl _ _) _⟩

theorem TakeS_any (s : ByteArray) (b : Int) (most : Nat) (half : Int) (hw : Bw b most half) (hs : s.size ≤ maxLen) (w : World) :
    Calls Try.prog 86 #[.string s, .int .i64 b] w fun e w' => e = .returned (sTup s most half) ∧ Below w.heap.size w w' := by
  by_cases h0 : len7 s most = 0
  · exact TakeS_none s b most half hw hs h0 w
  · by_cases ht : tenOk s (len7 s most)
    · obtain ⟨n, hn⟩ : ∃ n, len7 s most = n + 1 := ⟨len7 s most - 1, by omega⟩
      rw [hn] at ht
      by_cases hr : -half ≤ sg7 s (n + 1) ∧ sg7 s (n + 1) < half
      · exact TakeS_good s b most half hw hs n hn ht hr w
      · exact TakeS_far s b most half hw hs n hn ht hr w
    · exact TakeS_ten s b most half hw hs h0 ht w
end Go.Proofs.Ytfhifnkekegkkaa
