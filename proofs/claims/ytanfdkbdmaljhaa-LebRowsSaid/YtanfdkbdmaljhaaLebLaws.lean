/- The walks of the statements of layer 1 on single numbers. -/
import Derived.Test.YtanfdkbdmaljhaaLebAwake
import Derived.Test.YtanfdkbdmaljhaaLebRefAll
namespace Go.Proofs.Ytanfdkbdmaljhaa
open Go.RowKit
open Leb (byt len7 lenF sum7 sg7)

theorem i64_of_wf {x : Int} (h : (Lit.int .i64 x).wf = true) : -9223372036854775808 ≤ x ∧ x ≤ 9223372036854775807 := by
  simp [Lit.wf, IntKind.min, IntKind.max, IntKind.signed, IntKind.bits] at h
  omega

theorem LebPuts_walk (n : Int) (h : (Lit.int .i64 n).wf = true) (w : World) :
    Calls Try.prog 3 #[.int .i64 n] w fun e w' => e = .returned (.bool true) ∧ Below w.heap.size w w' := by
  obtain ⟨h1, h2⟩ := i64_of_wf h
  clear h
  have hb := Below.refl w.heap.size w
  go_enter Try.func3, Try.ntmps3
  go_wp2_with (first
    | (go_at_call 10; refine (PutU_any _ _ h2).mono ?_; rintro e w1 ⟨rfl, k1⟩; replace hb := hb.trans (k1.mono hb.size); clear k1)
    | (go_at_call 11; refine (refPutU_any _ _ h2).mono ?_; rintro e w1 ⟨rfl, k1⟩; replace hb := hb.trans (k1.mono hb.size); clear k1)
    | (go_at_call 12; refine (PutS_any _ _ h1 h2).mono ?_; rintro e w1 ⟨rfl, k1⟩; replace hb := hb.trans (k1.mono hb.size); clear k1)
    | (go_at_call 13; refine (refPutS_any _ _ h1 h2).mono ?_; rintro e w1 ⟨rfl, k1⟩; replace hb := hb.trans (k1.mono hb.size); clear k1)
    | (go_at_call 14; refine (awake_any _).mono ?_; rintro e w1 ⟨rfl, k1⟩; replace hb := hb.trans (k1.mono hb.size); clear k1))
  go_ret
  exact ⟨rfl, hb⟩

theorem LebTakes_in (s : ByteArray) (b : Int) (most : Nat) (half : Int) (hw : Bw b most half) (hs : s.size ≤ maxLen) (w : World) :
    Calls Try.prog 4 #[.string s, .int .i64 b] w fun e w' => e = .returned (.bool true) ∧ Below w.heap.size w w' := by
  have hb := Below.refl w.heap.size w
  have HW := Lib.hid hw
  clear hw
  go_enter Try.func4, Try.ntmps4
  go_wp2_with (first
    | (go_at_call 15; refine (TakeU_any s hs _).mono ?_; rintro e w1 ⟨rfl, k1⟩; replace hb := hb.trans (k1.mono hb.size); clear k1; unfold uTup)
    | (go_at_call 16; refine (refTakeU_any s hs _).mono ?_; rintro e w1 ⟨rfl, k1⟩; replace hb := hb.trans (k1.mono hb.size); clear k1; unfold uTup)
    | (go_at_call 17; refine (TakeS_any s b most half HW.out hs _).mono ?_; rintro e w1 ⟨rfl, k1⟩; replace hb := hb.trans (k1.mono hb.size); clear k1; unfold sTup)
    | (go_at_call 18; refine (refTakeS_any s b most half HW.out hs _).mono ?_; rintro e w1 ⟨rfl, k1⟩; replace hb := hb.trans (k1.mono hb.size); clear k1; unfold sTup)
    | (go_at_call 14; refine (awake_any _).mono ?_; rintro e w1 ⟨rfl, k1⟩; replace hb := hb.trans (k1.mono hb.size); clear k1))
  go_ret
  exact ⟨rfl, hb⟩
theorem LebTakes_out (s : ByteArray) (b : Int) (h32 : b ≠ 32) (h33 : b ≠ 33) (h64 : b ≠ 64) (hs : s.size ≤ maxLen) (w : World) :
    Calls Try.prog 4 #[.string s, .int .i64 b] w fun e w' => e = .returned (.bool true) ∧ Below w.heap.size w w' := by
  have hb := Below.refl w.heap.size w
  have HA := Lib.hid (TakeS_arg s b h32 h33 h64)
  have HB := Lib.hid (refTakeS_arg s b h32 h33 h64)
  clear h32 h33 h64
  go_enter Try.func4, Try.ntmps4
  go_wp2_with (first
    | (go_at_call 15; refine (TakeU_any s hs _).mono ?_; rintro e w1 ⟨rfl, k1⟩; replace hb := hb.trans (k1.mono hb.size); clear k1; unfold uTup)
    | (go_at_call 16; refine (refTakeU_any s hs _).mono ?_; rintro e w1 ⟨rfl, k1⟩; replace hb := hb.trans (k1.mono hb.size); clear k1; unfold uTup)
    | (go_at_call 17; refine (HA.out _).mono ?_; rintro e w1 ⟨rfl, rfl⟩)
    | (go_at_call 18; refine (HB.out _).mono ?_; rintro e w1 ⟨rfl, rfl⟩)
    | (go_at_call 14; refine (awake_any _).mono ?_; rintro e w1 ⟨rfl, k1⟩; replace hb := hb.trans (k1.mono hb.size); clear k1))
  go_ret
  exact ⟨rfl, hb⟩
theorem LebTakes_walk (s : ByteArray) (b : Int) (hs : s.size ≤ maxLen) (_h : (Lit.int .i64 b).wf = true) (w : World) :
    Calls Try.prog 4 #[.string s, .int .i64 b] w fun e w' => e = .returned (.bool true) ∧ Below w.heap.size w w' := by
  by_cases h32 : b = 32
  · exact LebTakes_in s b 5 _ (.inl ⟨h32, rfl, rfl⟩) hs w
  · by_cases h33 : b = 33
    · exact LebTakes_in s b 5 _ (.inr (.inl ⟨h33, rfl, rfl⟩)) hs w
    · by_cases h64 : b = 64
      · exact LebTakes_in s b 10 _ (.inr (.inr ⟨h64, rfl, rfl⟩)) hs w
      · exact LebTakes_out s b h32 h33 h64 hs w
end Go.Proofs.Ytanfdkbdmaljhaa
