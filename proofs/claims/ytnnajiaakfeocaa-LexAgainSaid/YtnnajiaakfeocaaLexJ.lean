/- lex: names and versions over plain lists; which bytes are signs. -/
import Derived.Test.YtnnajiaakfeocaaLexI
import Derived.Lib.Walk
import Derived.Lib.Slices
import Derived.Lib.Bytealg
namespace Go.Proofs.Ytnnajiaakfeocaa
open Go.RowKit
open Lex

namespace Lex
/-- A list's parts. -/
def cuts (c : Int) : List Int → List Int → List (List Int)
  | acc, [] => [acc]
  | acc, x :: r => if x = c then acc :: cuts c [] r else cuts c (acc ++ [x]) r
def nameL (l : List Int) : Bool := decide (l.length ≤ 100) && (cuts 45 [] l).all prt
def versL (l : List Int) : Bool := (cuts 46 [] l).all nbr && decide ((cuts 46 [] l).length = 3)
def sgnL : List Int := [58, 59, 44, 46, 47, 123, 125, 40, 41, 60, 62, 61, 64, 95]
def sgn (c : Int) : Bool := sgnL.contains c
end Lex
theorem bl_part (s : ByteArray) (a i : Nat) : bl (s.extract a i) = ((bl s).drop a).take (i - a) := by
  unfold bl
  rw [Lib.extract_data, List.map_take, List.map_drop]
theorem rst_cuts (s : ByteArray) (hs : s.size ≤ maxLen) (c : Int) : ∀ (l : List Int) (a i : Nat), l = (bl s).drop i → a ≤ i → i ≤ s.size →
    (rst s hs c a i l).map (fun x => bl x.1) = cuts c (((bl s).drop a).take (i - a)) l := by
  intro l
  induction l with
  | nil =>
    intro a i hl ha hi
    have h1 : s.size ≤ i := by
      have h2 := congrArg List.length hl
      rw [List.length_drop, bl_length] at h2
      simp at h2
      omega
    have hz : i = s.size := by omega
    subst hz
    rw [rst, cuts]
    simp only [List.map_cons, List.map_nil, sub, bl_part]
  | cons x r ih =>
    intro a i hl ha hi
    have h1 : i < s.size := by
      have h2 := congrArg List.length hl
      rw [List.length_drop, bl_length] at h2
      simp at h2
      omega
    rw [bl_cons h1] at hl
    injection hl with hx hr
    rw [rst, cuts]
    split
    · rw [List.map_cons, ih _ _ hr (by omega) (by omega)]
      simp only [sub, bl_part]
      rw [Nat.sub_self, List.take_zero]
    · rw [ih _ _ hr (by omega) (by omega)]
      congr 1
      rw [show i + 1 - a = (i - a) + 1 by omega, List.take_add_one, List.getElem?_drop, show a + (i - a) = i by omega, hx, List.getD_eq_getElem?_getD, List.getElem?_eq_getElem (by rw [bl_length]; exact h1)]
      rfl
theorem parts_cuts (s : ByteArray) (hs : s.size ≤ maxLen) (c : Int) : (parts s hs c).map (fun x => bl x.1) = cuts c [] (bl s) := by
  have := rst_cuts s hs c (bl s) 0 0 rfl (by omega) (by omega)
  simpa [parts] using this
theorem nameB_eq (s : ByteArray) (hs : s.size ≤ maxLen) : nameB s hs = nameL (bl s) := by
  unfold nameB nameL
  rw [← parts_cuts s hs, bl_length, List.all_map]
  rfl
theorem versB_eq (s : ByteArray) (hs : s.size ≤ maxLen) : versB s hs = versL (bl s) := by
  unfold versB versL
  rw [← parts_cuts s hs, List.all_map, List.length_map]
  rfl

def sgnK : ByteArray := ⟨#[58, 59, 44, 46, 47, 123, 125, 40, 41, 60, 62, 61, 64, 95]⟩
theorem sgn_index (u : UInt8) : decide (0 ≤ Lib.indexByte sgnK.data.toList u) = sgn (u.toNat : Int) := by
  have h : ∀ n : Fin 256, decide (0 ≤ Lib.indexByte sgnK.data.toList (UInt8.ofNat n.1)) = sgn (n.1 : Int) := by decide +kernel
  have := h ⟨u.toNat, u.toNat_lt⟩
  simpa using this

set_option maxHeartbeats 1000000 in
set_option maxRecDepth 100000 in
theorem indexByte_any (s : ByteArray) (c : Int) (w : World) :
    Calls Try.prog 53 #[.string s, .int .u8 c] w fun e w' => e = .returned (.int .i64 (Lib.indexByte s.data.toList c.toNat.toUInt8)) ∧ w = w' := by
  go_enter Try.func53, Try.ntmps53
  go_wp2
  rw [run_callFunc_extern Try.func57 (by kernel_rfl) (by kernel_rfl) (by kernel_rfl) (e := Extern.BytealgIndexByte.indexByte) (by kernel_rfl), Lib.run_indexByteString]
  simp only [Result.andThen]
  rw [Oper.upon_value]
  go_wp2
  go_ret
  exact ⟨rfl, rfl⟩

set_option maxHeartbeats 1000000 in
set_option maxRecDepth 100000 in
theorem slIndex_any (s : ByteArray) (h1 : s.size = 1) (w : World) :
    Calls Try.prog 52 #[.string ⟨#[58, 59, 44, 46, 47, 123, 125, 40, 41, 60, 62, 61, 64, 95]⟩, .string s] w fun e w' => e = .returned (.int .i64 (Lib.indexByte sgnK.data.toList s[0])) ∧ w = w' := by
  have hne : (s.toList == [58, 59, 44, 46, 47, 123, 125, 40, 41, 60, 62, 61, 64, 95]) = false := by
    rw [Bool.eq_false_iff]
    intro h
    have h2 := congrArg List.length (beq_iff_eq.1 h)
    rw [ByteArray.toList_eq, Array.length_toList] at h2
    have : s.data.size = 1 := h1
    rw [this] at h2
    simp at h2
  have hz : ((s.size : Int) == 0) = false := by rw [h1]; rfl
  have ho : ((s.size : Int) == 1) = true := by rw [h1]; rfl
  have hlt : 0 < s.size := by omega
  have hi := fun w => indexByte_any sgnK (s[0].toNat : Int) w
  have hu : ((s[0].toNat : Int)).toNat.toUInt8 = s[0] := by simp
  rw [hu] at hi
  obtain ⟨k, hk⟩ : ∃ k, k = Lib.indexByte sgnK.data.toList s[0] := ⟨_, rfl⟩
  rw [← hk] at hi ⊢
  have HI := Lib.hid hi
  clear h1 hk hi hu
  go_enter Try.func52, Try.ntmps52
  go_wp2_with (go_at_call 53; refine (HI.out _).mono ?_; rintro e w1 ⟨rfl, rfl⟩)
  go_ret
  exact ⟨rfl, rfl⟩

theorem index_any (s : ByteArray) (h1 : s.size = 1) (w : World) :
    Calls Try.prog 51 #[.string ⟨#[58, 59, 44, 46, 47, 123, 125, 40, 41, 60, 62, 61, 64, 95]⟩, .string s] w fun e w' => e = .returned (.int .i64 (Lib.indexByte sgnK.data.toList s[0])) ∧ w = w' := by
  have hi := fun w => slIndex_any s h1 w
  obtain ⟨k, hk⟩ : ∃ k, k = Lib.indexByte sgnK.data.toList s[0] := ⟨_, rfl⟩
  rw [← hk] at hi ⊢
  have HI := Lib.hid hi
  clear hk hi h1
  go_enter Try.func51, Try.ntmps51
  go_wp2_with (go_at_call 52; refine (HI.out _).mono ?_; rintro e w1 ⟨rfl, rfl⟩)
  go_ret
  exact ⟨rfl, rfl⟩
theorem contains_any (s : ByteArray) (h1 : s.size = 1) (w : World) :
    Calls Try.prog 49 #[.string ⟨#[58, 59, 44, 46, 47, 123, 125, 40, 41, 60, 62, 61, 64, 95]⟩, .string s] w fun e w' => e = .returned (.bool (sgn (s[0].toNat : Int))) ∧ w = w' := by
  have hi := fun w => index_any s h1 w
  have hg := sgn_index s[0]
  obtain ⟨b, hb⟩ : ∃ b, b = sgn (s[0].toNat : Int) := ⟨_, rfl⟩
  rw [← hb] at hg ⊢
  obtain ⟨k, hk⟩ : ∃ k, k = Lib.indexByte sgnK.data.toList s[0] := ⟨_, rfl⟩
  rw [← hk] at hi hg
  have HI := Lib.hid hi
  have HG := Lib.hid hg
  clear hk hi h1 hb hg
  go_enter Try.func49, Try.ntmps49
  go_wp2_with (go_at_call 51; refine (HI.out _).mono ?_; rintro e w1 ⟨rfl, rfl⟩)
  go_ret
  rw [← HG.out]
  exact ⟨rfl, rfl⟩
end Go.Proofs.Ytnnajiaakfeocaa
