/- lex: names and versions over plain lists; which bytes are signs. -/
import Derived.Test.YtlkbgdhlbdjbiaaDoorLexI
import Derived.Lib.Walk
import Derived.Lib.Slices
import Derived.Lib.Bytealg
namespace Go.Proofs.YtlkbgdhlbdjbiaaDoor
open Go.RowKit
open Lex

namespace Lex
/-- A list's parts. -/
def cuts (c : Int) : List Int → List Int → List (List Int)
  | acc, [] => [acc]
  | acc, x :: r => if x = c then acc :: cuts c [] r else cuts c (acc ++ [x]) r
def nameL (l : List Int) : Bool := decide (l.length ≤ 100) && (cuts 45 [] l).all prt
def versL (l : List Int) : Bool := (cuts 46 [] l).all nbr && decide ((cuts 46 [] l).length = 3)
def sgnL : List Int := [58, 59, 44, 46, 47, 123, 125, 40, 41, 60, 62, 61, 64, 95]
def sgn (c : Int) : Bool := sgnL.contains c
end Lex
theorem bl_part (s : ByteArray) (a i : Nat) : bl (s.extract a i) = ((bl s).drop a).take (i - a) := by
  unfold bl
  rw [Lib.extract_data, List.map_take, List.map_drop]
theorem rst_cuts (s : ByteArray) (hs : s.size ≤ maxLen) (c : Int) : ∀ (l : List Int) (a i : Nat), l = (bl s).drop i → a ≤ i → i ≤ s.size →
    (rst s hs c a i l).map (fun x => bl x.1) = cuts c (((bl s).drop a).take (i - a)) l := by
  intro l
  induction l with
  | nil =>
    intro a i hl ha hi
    have h1 : s.size ≤ i := by
      have h2 := congrArg List.length hl
      rw [List.length_drop, bl_length] at h2
      simp at h2
      omega
    have hz : i = s.size := by omega
    subst hz
    rw [rst, cuts]
    simp only [List.map_cons, List.map_nil, sub, bl_part]
  | cons x r ih =>
    intro a i hl ha hi
    have h1 : i < s.size := by
      have h2 := congrArg List.length hl
      rw [List.length_drop, bl_length] at h2
      simp at h2
      omega
    rw [bl_cons h1] at hl
    injection hl with hx hr
    rw [rst, cuts]
    split
    · rw [List.map_cons, ih _ _ hr (by omega) (by omega)]
      simp only [sub, bl_part]
      rw [Nat.sub_self, List.take_zero]
    · rw [ih _ _ hr (by omega) (by omega)]
      congr 1
      rw [show i + 1 - a = (i - a) + 1 by omega, List.take_add_one, List.getElem?_drop, show a + (i - a) = i by omega, hx, List.getD_eq_getElem?_getD, List.getElem?_eq_getElem (by rw [bl_length]; exact h1)]
      rfl
theorem parts_cuts (s : ByteArray) (hs : s.size ≤ maxLen) (c : Int) : (parts s hs c).map (fun x => bl x.1) = cuts c [] (bl s) := by
  have := rst_cuts s hs c (bl s) 0 0 rfl (by omega) (by omega)
  simpa [parts] using this
theorem nameB_eq (s : ByteArray) (hs : s.size ≤ maxLen) : nameB s hs = nameL (bl s) := by
  unfold nameB nameL
  rw [← parts_cuts s hs, bl_length, List.all_map]
  rfl
theorem versB_eq (s : ByteArray) (hs : s.size ≤ maxLen) : versB s hs = versL (bl s) := by
  unfold versB versL
  rw [← parts_cuts s hs, List.all_map, List.length_map]
  rfl

def sgnK : ByteArray := ⟨#[58, 59, 44, 46, 47, 123, 125, 40, 41, 60, 62, 61, 64, 95]⟩
theorem sgn_index (u : UInt8) : decide (0 ≤ Lib.indexByte sgnK.data.toList u) = sgn (u.toNat : Int) := by
  have h : ∀ n : Fin 256, decide (0 ≤ Lib.indexByte sgnK.data.toList (UInt8.ofNat n.1)) = sgn (n.1 : Int) := by decide +kernel
  have := h ⟨u.toNat, u.toNat_lt⟩
  simpa using this

end Go.Proofs.YtlkbgdhlbdjbiaaDoor
