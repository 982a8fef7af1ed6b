/- A text's bytes as numbers: no program but for the kit's names. -/
import Derived.Test.YtikgkjkgdlnekaaGreatDoorKit0
import Derived.Lib.Strings
namespace Go.Proofs.YtikgkjkgdlnekaaGreatDoor
open Go.RowKit

/-- A text's bytes as numbers. -/
def bl (s : ByteArray) : List Int := s.data.toList.map fun b => (b.toNat : Int)
theorem bl_length (s : ByteArray) : (bl s).length = s.size := by
  unfold bl
  rw [List.length_map, Array.length_toList]
  rfl
theorem bl_get (s : ByteArray) (i : Nat) (h : i < s.size) : (bl s).getD i 0 = (s[i].toNat : Int) := by
  have h' : i < s.data.toList.length := by rw [Array.length_toList]; exact h
  unfold bl
  rw [List.getD_eq_getElem?_getD, List.getElem?_map, List.getElem?_eq_getElem h']
  rfl
theorem bl_back (s : ByteArray) : strOfNums (bl s) = s := by
  unfold strOfNums bl
  rw [List.map_map]
  have e : ((fun n : Int => UInt8.ofNat n.toNat) ∘ fun b : UInt8 => (b.toNat : Int)) = id := by
    funext b
    simp
  rw [e, List.map_id]
theorem bl_str (l : List Int) (h : ∀ z ∈ l, 0 ≤ z ∧ z ≤ 255) : bl (strOfNums l) = l := by
  unfold bl
  rw [strOfNums_data, List.map_map]
  have e : ∀ z ∈ l, ((fun b : UInt8 => (b.toNat : Int)) ∘ fun n : Int => UInt8.ofNat n.toNat) z = z := by
    intro z hz
    have := h z hz
    simp
    omega
  rw [List.map_congr_left e, List.map_id']
theorem bl_drop (s : ByteArray) (k : Nat) : bl (s.extract k s.size) = (bl s).drop k := by
  unfold bl
  rw [Lib.extract_data, List.map_take, List.map_drop, List.take_of_length_le]
  rw [List.length_drop, List.length_map, Array.length_toList]
  exact Nat.le_refl _
theorem bl_take (s : ByteArray) (k : Nat) : bl (s.extract 0 k) = (bl s).take k := by
  unfold bl
  rw [Lib.extract_data, List.map_take, List.drop_zero, Nat.sub_zero]
theorem bl_inj {s t : ByteArray} (h : bl s = bl t) : s = t := by rw [← bl_back s, ← bl_back t, h]
theorem bl_nil {s : ByteArray} (h : bl s = []) : s.size = 0 := by rw [← bl_length, h]; rfl

theorem bl_byte (s : ByteArray) (i : Nat) (h : i < s.size) : 0 ≤ (bl s).getD i 0 ∧ (bl s).getD i 0 < 256 := by
  rw [bl_get s i h]
  have := s[i].toNat_lt
  omega
theorem bl_byte256 (s : ByteArray) : ∀ z ∈ bl s, 0 ≤ z ∧ z < 256 := by
  intro z hz
  obtain ⟨i, hi, rfl⟩ := List.getElem_of_mem hz
  rw [bl_length] at hi
  have := bl_byte s i hi
  rw [List.getD_eq_getElem?_getD, List.getElem?_eq_getElem (by rw [bl_length]; exact hi)] at this
  exact this
theorem bl_cons {s : ByteArray} {k : Nat} (h : k < s.size) : (bl s).drop k = (bl s).getD k 0 :: (bl s).drop (k + 1) := by
  have h' : k < (bl s).length := by rw [bl_length]; exact h
  rw [List.drop_eq_getElem_cons h', List.getD_eq_getElem?_getD, List.getElem?_eq_getElem h']
  rfl
theorem bl_over {s : ByteArray} {k : Nat} (h : s.size ≤ k) : (bl s).drop k = [] := List.drop_eq_nil_of_le (by rw [bl_length]; exact h)
theorem bl_app (s t : ByteArray) : bl (s ++ t) = bl s ++ bl t := by
  rw [← bl_back s, ← bl_back t, strOfNums_app, bl_back, bl_back]
  exact bl_str _ fun z hz => by
    rcases List.mem_append.1 hz with h | h
    · have := bl_byte256 _ z h; omega
    · have := bl_byte256 _ z h; omega
end Go.Proofs.YtikgkjkgdlnekaaGreatDoor
