/- The walk of the document's own reading of characters. -/
import Derived.Test.YtkmgngmpplgjnaaUtfRefW
import Derived.Test.YtkmgngmpplgjnaaUtfReadM
import Derived.Test.YtkmgngmpplgjnaaKitI
import Derived.Lib.Strings
namespace Go.Proofs.Ytkmgngmpplgjnaa
open Go.RowKit

/-- A text's bytes as numbers. -/
def bl (s : ByteArray) : List Int := s.data.toList.map fun b => (b.toNat : Int)
theorem bl_length (s : ByteArray) : (bl s).length = s.size := by
  unfold bl
  rw [List.length_map, Array.length_toList]
  rfl
theorem bl_get (s : ByteArray) (i : Nat) (h : i < s.size) : (bl s).getD i 0 = (s[i].toNat : Int) := by
  have h' : i < s.data.toList.length := by rw [Array.length_toList]; exact h
  unfold bl
  rw [List.getD_eq_getElem?_getD, List.getElem?_map, List.getElem?_eq_getElem h']
  rfl
theorem bl_back (s : ByteArray) : strOfNums (bl s) = s := by
  unfold strOfNums bl
  rw [List.map_map]
  have e : ((fun n : Int => UInt8.ofNat n.toNat) ∘ fun b : UInt8 => (b.toNat : Int)) = id := by
    funext b
    simp
  rw [e, List.map_id]
theorem bl_str (l : List Int) (h : ∀ z ∈ l, 0 ≤ z ∧ z ≤ 255) : bl (strOfNums l) = l := by
  unfold bl
  rw [strOfNums_data, List.map_map]
  have e : ∀ z ∈ l, ((fun b : UInt8 => (b.toNat : Int)) ∘ fun n : Int => UInt8.ofNat n.toNat) z = z := by
    intro z hz
    have := h z hz
    simp
    omega
  rw [List.map_congr_left e, List.map_id']
theorem bl_drop (s : ByteArray) (k : Nat) : bl (s.extract k s.size) = (bl s).drop k := by
  unfold bl
  rw [Lib.extract_data, List.map_take, List.map_drop, List.take_of_length_le]
  rw [List.length_drop, List.length_map, Array.length_toList]
  exact Nat.le_refl _
theorem bl_take (s : ByteArray) (k : Nat) : bl (s.extract 0 k) = (bl s).take k := by
  unfold bl
  rw [Lib.extract_data, List.map_take, List.drop_zero, Nat.sub_zero]
theorem bl_inj {s t : ByteArray} (h : bl s = bl t) : s = t := by rw [← bl_back s, ← bl_back t, h]
theorem bl_nil {s : ByteArray} (h : bl s = []) : s.size = 0 := by rw [← bl_length, h]; rfl

theorem oneL_byte (form p : Int) : ∀ z ∈ Utf.oneL form p, 0 ≤ z ∧ z ≤ 255 := by
  intro z hz
  have hne : Utf.oneL form p ≠ [] := fun h => by rw [h] at hz; cases hz
  rcases Utf.form_of hne with rfl | rfl | rfl
  · rcases Utf.shape0 hne with ⟨e, h1, h2⟩ | ⟨e, h1, h2⟩ | ⟨e, h1, h2⟩ | ⟨e, h1, h2⟩ <;> (rw [e] at hz; simp at hz; omega)
  · rcases Utf.shape1 hne with ⟨e, h1, h2, _⟩ | ⟨e, h1, h2⟩ <;> (rw [e] at hz; simp [Utf.hiU, Utf.loU] at hz; omega)
  · obtain ⟨e, h1, h2⟩ := Utf.shape2 hne
    rw [e] at hz
    simp at hz
    omega
theorem hit_eq {form : Int} {s : ByteArray} {k : Nat} (hk : k ≤ s.size) : (strOfNums (Utf.oneL form (Utf.guessL form (bl s) k)) = s.extract 0 k) ↔ Utf.hitB form (bl s) k = true := by
  unfold Utf.hitB
  rw [decide_eq_true_iff, bl_length]
  constructor
  · intro h
    refine ⟨hk, ?_⟩
    have := congrArg bl h
    rw [bl_str _ (oneL_byte _ _), bl_take] at this
    exact this
  · rintro ⟨_, h⟩
    rw [h, ← bl_take, bl_back]

set_option maxRecDepth 100000 in
theorem guess_1 (form : Int) (s : ByteArray) (hs : 1 ≤ s.size) (w : World) :
    Calls Try.prog 27 #[.int .i64 form, .string s, .int .i64 1] w fun e w' => e = .returned (.int .i64 (Utf.guessL form (bl s) 1)) ∧ Below w.heap.size w w' := by
  obtain ⟨B0, e0⟩ : ∃ B : Nat, s[0].toNat = B := ⟨_, rfl⟩
  have g0 := bl_get s 0 (by omega)
  have b0 : B0 < 256 := e0 ▸ UInt8.toNat_lt _
  rw [e0] at g0
  have HG : Hid (Utf.guessL form (bl s) 1 = (B0 : Int)) := Lib.hid (by unfold Utf.guessL; rw [if_pos rfl, g0])
  clear g0
  go_enter Try.func27, Try.ntmps27
  go_wp2_with fail
  go_ret
  rw [HG.out]
  exact ⟨rfl, Below.refl _ _⟩
set_option maxRecDepth 100000 in
theorem guess_u2 (s : ByteArray) (hs : 2 ≤ s.size) (w : World) :
    Calls Try.prog 27 #[.int .i64 1, .string s, .int .i64 2] w fun e w' => e = .returned (.int .i64 (Utf.guessL 1 (bl s) 2)) ∧ Below w.heap.size w w' := by
  obtain ⟨B0, e0⟩ : ∃ B : Nat, s[0].toNat = B := ⟨_, rfl⟩
  have g0 := bl_get s 0 (by omega)
  have b0 : B0 < 256 := e0 ▸ UInt8.toNat_lt _
  rw [e0] at g0
  obtain ⟨B1, e1⟩ : ∃ B : Nat, s[1].toNat = B := ⟨_, rfl⟩
  have g1 := bl_get s 1 (by omega)
  have b1 : B1 < 256 := e1 ▸ UInt8.toNat_lt _
  rw [e1] at g1
  have HG : Hid (Utf.guessL 1 (bl s) 2 = (B0 : Int) + 256 * (B1 : Int)) := Lib.hid (by unfold Utf.guessL; rw [if_neg (by decide), if_pos rfl, if_pos rfl, g0, g1])
  clear g0 g1
  go_enter Try.func27, Try.ntmps27
  go_wp2_with fail
  go_ret
  rw [HG.out]
  exact ⟨rfl, Below.refl _ _⟩
set_option maxRecDepth 100000 in
theorem guess_u3 (s : ByteArray) (hs : 3 ≤ s.size) (w : World) :
    Calls Try.prog 27 #[.int .i64 1, .string s, .int .i64 3] w fun e w' => e = .returned (.int .i64 (Utf.guessL 1 (bl s) 3)) ∧ Below w.heap.size w w' := by
  obtain ⟨B0, e0⟩ : ∃ B : Nat, s[0].toNat = B := ⟨_, rfl⟩
  have g0 := bl_get s 0 (by omega)
  have b0 : B0 < 256 := e0 ▸ UInt8.toNat_lt _
  rw [e0] at g0
  obtain ⟨B1, e1⟩ : ∃ B : Nat, s[1].toNat = B := ⟨_, rfl⟩
  have g1 := bl_get s 1 (by omega)
  have b1 : B1 < 256 := e1 ▸ UInt8.toNat_lt _
  rw [e1] at g1
  have HG : Hid (Utf.guessL 1 (bl s) 3 = -1) := Lib.hid (by unfold Utf.guessL; rw [if_neg (by decide), if_pos rfl, if_neg (by decide), if_pos rfl])
  clear g0 g1
  go_enter Try.func27, Try.ntmps27
  go_wp2_with fail
  go_ret
  rw [HG.out]
  exact ⟨rfl, Below.refl _ _⟩
set_option maxRecDepth 100000 in
theorem guess_u4 (s : ByteArray) (hs : 4 ≤ s.size) (w : World) :
    Calls Try.prog 27 #[.int .i64 1, .string s, .int .i64 4] w fun e w' => e = .returned (.int .i64 (Utf.guessL 1 (bl s) 4)) ∧ Below w.heap.size w w' := by
  obtain ⟨B0, e0⟩ : ∃ B : Nat, s[0].toNat = B := ⟨_, rfl⟩
  have g0 := bl_get s 0 (by omega)
  have b0 : B0 < 256 := e0 ▸ UInt8.toNat_lt _
  rw [e0] at g0
  obtain ⟨B1, e1⟩ : ∃ B : Nat, s[1].toNat = B := ⟨_, rfl⟩
  have g1 := bl_get s 1 (by omega)
  have b1 : B1 < 256 := e1 ▸ UInt8.toNat_lt _
  rw [e1] at g1
  obtain ⟨B2, e2⟩ : ∃ B : Nat, s[2].toNat = B := ⟨_, rfl⟩
  have g2 := bl_get s 2 (by omega)
  have b2 : B2 < 256 := e2 ▸ UInt8.toNat_lt _
  rw [e2] at g2
  obtain ⟨B3, e3⟩ : ∃ B : Nat, s[3].toNat = B := ⟨_, rfl⟩
  have g3 := bl_get s 3 (by omega)
  have b3 : B3 < 256 := e3 ▸ UInt8.toNat_lt _
  rw [e3] at g3
  have HG : Hid (Utf.guessL 1 (bl s) 4 = 65536 + ((B0 : Int) + 256 * (B1 : Int) - 55296) * 1024 + (B2 : Int) + 256 * (B3 : Int) - 56320) := Lib.hid (by unfold Utf.guessL; rw [if_neg (by decide), if_pos rfl, if_neg (by decide), if_neg (by decide), g0, g1, g2, g3])
  clear g0 g1 g2 g3
  go_enter Try.func27, Try.ntmps27
  go_wp2_with fail
  go_quiet (fail)
  go_wp2
  go_ret
  rw [HG.out]
  exact ⟨rfl, below_drewN (Below.refl _ _) _⟩
set_option maxRecDepth 100000 in
theorem guess_b2 (form : Int) (hf : form ≠ 1) (s : ByteArray) (hs : 2 ≤ s.size) (w : World) :
    Calls Try.prog 27 #[.int .i64 form, .string s, .int .i64 2] w fun e w' => e = .returned (.int .i64 (Utf.guessL form (bl s) 2)) ∧ Below w.heap.size w w' := by
  obtain ⟨B0, e0⟩ : ∃ B : Nat, s[0].toNat = B := ⟨_, rfl⟩
  have g0 := bl_get s 0 (by omega)
  have b0 : B0 < 256 := e0 ▸ UInt8.toNat_lt _
  rw [e0] at g0
  obtain ⟨B1, e1⟩ : ∃ B : Nat, s[1].toNat = B := ⟨_, rfl⟩
  have g1 := bl_get s 1 (by omega)
  have b1 : B1 < 256 := e1 ▸ UInt8.toNat_lt _
  rw [e1] at g1
  have HG : Hid (Utf.guessL form (bl s) 2 = (B0 : Int) % 32 * 64 + (B1 : Int) % 64) := Lib.hid (by unfold Utf.guessL; rw [if_neg (by decide), if_neg hf, if_pos rfl, g0, g1])
  have f1 : (form == 1) = false := by simpa using hf
  clear g0 g1 hf
  go_enter Try.func27, Try.ntmps27
  go_wp2_with fail
  go_ret
  rw [HG.out]
  exact ⟨rfl, Below.refl _ _⟩
set_option maxRecDepth 100000 in
theorem guess_b3 (form : Int) (hf : form ≠ 1) (s : ByteArray) (hs : 3 ≤ s.size) (w : World) :
    Calls Try.prog 27 #[.int .i64 form, .string s, .int .i64 3] w fun e w' => e = .returned (.int .i64 (Utf.guessL form (bl s) 3)) ∧ Below w.heap.size w w' := by
  obtain ⟨B0, e0⟩ : ∃ B : Nat, s[0].toNat = B := ⟨_, rfl⟩
  have g0 := bl_get s 0 (by omega)
  have b0 : B0 < 256 := e0 ▸ UInt8.toNat_lt _
  rw [e0] at g0
  obtain ⟨B1, e1⟩ : ∃ B : Nat, s[1].toNat = B := ⟨_, rfl⟩
  have g1 := bl_get s 1 (by omega)
  have b1 : B1 < 256 := e1 ▸ UInt8.toNat_lt _
  rw [e1] at g1
  obtain ⟨B2, e2⟩ : ∃ B : Nat, s[2].toNat = B := ⟨_, rfl⟩
  have g2 := bl_get s 2 (by omega)
  have b2 : B2 < 256 := e2 ▸ UInt8.toNat_lt _
  rw [e2] at g2
  have HG : Hid (Utf.guessL form (bl s) 3 = (B0 : Int) % 16 * 4096 + (B1 : Int) % 64 * 64 + (B2 : Int) % 64) := Lib.hid (by unfold Utf.guessL; rw [if_neg (by decide), if_neg hf, if_neg (by decide), if_pos rfl, g0, g1, g2])
  have f1 : (form == 1) = false := by simpa using hf
  clear g0 g1 g2 hf
  go_enter Try.func27, Try.ntmps27
  go_wp2_with fail
  go_ret
  rw [HG.out]
  exact ⟨rfl, Below.refl _ _⟩
set_option maxRecDepth 100000 in
theorem guess_b4 (form : Int) (hf : form ≠ 1) (s : ByteArray) (hs : 4 ≤ s.size) (w : World) :
    Calls Try.prog 27 #[.int .i64 form, .string s, .int .i64 4] w fun e w' => e = .returned (.int .i64 (Utf.guessL form (bl s) 4)) ∧ Below w.heap.size w w' := by
  obtain ⟨B0, e0⟩ : ∃ B : Nat, s[0].toNat = B := ⟨_, rfl⟩
  have g0 := bl_get s 0 (by omega)
  have b0 : B0 < 256 := e0 ▸ UInt8.toNat_lt _
  rw [e0] at g0
  obtain ⟨B1, e1⟩ : ∃ B : Nat, s[1].toNat = B := ⟨_, rfl⟩
  have g1 := bl_get s 1 (by omega)
  have b1 : B1 < 256 := e1 ▸ UInt8.toNat_lt _
  rw [e1] at g1
  obtain ⟨B2, e2⟩ : ∃ B : Nat, s[2].toNat = B := ⟨_, rfl⟩
  have g2 := bl_get s 2 (by omega)
  have b2 : B2 < 256 := e2 ▸ UInt8.toNat_lt _
  rw [e2] at g2
  obtain ⟨B3, e3⟩ : ∃ B : Nat, s[3].toNat = B := ⟨_, rfl⟩
  have g3 := bl_get s 3 (by omega)
  have b3 : B3 < 256 := e3 ▸ UInt8.toNat_lt _
  rw [e3] at g3
  have HG : Hid (Utf.guessL form (bl s) 4 = (B0 : Int) % 8 * 262144 + (B1 : Int) % 64 * 4096 + (B2 : Int) % 64 * 64 + (B3 : Int) % 64) := Lib.hid (by unfold Utf.guessL; rw [if_neg (by decide), if_neg hf, if_neg (by decide), if_neg (by decide), g0, g1, g2, g3])
  have f1 : (form == 1) = false := by simpa using hf
  clear g0 g1 g2 g3 hf
  go_enter Try.func27, Try.ntmps27
  go_wp2_with fail
  go_quiet (fail)
  go_wp2
  go_ret
  rw [HG.out]
  exact ⟨rfl, below_drewN (Below.refl _ _) _⟩
theorem guess_any (form : Int) (s : ByteArray) (n : Nat) (h1 : 1 ≤ n) (h4 : n ≤ 4) (hs : n ≤ s.size) (w : World) :
    Calls Try.prog 27 #[.int .i64 form, .string s, .int .i64 n] w fun e w' => e = .returned (.int .i64 (Utf.guessL form (bl s) n)) ∧ Below w.heap.size w w' := by
  have hn : n = 1 ∨ n = 2 ∨ n = 3 ∨ n = 4 := by omega
  by_cases hf : form = 1
  · subst hf
    rcases hn with rfl | rfl | rfl | rfl
    · exact guess_1 1 s hs w
    · exact guess_u2 s hs w
    · exact guess_u3 s hs w
    · exact guess_u4 s hs w
  · rcases hn with rfl | rfl | rfl | rfl
    · exact guess_1 form s hs w
    · exact guess_b2 form hf s hs w
    · exact guess_b3 form hf s hs w
    · exact guess_b4 form hf s hs w
end Go.Proofs.Ytkmgngmpplgjnaa
