/- What the statements of layer 2 cut off, of what is too long. -/
import Derived.Test.YtkmgngmpplgjnaaKit0
import Derived.Test.YtkmgngmpplgjnaaProg
namespace Go.Proofs.Ytkmgngmpplgjnaa
open Go.RowKit

def shortOf (s : ByteArray) : ByteArray := if 1000 < s.size then s.extract 0 1000 else s
theorem shortOf_size (s : ByteArray) : (shortOf s).size ≤ 1000 := by
  unfold shortOf
  split
  · rw [ByteArray.size_extract]; omega
  · omega
theorem short_any (s : ByteArray) (hs : s.size ≤ maxLen) (w : World) :
    Calls Try.prog 10 #[.string s] w fun e w' => e = .returned (.string (shortOf s)) ∧ w = w' := by
  unfold maxLen at hs
  by_cases h : 1000 < s.size
  · have HS : Hid (shortOf s = s.extract 0 1000) := Lib.hid (if_pos h)
    go_enter Try.func10, Try.ntmps10
    go_wp2_with fail
    go_ret
    rw [HS.out]
    exact ⟨rfl, rfl⟩
  · have HS : Hid (shortOf s = s) := Lib.hid (if_neg h)
    go_enter Try.func10, Try.ntmps10
    go_wp2_with fail
    go_ret
    rw [HS.out]
    exact ⟨rfl, rfl⟩
def someLen (len : Nat) : Nat := if 300 < len then 300 else len
theorem someLen_le (len : Nat) : someLen len ≤ 300 ∧ someLen len ≤ len := by
  unfold someLen
  split <;> omega
theorem some_any (a : Option Addr) (len cap : Nat) (hl : len ≤ cap) (hc : cap ≤ maxLen) (w : World) :
    Calls Try.prog 16 #[.slice a len cap] w fun e w' => e = .returned (.slice a (someLen len) cap) ∧ w = w' := by
  unfold maxLen at hc
  by_cases h : 300 < len
  · have HS : Hid (someLen len = 300) := Lib.hid (if_pos h)
    go_enter Try.func16, Try.ntmps16
    go_wp2_with fail
    go_ret
    rw [HS.out]
    exact ⟨rfl, rfl⟩
  · have HS : Hid (someLen len = len) := Lib.hid (if_neg h)
    go_enter Try.func16, Try.ntmps16
    go_wp2_with fail
    go_ret
    rw [HS.out]
    exact ⟨rfl, rfl⟩
/-- The numbers that are looked at. -/
def someOf (len : Nat) (zs : List Int) : List Int := zs.take (someLen len)
theorem someOf_length {len : Nat} {zs : List Int} (h : len ≤ zs.length) : (someOf len zs).length = someLen len := by
  have := someLen_le len
  unfold someOf
  rw [List.length_take]
  omega
theorem View.some {w : World} {a : Option Addr} {len : Nat} {zs : List Int} (hv : View w a len zs) (h : len ≤ zs.length) : View w a (someOf len zs).length (someOf len zs) := by
  rw [someOf_length h]
  have hs := someLen_le len
  rcases hv with h0 | ⟨b, off, ha, hc⟩
  · exact .inl (by omega)
  · refine .inr ⟨b, off, ha, fun i hi => ?_⟩
    rw [hc i (by omega)]
    unfold someOf
    rw [List.getD_eq_getElem?_getD, List.getD_eq_getElem?_getD, List.getElem?_take, if_pos hi]
end Go.Proofs.Ytkmgngmpplgjnaa
