/- The walks of laying many numbers (for later layers). -/
import Derived.Test.YtfhifnkekegkkaaLebAppW
import Derived.Test.YtfhifnkekegkkaaInsLM
namespace Go.Proofs.Ytfhifnkekegkkaa
open Go.RowKit
open Leb (byt len7 lenF sum7 sg7)

/-- The bytes of the first k numbers behind how many there are. -/
def rowL (n : Int) (zs : List Int) (k : Nat) : List Int := Leb.putU n ++ (zs.take k).flatMap Leb.putU
theorem rowL_zero (n : Int) (zs : List Int) : rowL n zs 0 = Leb.putU n := by simp [rowL]
theorem rowL_succ (n : Int) (zs : List Int) (k : Nat) (h : k < zs.length) : rowL n zs (k + 1) = rowL n zs k ++ Leb.putU (zs.getD k 0) := by
  have e : zs.take (k + 1) = zs.take k ++ [zs.getD k 0] := by
    rw [List.take_succ_eq_append_getElem h, List.getD_eq_getElem?_getD, List.getElem?_eq_getElem h]
    rfl
  unfold rowL
  rw [e, List.flatMap_append, List.flatMap_cons, List.flatMap_nil, List.append_nil, List.append_assoc]
theorem flat_length (zs : List Int) : (zs.flatMap Leb.putU).length ≤ 10 * zs.length := by
  induction zs with
  | nil => simp
  | cons z zs ih =>
    have := Leb.putU_length z
    rw [List.flatMap_cons, List.length_append, List.length_cons]
    omega
theorem rowL_length (n : Int) (zs : List Int) (k : Nat) : (rowL n zs k).length ≤ 10 + 10 * k := by
  unfold rowL
  have h1 := Leb.putU_length n
  have h2 := flat_length (zs.take k)
  have h3 : (zs.take k).length ≤ k := List.length_take_le _ _
  simp only [List.length_append]
  omega
set_option maxHeartbeats 400000 in
theorem PutAll_any (a : Option Addr) (len cap : Nat) (zs : List Int) (w : World) (hv : View w a len zs) (hlen : len ≤ 1000000) (hz : len ≤ zs.length) (hr : ∀ i, i < len → zs.getD i 0 ≤ 9223372036854775807) :
    Calls Try.prog 44 #[.slice a len cap] w fun e w' => e = .returned (.string (strOfNums (rowL len zs len))) ∧ Below w.heap.size w w' := by
  have HV := Lib.hid hv
  have HR := Lib.hid hr
  have HI : Hid ((len : Int) ≤ 9223372036854775807) := Lib.hid (by omega)
  clear hv hr
  go_enter Try.func44, Try.ntmps44
  go_wp2_with (go_at_call 66; refine (appendU_any w.heap.size _ [] len _ (World.ownsRow_nil _ _ _ _) (Nat.le_refl _) (by simp) HI.out).mono ?_; rintro e w1 ⟨v, rfl, hby, hb⟩)
  go_loopw [3, 11] (fun b i wr => ∃ k : Nat, i = .int .i64 k ∧ k ≤ len ∧ Bytes w.heap.size b (rowL len zs k) wr ∧ Below w.heap.size w wr) (fun _ i _ => len - (intOf i).toNat)
  case atStart => exact ⟨0, rfl, by omega, by rw [rowL_zero]; simpa only [List.nil_append] using hby, hb⟩
  case round =>
    obtain ⟨k, rfl, hk, hby2, hb2⟩ := hrel
    have hsz := hb2.size
    clear hby hb
    by_cases hlt : k < len
    · obtain ⟨b, off, rfl, hc⟩ := HV.out.resolve_left (by omega)
      have hc1 := hc k hlt
      have hbl : b < w.heap.size := World.block_lt_of_cell? w _ hc1
      have hcr := (hb2.cell (p := ⟨b, off + k, none⟩) hbl).trans hc1
      have HL : Hid ((rowL len zs k).length ≤ 1000000000) := Lib.hid (by have := rowL_length len zs k; omega)
      have HZ : Hid (zs.getD k 0 ≤ 9223372036854775807) := Lib.hid (HR.out k hlt)
      have HS := Lib.hid (rowL_succ len zs k (by omega))
      clear hc hc1
      go_wp2_with (go_at_call 66; refine (appendU_any w.heap.size _ (rowL len zs k) _ _ hby2 hsz HL.out HZ.out).mono ?_; rintro e w2 ⟨v2, rfl, hby3, hb3⟩)
      exact ⟨⟨k + 1, by go_num, by omega, by rw [HS.out]; exact hby3, hb2.trans hb3⟩, by simp [intOf]; omega⟩
    · have hke : k = len := by omega
      subst hke
      have hcv := bytes_conv hby2
      go_wp2_with fail
      go_ret
      exact ⟨rfl, hb2⟩

set_option maxHeartbeats 400000 in
set_option maxRecDepth 100000 in
theorem refPutAll_any (a : Option Addr) (len cap : Nat) (zs : List Int) (w : World) (hv : View w a len zs) (hlen : len ≤ 1000000) (hz : len ≤ zs.length) (hr : ∀ i, i < len → zs.getD i 0 ≤ 9223372036854775807) :
    Calls Try.prog 48 #[.slice a len cap] w fun e w' => e = .returned (.string (strOfNums (rowL len zs len))) ∧ Below w.heap.size w w' := by
  have HV := Lib.hid hv
  have HR := Lib.hid hr
  have HI : Hid ((len : Int) ≤ 9223372036854775807) := Lib.hid (by omega)
  have hns := strOfNums_size
  clear hv hr
  go_enter Try.func48, Try.ntmps48
  go_wp2_with (go_at_call 46; refine (refPutU_any _ _ HI.out).mono ?_; rintro e w1 ⟨rfl, hb⟩)
  go_loopw [3, 4] (fun b i wr => ∃ k : Nat, i = .int .i64 k ∧ k ≤ len ∧ b = .string (strOfNums (rowL len zs k)) ∧ Below w.heap.size w wr) (fun _ i _ => len - (intOf i).toNat)
  case atStart => exact ⟨0, rfl, by omega, by rw [rowL_zero], hb⟩
  case round =>
    obtain ⟨k, rfl, hk, rfl, hb2⟩ := hrel
    have hsz := hb2.size
    clear hb
    by_cases hlt : k < len
    · obtain ⟨b, off, rfl, hc⟩ := HV.out.resolve_left (by omega)
      have hc1 := hc k hlt
      have hbl : b < w.heap.size := World.block_lt_of_cell? w _ hc1
      have hcr := (hb2.cell (p := ⟨b, off + k, none⟩) hbl).trans hc1
      have hz1 := HR.out k hlt
      have hs1 := rowL_succ len zs k (by omega)
      have hl1 := rowL_length len zs k
      clear hc hc1
      revert hcr hz1 hs1
      generalize zs.getD k 0 = z
      intro hcr hz1 hs1
      have HZ := Lib.hid hz1
      have HS := Lib.hid hs1
      have hl2 := Leb.putU_length z
      clear hz1 hs1
      go_wp2_with (go_at_call 46; refine (refPutU_any _ _ HZ.out).mono ?_; rintro e w2 ⟨rfl, hb3⟩)
      exact ⟨⟨k + 1, by go_num, by omega, by rw [HS.out, strOfNums_app], hb2.trans (hb3.mono hsz)⟩, by simp [intOf]; omega⟩
    · have hke : k = len := by omega
      subst hke
      go_wp2_with fail
      go_ret
      exact ⟨rfl, hb2⟩
end Go.Proofs.Ytfhifnkekegkkaa
