/- The walks of the document's own writing, forms and sizes. -/
import Derived.Test.YtkmgngmpplgjnaaUtfRefW
import Derived.Test.YtkmgngmpplgjnaaUtfReadM
namespace Go.Proofs.Ytkmgngmpplgjnaa
open Go.RowKit

set_option maxRecDepth 100000 in
theorem refWrite_any (form : Int) (a : Option Addr) (cap : Nat) (zs : List Int) (w : World) (hv : View w a zs.length zs) (hlen : zs.length ≤ 300) :
    Calls Try.prog 18 #[.int .i64 form, .slice a zs.length cap] w fun e w' => e = .returned (Utf.wTup form zs) ∧ Below w.heap.size w w' := by
  have HV := Lib.hid hv
  clear hv
  have hns := strOfNums_size
  have hse : strOfNums [] = ⟨#[]⟩ := rfl
  go_enter Try.func18, Try.ntmps18
  go_wp2_with fail
  go_loopw [6, 7] (fun s i wr => ∃ k : Nat, i = .int .i64 k ∧ k ≤ zs.length ∧ s = .string (strOfNums (Utf.catL form (zs.take k))) ∧ Utf.allW form (zs.take k) = true ∧ Below w.heap.size w wr) (fun _ i _ => zs.length - (intOf i).toNat)
  case atStart => exact ⟨0, rfl, by omega, rfl, rfl, Below.refl _ _⟩
  case round =>
    obtain ⟨k, rfl, hk, rfl, ha, hb⟩ := hrel
    have hsz := hb.size
    have HA := Lib.hid ha
    have hcl := Utf.catL_length form (zs.take k)
    have htl : (zs.take k).length ≤ 300 := by rw [List.length_take]; omega
    clear ha
    by_cases hlt : k < zs.length
    · obtain ⟨b, off, rfl, hc⟩ := HV.out.resolve_left (by omega)
      have hc1 := hc k hlt
      have hbl : b < w.heap.size := World.block_lt_of_cell? w _ hc1
      have hcr := (hb.cell (p := ⟨b, off + k, none⟩) hbl).trans hc1
      have hn1 := Utf.catL_next form hlt
      have hn2 := Utf.allW_next form hlt HA.out
      have hn3 := Utf.allW_no form hlt
      clear hc hc1
      revert hcr hn1 hn2 hn3
      generalize zs.getD k 0 = z
      intro hcr hn1 hn2 hn3
      have hl := Utf.oneL_length form z
      have HN1 := Lib.hid hn1
      have HN2 := Lib.hid hn2
      have HN3 := Lib.hid hn3
      clear hn1 hn2 hn3
      by_cases hz : Utf.oneL form z = []
      · have HW : Hid (Utf.wTup form zs = .tuple #[.string ⟨#[]⟩, .bool false]) := Lib.hid (by unfold Utf.wTup; rw [HN3.out hz]; rfl)
        go_wp2_with (go_at_call 28; refine (refOne_any form z _).mono ?_; rintro e w1 ⟨rfl, hb1⟩)
        go_ret2
        rw [HW.out]
        exact ⟨rfl, hb.trans (hb1.mono hsz)⟩
      · have hne := Utf.toList_ne hz
        have HZ := Lib.hid hz
        clear hz
        go_wp2_with (go_at_call 28; refine (refOne_any form z _).mono ?_; rintro e w1 ⟨rfl, hb1⟩)
        exact ⟨⟨k + 1, by go_num, by omega, by rw [HN1.out, strOfNums_app], HN2.out HZ.out, hb.trans (hb1.mono hsz)⟩, by simp [intOf]; omega⟩
    · have hke : k = zs.length := by omega
      subst hke
      have ha := HA.out
      rw [List.take_length] at ha
      have HW : Hid (Utf.wTup form zs = .tuple #[.string (strOfNums (Utf.catL form zs)), .bool (Utf.inForm form)]) := Lib.hid (by unfold Utf.wTup; rw [if_pos ha])
      clear ha
      have hc : form < 0 ∨ (0 ≤ form ∧ 2 < form) ∨ (0 ≤ form ∧ form ≤ 2) := by omega
      rcases hc with h1 | ⟨h1, h2⟩ | ⟨h1, h2⟩
      · have HF : Hid (Utf.inForm form = false) := Lib.hid (decide_eq_false (by omega))
        go_wp2_with fail
        go_ret2
        rw [HW.out, HF.out]
        exact ⟨by first | (simp; done) | (simp; omega), hb⟩
      · have HF : Hid (Utf.inForm form = false) := Lib.hid (decide_eq_false (by omega))
        go_wp2_with fail
        go_ret2
        rw [HW.out, HF.out]
        exact ⟨by first | (simp; done) | (simp; omega), hb⟩
      · have HF : Hid (Utf.inForm form = true) := Lib.hid (decide_eq_true (by omega))
        go_wp2_with fail
        go_ret2
        rw [HW.out, HF.out]
        exact ⟨by first | (simp; done) | (simp; omega), hb⟩

namespace Utf
def great (zs : List Int) : Bool := zs.any fun z => decide (255 < z)
def formL (enc : Int) (zs : List Int) : Int := if enc = 2 then (if great zs = true then 1 else 2) else enc
theorem great_next {zs : List Int} {k : Nat} (h : k < zs.length) (ha : great (zs.take k) = false) (hz : zs.getD k 0 ≤ 255) : great (zs.take (k + 1)) = false := by
  unfold great at ha ⊢
  rw [take_next h, List.any_append, ha, List.any_cons, List.any_nil, decide_eq_false (by omega)]
  rfl
theorem great_yes {zs : List Int} {k : Nat} (h : k < zs.length) (hz : 255 < zs.getD k 0) : great zs = true := by
  have hm : zs.getD k 0 ∈ zs := by
    rw [List.getD_eq_getElem?_getD, List.getElem?_eq_getElem h]
    exact List.getElem_mem _
  unfold great
  rw [List.any_eq_true]
  exact ⟨_, hm, decide_eq_true hz⟩
def szL (form p : Int) : Int :=
  if form = 2 then 1 else if form = 1 then (if p < 65536 then 2 else 4)
  else if p < 128 then 1 else if p < 2048 then 2 else if p < 65536 ∨ form ≠ 0 then 3 else 4
def sizeL (form : Int) (zs : List Int) : Int := (zs.map (szL form)).sum
theorem szL_le (form p : Int) : 1 ≤ szL form p ∧ szL form p ≤ 4 := by
  unfold szL
  repeat' split
  all_goals omega
theorem sizeL_next (form : Int) {zs : List Int} {k : Nat} (h : k < zs.length) : sizeL form (zs.take (k + 1)) = sizeL form (zs.take k) + szL form (zs.getD k 0) := by
  unfold sizeL
  rw [take_next h, List.map_append, List.sum_append]
  simp
theorem sizeL_le (form : Int) (zs : List Int) : 0 ≤ sizeL form zs ∧ sizeL form zs ≤ 4 * zs.length := by
  induction zs with
  | nil => simp [sizeL]
  | cons z zs ih =>
    have := szL_le form z
    unfold sizeL at ih ⊢
    rw [List.map_cons, List.sum_cons, List.length_cons]
    omega
end Utf

set_option maxRecDepth 100000 in
theorem refForm_any (enc : Int) (a : Option Addr) (cap : Nat) (zs : List Int) (w : World) (hv : View w a zs.length zs) (hlen : zs.length ≤ 300) :
    Calls Try.prog 24 #[.int .i64 enc, .slice a zs.length cap] w fun e w' => e = .returned (.int .i64 (Utf.formL enc zs)) ∧ w = w' := by
  by_cases he : enc = 2
  · subst he
    have HV := Lib.hid hv
    clear hv
    have HW : Hid (Utf.formL 2 zs = if Utf.great zs = true then 1 else 2) := Lib.hid rfl
    go_enter Try.func24, Try.ntmps24
    go_wp2_with fail
    go_loop [5] (fun i => ∃ k : Nat, i = .int .i64 k ∧ k ≤ zs.length ∧ Utf.great (zs.take k) = false) (fun i => zs.length - (intOf i).toNat)
    case atStart => exact ⟨0, rfl, by omega, rfl⟩
    case round =>
      obtain ⟨k, rfl, hk, ha⟩ := hrel
      by_cases hlt : k < zs.length
      · obtain ⟨b, off, rfl, hc⟩ := HV.out.resolve_left (by omega)
        have hcr := hc k hlt
        have hn1 := Utf.great_next hlt ha
        have hn2 := Utf.great_yes hlt
        clear hc ha
        revert hcr hn1 hn2
        generalize zs.getD k 0 = z
        intro hcr hn1 hn2
        have HN1 := Lib.hid hn1
        have HN2 := Lib.hid hn2
        clear hn1 hn2
        by_cases hz : 255 < z
        · go_wp2_with fail
          go_ret
          rw [HW.out, if_pos (HN2.out hz)]
          exact ⟨rfl, rfl⟩
        · go_wp2_with fail
          go_round
          case rel => exact ⟨k + 1, by go_num, by omega, HN1.out (by omega)⟩
          case measure => simp [intOf]; omega
      · have hke : k = zs.length := by omega
        subst hke
        rw [List.take_length] at ha
        have HA := Lib.hid ha
        clear ha
        go_wp2_with fail
        go_ret
        rw [HW.out, HA.out]
        exact ⟨rfl, rfl⟩
  · have hf : Utf.formL enc zs = enc := by unfold Utf.formL; rw [if_neg he]
    rw [hf]
    have hk : (enc != 2) = true := by simpa using he
    clear hf he hv
    go_enter Try.func24, Try.ntmps24
    go_wp2_with fail
    go_ret
    exact ⟨rfl, rfl⟩

def sizeTup (form : Int) (zs : List Int) : Value := .tuple #[.int .i64 (Utf.sizeL form zs), .int .i64 (if form = 1 then Utf.sizeL form zs / 2 else Utf.sizeL form zs)]
set_option maxRecDepth 100000 in
set_option maxHeartbeats 400000 in
theorem refSize_any (form : Int) (a : Option Addr) (cap : Nat) (zs : List Int) (w : World) (hv : View w a zs.length zs) (hlen : zs.length ≤ 300) :
    Calls Try.prog 22 #[.int .i64 form, .slice a zs.length cap] w fun e w' => e = .returned (sizeTup form zs) ∧ w = w' := by
  have HV := Lib.hid hv
  clear hv
  have hf : ((form == 2) = true ∧ (form == 1) = false ∧ (form != 0) = true ∧ form = 2) ∨ ((form == 2) = false ∧ (form == 1) = true ∧ (form != 0) = true ∧ form = 1) ∨
      ((form == 2) = false ∧ (form == 1) = false ∧ (form != 0) = false ∧ form = 0) ∨ ((form == 2) = false ∧ (form == 1) = false ∧ (form != 0) = true ∧ form ≠ 2 ∧ form ≠ 1 ∧ form ≠ 0) := by
    by_cases h2 : form = 2
    · subst h2; exact .inl ⟨rfl, rfl, rfl, rfl⟩
    · by_cases h1 : form = 1
      · subst h1; exact .inr (.inl ⟨rfl, rfl, rfl, rfl⟩)
      · by_cases h0 : form = 0
        · subst h0; exact .inr (.inr (.inl ⟨rfl, rfl, rfl, rfl⟩))
        · exact .inr (.inr (.inr ⟨by simpa using h2, by simpa using h1, by simpa using h0, h2, h1, h0⟩))
  rcases hf with ⟨f2, f1, f0, hf⟩ | ⟨f2, f1, f0, hf⟩ | ⟨f2, f1, f0, hf⟩ | ⟨f2, f1, f0, hf⟩
  all_goals
    have HF := Lib.hid hf
    clear hf
    go_enter Try.func22, Try.ntmps22
    go_wp2_with fail
    go_loop [6, 7] (fun n i => ∃ k : Nat, i = .int .i64 k ∧ k ≤ zs.length ∧ n = .int .i64 (Utf.sizeL form (zs.take k))) (fun _ i => zs.length - (intOf i).toNat)
    case atStart => exact ⟨0, rfl, by omega, rfl⟩
    case round =>
      obtain ⟨k, rfl, hk, rfl⟩ := hrel
      have hsl := Utf.sizeL_le form (zs.take k)
      have htl : (zs.take k).length ≤ 300 := by rw [List.length_take]; omega
      by_cases hlt : k < zs.length
      · obtain ⟨b, off, rfl, hc⟩ := HV.out.resolve_left (by omega)
        have hcr := hc k hlt
        have hn1 := Utf.sizeL_next form hlt
        clear hc
        revert hcr hn1
        generalize zs.getD k 0 = z
        intro hcr hn1
        have HN1 := Lib.hid hn1
        clear hn1
        go_wp2_with fail
        all_goals
          refine ⟨⟨k + 1, by go_num, by omega, congrArg (Value.int .i64) ?_⟩, by simp [intOf]; omega⟩
          rw [HN1.out]
          have hh := HF.out
          unfold Utf.szL
          (repeat' split) <;> omega
      · have hke : k = zs.length := by omega
        subst hke
        rw [List.take_length] at hsl
        rw [List.take_length]
        have HS : Hid (sizeTup form zs = .tuple #[.int .i64 (Utf.sizeL form zs), .int .i64 (if form = 1 then Utf.sizeL form zs / 2 else Utf.sizeL form zs)]) := Lib.hid rfl
        go_wp2_with fail
        go_ret2
        rw [HS.out]
        first
          | (rw [if_pos HF.out]; exact ⟨rfl, rfl⟩)
          | (rw [if_neg (by have hh := HF.out; omega)]; exact ⟨rfl, rfl⟩)
end Go.Proofs.Ytkmgngmpplgjnaa
