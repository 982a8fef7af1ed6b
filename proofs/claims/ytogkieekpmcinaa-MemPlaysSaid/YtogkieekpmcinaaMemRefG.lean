/- The reference's copying. -/
import Derived.Test.YtogkieekpmcinaaMemRefF
namespace Go.Proofs.Ytogkieekpmcinaa
open Go.RowKit

theorem bytesL_str (l : List Int) (h : ∀ z ∈ l, 0 ≤ z ∧ z ≤ 255) : bytesL (strOfNums l) = l := by
  unfold bytesL
  rw [strOfNums_data, List.map_map]
  have e : ∀ z ∈ l, ((fun b : UInt8 => (b.toNat : Int)) ∘ fun n : Int => UInt8.ofNat n.toNat) z = z := by
    intro z hz
    have := h z hz
    simp
    omega
  rw [List.map_congr_left e, List.map_id']
def copyOk (S : List Int) (at' : Int) (R : List Int) (place k : Int) : Bool := inB R.length place k && inB S.length at' k
def copyS (S : List Int) (at' : Int) (R : List Int) (place k : Int) : List Int := if copyOk S at' R place k = true then patch S at'.toNat (part R place.toNat k.toNat) else S
def copyT (S : List Int) (at' : Int) (R : List Int) (place k : Int) : Int := if copyOk S at' R place k = true then 0 else 4
set_option maxRecDepth 100000 in
theorem refCopy_any (a g : Nat) (S : List Int) (mx bd : Int) (at' : Int) (a2 g2 : Nat) (R : List Int) (mx2 bd2 : Int) (place k : Int) (w : World) (h : RMem a g S mx bd w) (h2 : RMem a2 g2 R mx2 bd2 w) :
    Calls Try.prog 37 #[.pointer (some ⟨a, 0, none⟩), .int .i64 at', .pointer (some ⟨a2, 0, none⟩), .int .i64 place, .int .i64 k] w fun e w' => e = .returned (.int .i64 (copyT S at' R place k)) ∧ RMem a g (copyS S at' R place k) mx bd w' ∧ Kept (· = g) w w' := by
  have hlen := h.len
  have hlen2 := h2.len
  have HRD := Lib.hid (refRead_any a2 g2 R mx2 bd2 place k w h2)
  have HIN := Lib.hid (refIn_any a _ _ _ at' k (by omega) w h.slot)
  have H := Lib.hid h
  unfold copyS copyT copyOk
  unfold readTup at HRD
  by_cases hr : inB R.length place k = true
  · rw [hr, Bool.true_and]
    rw [if_pos hr] at HRD
    obtain ⟨j1, j2, j3, j4⟩ : 0 ≤ place ∧ 0 ≤ k ∧ place ≤ R.length ∧ k ≤ R.length - place := of_decide_eq_true hr
    have hpl : (part R place.toNat k.toNat).length = k.toNat := part_length (by omega)
    have hby := part_byte h2.byte place.toNat k.toNat
    have hsz : (strOfNums (part R place.toNat k.toNat)).size = k.toNat := by rw [strOfNums_size, hpl]
    have hbl := bytesL_str _ hby
    by_cases hi : inB S.length at' k = true
    · rw [if_pos hi, if_pos hi]
      have hi' : inB S.length at' ((strOfNums (part R place.toNat k.toNat)).size : Nat) = true := by rw [hsz, Int.toNat_of_nonneg j2]; exact hi
      have HW := Lib.hid (refWrite_any a g S mx bd at' (strOfNums (part R place.toNat k.toNat)) w h (by rw [hsz]; unfold maxLen; omega))
      unfold writeT writeS at HW
      rw [if_pos hi', if_pos hi', hbl] at HW
      rw [hi] at HIN
      clear hr hi hi' j1 j2 j3 j4 hpl hby hsz hbl h h2
      revert HRD HW
      generalize strOfNums (part R place.toNat k.toNat) = s
      intro HRD HW
      go_enter Try.func37, Try.ntmps37
      go_wp2_with (first
        | (go_at_call 35; refine HRD.out.mono ?_; rintro e w1 ⟨rfl, rfl⟩)
        | (go_at_call 44; refine HIN.out.mono ?_; rintro e w2 ⟨rfl, rfl⟩)
        | (go_at_call 34; refine HW.out.mono ?_; rintro e w3 ⟨rfl, hm, hk⟩))
      go_ret
      exact ⟨rfl, hm, hk⟩
    · rw [if_neg hi, if_neg hi]
      rw [not_true hi] at HIN
      clear hr hi j1 j2 j3 j4 hpl hby hsz hbl h h2
      revert HRD
      generalize strOfNums (part R place.toNat k.toNat) = s
      intro HRD
      go_enter Try.func37, Try.ntmps37
      go_wp2_with (first
        | (go_at_call 35; refine HRD.out.mono ?_; rintro e w1 ⟨rfl, rfl⟩)
        | (go_at_call 44; refine HIN.out.mono ?_; rintro e w2 ⟨rfl, rfl⟩))
      go_ret
      exact ⟨rfl, H.out, Kept.refl _ _⟩
  · rw [not_true hr, Bool.false_and, if_neg (by decide), if_neg (by decide)]
    rw [if_neg hr] at HRD
    clear hr h h2
    go_enter Try.func37, Try.ntmps37
    go_wp2_with (go_at_call 35; refine HRD.out.mono ?_; rintro e w1 ⟨rfl, rfl⟩)
    go_ret
    exact ⟨rfl, H.out, Kept.refl _ _⟩
end Go.Proofs.Ytogkieekpmcinaa
