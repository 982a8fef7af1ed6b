/- The reference's loads, as one; filling. -/
import Derived.Test.YtogkieekpmcinaaMemRefD
namespace Go.Proofs.Ytogkieekpmcinaa
open Go.RowKit

/-- Is it a load, of bytes that there are? -/
def loadOk (S : List Int) (op at' : Int) : Bool := decide ((Mem.width op).1 ≠ 0) && !(Mem.width op).2.2 && inB S.length at' (Mem.width op).1
def sgOf (op : Int) : Bool := decide (op = 44 ∨ op = 46 ∨ op = 48 ∨ op = 50 ∨ op = 52)
def loadTup (S : List Int) (op at' : Int) : Value :=
  if loadOk S op at' = true then .tuple #[.int .i64 (loadV (Mem.width op).1.toNat (Mem.width op).2.1 (sgOf op) (part S at'.toNat (Mem.width op).1.toNat)), .int .i64 0] else .tuple #[.int .i64 0, .int .i64 4]
set_option maxRecDepth 100000 in
theorem refLoad_bad (a g : Nat) (S : List Int) (mx bd : Int) (op at' : Int) (w : World) (h : RMem a g S mx bd w) (hno : loadOk S op at' = false) :
    Calls Try.prog 32 #[.pointer (some ⟨a, 0, none⟩), .int .i64 op, .int .i64 at'] w fun e w' => e = .returned (.tuple #[.int .i64 0, .int .i64 4]) ∧ Below w.heap.size w w' := by
  have hlen := h.len
  have HWD := Lib.hid (refWidth_any op)
  unfold Mem.widthTup at HWD
  have HIN : Hid (∀ k w', RMem a g S mx bd w' → Calls Try.prog 44 #[.pointer (some ⟨a, 0, none⟩), .int .i64 at', .int .i64 k] w' fun e w2 => e = .returned (.bool (inB S.length at' k)) ∧ w' = w2) := Lib.hid fun k w' h' => refIn_any a _ _ _ at' k (by omega) w' h'.slot
  unfold loadOk at hno
  revert HWD hno
  generalize (Mem.width op).1 = n
  generalize (Mem.width op).2.1 = ty
  generalize (Mem.width op).2.2 = st
  intro hno HWD
  have H := Lib.hid h
  by_cases hn : n = 0
  · subst hn
    clear hno
    go_enter Try.func32, Try.ntmps32
    go_wp2_with (go_at_call 19; refine (HWD.out _).mono ?_; rintro e w1 ⟨rfl, hb1⟩)
    go_ret2
    exact ⟨rfl, hb1⟩
  have hn' : (n == 0) = false := by simpa using hn
  cases st
  · have hi : inB S.length at' n = false := by simpa [hn] using hno
    have HI : Hid (∀ w', RMem a g S mx bd w' → Calls Try.prog 44 #[.pointer (some ⟨a, 0, none⟩), .int .i64 at', .int .i64 n] w' fun e w2 => e = .returned (.bool false) ∧ w' = w2) := Lib.hid fun w' h' => hi ▸ HIN.out n w' h'
    clear hno hi HIN h hn
    go_enter Try.func32, Try.ntmps32
    go_wp2_with (first
      | (go_at_call 19; refine (HWD.out _).mono ?_; rintro e w1 ⟨rfl, hb1⟩)
      | (go_at_call 44; refine (HI.out _ (H.out.kept (Kept.of_below (F := fun _ => False) hb1) id id)).mono ?_; rintro e w2 ⟨rfl, rfl⟩))
    go_ret2
    exact ⟨rfl, hb1⟩
  · clear hno h hn
    go_enter Try.func32, Try.ntmps32
    go_wp2_with (go_at_call 19; refine (HWD.out _).mono ?_; rintro e w1 ⟨rfl, hb1⟩)
    go_ret2
    exact ⟨rfl, hb1⟩
theorem loads_of {op : Int} (h0 : (Mem.width op).1 ≠ 0) (h1 : (Mem.width op).2.2 = false) : op = 40 ∨ op = 41 ∨ op = 44 ∨ op = 45 ∨ op = 46 ∨ op = 47 ∨ op = 48 ∨ op = 49 ∨ op = 50 ∨ op = 51 ∨ op = 52 ∨ op = 53 := by
  unfold Mem.width at h0 h1
  by_cases hm : op ∈ Mem.wOps
  · rw [if_pos hm] at h1
    have h2 : ¬ 54 ≤ op := of_decide_eq_false h1
    simp [Mem.wOps] at hm
    omega
  · rw [if_neg hm] at h0
    exact absurd rfl h0
theorem refLoad_any (a g : Nat) (S : List Int) (mx bd : Int) (op at' : Int) (w : World) (h : RMem a g S mx bd w) :
    Calls Try.prog 32 #[.pointer (some ⟨a, 0, none⟩), .int .i64 op, .int .i64 at'] w fun e w' => e = .returned (loadTup S op at') ∧ Below w.heap.size w w' := by
  unfold loadTup
  by_cases hok : loadOk S op at' = true
  · rw [if_pos hok]
    unfold loadOk at hok
    rw [Bool.and_eq_true, Bool.and_eq_true] at hok
    obtain ⟨⟨h0, h1⟩, h2⟩ := hok
    have h0' := of_decide_eq_true h0
    have h1' : (Mem.width op).2.2 = false := by simpa using h1
    obtain ⟨i1, i2, i3, i4⟩ : 0 ≤ at' ∧ 0 ≤ (Mem.width op).1 ∧ at' ≤ S.length ∧ (Mem.width op).1 ≤ S.length - at' := of_decide_eq_true h2
    obtain ⟨p, rfl⟩ := Int.eq_ofNat_of_zero_le i1
    rw [Int.toNat_natCast]
    clear h0 h1 h2 i1 i2
    rcases loads_of h0' h1' with rfl | rfl | rfl | rfl | rfl | rfl | rfl | rfl | rfl | rfl | rfl | rfl
    · have hw : Mem.width 40 = (4, 127, false) := by decide
      have hp : p + 4 ≤ S.length := by rw [hw] at i4; omega
      rw [hw]
      exact refLoad_40 a g S mx bd p w h hp
    · have hw : Mem.width 41 = (8, 126, false) := by decide
      have hp : p + 8 ≤ S.length := by rw [hw] at i4; omega
      rw [hw]
      exact refLoad_41 a g S mx bd p w h hp
    · have hw : Mem.width 44 = (1, 127, false) := by decide
      have hp : p + 1 ≤ S.length := by rw [hw] at i4; omega
      rw [hw]
      by_cases ht : 128 ≤ (part S p 1).getD 0 0
      · exact refLoad_44_1 a g S mx bd p w h hp ht
      · exact refLoad_44_0 a g S mx bd p w h hp (by omega)
    · have hw : Mem.width 45 = (1, 127, false) := by decide
      have hp : p + 1 ≤ S.length := by rw [hw] at i4; omega
      rw [hw]
      exact refLoad_45 a g S mx bd p w h hp
    · have hw : Mem.width 46 = (2, 127, false) := by decide
      have hp : p + 2 ≤ S.length := by rw [hw] at i4; omega
      rw [hw]
      by_cases ht : 128 ≤ (part S p 2).getD 1 0
      · exact refLoad_46_1 a g S mx bd p w h hp ht
      · exact refLoad_46_0 a g S mx bd p w h hp (by omega)
    · have hw : Mem.width 47 = (2, 127, false) := by decide
      have hp : p + 2 ≤ S.length := by rw [hw] at i4; omega
      rw [hw]
      exact refLoad_47 a g S mx bd p w h hp
    · have hw : Mem.width 48 = (1, 126, false) := by decide
      have hp : p + 1 ≤ S.length := by rw [hw] at i4; omega
      rw [hw]
      by_cases ht : 128 ≤ (part S p 1).getD 0 0
      · exact refLoad_48_1 a g S mx bd p w h hp ht
      · exact refLoad_48_0 a g S mx bd p w h hp (by omega)
    · have hw : Mem.width 49 = (1, 126, false) := by decide
      have hp : p + 1 ≤ S.length := by rw [hw] at i4; omega
      rw [hw]
      exact refLoad_49 a g S mx bd p w h hp
    · have hw : Mem.width 50 = (2, 126, false) := by decide
      have hp : p + 2 ≤ S.length := by rw [hw] at i4; omega
      rw [hw]
      by_cases ht : 128 ≤ (part S p 2).getD 1 0
      · exact refLoad_50_1 a g S mx bd p w h hp ht
      · exact refLoad_50_0 a g S mx bd p w h hp (by omega)
    · have hw : Mem.width 51 = (2, 126, false) := by decide
      have hp : p + 2 ≤ S.length := by rw [hw] at i4; omega
      rw [hw]
      exact refLoad_51 a g S mx bd p w h hp
    · have hw : Mem.width 52 = (4, 126, false) := by decide
      have hp : p + 4 ≤ S.length := by rw [hw] at i4; omega
      rw [hw]
      by_cases ht : 128 ≤ (part S p 4).getD 3 0
      · exact refLoad_52_1 a g S mx bd p w h hp ht
      · exact refLoad_52_0 a g S mx bd p w h hp (by omega)
    · have hw : Mem.width 53 = (4, 126, false) := by decide
      have hp : p + 4 ≤ S.length := by rw [hw] at i4; omega
      rw [hw]
      exact refLoad_53 a g S mx bd p w h hp
  · rw [if_neg hok]
    exact refLoad_bad a g S mx bd op at' w h (not_true hok)

/-- What filling leaves. -/
def fillS (S : List Int) (at' v k : Int) : List Int := if inB S.length at' k = true then patch S at'.toNat (List.replicate k.toNat (v % 256)) else S
def fillT (S : List Int) (at' k : Int) : Int := if inB S.length at' k = true then 0 else 4
set_option maxRecDepth 100000 in
set_option maxHeartbeats 1000000 in
theorem refFill_any (a g : Nat) (S : List Int) (mx bd : Int) (at' v k : Int) (w : World) (h : RMem a g S mx bd w) :
    Calls Try.prog 36 #[.pointer (some ⟨a, 0, none⟩), .int .i64 at', .int .i64 v, .int .i64 k] w fun e w' => e = .returned (.int .i64 (fillT S at' k)) ∧ RMem a g (fillS S at' v k) mx bd w' ∧ Kept (· = g) w w' := by
  have hlen := h.len
  have HIN := Lib.hid (refIn_any a _ _ _ at' k (by omega) w h.slot)
  have H := Lib.hid h
  unfold fillS fillT
  by_cases hi : inB S.length at' k = true
  · rw [if_pos hi, if_pos hi]
    rw [hi] at HIN
    obtain ⟨i1, i2, i3, i4⟩ : 0 ≤ at' ∧ 0 ≤ k ∧ at' ≤ S.length ∧ k ≤ S.length - at' := of_decide_eq_true hi
    obtain ⟨p, rfl⟩ := Int.eq_ofNat_of_zero_le i1
    obtain ⟨q, rfl⟩ := Int.eq_ofNat_of_zero_le i2
    rw [Int.toNat_natCast, Int.toNat_natCast]
    have hpq : p + q ≤ S.length := by omega
    have e1 := and_255' v
    obtain ⟨b, hb⟩ : ∃ b, b = v % 256 := ⟨_, rfl⟩
    have hb2 : 0 ≤ b ∧ b ≤ 255 := by omega
    rw [← hb] at e1 ⊢
    have e2 : IntKind.u8.wrap b = b := wraps_u8 _ (by omega) (by omega)
    clear hi i1 i2 i3 i4 h hb
    go_enter Try.func36, Try.ntmps36
    go_wp2_with (go_at_call 44; refine HIN.out.mono ?_; rintro e w2 ⟨rfl, rfl⟩)
    go_loopw [9] (fun iv wr => ∃ i : Nat, iv = .int .i64 i ∧ i ≤ q ∧ RMem a g (patch S p (List.replicate i b)) mx bd wr ∧ Kept (· = g) w wr) (fun iv _ => q - (intOf iv).toNat)
    case atStart => exact ⟨0, rfl, by omega, by simpa [patch_nil] using H.out, Kept.refl _ _⟩
    case round =>
      obtain ⟨i, rfl, hiq, hr, hk⟩ := hrel
      have HR := Lib.hid hr
      have HK := Lib.hid hk
      by_cases hlt2 : i < q
      · have hll : (List.replicate i b).length = i := List.length_replicate
        have hpl : (patch S p (List.replicate i b)).length = S.length := patch_length (by omega)
        have hslot := hr.slot
        rw [hpl] at hslot
        have hcell := hr.cell (i := p + i) (by omega)
        have hfree := hr.free (p + i)
        have hps := patch_snoc (S := S) (bs := List.replicate i b) (p := p) b (by omega)
        rw [hll, ← List.replicate_succ'] at hps
        have HS := Lib.hid (hps ▸ hr.set (i := p + i) (b := b) hb2)
        have hfr : g < wr.heap.size := hr.lt.2
        clear hps hr hk hll hpl
        go_wp2_with fail
        exact ⟨⟨i + 1, by go_num, by omega, HS.out, HK.out.set (p := ⟨g, p + i, none⟩) rfl _⟩, by simp [intOf]; omega⟩
      · have hje : i = q := by omega
        subst hje
        clear hr hk
        go_wp2_with fail
        go_ret
        exact ⟨rfl, HR.out, HK.out⟩
  · rw [if_neg hi, if_neg hi]
    rw [not_true hi] at HIN
    clear hi h
    go_enter Try.func36, Try.ntmps36
    go_wp2_with (go_at_call 44; refine HIN.out.mono ?_; rintro e w2 ⟨rfl, rfl⟩)
    go_ret
    exact ⟨rfl, H.out, Kept.refl _ _⟩
end Go.Proofs.Ytogkieekpmcinaa
