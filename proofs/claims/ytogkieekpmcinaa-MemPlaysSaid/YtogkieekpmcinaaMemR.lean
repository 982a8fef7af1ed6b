/- The statement of what is stored and loaded. -/
import Derived.Test.YtogkieekpmcinaaMemQ
namespace Go.Proofs.Ytogkieekpmcinaa
open Go.RowKit

theorem and_all (v : Int) (h : in64 v) : bits .and .i64 v (-1) = v := by
  show IntKind.i64.wrap ((BitVec.ofInt 64 v &&& BitVec.ofInt 64 (-1)).toNat : Nat) = v
  rw [show BitVec.ofInt 64 (-1) = BitVec.allOnes 64 by decide, BitVec.and_allOnes, BitVec.toNat_ofInt, IntKind.wrap_i64]
  unfold in64 at h
  omega
theorem val_1 (v : Int) : valB (leB v 1) = v % 256 := by simp [leB, List.range_succ, valB]
theorem val_2 (v : Int) : valB (leB v 2) = v % 65536 := by simp [leB, List.range_succ, valB]; omega
theorem val_4 (v : Int) : valB (leB v 4) = v % 4294967296 := by simp [leB, List.range_succ, valB]; omega
theorem val_8 (v : Int) : valB (leB v 8) = v % 18446744073709551616 := by simp [leB, List.range_succ, valB]; omega
theorem back_in (a g cap : Nat) (S : List Int) (p n : Nat) (op ty v : Int) (w : World) (hm : PMem a g cap S 2 w) (hl : S.length = 65536) (hw : Mem.width op = ((n : Int), ty, true)) (hp : p + n ≤ 65536) :
    Calls Try.prog 22 #[.pointer (some ⟨a, 0, none⟩), .int .i64 op, .int .i64 p, .int .i64 v] w fun e w' => e = .returned (.int .i64 0) ∧ PMem a g cap (patch S p (leB v n)) 2 w' ∧ Kept (· = g) w w' := by
  have h := store_any a g cap S 2 op p v w hm (by omega)
  have hok : storeOk S op p = true := by
    unfold storeOk
    rw [hw, Bool.true_and]
    exact decide_eq_true (by omega)
  unfold storeT storeS at h
  rw [if_pos hok, if_pos hok, hw, Int.toNat_natCast, Int.toNat_natCast] at h
  exact h
theorem back_out (a g cap : Nat) (S : List Int) (p n : Nat) (op ty v : Int) (w : World) (hm : PMem a g cap S 2 w) (hl : S.length = 65536) (hw : Mem.width op = ((n : Int), ty, true)) (hp : 65536 < p + n) (hp2 : p < 65536) :
    Calls Try.prog 22 #[.pointer (some ⟨a, 0, none⟩), .int .i64 op, .int .i64 p, .int .i64 v] w fun e w' => e = .returned (.int .i64 4) ∧ PMem a g cap S 2 w' ∧ Kept (· = g) w w' := by
  have h := store_any a g cap S 2 op p v w hm (by omega)
  have hok : ¬ storeOk S op p = true := by
    unfold storeOk
    rw [hw, Bool.true_and]
    intro h
    have := inB_le h
    omega
  unfold storeT storeS at h
  rw [if_neg hok, if_neg hok] at h
  exact h
theorem back_facts {S : List Int} {p n : Nat} (v : Int) (hl : S.length = 65536) (hp : p + n ≤ 65536) :
    (patch S p (leB v n)).length = 65536 ∧ (strOfNums (patch S p (leB v n))).extract 0 p = (strOfNums S).extract 0 p ∧
    (strOfNums (patch S p (leB v n))).extract (p + n) 65536 = (strOfNums S).extract (p + n) 65536 ∧ part (patch S p (leB v n)) p n = leB v n := by
  have hll := leB_length v n
  refine ⟨by rw [patch_length (by omega), hl], ?_, ?_, ?_⟩
  · rw [str_extract, str_extract, List.drop_zero, List.drop_zero, Nat.sub_zero, patch_head (by omega)]
  · rw [str_extract, str_extract]
    have := patch_tail (S := S) (bs := leB v n) (p := p) (by omega)
    rw [hll] at this
    rw [this]
  · have := part_patch (S := S) (bs := leB v n) (p := p) (k := n) (by omega) (by omega)
    rw [this, List.take_of_length_le (by omega)]
theorem back_54 (a g cap : Nat) (S : List Int) (p : Nat) (v : Int) (_hv : in64 v) (w : World) (hm : PMem a g cap (patch S p (leB v 4)) 2 w) (hl : S.length = 65536) (hp : p + 4 ≤ 65536) :
    ∃ X, (Calls Try.prog 23 #[.pointer (some ⟨a, 0, none⟩), .int .i64 40, .int .i64 p] w fun e w' => e = .returned (.tuple #[.int .i64 X, .int .i64 0]) ∧ w = w') ∧ bits .and .i64 v 4294967295 = X := by
  have hf := back_facts (n := 4) v hl hp
  have h := load_40 a g cap _ 2 p w hm (by rw [hf.1]; exact hp)
  rw [hf.2.2.2] at h
  have e : loadV 4 127 false (leB v 4) = v % 4294967296 := by
    unfold loadV
    rw [Bool.false_and, val_4]
    show wrap64 _ = _
    unfold wrap64
    omega
  rw [e] at h
  exact ⟨(v % 4294967296), h, (i64_mask v 4294967295 32 (by decide) (by decide))⟩
theorem back_55 (a g cap : Nat) (S : List Int) (p : Nat) (v : Int) (hv : in64 v) (w : World) (hm : PMem a g cap (patch S p (leB v 8)) 2 w) (hl : S.length = 65536) (hp : p + 8 ≤ 65536) :
    ∃ X, (Calls Try.prog 23 #[.pointer (some ⟨a, 0, none⟩), .int .i64 41, .int .i64 p] w fun e w' => e = .returned (.tuple #[.int .i64 X, .int .i64 0]) ∧ w = w') ∧ bits .and .i64 v (-1) = X := by
  have hf := back_facts (n := 8) v hl hp
  have h := load_41 a g cap _ 2 p w hm (by rw [hf.1]; exact hp)
  rw [hf.2.2.2] at h
  have e : loadV 8 126 false (leB v 8) = v := by
    unfold loadV
    rw [Bool.false_and, val_8]
    show wrap64 _ = v
    unfold wrap64
    unfold in64 at hv
    omega
  rw [e] at h
  exact ⟨v, h, (and_all v hv)⟩
theorem back_58 (a g cap : Nat) (S : List Int) (p : Nat) (v : Int) (_hv : in64 v) (w : World) (hm : PMem a g cap (patch S p (leB v 1)) 2 w) (hl : S.length = 65536) (hp : p + 1 ≤ 65536) :
    ∃ X, (Calls Try.prog 23 #[.pointer (some ⟨a, 0, none⟩), .int .i64 45, .int .i64 p] w fun e w' => e = .returned (.tuple #[.int .i64 X, .int .i64 0]) ∧ w = w') ∧ bits .and .i64 v 255 = X := by
  have hf := back_facts (n := 1) v hl hp
  have h := load_45 a g cap _ 2 p w hm (by rw [hf.1]; exact hp)
  rw [hf.2.2.2] at h
  have e : loadV 1 127 false (leB v 1) = v % 256 := by
    unfold loadV
    rw [Bool.false_and, val_1]
    show wrap64 _ = _
    unfold wrap64
    omega
  rw [e] at h
  exact ⟨(v % 256), h, (i64_mask v 255 8 (by decide) (by decide))⟩
theorem back_59 (a g cap : Nat) (S : List Int) (p : Nat) (v : Int) (_hv : in64 v) (w : World) (hm : PMem a g cap (patch S p (leB v 2)) 2 w) (hl : S.length = 65536) (hp : p + 2 ≤ 65536) :
    ∃ X, (Calls Try.prog 23 #[.pointer (some ⟨a, 0, none⟩), .int .i64 47, .int .i64 p] w fun e w' => e = .returned (.tuple #[.int .i64 X, .int .i64 0]) ∧ w = w') ∧ bits .and .i64 v 65535 = X := by
  have hf := back_facts (n := 2) v hl hp
  have h := load_47 a g cap _ 2 p w hm (by rw [hf.1]; exact hp)
  rw [hf.2.2.2] at h
  have e : loadV 2 127 false (leB v 2) = v % 65536 := by
    unfold loadV
    rw [Bool.false_and, val_2]
    show wrap64 _ = _
    unfold wrap64
    omega
  rw [e] at h
  exact ⟨(v % 65536), h, (i64_mask v 65535 16 (by decide) (by decide))⟩
theorem back_60 (a g cap : Nat) (S : List Int) (p : Nat) (v : Int) (_hv : in64 v) (w : World) (hm : PMem a g cap (patch S p (leB v 1)) 2 w) (hl : S.length = 65536) (hp : p + 1 ≤ 65536) :
    ∃ X, (Calls Try.prog 23 #[.pointer (some ⟨a, 0, none⟩), .int .i64 49, .int .i64 p] w fun e w' => e = .returned (.tuple #[.int .i64 X, .int .i64 0]) ∧ w = w') ∧ bits .and .i64 v 255 = X := by
  have hf := back_facts (n := 1) v hl hp
  have h := load_49 a g cap _ 2 p w hm (by rw [hf.1]; exact hp)
  rw [hf.2.2.2] at h
  have e : loadV 1 126 false (leB v 1) = v % 256 := by
    unfold loadV
    rw [Bool.false_and, val_1]
    show wrap64 _ = _
    unfold wrap64
    omega
  rw [e] at h
  exact ⟨(v % 256), h, (i64_mask v 255 8 (by decide) (by decide))⟩
theorem back_61 (a g cap : Nat) (S : List Int) (p : Nat) (v : Int) (_hv : in64 v) (w : World) (hm : PMem a g cap (patch S p (leB v 2)) 2 w) (hl : S.length = 65536) (hp : p + 2 ≤ 65536) :
    ∃ X, (Calls Try.prog 23 #[.pointer (some ⟨a, 0, none⟩), .int .i64 51, .int .i64 p] w fun e w' => e = .returned (.tuple #[.int .i64 X, .int .i64 0]) ∧ w = w') ∧ bits .and .i64 v 65535 = X := by
  have hf := back_facts (n := 2) v hl hp
  have h := load_51 a g cap _ 2 p w hm (by rw [hf.1]; exact hp)
  rw [hf.2.2.2] at h
  have e : loadV 2 126 false (leB v 2) = v % 65536 := by
    unfold loadV
    rw [Bool.false_and, val_2]
    show wrap64 _ = _
    unfold wrap64
    omega
  rw [e] at h
  exact ⟨(v % 65536), h, (i64_mask v 65535 16 (by decide) (by decide))⟩
theorem back_62 (a g cap : Nat) (S : List Int) (p : Nat) (v : Int) (_hv : in64 v) (w : World) (hm : PMem a g cap (patch S p (leB v 4)) 2 w) (hl : S.length = 65536) (hp : p + 4 ≤ 65536) :
    ∃ X, (Calls Try.prog 23 #[.pointer (some ⟨a, 0, none⟩), .int .i64 53, .int .i64 p] w fun e w' => e = .returned (.tuple #[.int .i64 X, .int .i64 0]) ∧ w = w') ∧ bits .and .i64 v 4294967295 = X := by
  have hf := back_facts (n := 4) v hl hp
  have h := load_53 a g cap _ 2 p w hm (by rw [hf.1]; exact hp)
  rw [hf.2.2.2] at h
  have e : loadV 4 126 false (leB v 4) = v % 4294967296 := by
    unfold loadV
    rw [Bool.false_and, val_4]
    show wrap64 _ = _
    unfold wrap64
    omega
  rw [e] at h
  exact ⟨(v % 4294967296), h, (i64_mask v 4294967295 32 (by decide) (by decide))⟩
set_option maxRecDepth 100000 in
set_option maxHeartbeats 8000000 in
theorem MemBack_walk (x : Option Addr) (len cap0 : Nat) (ds : List DeedL) (at' v : Int) (hv : in64 v) (w : World) (hd : DeedIn w x len cap0 ds) :
    Calls Try.prog 5 #[.slice x len cap0, .int .i64 at', .int .i64 v] w fun e w' => e = .returned (.bool true) ∧ Below w.heap.size w w' := by
  have HM := Lib.hid (made_in x len cap0 ds w hd)
  obtain ⟨p, hp⟩ : ∃ p : Nat, at' % 65536 = p := Int.eq_ofNat_of_zero_le (by omega)
  have e1 : bits .and .i64 at' 65535 = p := (and_16 at').trans hp
  have hp' : p < 65536 := by omega
  have HV := Lib.hid hv
  clear hp hd hv
  go_enter Try.func5, Try.ntmps5
  go_wp2_with (go_at_call 20; refine HM.out.mono ?_; rintro e w1 ⟨a, g, cap, S0, rfl, h1, hl, hb1, ha1, hg1⟩; clear HM)
  have hb3 : Below w1.heap.size w1 ((w1.alloc (.cells #[Value.int .i64 54, Value.int .i64 55, Value.int .i64 58, Value.int .i64 59, Value.int .i64 60, Value.int .i64 61, Value.int .i64 62] 3)).alloc (.cells #[Value.int .i64 40, Value.int .i64 41, Value.int .i64 45, Value.int .i64 47, Value.int .i64 49, Value.int .i64 51, Value.int .i64 53] 3)) := ((Below.refl _ _).alloc (Nat.le_refl _) _).alloc (le_alloc (Nat.le_refl _)) _
  have hz3 : ((w1.alloc (.cells #[Value.int .i64 54, Value.int .i64 55, Value.int .i64 58, Value.int .i64 59, Value.int .i64 60, Value.int .i64 61, Value.int .i64 62] 3)).alloc (.cells #[Value.int .i64 40, Value.int .i64 41, Value.int .i64 45, Value.int .i64 47, Value.int .i64 49, Value.int .i64 51, Value.int .i64 53] 3)).heap.size = w1.heap.size + 2 := by simp
  have hc1 : ∀ o, ((w1.alloc (.cells #[Value.int .i64 54, Value.int .i64 55, Value.int .i64 58, Value.int .i64 59, Value.int .i64 60, Value.int .i64 61, Value.int .i64 62] 3)).alloc (.cells #[Value.int .i64 40, Value.int .i64 41, Value.int .i64 45, Value.int .i64 47, Value.int .i64 49, Value.int .i64 51, Value.int .i64 53] 3)).cell? ⟨w1.heap.size, o, none⟩ = #[Value.int .i64 54, Value.int .i64 55, Value.int .i64 58, Value.int .i64 59, Value.int .i64 60, Value.int .i64 61, Value.int .i64 62][o]? := fun o => by
    rw [World.cell?_of_block (w := w1.alloc _) (Below.heap_alloc (w1.alloc _) _ w1.heap.size (by simp))]
    exact World.cell?_alloc_mark w1 _ _ _ o
  have hc2 : ∀ o, ((w1.alloc (.cells #[Value.int .i64 54, Value.int .i64 55, Value.int .i64 58, Value.int .i64 59, Value.int .i64 60, Value.int .i64 61, Value.int .i64 62] 3)).alloc (.cells #[Value.int .i64 40, Value.int .i64 41, Value.int .i64 45, Value.int .i64 47, Value.int .i64 49, Value.int .i64 51, Value.int .i64 53] 3)).cell? ⟨w1.heap.size + 1, o, none⟩ = #[Value.int .i64 40, Value.int .i64 41, Value.int .i64 45, Value.int .i64 47, Value.int .i64 49, Value.int .i64 51, Value.int .i64 53][o]? := fun o => by
    have := World.cell?_alloc_mark (w1.alloc (.cells #[Value.int .i64 54, Value.int .i64 55, Value.int .i64 58, Value.int .i64 59, Value.int .i64 60, Value.int .i64 61, Value.int .i64 62] 3)) #[Value.int .i64 40, Value.int .i64 41, Value.int .i64 45, Value.int .i64 47, Value.int .i64 49, Value.int .i64 51, Value.int .i64 53] 3 (0, 0) o
    rw [show (w1.alloc (.cells #[Value.int .i64 54, Value.int .i64 55, Value.int .i64 58, Value.int .i64 59, Value.int .i64 60, Value.int .i64 61, Value.int .i64 62] 3)).heap.size = w1.heap.size + 1 by simp] at this
    exact this
  have hglt := h1.glt
  have h3 : PMem a g cap S0 2 ((w1.alloc (.cells #[Value.int .i64 54, Value.int .i64 55, Value.int .i64 58, Value.int .i64 59, Value.int .i64 60, Value.int .i64 61, Value.int .i64 62] 3)).alloc (.cells #[Value.int .i64 40, Value.int .i64 41, Value.int .i64 45, Value.int .i64 47, Value.int .i64 49, Value.int .i64 51, Value.int .i64 53] 3)) := h1.kept (Kept.of_below (F := fun _ => False) hb3) id id
  revert hb3 hz3 hc1 hc2 h3
  generalize ((w1.alloc (.cells #[Value.int .i64 54, Value.int .i64 55, Value.int .i64 58, Value.int .i64 59, Value.int .i64 60, Value.int .i64 61, Value.int .i64 62] 3)).alloc (.cells #[Value.int .i64 40, Value.int .i64 41, Value.int .i64 45, Value.int .i64 47, Value.int .i64 49, Value.int .i64 51, Value.int .i64 53] 3)) = w3
  intro hb3 hz3 hc1 hc2 h3
  have hcell : ∀ w', Kept (· = g) w3 w' → ∀ b o, w1.heap.size ≤ b → b < w3.heap.size → w'.cell? ⟨b, o, none⟩ = w3.cell? ⟨b, o, none⟩ := fun w' k b o h1 h2 => World.cell?_of_block (k.block b h2 (by omega))
  have HC1 : Hid (∀ w' o, Kept (· = g) w3 w' → w'.cell? ⟨w1.heap.size, o, none⟩ = #[Value.int .i64 54, Value.int .i64 55, Value.int .i64 58, Value.int .i64 59, Value.int .i64 60, Value.int .i64 61, Value.int .i64 62][o]?) := Lib.hid fun w' o k => (hcell w' k _ o (Nat.le_refl _) (by omega)).trans (hc1 o)
  have HC2 : Hid (∀ w' o, Kept (· = g) w3 w' → w'.cell? ⟨w1.heap.size + 1, o, none⟩ = #[Value.int .i64 40, Value.int .i64 41, Value.int .i64 45, Value.int .i64 47, Value.int .i64 49, Value.int .i64 51, Value.int .i64 53][o]?) := Lib.hid fun w' o k => (hcell w' k _ o (by omega) (by omega)).trans (hc2 o)
  have H3 := Lib.hid h3
  have HL := Lib.hid hl
  have HB3 := Lib.hid (hb1.trans (hb3.mono hb1.size))
  clear h1 hl hb1 hb3 hz3 hc1 hc2 h3 hcell
  go_loopw [10] (fun iv wr => ∃ (i : Nat) (S : List Int), iv = .int .i64 i ∧ i ≤ 7 ∧ PMem a g cap S 2 wr ∧ S.length = 65536 ∧ Kept (· = g) w3 wr) (fun iv _ => 7 - (intOf iv).toNat)
  case atStart => exact ⟨0, S0, rfl, by decide, H3.out, HL.out, Kept.refl _ _⟩
  case round =>
    obtain ⟨i, S, rfl, hi7, hm, hsl, hk⟩ := hrel
    have HSM := Lib.hid hm
    have HSL := Lib.hid hsl
    have HK := Lib.hid hk
    have HR1 := Lib.hid (read_all a g cap S 2 wr hm hsl)
    have hsA : (strOfNums S).size = 65536 := by rw [strOfNums_size, hsl]
    have hi : i = 0 ∨ i = 1 ∨ i = 2 ∨ i = 3 ∨ i = 4 ∨ i = 5 ∨ i = 6 ∨ i = 7 := by omega
    clear hm hsl hk hi7
    rcases hi with rfl | rfl | rfl | rfl | rfl | rfl | rfl | rfl
    · have hco := HC1.out wr 0 HK.out
      have hcl := HC2.out wr 0 HK.out
      have HW := Lib.hid (width_tup (op := 54) (n := 4) (ty := 127) (st := true) (by decide) wr)
      by_cases hin : p + 4 ≤ 65536
      · have HF := Lib.hid (back_facts (n := 4) v HSL.out hin)
        have HST := Lib.hid (back_in a g cap S p 4 54 127 v wr HSM.out HSL.out (by decide) hin)
        have hge : ¬ ((65536 : Int) - 4 < p) := by omega
        have hge2 : ¬ ((65532 : Int) < p) := by omega
        obtain ⟨pn, hpn⟩ : ∃ pn : Nat, pn = p + 4 := ⟨_, rfl⟩
        have b1 : (p : Int) ≤ 65536 := by omega
        have b2 : (pn : Int) ≤ 65536 := by omega
        have b3 : (p : Int) + 4 = pn := by omega
        have b4 : IntKind.i64.wrap (pn : Int) = pn := by rw [IntKind.wrap_i64]; omega
        have b5 : wrap64 (pn : Int) = pn := by unfold wrap64; omega
        obtain ⟨sA, HSA⟩ : ∃ sA, Hid (strOfNums S = sA) := ⟨_, Lib.hid rfl⟩
        rw [HSA.out] at HR1 hsA
        have HIN := Lib.hid hin
        have HPN := Lib.hid hpn
        clear hin hpn HSM
        go_wp2_with (first
          | (go_at_call 18; refine HW.out.mono ?_; rintro e w5 ⟨rfl, rfl⟩)
          | (go_at_call 21; refine HR1.out.mono ?_; rintro e w5 ⟨rfl, rfl⟩; clear HR1)
          | (go_at_call 22; refine HST.out.mono ?_; rintro e w6 ⟨rfl, h6, k6⟩
             have hcl6 := HC2.out w6 0 (HK.out.trans k6)
             obtain ⟨f0, f1, f2, f3⟩ := HF.out
             rw [← HPN.out, HSA.out] at f2
             rw [HSA.out] at f1
             have HR2 := Lib.hid (read_all a g cap _ 2 w6 h6 f0)
             obtain ⟨X, hld, hX⟩ := back_54 a g cap S p v HV.out w6 h6 HSL.out HIN.out
             have HLD := Lib.hid hld
             have hsB : (strOfNums (patch S p (leB v 4))).size = 65536 := (by rw [strOfNums_size, f0])
             have H6 := Lib.hid h6
             have K6 := Lib.hid (HK.out.trans k6)
             have F0 := Lib.hid f0
             clear f0 f3 HF h6 k6 hld
             revert HR2 f1 f2 hsB
             generalize strOfNums (patch S p (leB v 4)) = sB
             intro f1 f2 HR2 hsB)
          | (go_at_call 21; refine HR2.out.mono ?_; rintro e w5 ⟨rfl, rfl⟩; clear HR2)
          | (go_at_call 23; refine HLD.out.mono ?_; rintro e w5 ⟨rfl, rfl⟩; clear HLD))
        go_quiet (fail)
        go_wp2
        exact ⟨⟨1, _, rfl, by decide, H6.out.kept (Kept.of_below (F := fun _ => False) (below_drewN (Below.refl _ _) _)) id id, F0.out, K6.out.trans (Kept.of_below (below_drewN (Below.refl _ _) _))⟩, by simp [intOf]⟩
      · have HST := Lib.hid (back_out a g cap S p 4 54 127 v wr HSM.out HSL.out (by decide) (by omega) hp')
        have hge : (65536 : Int) - 4 < p := by omega
        have hge2 : (65532 : Int) < p := by omega
        obtain ⟨sA, HSA⟩ : ∃ sA, Hid (strOfNums S = sA) := ⟨_, Lib.hid rfl⟩
        have HRR : Hid (∀ w', PMem a g cap S 2 w' → Calls Try.prog 21 #[.pointer (some ⟨a, 0, none⟩), .int .i64 0, .int .i64 65536] w' fun e w2 => e = .returned (.tuple #[.string sA, .int .i64 0]) ∧ w' = w2) := Lib.hid fun w' h' => HSA.out ▸ read_all a g cap S 2 w' h' HSL.out
        rw [HSA.out] at HR1 hsA
        clear hin HSM
        go_wp2_with (first
          | (go_at_call 18; refine HW.out.mono ?_; rintro e w5 ⟨rfl, rfl⟩)
          | (go_at_call 21; refine HR1.out.mono ?_; rintro e w5 ⟨rfl, rfl⟩; clear HR1)
          | (go_at_call 22; refine HST.out.mono ?_; rintro e w6 ⟨rfl, h6, k6⟩
             have HR2 := Lib.hid (HRR.out w6 h6)
             have H6 := Lib.hid h6
             have K6 := Lib.hid (HK.out.trans k6)
             clear h6 k6)
          | (go_at_call 21; refine HR2.out.mono ?_; rintro e w5 ⟨rfl, rfl⟩; clear HR2))
        exact ⟨⟨1, _, rfl, by decide, H6.out, HSL.out, K6.out⟩, by simp [intOf]⟩
    · have hco := HC1.out wr 1 HK.out
      have hcl := HC2.out wr 1 HK.out
      have HW := Lib.hid (width_tup (op := 55) (n := 8) (ty := 126) (st := true) (by decide) wr)
      by_cases hin : p + 8 ≤ 65536
      · have HF := Lib.hid (back_facts (n := 8) v HSL.out hin)
        have HST := Lib.hid (back_in a g cap S p 8 55 126 v wr HSM.out HSL.out (by decide) hin)
        have hge : ¬ ((65536 : Int) - 8 < p) := by omega
        have hge2 : ¬ ((65528 : Int) < p) := by omega
        obtain ⟨pn, hpn⟩ : ∃ pn : Nat, pn = p + 8 := ⟨_, rfl⟩
        have b1 : (p : Int) ≤ 65536 := by omega
        have b2 : (pn : Int) ≤ 65536 := by omega
        have b3 : (p : Int) + 8 = pn := by omega
        have b4 : IntKind.i64.wrap (pn : Int) = pn := by rw [IntKind.wrap_i64]; omega
        have b5 : wrap64 (pn : Int) = pn := by unfold wrap64; omega
        obtain ⟨sA, HSA⟩ : ∃ sA, Hid (strOfNums S = sA) := ⟨_, Lib.hid rfl⟩
        rw [HSA.out] at HR1 hsA
        have HIN := Lib.hid hin
        have HPN := Lib.hid hpn
        clear hin hpn HSM
        go_wp2_with (first
          | (go_at_call 18; refine HW.out.mono ?_; rintro e w5 ⟨rfl, rfl⟩)
          | (go_at_call 21; refine HR1.out.mono ?_; rintro e w5 ⟨rfl, rfl⟩; clear HR1)
          | (go_at_call 22; refine HST.out.mono ?_; rintro e w6 ⟨rfl, h6, k6⟩
             have hcl6 := HC2.out w6 1 (HK.out.trans k6)
             obtain ⟨f0, f1, f2, f3⟩ := HF.out
             rw [← HPN.out, HSA.out] at f2
             rw [HSA.out] at f1
             have HR2 := Lib.hid (read_all a g cap _ 2 w6 h6 f0)
             obtain ⟨X, hld, hX⟩ := back_55 a g cap S p v HV.out w6 h6 HSL.out HIN.out
             have HLD := Lib.hid hld
             have hsB : (strOfNums (patch S p (leB v 8))).size = 65536 := (by rw [strOfNums_size, f0])
             have H6 := Lib.hid h6
             have K6 := Lib.hid (HK.out.trans k6)
             have F0 := Lib.hid f0
             clear f0 f3 HF h6 k6 hld
             revert HR2 f1 f2 hsB
             generalize strOfNums (patch S p (leB v 8)) = sB
             intro f1 f2 HR2 hsB)
          | (go_at_call 21; refine HR2.out.mono ?_; rintro e w5 ⟨rfl, rfl⟩; clear HR2)
          | (go_at_call 23; refine HLD.out.mono ?_; rintro e w5 ⟨rfl, rfl⟩; clear HLD))
        go_quiet (fail)
        go_wp2
        exact ⟨⟨2, _, rfl, by decide, H6.out.kept (Kept.of_below (F := fun _ => False) (below_drewN (Below.refl _ _) _)) id id, F0.out, K6.out.trans (Kept.of_below (below_drewN (Below.refl _ _) _))⟩, by simp [intOf]⟩
      · have HST := Lib.hid (back_out a g cap S p 8 55 126 v wr HSM.out HSL.out (by decide) (by omega) hp')
        have hge : (65536 : Int) - 8 < p := by omega
        have hge2 : (65528 : Int) < p := by omega
        obtain ⟨sA, HSA⟩ : ∃ sA, Hid (strOfNums S = sA) := ⟨_, Lib.hid rfl⟩
        have HRR : Hid (∀ w', PMem a g cap S 2 w' → Calls Try.prog 21 #[.pointer (some ⟨a, 0, none⟩), .int .i64 0, .int .i64 65536] w' fun e w2 => e = .returned (.tuple #[.string sA, .int .i64 0]) ∧ w' = w2) := Lib.hid fun w' h' => HSA.out ▸ read_all a g cap S 2 w' h' HSL.out
        rw [HSA.out] at HR1 hsA
        clear hin HSM
        go_wp2_with (first
          | (go_at_call 18; refine HW.out.mono ?_; rintro e w5 ⟨rfl, rfl⟩)
          | (go_at_call 21; refine HR1.out.mono ?_; rintro e w5 ⟨rfl, rfl⟩; clear HR1)
          | (go_at_call 22; refine HST.out.mono ?_; rintro e w6 ⟨rfl, h6, k6⟩
             have HR2 := Lib.hid (HRR.out w6 h6)
             have H6 := Lib.hid h6
             have K6 := Lib.hid (HK.out.trans k6)
             clear h6 k6)
          | (go_at_call 21; refine HR2.out.mono ?_; rintro e w5 ⟨rfl, rfl⟩; clear HR2))
        exact ⟨⟨2, _, rfl, by decide, H6.out, HSL.out, K6.out⟩, by simp [intOf]⟩
    · have hco := HC1.out wr 2 HK.out
      have hcl := HC2.out wr 2 HK.out
      have HW := Lib.hid (width_tup (op := 58) (n := 1) (ty := 127) (st := true) (by decide) wr)
      by_cases hin : p + 1 ≤ 65536
      · have HF := Lib.hid (back_facts (n := 1) v HSL.out hin)
        have HST := Lib.hid (back_in a g cap S p 1 58 127 v wr HSM.out HSL.out (by decide) hin)
        have hge : ¬ ((65536 : Int) - 1 < p) := by omega
        have hge2 : ¬ ((65535 : Int) < p) := by omega
        obtain ⟨pn, hpn⟩ : ∃ pn : Nat, pn = p + 1 := ⟨_, rfl⟩
        have b1 : (p : Int) ≤ 65536 := by omega
        have b2 : (pn : Int) ≤ 65536 := by omega
        have b3 : (p : Int) + 1 = pn := by omega
        have b4 : IntKind.i64.wrap (pn : Int) = pn := by rw [IntKind.wrap_i64]; omega
        have b5 : wrap64 (pn : Int) = pn := by unfold wrap64; omega
        obtain ⟨sA, HSA⟩ : ∃ sA, Hid (strOfNums S = sA) := ⟨_, Lib.hid rfl⟩
        rw [HSA.out] at HR1 hsA
        have HIN := Lib.hid hin
        have HPN := Lib.hid hpn
        clear hin hpn HSM
        go_wp2_with (first
          | (go_at_call 18; refine HW.out.mono ?_; rintro e w5 ⟨rfl, rfl⟩)
          | (go_at_call 21; refine HR1.out.mono ?_; rintro e w5 ⟨rfl, rfl⟩; clear HR1)
          | (go_at_call 22; refine HST.out.mono ?_; rintro e w6 ⟨rfl, h6, k6⟩
             have hcl6 := HC2.out w6 2 (HK.out.trans k6)
             obtain ⟨f0, f1, f2, f3⟩ := HF.out
             rw [← HPN.out, HSA.out] at f2
             rw [HSA.out] at f1
             have HR2 := Lib.hid (read_all a g cap _ 2 w6 h6 f0)
             obtain ⟨X, hld, hX⟩ := back_58 a g cap S p v HV.out w6 h6 HSL.out HIN.out
             have HLD := Lib.hid hld
             have hsB : (strOfNums (patch S p (leB v 1))).size = 65536 := (by rw [strOfNums_size, f0])
             have H6 := Lib.hid h6
             have K6 := Lib.hid (HK.out.trans k6)
             have F0 := Lib.hid f0
             clear f0 f3 HF h6 k6 hld
             revert HR2 f1 f2 hsB
             generalize strOfNums (patch S p (leB v 1)) = sB
             intro f1 f2 HR2 hsB)
          | (go_at_call 21; refine HR2.out.mono ?_; rintro e w5 ⟨rfl, rfl⟩; clear HR2)
          | (go_at_call 23; refine HLD.out.mono ?_; rintro e w5 ⟨rfl, rfl⟩; clear HLD))
        go_quiet (fail)
        go_wp2
        exact ⟨⟨3, _, rfl, by decide, H6.out.kept (Kept.of_below (F := fun _ => False) (below_drewN (Below.refl _ _) _)) id id, F0.out, K6.out.trans (Kept.of_below (below_drewN (Below.refl _ _) _))⟩, by simp [intOf]⟩
      · omega
    · have hco := HC1.out wr 3 HK.out
      have hcl := HC2.out wr 3 HK.out
      have HW := Lib.hid (width_tup (op := 59) (n := 2) (ty := 127) (st := true) (by decide) wr)
      by_cases hin : p + 2 ≤ 65536
      · have HF := Lib.hid (back_facts (n := 2) v HSL.out hin)
        have HST := Lib.hid (back_in a g cap S p 2 59 127 v wr HSM.out HSL.out (by decide) hin)
        have hge : ¬ ((65536 : Int) - 2 < p) := by omega
        have hge2 : ¬ ((65534 : Int) < p) := by omega
        obtain ⟨pn, hpn⟩ : ∃ pn : Nat, pn = p + 2 := ⟨_, rfl⟩
        have b1 : (p : Int) ≤ 65536 := by omega
        have b2 : (pn : Int) ≤ 65536 := by omega
        have b3 : (p : Int) + 2 = pn := by omega
        have b4 : IntKind.i64.wrap (pn : Int) = pn := by rw [IntKind.wrap_i64]; omega
        have b5 : wrap64 (pn : Int) = pn := by unfold wrap64; omega
        obtain ⟨sA, HSA⟩ : ∃ sA, Hid (strOfNums S = sA) := ⟨_, Lib.hid rfl⟩
        rw [HSA.out] at HR1 hsA
        have HIN := Lib.hid hin
        have HPN := Lib.hid hpn
        clear hin hpn HSM
        go_wp2_with (first
          | (go_at_call 18; refine HW.out.mono ?_; rintro e w5 ⟨rfl, rfl⟩)
          | (go_at_call 21; refine HR1.out.mono ?_; rintro e w5 ⟨rfl, rfl⟩; clear HR1)
          | (go_at_call 22; refine HST.out.mono ?_; rintro e w6 ⟨rfl, h6, k6⟩
             have hcl6 := HC2.out w6 3 (HK.out.trans k6)
             obtain ⟨f0, f1, f2, f3⟩ := HF.out
             rw [← HPN.out, HSA.out] at f2
             rw [HSA.out] at f1
             have HR2 := Lib.hid (read_all a g cap _ 2 w6 h6 f0)
             obtain ⟨X, hld, hX⟩ := back_59 a g cap S p v HV.out w6 h6 HSL.out HIN.out
             have HLD := Lib.hid hld
             have hsB : (strOfNums (patch S p (leB v 2))).size = 65536 := (by rw [strOfNums_size, f0])
             have H6 := Lib.hid h6
             have K6 := Lib.hid (HK.out.trans k6)
             have F0 := Lib.hid f0
             clear f0 f3 HF h6 k6 hld
             revert HR2 f1 f2 hsB
             generalize strOfNums (patch S p (leB v 2)) = sB
             intro f1 f2 HR2 hsB)
          | (go_at_call 21; refine HR2.out.mono ?_; rintro e w5 ⟨rfl, rfl⟩; clear HR2)
          | (go_at_call 23; refine HLD.out.mono ?_; rintro e w5 ⟨rfl, rfl⟩; clear HLD))
        go_quiet (fail)
        go_wp2
        exact ⟨⟨4, _, rfl, by decide, H6.out.kept (Kept.of_below (F := fun _ => False) (below_drewN (Below.refl _ _) _)) id id, F0.out, K6.out.trans (Kept.of_below (below_drewN (Below.refl _ _) _))⟩, by simp [intOf]⟩
      · have HST := Lib.hid (back_out a g cap S p 2 59 127 v wr HSM.out HSL.out (by decide) (by omega) hp')
        have hge : (65536 : Int) - 2 < p := by omega
        have hge2 : (65534 : Int) < p := by omega
        obtain ⟨sA, HSA⟩ : ∃ sA, Hid (strOfNums S = sA) := ⟨_, Lib.hid rfl⟩
        have HRR : Hid (∀ w', PMem a g cap S 2 w' → Calls Try.prog 21 #[.pointer (some ⟨a, 0, none⟩), .int .i64 0, .int .i64 65536] w' fun e w2 => e = .returned (.tuple #[.string sA, .int .i64 0]) ∧ w' = w2) := Lib.hid fun w' h' => HSA.out ▸ read_all a g cap S 2 w' h' HSL.out
        rw [HSA.out] at HR1 hsA
        clear hin HSM
        go_wp2_with (first
          | (go_at_call 18; refine HW.out.mono ?_; rintro e w5 ⟨rfl, rfl⟩)
          | (go_at_call 21; refine HR1.out.mono ?_; rintro e w5 ⟨rfl, rfl⟩; clear HR1)
          | (go_at_call 22; refine HST.out.mono ?_; rintro e w6 ⟨rfl, h6, k6⟩
             have HR2 := Lib.hid (HRR.out w6 h6)
             have H6 := Lib.hid h6
             have K6 := Lib.hid (HK.out.trans k6)
             clear h6 k6)
          | (go_at_call 21; refine HR2.out.mono ?_; rintro e w5 ⟨rfl, rfl⟩; clear HR2))
        exact ⟨⟨4, _, rfl, by decide, H6.out, HSL.out, K6.out⟩, by simp [intOf]⟩
    · have hco := HC1.out wr 4 HK.out
      have hcl := HC2.out wr 4 HK.out
      have HW := Lib.hid (width_tup (op := 60) (n := 1) (ty := 126) (st := true) (by decide) wr)
      by_cases hin : p + 1 ≤ 65536
      · have HF := Lib.hid (back_facts (n := 1) v HSL.out hin)
        have HST := Lib.hid (back_in a g cap S p 1 60 126 v wr HSM.out HSL.out (by decide) hin)
        have hge : ¬ ((65536 : Int) - 1 < p) := by omega
        have hge2 : ¬ ((65535 : Int) < p) := by omega
        obtain ⟨pn, hpn⟩ : ∃ pn : Nat, pn = p + 1 := ⟨_, rfl⟩
        have b1 : (p : Int) ≤ 65536 := by omega
        have b2 : (pn : Int) ≤ 65536 := by omega
        have b3 : (p : Int) + 1 = pn := by omega
        have b4 : IntKind.i64.wrap (pn : Int) = pn := by rw [IntKind.wrap_i64]; omega
        have b5 : wrap64 (pn : Int) = pn := by unfold wrap64; omega
        obtain ⟨sA, HSA⟩ : ∃ sA, Hid (strOfNums S = sA) := ⟨_, Lib.hid rfl⟩
        rw [HSA.out] at HR1 hsA
        have HIN := Lib.hid hin
        have HPN := Lib.hid hpn
        clear hin hpn HSM
        go_wp2_with (first
          | (go_at_call 18; refine HW.out.mono ?_; rintro e w5 ⟨rfl, rfl⟩)
          | (go_at_call 21; refine HR1.out.mono ?_; rintro e w5 ⟨rfl, rfl⟩; clear HR1)
          | (go_at_call 22; refine HST.out.mono ?_; rintro e w6 ⟨rfl, h6, k6⟩
             have hcl6 := HC2.out w6 4 (HK.out.trans k6)
             obtain ⟨f0, f1, f2, f3⟩ := HF.out
             rw [← HPN.out, HSA.out] at f2
             rw [HSA.out] at f1
             have HR2 := Lib.hid (read_all a g cap _ 2 w6 h6 f0)
             obtain ⟨X, hld, hX⟩ := back_60 a g cap S p v HV.out w6 h6 HSL.out HIN.out
             have HLD := Lib.hid hld
             have hsB : (strOfNums (patch S p (leB v 1))).size = 65536 := (by rw [strOfNums_size, f0])
             have H6 := Lib.hid h6
             have K6 := Lib.hid (HK.out.trans k6)
             have F0 := Lib.hid f0
             clear f0 f3 HF h6 k6 hld
             revert HR2 f1 f2 hsB
             generalize strOfNums (patch S p (leB v 1)) = sB
             intro f1 f2 HR2 hsB)
          | (go_at_call 21; refine HR2.out.mono ?_; rintro e w5 ⟨rfl, rfl⟩; clear HR2)
          | (go_at_call 23; refine HLD.out.mono ?_; rintro e w5 ⟨rfl, rfl⟩; clear HLD))
        go_quiet (fail)
        go_wp2
        exact ⟨⟨5, _, rfl, by decide, H6.out.kept (Kept.of_below (F := fun _ => False) (below_drewN (Below.refl _ _) _)) id id, F0.out, K6.out.trans (Kept.of_below (below_drewN (Below.refl _ _) _))⟩, by simp [intOf]⟩
      · omega
    · have hco := HC1.out wr 5 HK.out
      have hcl := HC2.out wr 5 HK.out
      have HW := Lib.hid (width_tup (op := 61) (n := 2) (ty := 126) (st := true) (by decide) wr)
      by_cases hin : p + 2 ≤ 65536
      · have HF := Lib.hid (back_facts (n := 2) v HSL.out hin)
        have HST := Lib.hid (back_in a g cap S p 2 61 126 v wr HSM.out HSL.out (by decide) hin)
        have hge : ¬ ((65536 : Int) - 2 < p) := by omega
        have hge2 : ¬ ((65534 : Int) < p) := by omega
        obtain ⟨pn, hpn⟩ : ∃ pn : Nat, pn = p + 2 := ⟨_, rfl⟩
        have b1 : (p : Int) ≤ 65536 := by omega
        have b2 : (pn : Int) ≤ 65536 := by omega
        have b3 : (p : Int) + 2 = pn := by omega
        have b4 : IntKind.i64.wrap (pn : Int) = pn := by rw [IntKind.wrap_i64]; omega
        have b5 : wrap64 (pn : Int) = pn := by unfold wrap64; omega
        obtain ⟨sA, HSA⟩ : ∃ sA, Hid (strOfNums S = sA) := ⟨_, Lib.hid rfl⟩
        rw [HSA.out] at HR1 hsA
        have HIN := Lib.hid hin
        have HPN := Lib.hid hpn
        clear hin hpn HSM
        go_wp2_with (first
          | (go_at_call 18; refine HW.out.mono ?_; rintro e w5 ⟨rfl, rfl⟩)
          | (go_at_call 21; refine HR1.out.mono ?_; rintro e w5 ⟨rfl, rfl⟩; clear HR1)
          | (go_at_call 22; refine HST.out.mono ?_; rintro e w6 ⟨rfl, h6, k6⟩
             have hcl6 := HC2.out w6 5 (HK.out.trans k6)
             obtain ⟨f0, f1, f2, f3⟩ := HF.out
             rw [← HPN.out, HSA.out] at f2
             rw [HSA.out] at f1
             have HR2 := Lib.hid (read_all a g cap _ 2 w6 h6 f0)
             obtain ⟨X, hld, hX⟩ := back_61 a g cap S p v HV.out w6 h6 HSL.out HIN.out
             have HLD := Lib.hid hld
             have hsB : (strOfNums (patch S p (leB v 2))).size = 65536 := (by rw [strOfNums_size, f0])
             have H6 := Lib.hid h6
             have K6 := Lib.hid (HK.out.trans k6)
             have F0 := Lib.hid f0
             clear f0 f3 HF h6 k6 hld
             revert HR2 f1 f2 hsB
             generalize strOfNums (patch S p (leB v 2)) = sB
             intro f1 f2 HR2 hsB)
          | (go_at_call 21; refine HR2.out.mono ?_; rintro e w5 ⟨rfl, rfl⟩; clear HR2)
          | (go_at_call 23; refine HLD.out.mono ?_; rintro e w5 ⟨rfl, rfl⟩; clear HLD))
        go_quiet (fail)
        go_wp2
        exact ⟨⟨6, _, rfl, by decide, H6.out.kept (Kept.of_below (F := fun _ => False) (below_drewN (Below.refl _ _) _)) id id, F0.out, K6.out.trans (Kept.of_below (below_drewN (Below.refl _ _) _))⟩, by simp [intOf]⟩
      · have HST := Lib.hid (back_out a g cap S p 2 61 126 v wr HSM.out HSL.out (by decide) (by omega) hp')
        have hge : (65536 : Int) - 2 < p := by omega
        have hge2 : (65534 : Int) < p := by omega
        obtain ⟨sA, HSA⟩ : ∃ sA, Hid (strOfNums S = sA) := ⟨_, Lib.hid rfl⟩
        have HRR : Hid (∀ w', PMem a g cap S 2 w' → Calls Try.prog 21 #[.pointer (some ⟨a, 0, none⟩), .int .i64 0, .int .i64 65536] w' fun e w2 => e = .returned (.tuple #[.string sA, .int .i64 0]) ∧ w' = w2) := Lib.hid fun w' h' => HSA.out ▸ read_all a g cap S 2 w' h' HSL.out
        rw [HSA.out] at HR1 hsA
        clear hin HSM
        go_wp2_with (first
          | (go_at_call 18; refine HW.out.mono ?_; rintro e w5 ⟨rfl, rfl⟩)
          | (go_at_call 21; refine HR1.out.mono ?_; rintro e w5 ⟨rfl, rfl⟩; clear HR1)
          | (go_at_call 22; refine HST.out.mono ?_; rintro e w6 ⟨rfl, h6, k6⟩
             have HR2 := Lib.hid (HRR.out w6 h6)
             have H6 := Lib.hid h6
             have K6 := Lib.hid (HK.out.trans k6)
             clear h6 k6)
          | (go_at_call 21; refine HR2.out.mono ?_; rintro e w5 ⟨rfl, rfl⟩; clear HR2))
        exact ⟨⟨6, _, rfl, by decide, H6.out, HSL.out, K6.out⟩, by simp [intOf]⟩
    · have hco := HC1.out wr 6 HK.out
      have hcl := HC2.out wr 6 HK.out
      have HW := Lib.hid (width_tup (op := 62) (n := 4) (ty := 126) (st := true) (by decide) wr)
      by_cases hin : p + 4 ≤ 65536
      · have HF := Lib.hid (back_facts (n := 4) v HSL.out hin)
        have HST := Lib.hid (back_in a g cap S p 4 62 126 v wr HSM.out HSL.out (by decide) hin)
        have hge : ¬ ((65536 : Int) - 4 < p) := by omega
        have hge2 : ¬ ((65532 : Int) < p) := by omega
        obtain ⟨pn, hpn⟩ : ∃ pn : Nat, pn = p + 4 := ⟨_, rfl⟩
        have b1 : (p : Int) ≤ 65536 := by omega
        have b2 : (pn : Int) ≤ 65536 := by omega
        have b3 : (p : Int) + 4 = pn := by omega
        have b4 : IntKind.i64.wrap (pn : Int) = pn := by rw [IntKind.wrap_i64]; omega
        have b5 : wrap64 (pn : Int) = pn := by unfold wrap64; omega
        obtain ⟨sA, HSA⟩ : ∃ sA, Hid (strOfNums S = sA) := ⟨_, Lib.hid rfl⟩
        rw [HSA.out] at HR1 hsA
        have HIN := Lib.hid hin
        have HPN := Lib.hid hpn
        clear hin hpn HSM
        go_wp2_with (first
          | (go_at_call 18; refine HW.out.mono ?_; rintro e w5 ⟨rfl, rfl⟩)
          | (go_at_call 21; refine HR1.out.mono ?_; rintro e w5 ⟨rfl, rfl⟩; clear HR1)
          | (go_at_call 22; refine HST.out.mono ?_; rintro e w6 ⟨rfl, h6, k6⟩
             have hcl6 := HC2.out w6 6 (HK.out.trans k6)
             obtain ⟨f0, f1, f2, f3⟩ := HF.out
             rw [← HPN.out, HSA.out] at f2
             rw [HSA.out] at f1
             have HR2 := Lib.hid (read_all a g cap _ 2 w6 h6 f0)
             obtain ⟨X, hld, hX⟩ := back_62 a g cap S p v HV.out w6 h6 HSL.out HIN.out
             have HLD := Lib.hid hld
             have hsB : (strOfNums (patch S p (leB v 4))).size = 65536 := (by rw [strOfNums_size, f0])
             have H6 := Lib.hid h6
             have K6 := Lib.hid (HK.out.trans k6)
             have F0 := Lib.hid f0
             clear f0 f3 HF h6 k6 hld
             revert HR2 f1 f2 hsB
             generalize strOfNums (patch S p (leB v 4)) = sB
             intro f1 f2 HR2 hsB)
          | (go_at_call 21; refine HR2.out.mono ?_; rintro e w5 ⟨rfl, rfl⟩; clear HR2)
          | (go_at_call 23; refine HLD.out.mono ?_; rintro e w5 ⟨rfl, rfl⟩; clear HLD))
        go_quiet (fail)
        go_wp2
        exact ⟨⟨7, _, rfl, by decide, H6.out.kept (Kept.of_below (F := fun _ => False) (below_drewN (Below.refl _ _) _)) id id, F0.out, K6.out.trans (Kept.of_below (below_drewN (Below.refl _ _) _))⟩, by simp [intOf]⟩
      · have HST := Lib.hid (back_out a g cap S p 4 62 126 v wr HSM.out HSL.out (by decide) (by omega) hp')
        have hge : (65536 : Int) - 4 < p := by omega
        have hge2 : (65532 : Int) < p := by omega
        obtain ⟨sA, HSA⟩ : ∃ sA, Hid (strOfNums S = sA) := ⟨_, Lib.hid rfl⟩
        have HRR : Hid (∀ w', PMem a g cap S 2 w' → Calls Try.prog 21 #[.pointer (some ⟨a, 0, none⟩), .int .i64 0, .int .i64 65536] w' fun e w2 => e = .returned (.tuple #[.string sA, .int .i64 0]) ∧ w' = w2) := Lib.hid fun w' h' => HSA.out ▸ read_all a g cap S 2 w' h' HSL.out
        rw [HSA.out] at HR1 hsA
        clear hin HSM
        go_wp2_with (first
          | (go_at_call 18; refine HW.out.mono ?_; rintro e w5 ⟨rfl, rfl⟩)
          | (go_at_call 21; refine HR1.out.mono ?_; rintro e w5 ⟨rfl, rfl⟩; clear HR1)
          | (go_at_call 22; refine HST.out.mono ?_; rintro e w6 ⟨rfl, h6, k6⟩
             have HR2 := Lib.hid (HRR.out w6 h6)
             have H6 := Lib.hid h6
             have K6 := Lib.hid (HK.out.trans k6)
             clear h6 k6)
          | (go_at_call 21; refine HR2.out.mono ?_; rintro e w5 ⟨rfl, rfl⟩; clear HR2))
        exact ⟨⟨7, _, rfl, by decide, H6.out, HSL.out, K6.out⟩, by simp [intOf]⟩
    · have B4 := Lib.hid (HB3.out.trans (HK.out.below HB3.out.size fun b hb => hb ▸ hg1))
      go_wp2_with (go_at_call 12; refine (awake_any _).mono ?_; rintro e w6 ⟨rfl, hb6⟩)
      go_ret
      exact ⟨rfl, B4.out.trans (hb6.mono B4.out.size)⟩
end Go.Proofs.Ytogkieekpmcinaa
