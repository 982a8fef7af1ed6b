/- The statement of signs. -/
import Derived.Test.YtogkieekpmcinaaMemP
namespace Go.Proofs.Ytogkieekpmcinaa
open Go.RowKit

theorem width_loads {op op1 n ty : Int} (h : Mem.width op = (n, ty, false)) (h1 : Mem.width op1 = (n, ty, false)) (hs : sgOf op = true) (hs1 : sgOf op1 = false) (hn : n ≠ 0) (a g cap : Nat) (S : List Int) (mo : Int) (p : Nat) (w : World) (hm : PMem a g cap S mo w) (hp : p < 65536) (hl : S.length = 65536) :
    ∃ A B t : Int, (Calls Try.prog 23 #[.pointer (some ⟨a, 0, none⟩), .int .i64 op, .int .i64 p] w fun e w' => e = .returned (.tuple #[.int .i64 A, .int .i64 t]) ∧ w = w') ∧
      (Calls Try.prog 23 #[.pointer (some ⟨a, 0, none⟩), .int .i64 op1, .int .i64 p] w fun e w' => e = .returned (.tuple #[.int .i64 B, .int .i64 t]) ∧ w = w') ∧
      ((t = 4 ∧ A = 0 ∧ B = 0) ∨ (t = 0 ∧ (p : Int) ≤ 65536 - n ∧ A = loadV n.toNat ty true (part S p n.toNat) ∧ B = loadV n.toNat ty false (part S p n.toNat))) := by
  have l0 := load_any a g cap S mo op p w hm (by omega)
  have l1 := load_any a g cap S mo op1 p w hm (by omega)
  unfold loadTup loadOk at l0 l1
  rw [h, hs] at l0
  rw [h1, hs1] at l1
  by_cases hi : inB S.length p n = true
  · have hb := inB_le hi
    simp only [hi, hn, ne_eq, not_false_eq_true, decide_true, Bool.not_false, Bool.and_true, if_true, Int.toNat_natCast] at l0 l1
    exact ⟨_, _, 0, l0, l1, .inr ⟨rfl, by omega, rfl, rfl⟩⟩
  · simp only [not_true hi, Bool.and_false, Bool.false_eq_true, if_false] at l0 l1
    exact ⟨0, 0, 4, l0, l1, .inl ⟨rfl, rfl, rfl⟩⟩
theorem and_32 (x : Int) : bits .and .i64 x 4294967295 = x % 4294967296 := i64_mask x 4294967295 32 (by decide) (by decide)
theorem signs_44 (a g cap : Nat) (S : List Int) (mo : Int) (p : Nat) (w : World) (hm : PMem a g cap S mo w) (hp : p < 65536) (hl : S.length = 65536) :
    ∃ A B t : Int, (Calls Try.prog 23 #[.pointer (some ⟨a, 0, none⟩), .int .i64 44, .int .i64 p] w fun e w' => e = .returned (.tuple #[.int .i64 A, .int .i64 t]) ∧ w = w') ∧
      (Calls Try.prog 23 #[.pointer (some ⟨a, 0, none⟩), .int .i64 45, .int .i64 p] w fun e w' => e = .returned (.tuple #[.int .i64 B, .int .i64 t]) ∧ w = w') ∧
      (t = 4 ∨ (t = 0 ∧ ¬ (65536 - 1 : Int) < p)) ∧ 0 ≤ B ∧ B < 256 ∧ ((¬ 128 ≤ B ∧ bits .and .i64 B 4294967295 = A) ∨ (128 ≤ B ∧ bits .and .i64 (B - 256) 4294967295 = A)) := by
  obtain ⟨A, B, t, h1, h2, h3⟩ := width_loads (op := 44) (op1 := 45) (n := 1) (ty := 127) (by decide) (by decide) (by decide) (by decide) (by decide) a g cap S mo p w hm hp hl
  rcases h3 with ⟨rfl, rfl, rfl⟩ | ⟨rfl, hb, hA, hB⟩
  · exact ⟨0, 0, 4, h1, h2, .inl rfl, by decide, by decide, .inl ⟨by decide, by decide⟩⟩
  · refine ⟨A, B, 0, h1, h2, .inr ⟨rfl, by omega⟩, ?_⟩
    have hpl : (part S p 1).length = 1 := part_length (by omega)
    have hby := part_byte hm.byte p 1
    obtain ⟨hs, hv0, hv1⟩ := loadV_s1 (part S p 1) hpl hby 127
    have hu : loadV 1 127 false (part S p 1) = wrap64 (valB (part S p 1)) := by
      unfold loadV
      rw [Bool.false_and]
      rfl
    have hB' : B = wrap64 (valB (part S p 1)) := hB.trans hu
    have hA' := hA.trans hs
    clear hA hB hs hu h1 h2
    simp only [and_32]
    rw [if_pos (rfl : (127 : Int) = 127)] at hA'
    generalize valB (part S p 1) = V at *
    have e : wrap64 V = V := by unfold wrap64; omega
    rw [e] at hB'
    subst hB'
    refine ⟨hv0, hv1, ?_⟩
    by_cases hh : 128 ≤ B
    · rw [if_pos hh] at hA'
      exact .inr ⟨hh, by omega⟩
    · rw [if_neg hh] at hA'
      exact .inl ⟨hh, by omega⟩
theorem signs_46 (a g cap : Nat) (S : List Int) (mo : Int) (p : Nat) (w : World) (hm : PMem a g cap S mo w) (hp : p < 65536) (hl : S.length = 65536) :
    ∃ A B t : Int, (Calls Try.prog 23 #[.pointer (some ⟨a, 0, none⟩), .int .i64 46, .int .i64 p] w fun e w' => e = .returned (.tuple #[.int .i64 A, .int .i64 t]) ∧ w = w') ∧
      (Calls Try.prog 23 #[.pointer (some ⟨a, 0, none⟩), .int .i64 47, .int .i64 p] w fun e w' => e = .returned (.tuple #[.int .i64 B, .int .i64 t]) ∧ w = w') ∧
      (t = 4 ∨ (t = 0 ∧ ¬ (65536 - 2 : Int) < p)) ∧ 0 ≤ B ∧ B < 65536 ∧ ((¬ 32768 ≤ B ∧ bits .and .i64 B 4294967295 = A) ∨ (32768 ≤ B ∧ bits .and .i64 (B - 65536) 4294967295 = A)) := by
  obtain ⟨A, B, t, h1, h2, h3⟩ := width_loads (op := 46) (op1 := 47) (n := 2) (ty := 127) (by decide) (by decide) (by decide) (by decide) (by decide) a g cap S mo p w hm hp hl
  rcases h3 with ⟨rfl, rfl, rfl⟩ | ⟨rfl, hb, hA, hB⟩
  · exact ⟨0, 0, 4, h1, h2, .inl rfl, by decide, by decide, .inl ⟨by decide, by decide⟩⟩
  · refine ⟨A, B, 0, h1, h2, .inr ⟨rfl, by omega⟩, ?_⟩
    have hpl : (part S p 2).length = 2 := part_length (by omega)
    have hby := part_byte hm.byte p 2
    obtain ⟨hs, hv0, hv1⟩ := loadV_s2 (part S p 2) hpl hby 127
    have hu : loadV 2 127 false (part S p 2) = wrap64 (valB (part S p 2)) := by
      unfold loadV
      rw [Bool.false_and]
      rfl
    have hB' : B = wrap64 (valB (part S p 2)) := hB.trans hu
    have hA' := hA.trans hs
    clear hA hB hs hu h1 h2
    simp only [and_32]
    rw [if_pos (rfl : (127 : Int) = 127)] at hA'
    generalize valB (part S p 2) = V at *
    have e : wrap64 V = V := by unfold wrap64; omega
    rw [e] at hB'
    subst hB'
    refine ⟨hv0, hv1, ?_⟩
    by_cases hh : 32768 ≤ B
    · rw [if_pos hh] at hA'
      exact .inr ⟨hh, by omega⟩
    · rw [if_neg hh] at hA'
      exact .inl ⟨hh, by omega⟩
theorem signs_48 (a g cap : Nat) (S : List Int) (mo : Int) (p : Nat) (w : World) (hm : PMem a g cap S mo w) (hp : p < 65536) (hl : S.length = 65536) :
    ∃ A B t : Int, (Calls Try.prog 23 #[.pointer (some ⟨a, 0, none⟩), .int .i64 48, .int .i64 p] w fun e w' => e = .returned (.tuple #[.int .i64 A, .int .i64 t]) ∧ w = w') ∧
      (Calls Try.prog 23 #[.pointer (some ⟨a, 0, none⟩), .int .i64 49, .int .i64 p] w fun e w' => e = .returned (.tuple #[.int .i64 B, .int .i64 t]) ∧ w = w') ∧
      (t = 4 ∨ (t = 0 ∧ ¬ (65536 - 1 : Int) < p)) ∧ 0 ≤ B ∧ B < 256 ∧ ((¬ 128 ≤ B ∧ B = A) ∨ (128 ≤ B ∧ B - 256 = A)) := by
  obtain ⟨A, B, t, h1, h2, h3⟩ := width_loads (op := 48) (op1 := 49) (n := 1) (ty := 126) (by decide) (by decide) (by decide) (by decide) (by decide) a g cap S mo p w hm hp hl
  rcases h3 with ⟨rfl, rfl, rfl⟩ | ⟨rfl, hb, hA, hB⟩
  · exact ⟨0, 0, 4, h1, h2, .inl rfl, by decide, by decide, .inl ⟨by decide, by decide⟩⟩
  · refine ⟨A, B, 0, h1, h2, .inr ⟨rfl, by omega⟩, ?_⟩
    have hpl : (part S p 1).length = 1 := part_length (by omega)
    have hby := part_byte hm.byte p 1
    obtain ⟨hs, hv0, hv1⟩ := loadV_s1 (part S p 1) hpl hby 126
    have hu : loadV 1 126 false (part S p 1) = wrap64 (valB (part S p 1)) := by
      unfold loadV
      rw [Bool.false_and]
      rfl
    have hB' : B = wrap64 (valB (part S p 1)) := hB.trans hu
    have hA' := hA.trans hs
    clear hA hB hs hu h1 h2
    skip
    rw [if_neg (show ¬ ((126 : Int) = 127) by decide)] at hA'
    generalize valB (part S p 1) = V at *
    have e : wrap64 V = V := by unfold wrap64; omega
    rw [e] at hB'
    subst hB'
    refine ⟨hv0, hv1, ?_⟩
    by_cases hh : 128 ≤ B
    · rw [if_pos hh] at hA'
      exact .inr ⟨hh, by omega⟩
    · rw [if_neg hh] at hA'
      exact .inl ⟨hh, by omega⟩
theorem signs_50 (a g cap : Nat) (S : List Int) (mo : Int) (p : Nat) (w : World) (hm : PMem a g cap S mo w) (hp : p < 65536) (hl : S.length = 65536) :
    ∃ A B t : Int, (Calls Try.prog 23 #[.pointer (some ⟨a, 0, none⟩), .int .i64 50, .int .i64 p] w fun e w' => e = .returned (.tuple #[.int .i64 A, .int .i64 t]) ∧ w = w') ∧
      (Calls Try.prog 23 #[.pointer (some ⟨a, 0, none⟩), .int .i64 51, .int .i64 p] w fun e w' => e = .returned (.tuple #[.int .i64 B, .int .i64 t]) ∧ w = w') ∧
      (t = 4 ∨ (t = 0 ∧ ¬ (65536 - 2 : Int) < p)) ∧ 0 ≤ B ∧ B < 65536 ∧ ((¬ 32768 ≤ B ∧ B = A) ∨ (32768 ≤ B ∧ B - 65536 = A)) := by
  obtain ⟨A, B, t, h1, h2, h3⟩ := width_loads (op := 50) (op1 := 51) (n := 2) (ty := 126) (by decide) (by decide) (by decide) (by decide) (by decide) a g cap S mo p w hm hp hl
  rcases h3 with ⟨rfl, rfl, rfl⟩ | ⟨rfl, hb, hA, hB⟩
  · exact ⟨0, 0, 4, h1, h2, .inl rfl, by decide, by decide, .inl ⟨by decide, by decide⟩⟩
  · refine ⟨A, B, 0, h1, h2, .inr ⟨rfl, by omega⟩, ?_⟩
    have hpl : (part S p 2).length = 2 := part_length (by omega)
    have hby := part_byte hm.byte p 2
    obtain ⟨hs, hv0, hv1⟩ := loadV_s2 (part S p 2) hpl hby 126
    have hu : loadV 2 126 false (part S p 2) = wrap64 (valB (part S p 2)) := by
      unfold loadV
      rw [Bool.false_and]
      rfl
    have hB' : B = wrap64 (valB (part S p 2)) := hB.trans hu
    have hA' := hA.trans hs
    clear hA hB hs hu h1 h2
    skip
    rw [if_neg (show ¬ ((126 : Int) = 127) by decide)] at hA'
    generalize valB (part S p 2) = V at *
    have e : wrap64 V = V := by unfold wrap64; omega
    rw [e] at hB'
    subst hB'
    refine ⟨hv0, hv1, ?_⟩
    by_cases hh : 32768 ≤ B
    · rw [if_pos hh] at hA'
      exact .inr ⟨hh, by omega⟩
    · rw [if_neg hh] at hA'
      exact .inl ⟨hh, by omega⟩
theorem signs_52 (a g cap : Nat) (S : List Int) (mo : Int) (p : Nat) (w : World) (hm : PMem a g cap S mo w) (hp : p < 65536) (hl : S.length = 65536) :
    ∃ A B t : Int, (Calls Try.prog 23 #[.pointer (some ⟨a, 0, none⟩), .int .i64 52, .int .i64 p] w fun e w' => e = .returned (.tuple #[.int .i64 A, .int .i64 t]) ∧ w = w') ∧
      (Calls Try.prog 23 #[.pointer (some ⟨a, 0, none⟩), .int .i64 53, .int .i64 p] w fun e w' => e = .returned (.tuple #[.int .i64 B, .int .i64 t]) ∧ w = w') ∧
      (t = 4 ∨ (t = 0 ∧ ¬ (65536 - 4 : Int) < p)) ∧ 0 ≤ B ∧ B < 4294967296 ∧ ((¬ 2147483648 ≤ B ∧ B = A) ∨ (2147483648 ≤ B ∧ B - 4294967296 = A)) := by
  obtain ⟨A, B, t, h1, h2, h3⟩ := width_loads (op := 52) (op1 := 53) (n := 4) (ty := 126) (by decide) (by decide) (by decide) (by decide) (by decide) a g cap S mo p w hm hp hl
  rcases h3 with ⟨rfl, rfl, rfl⟩ | ⟨rfl, hb, hA, hB⟩
  · exact ⟨0, 0, 4, h1, h2, .inl rfl, by decide, by decide, .inl ⟨by decide, by decide⟩⟩
  · refine ⟨A, B, 0, h1, h2, .inr ⟨rfl, by omega⟩, ?_⟩
    have hpl : (part S p 4).length = 4 := part_length (by omega)
    have hby := part_byte hm.byte p 4
    obtain ⟨hs, hv0, hv1⟩ := loadV_s4 (part S p 4) hpl hby 126
    have hu : loadV 4 126 false (part S p 4) = wrap64 (valB (part S p 4)) := by
      unfold loadV
      rw [Bool.false_and]
      rfl
    have hB' : B = wrap64 (valB (part S p 4)) := hB.trans hu
    have hA' := hA.trans hs
    clear hA hB hs hu h1 h2
    skip
    rw [if_neg (show ¬ ((126 : Int) = 127) by decide)] at hA'
    generalize valB (part S p 4) = V at *
    have e : wrap64 V = V := by unfold wrap64; omega
    rw [e] at hB'
    subst hB'
    refine ⟨hv0, hv1, ?_⟩
    by_cases hh : 2147483648 ≤ B
    · rw [if_pos hh] at hA'
      exact .inr ⟨hh, by omega⟩
    · rw [if_neg hh] at hA'
      exact .inl ⟨hh, by omega⟩
theorem and_16 (x : Int) : bits .and .i64 x 65535 = x % 65536 := i64_mask x 65535 16 (by decide) (by decide)
theorem width_tup {op n ty : Int} {st : Bool} (h : Mem.width op = (n, ty, st)) (w : World) :
    Calls Try.prog 18 #[.int .i64 op] w fun e w' => e = .returned (.tuple #[.int .i64 n, .int .i64 ty, .bool st]) ∧ w = w' := by
  have := width_any op w
  unfold Mem.widthTup at this
  rw [h] at this
  exact this
set_option maxRecDepth 100000 in
set_option maxHeartbeats 4000000 in
theorem MemSigns_walk (x : Option Addr) (len cap0 : Nat) (ds : List DeedL) (at' : Int) (w : World) (hd : DeedIn w x len cap0 ds) :
    Calls Try.prog 6 #[.slice x len cap0, .int .i64 at'] w fun e w' => e = .returned (.bool true) ∧ Below w.heap.size w w' := by
  have HM := Lib.hid (made_in x len cap0 ds w hd)
  obtain ⟨p, hp⟩ : ∃ p : Nat, at' % 65536 = p := Int.eq_ofNat_of_zero_le (by omega)
  have e1 : bits .and .i64 at' 65535 = p := (and_16 at').trans hp
  have hp' : p < 65536 := by omega
  clear hp hd
  go_enter Try.func6, Try.ntmps6
  go_wp2_with (go_at_call 20; refine HM.out.mono ?_; rintro e w1 ⟨a, g, cap, S, rfl, h1, hl, hb1, ha1, hg1⟩; clear HM)
  have H1 := Lib.hid h1
  have HL := Lib.hid hl
  clear h1 hl
  go_loopw [6] (fun iv wr => ∃ z : Int, iv = .int .i64 z ∧ (z = 44 ∨ z = 46 ∨ z = 48 ∨ z = 50 ∨ z = 52 ∨ z = 54) ∧ w1 = wr) (fun iv _ => 60 - (intOf iv).toNat)
  case atStart => exact ⟨44, rfl, .inl rfl, rfl⟩
  case round =>
    obtain ⟨z, rfl, hz, rfl⟩ := hrel
    rcases hz with rfl | rfl | rfl | rfl | rfl | rfl
    · obtain ⟨A, B, t, h1, h2, h3, h4, h5, h6⟩ := signs_44 a g cap S 2 p w1 H1.out hp' HL.out
      have L1 := Lib.hid h1
      have L2 := Lib.hid h2
      have HW := Lib.hid (width_tup (op := 44) (n := 1) (ty := 127) (st := false) (by decide) w1)
      clear h1 h2
      rcases h3 with rfl | ⟨rfl, h3⟩
      all_goals
        rcases h6 with ⟨h6, h7⟩ | ⟨h6, h7⟩
        all_goals
          go_wp2_with (first
            | (go_at_call 18; refine HW.out.mono ?_; rintro e w2 ⟨rfl, rfl⟩)
            | (go_at_call 23; refine L1.out.mono ?_; rintro e w2 ⟨rfl, rfl⟩; clear L1)
            | (go_at_call 23; refine L2.out.mono ?_; rintro e w2 ⟨rfl, rfl⟩; clear L2))
          exact ⟨⟨46, rfl, .inr (.inl rfl), trivial⟩, by simp [intOf]⟩
    · obtain ⟨A, B, t, h1, h2, h3, h4, h5, h6⟩ := signs_46 a g cap S 2 p w1 H1.out hp' HL.out
      have L1 := Lib.hid h1
      have L2 := Lib.hid h2
      have HW := Lib.hid (width_tup (op := 46) (n := 2) (ty := 127) (st := false) (by decide) w1)
      clear h1 h2
      rcases h3 with rfl | ⟨rfl, h3⟩
      all_goals
        rcases h6 with ⟨h6, h7⟩ | ⟨h6, h7⟩
        all_goals
          go_wp2_with (first
            | (go_at_call 18; refine HW.out.mono ?_; rintro e w2 ⟨rfl, rfl⟩)
            | (go_at_call 23; refine L1.out.mono ?_; rintro e w2 ⟨rfl, rfl⟩; clear L1)
            | (go_at_call 23; refine L2.out.mono ?_; rintro e w2 ⟨rfl, rfl⟩; clear L2))
          exact ⟨⟨48, rfl, .inr (.inr (.inl rfl)), trivial⟩, by simp [intOf]⟩
    · obtain ⟨A, B, t, h1, h2, h3, h4, h5, h6⟩ := signs_48 a g cap S 2 p w1 H1.out hp' HL.out
      have L1 := Lib.hid h1
      have L2 := Lib.hid h2
      have HW := Lib.hid (width_tup (op := 48) (n := 1) (ty := 126) (st := false) (by decide) w1)
      clear h1 h2
      rcases h3 with rfl | ⟨rfl, h3⟩
      all_goals
        rcases h6 with ⟨h6, rfl⟩ | ⟨h6, rfl⟩
        all_goals
          go_wp2_with (first
            | (go_at_call 18; refine HW.out.mono ?_; rintro e w2 ⟨rfl, rfl⟩)
            | (go_at_call 23; refine L1.out.mono ?_; rintro e w2 ⟨rfl, rfl⟩; clear L1)
            | (go_at_call 23; refine L2.out.mono ?_; rintro e w2 ⟨rfl, rfl⟩; clear L2))
          exact ⟨⟨50, rfl, .inr (.inr (.inr (.inl rfl))), trivial⟩, by simp [intOf]⟩
    · obtain ⟨A, B, t, h1, h2, h3, h4, h5, h6⟩ := signs_50 a g cap S 2 p w1 H1.out hp' HL.out
      have L1 := Lib.hid h1
      have L2 := Lib.hid h2
      have HW := Lib.hid (width_tup (op := 50) (n := 2) (ty := 126) (st := false) (by decide) w1)
      clear h1 h2
      rcases h3 with rfl | ⟨rfl, h3⟩
      all_goals
        rcases h6 with ⟨h6, rfl⟩ | ⟨h6, rfl⟩
        all_goals
          go_wp2_with (first
            | (go_at_call 18; refine HW.out.mono ?_; rintro e w2 ⟨rfl, rfl⟩)
            | (go_at_call 23; refine L1.out.mono ?_; rintro e w2 ⟨rfl, rfl⟩; clear L1)
            | (go_at_call 23; refine L2.out.mono ?_; rintro e w2 ⟨rfl, rfl⟩; clear L2))
          exact ⟨⟨52, rfl, .inr (.inr (.inr (.inr (.inl rfl)))), trivial⟩, by simp [intOf]⟩
    · obtain ⟨A, B, t, h1, h2, h3, h4, h5, h6⟩ := signs_52 a g cap S 2 p w1 H1.out hp' HL.out
      have L1 := Lib.hid h1
      have L2 := Lib.hid h2
      have HW := Lib.hid (width_tup (op := 52) (n := 4) (ty := 126) (st := false) (by decide) w1)
      clear h1 h2
      rcases h3 with rfl | ⟨rfl, h3⟩
      all_goals
        rcases h6 with ⟨h6, rfl⟩ | ⟨h6, rfl⟩
        all_goals
          go_wp2_with (first
            | (go_at_call 18; refine HW.out.mono ?_; rintro e w2 ⟨rfl, rfl⟩)
            | (go_at_call 23; refine L1.out.mono ?_; rintro e w2 ⟨rfl, rfl⟩; clear L1)
            | (go_at_call 23; refine L2.out.mono ?_; rintro e w2 ⟨rfl, rfl⟩; clear L2))
          exact ⟨⟨54, rfl, .inr (.inr (.inr (.inr (.inr rfl)))), trivial⟩, by simp [intOf]⟩
    · go_wp2_with (go_at_call 12; refine (awake_any _).mono ?_; rintro e w6 ⟨rfl, hb6⟩)
      go_ret
      exact ⟨rfl, hb1.trans (hb6.mono hb1.size)⟩
end Go.Proofs.Ytogkieekpmcinaa
