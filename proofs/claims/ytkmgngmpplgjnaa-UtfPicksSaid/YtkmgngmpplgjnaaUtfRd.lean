/- The project's own reading. -/
import Derived.Test.YtkmgngmpplgjnaaUtfFst8
import Derived.Test.YtkmgngmpplgjnaaUtfReadX
namespace Go.Proofs.Ytkmgngmpplgjnaa
open Go.RowKit

set_option maxRecDepth 100000 in
theorem first8_one (s : ByteArray) (hs : 1 ≤ s.size) (c1 : (bl s).getD 0 0 < 128) (w : World) :
    Calls Try.prog 29 #[.string s] w fun e w' => GivesFirst 0 s w e w' := by
  obtain ⟨B0, e0⟩ : ∃ B : Nat, s[0].toNat = B := ⟨_, rfl⟩
  have g0 := bl_get s 0 (by omega)
  have b0 : B0 < 256 := e0 ▸ UInt8.toNat_lt _
  rw [e0] at g0
  have hl := bl_length s
  have HF : Hid (Utf.First 0 (bl s) (B0 : Int) 1) := Lib.hid (g0 ▸ Utf.First.one0 (by omega) (by omega) c1)
  rw [g0] at c1
  have hsc : Utf.scal (B0 : Int) = true := decide_eq_true (by omega)
  have hz : Utf.szL 0 (B0 : Int) = 1 := by
    unfold Utf.szL
    repeat' split
    all_goals omega
  have HS : Hid (∀ w, Calls Try.prog 19 #[.int .i64 (B0 : Int)] w fun e w' => e = .returned (.bool true) ∧ w = w') := Lib.hid fun w => hsc ▸ scalar_any _ w
  have HW : Hid (∀ w, Calls Try.prog 32 #[.int .i64 0, .int .i64 (B0 : Int)] w fun e w' => e = .returned (.int .i64 1) ∧ w = w') := Lib.hid fun w => hz ▸ width_any 0 _ w
  clear g0 hl hsc hz
  go_enter Try.func29, Try.ntmps29
  go_wp2_with (go_at_call 36; refine (headU_1 (B0 : Int) c1 _).mono ?_; rintro e w1 ⟨rfl, rfl⟩)
  refine wp_loop_rounds 1 ?_
  rw [rounds_succ]
  go_wp2_with (first
    | (go_at_call 19; refine (HS.out _).mono ?_; rintro e w1 ⟨rfl, rfl⟩)
    | (go_at_call 32; refine (HW.out _).mono ?_; rintro e w1 ⟨rfl, rfl⟩))
  go_ret2
  exact ⟨_, 1, rfl, HF.out, Below.refl _ _⟩
theorem first8_any (s : ByteArray) (hs : 1 ≤ s.size) (w : World) :
    Calls Try.prog 29 #[.string s] w fun e w' => GivesFirst 0 s w e w' := by
  have hb := bl_byte s 0 (by omega)
  have d (i : Nat) : (bl s).getD i 0 / 64 = 2 ∨ (bl s).getD i 0 / 64 ≠ 2 := by omega
  by_cases h1 : (bl s).getD 0 0 < 128
  · exact first8_one s hs h1 w
  by_cases h2 : (bl s).getD 0 0 < 192
  · exact first8_0a s hs (by omega) h2 w
  by_cases h3 : (bl s).getD 0 0 < 224
  · by_cases n : s.size < 2
    · exact first8_short2 s hs (by omega) h3 n w
    · rcases d 1 with d1 | d1
      · exact first8_good2 s (by omega) (by omega) h3 d1 w
      · exact first8_bad21 s (by omega) (by omega) h3 d1 w
  by_cases h4 : (bl s).getD 0 0 < 240
  · by_cases n : s.size < 3
    · exact first8_short3 s hs (by omega) h4 n w
    · rcases d 1 with d1 | d1
      · rcases d 2 with d2 | d2
        · exact first8_good3 s (by omega) (by omega) h4 d1 d2 w
        · exact first8_bad32 s (by omega) (by omega) h4 d1 d2 w
      · exact first8_bad31 s (by omega) (by omega) h4 d1 w
  by_cases h5 : (bl s).getD 0 0 < 248
  · by_cases n : s.size < 4
    · exact first8_short4 s hs (by omega) h5 n w
    · rcases d 1 with d1 | d1
      · rcases d 2 with d2 | d2
        · rcases d 3 with d3 | d3
          · exact first8_good4 s (by omega) (by omega) h5 d1 d2 d3 w
          · exact first8_bad43 s (by omega) (by omega) h5 d1 d2 d3 w
        · exact first8_bad42 s (by omega) (by omega) h5 d1 d2 w
      · exact first8_bad41 s (by omega) (by omega) h5 d1 w
  · exact first8_0b s hs (by omega) w
set_option maxRecDepth 100000 in
theorem first_any (form : Int) (s : ByteArray) (hs : 1 ≤ s.size) (w : World) :
    Calls Try.prog 25 #[.int .i64 form, .string s] w fun e w' => GivesFirst form s w e w' := by
  rcases form_parts form with ⟨rfl, _⟩ | ⟨rfl, _⟩ | ⟨rfl, _⟩ | ⟨hf, f0, f1, f2, _⟩
  · go_enter Try.func25, Try.ntmps25
    go_wp2_with (go_at_call 29; refine (first8_any s hs _).mono ?_; rintro e w1 ⟨p, n, rfl, hF, hb⟩)
    go_ret2
    exact ⟨p, n, rfl, hF, hb⟩
  · go_enter Try.func25, Try.ntmps25
    go_wp2_with (go_at_call 34; refine (first16_any s _).mono ?_; rintro e w1 ⟨p, n, rfl, hF, hb⟩)
    go_ret2
    exact ⟨p, n, rfl, hF, hb⟩
  · obtain ⟨B0, e0⟩ : ∃ B : Nat, s[0].toNat = B := ⟨_, rfl⟩
    have g0 := bl_get s 0 (by omega)
    have b0 : B0 < 256 := e0 ▸ UInt8.toNat_lt _
    rw [e0] at g0
    have hl := bl_length s
    have HF : Hid (Utf.First 2 (bl s) (B0 : Int) 1) := Lib.hid (g0 ▸ Utf.First.one2 (by omega) (by omega) (by omega))
    clear g0 hl
    go_enter Try.func25, Try.ntmps25
    go_wp2_with fail
    go_ret2
    exact ⟨_, 1, rfl, HF.out, Below.refl _ _⟩
  · have HF := Lib.hid (Utf.First.other hf (bl s) 0)
    clear hf
    go_enter Try.func25, Try.ntmps25
    go_wp2_with fail
    go_ret2
    exact ⟨0, 0, rfl, HF.out, Below.refl _ _⟩

theorem first_le {form p : Int} {r : ByteArray} {n : Nat} (hF : Utf.First form (bl r) p n) : n ≤ r.size := by
  rcases hF with ⟨h, _⟩ | ⟨_, h, _⟩
  · omega
  · rw [bl_length] at h
    exact h
/-- What one character's bytes leave of a text. -/
theorem first_step {form p : Int} {r s : ByteArray} {acc : List Int} {n : Nat} (hF : Utf.First form (bl r) p n) (h0 : n ≠ 0) (hbl : bl s = Utf.catL form acc ++ bl r) :
    Utf.oneL form p ≠ [] ∧ bl s = Utf.catL form (acc ++ [p]) ++ bl (r.extract n r.size) ∧ (r.extract n r.size).size < r.size := by
  obtain ⟨hn1, hn2, hn3⟩ := hF.resolve_left (fun h => h0 h.1)
  rw [bl_length] at hn2
  refine ⟨?_, ?_, ?_⟩
  · intro h
    have := congrArg List.length (h.symm.trans hn3)
    rw [List.length_take, bl_length] at this
    simp at this
    omega
  · rw [bl_drop, Utf.catL_snoc, List.append_assoc, hn3, List.take_append_drop]
    exact hbl
  · rw [ByteArray.size_extract]
    omega
set_option maxRecDepth 100000 in
set_option maxHeartbeats 1000000 in
theorem read_any (form : Int) (s : ByteArray) (hs : s.size ≤ 100000) (w : World) :
    Calls Try.prog 11 #[.int .i64 form, .string s] w fun e w' => GivesRead w.heap.size form s w e w' := by
  obtain ⟨i0, hi, hz0, hz1, hz2⟩ := info_parts info_int
  go_enter Try.func11, Try.ntmps11
  go_wp2_with fail
  go_loopw [1, 6, 7, 8] (fun sv lv _ _ wr => ReadAt w.heap.size form s w sv lv wr) (fun sv _ _ _ _ => strLen sv)
  case atStart => exact ⟨s, [], rfl, rfl, rfl, by simp, World.ownsRow_nil _ _ _ _, Below.refl _ _⟩
  case round =>
    obtain ⟨r, acc, rfl, hbl, hall, hsz, hown, hbel⟩ := hrel
    have HBL := Lib.hid hbl
    have HAL := Lib.hid hall
    have HOWN := Lib.hid hown
    have hsl := hbel.size
    clear hbl hall hown
    by_cases hpos : 0 < r.size
    · have hbr : bl r ≠ [] := fun h => by have := bl_nil h; omega
      have hemp : r.toList.isEmpty = false := by
        have := Utf.toList_ne hbr
        rw [bl_back] at this
        exact this
      clear hbr
      go_wp2_with (go_at_call 25; refine (first_any form r hpos _).mono ?_; rintro e w1 ⟨p, n, rfl, hF, hb1⟩)
      · rename_i hn
        have hn0 : n = 0 := by simpa using hn
        have hN : Utf.NoHead form (bl r) := by
          rcases hF with h | ⟨h, _⟩
          · exact h.2
          · omega
        have hbr : bl r ≠ [] := fun h => by have := bl_nil h; omega
        have HN := Lib.hid (Utf.reads_none HAL.out hbr hN)
        rw [← HBL.out] at HN
        go_ret2
        exact ⟨.slice none 0 0, false, [], rfl, World.ownsRow_nil _ _ _ _, hbel.trans (hb1.mono hsl), .inr ⟨rfl, rfl, HN.out⟩⟩
      · rename_i hn
        have hn0 : n ≠ 0 := by
          intro h
          subst h
          simp at hn
        have hnr := first_le hF
        obtain ⟨hne, hbl2, hlen⟩ := first_step hF hn0 HBL.out
        have HX : Hid (∀ v' w', Ints w.heap.size v' (acc ++ [p]) w' → Below w.heap.size w w' → ReadAt w.heap.size form s w (.string (r.extract n r.size)) v' w') := Lib.hid fun v' w' h1 h2 =>
          ⟨_, _, rfl, hbl2, Utf.allW_snoc HAL.out hne, by rw [List.length_append, List.length_singleton, ByteArray.size_extract]; omega, h1, h2⟩
        have HLN := Lib.hid hlen
        have q3 : acc.length + 1 ≤ maxLen := by unfold maxLen; omega
        have q4 : (acc.length + 1) * 8 ≤ 140737488355328 := by omega
        have hbw : Below w.heap.size w w1.drew := (hbel.trans (hb1.mono hsl)).drew
        have hown3 : Ints w.heap.size u6 acc w1.drew := World.ownsRow.drew (Ints.below HOWN.out hb1)
        have hsl3 : w.heap.size ≤ w1.drew.heap.size := hbw.size
        have HB := Lib.hid hbw
        have HO := Lib.hid hown3
        clear hn hF hne hbl2 hbw hown3 hb1 hbel hlen
        go_region_law (refine step_append_own rfl _ _ 23 rfl w.heap.size 3 i0 (.int .i64 0) 1 8 Try.underlying23 hi hz0 hz1 hz2 rfl (by decide) u6 acc.length (acc.map (Value.int .i64)) rfl (World.ownsRow.alloc HO.out _) ⟨w1.drew.heap.size, 0, none⟩ 1 1 [.int .i64 p] rfl rfl (cell_one_new _ _ _) (one_i64 _) q3 q4 (le_alloc hsl3) ?_; intro v' w2 hown4 hg4)
        all_goals
          exact ⟨⟨_, _, _, _, _, _, _, _, _, _, _, _, _, _, _, _, _, _, _, _, _, _, _, HX.out v' w2 (Ints.snoc hown4) (grown_below' (ys := acc) HO.out HB.out (Nat.le_refl _) hg4), rfl⟩, HLN.out⟩
    · have hr0 : r.size = 0 := by omega
      have hb0 : bl r = [] := List.length_eq_zero_iff.1 (by rw [bl_length, hr0])
      have hemp : r.toList.isEmpty = true := by
        have h : r = strOfNums [] := by rw [← hb0, bl_back]
        rw [h, ByteArray.toList_eq]
        rfl
      have hR : Utf.catL form acc = bl s := by rw [HBL.out, hb0, List.append_nil]
      have hx : (Utf.inForm form = true ∧ Utf.Reads form (bl s) acc) ∨ (Utf.inForm form = false ∧ acc = []) := by
        by_cases hf : Utf.inForm form = true
        · exact .inl ⟨hf, hf, HAL.out, hR⟩
        · refine .inr ⟨not_true hf, ?_⟩
          cases acc with
          | nil => rfl
          | cons a l =>
            exfalso
            have h1 := (Utf.allW_cons HAL.out).1
            have h2 := Utf.form_of h1
            exact hf (decide_eq_true (by omega))
      clear hb0 hR
      go_wp2_with (go_at_call 26; refine (isForm_any form _).mono ?_; rintro e w1 ⟨rfl, rfl⟩)
      go_ret2
      rcases hx with ⟨hf, hR⟩ | ⟨hf, rfl⟩
      · exact ⟨_, _, _, rfl, HOWN.out, hbel, .inl ⟨hf, hR⟩⟩
      · exact ⟨_, _, _, rfl, HOWN.out, hbel, .inr ⟨hf, rfl, Utf.reads_form hf _⟩⟩

set_option maxRecDepth 100000 in
set_option maxHeartbeats 1000000 in
theorem valid_any (s : ByteArray) (w : World) :
    Calls Try.prog 14 #[.string s] w fun e w' => ∃ b, e = .returned (.bool b) ∧ Below w.heap.size w w' ∧ ((b = true ∧ ∃ ps, Utf.Reads 0 (bl s) ps) ∨ (b = false ∧ ∀ ps, ¬ Utf.Reads 0 (bl s) ps)) := by
  go_enter Try.func14, Try.ntmps14
  go_wp2_with fail
  go_loopw [0, 4] (fun sv _ wr => ∃ (r : ByteArray) (acc : List Int), sv = .string r ∧ bl s = Utf.catL 0 acc ++ bl r ∧ Utf.allW 0 acc = true ∧ Below w.heap.size w wr) (fun sv _ _ => strLen sv)
  case atStart => exact ⟨s, [], rfl, rfl, rfl, Below.refl _ _⟩
  case round =>
    obtain ⟨r, acc, rfl, hbl, hall, hbel⟩ := hrel
    have HBL := Lib.hid hbl
    have HAL := Lib.hid hall
    have hsl := hbel.size
    clear hbl hall
    by_cases hpos : 0 < r.size
    · have hbr : bl r ≠ [] := fun h => by have := bl_nil h; omega
      have hemp : r.toList.isEmpty = false := by
        have := Utf.toList_ne hbr
        rw [bl_back] at this
        exact this
      clear hbr
      go_wp2_with (go_at_call 29; refine (first8_any r hpos _).mono ?_; rintro e w1 ⟨p, n, rfl, hF, hb1⟩; have hnr := first_le hF)
      · rename_i hn
        have hn0 : n = 0 := by simpa using hn
        have hN : Utf.NoHead 0 (bl r) := by
          rcases hF with h | ⟨h, _⟩
          · exact h.2
          · omega
        have hbr : bl r ≠ [] := fun h => by have := bl_nil h; omega
        have HN := Lib.hid (Utf.reads_none HAL.out hbr hN)
        rw [← HBL.out] at HN
        go_ret
        exact ⟨false, rfl, hbel.trans (hb1.mono hsl), .inr ⟨rfl, HN.out⟩⟩
      · rename_i hn
        have hn0 : n ≠ 0 := by
          intro h
          subst h
          simp at hn
        obtain ⟨hne, hbl2, hlen⟩ := first_step hF hn0 HBL.out
        exact ⟨⟨_, _, rfl, hbl2, Utf.allW_snoc HAL.out hne, hbel.trans (hb1.mono hsl)⟩, hlen⟩
    · have hr0 : r.size = 0 := by omega
      have hb0 : bl r = [] := List.length_eq_zero_iff.1 (by rw [bl_length, hr0])
      have hemp : r.toList.isEmpty = true := by
        have h : r = strOfNums [] := by rw [← hb0, bl_back]
        rw [h, ByteArray.toList_eq]
        rfl
      have hR : Utf.Reads 0 (bl s) acc := ⟨rfl, HAL.out, by rw [HBL.out, hb0, List.append_nil]⟩
      have HR := Lib.hid hR
      clear hb0 hR
      go_wp2_with fail
      go_ret
      exact ⟨true, rfl, hbel, .inl ⟨rfl, _, HR.out⟩⟩
end Go.Proofs.Ytkmgngmpplgjnaa
