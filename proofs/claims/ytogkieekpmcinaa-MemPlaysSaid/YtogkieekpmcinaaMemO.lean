/- A memory of a page behind deeds. -/
import Derived.Test.YtogkieekpmcinaaMemN
namespace Go.Proofs.Ytogkieekpmcinaa
open Go.RowKit

theorem inB_le {n : Nat} {at' k : Int} (h : inB n at' k = true) : 0 ≤ at' ∧ 0 ≤ k ∧ at' ≤ n ∧ k ≤ n - at' := of_decide_eq_true h
theorem storeS_length (S : List Int) (op at' v : Int) : (storeS S op at' v).length = S.length := by
  unfold storeS storeOk
  split
  · rename_i h
    rw [Bool.and_eq_true] at h
    have := inB_le h.2
    exact patch_length (by rw [leB_length]; omega)
  · rfl
theorem writeS_length (S : List Int) (at' : Int) (s : ByteArray) : (writeS S at' s).length = S.length := by
  unfold writeS
  split
  · rename_i h
    have := inB_le h
    exact patch_length (by rw [bytesL_length]; omega)
  · rfl
theorem fillS_length (S : List Int) (at' v k : Int) : (fillS S at' v k).length = S.length := by
  unfold fillS
  split
  · rename_i h
    have := inB_le h
    exact patch_length (by rw [List.length_replicate]; omega)
  · rfl
theorem copyS_length (S : List Int) (at' : Int) (R : List Int) (place k : Int) : (copyS S at' R place k).length = S.length := by
  unfold copyS copyOk
  split
  · rename_i h
    rw [Bool.and_eq_true] at h
    have h1 := inB_le h.1
    have h2 := inB_le h.2
    exact patch_length (by rw [part_length (by omega)]; omega)
  · rfl
set_option maxRecDepth 100000 in
set_option maxHeartbeats 2000000 in
theorem made_any (x : Option Addr) (cap0 : Nat) (ds : List DeedL) (w : World) (h : DeedRow 0 w x ds) (hl : ds.length ≤ cap0) (hc : cap0 ≤ 9223372036854775807) :
    Calls Try.prog 20 #[.slice x ds.length cap0] w fun e w' => ∃ a g cap S, e = .returned (.pointer (some ⟨a, 0, none⟩)) ∧ PMem a g cap S 2 w' ∧ S.length = 65536 ∧ Below w.heap.size w w' ∧ w.heap.size ≤ a ∧ w.heap.size ≤ g := by
  obtain ⟨n, hn⟩ : ∃ n, n = ds.length := ⟨_, rfl⟩
  have HS : Hid (∀ w', Below w.heap.size w w' → Calls Try.prog 13 #[.slice x n cap0] w' fun e w2 => ∃ y cap', e = .returned (.slice y (someL ds).length cap') ∧ DeedRow w'.heap.size w2 y (someL ds) ∧ Below w'.heap.size w' w2) := Lib.hid fun w' hb => hn ▸ some_any x cap0 ds w' (h.kept (Kept.of_below (F := fun _ => False) hb) (fun _ _ => id)) hl hc
  rw [← hn]
  have HSL := Lib.hid (someL_length ds)
  clear h hl hn
  have HN1 := Lib.hid (new_yes 1 2 (by decide))
  have HN2 := Lib.hid (new_yes 1 1 (by decide))
  obtain ⟨S0, hS0⟩ : ∃ S, S = List.replicate (1 * 65536) (0 : Int) := ⟨_, rfl⟩
  have HRL : Hid (S0.length = 65536) := Lib.hid (by rw [hS0, List.length_replicate])
  rw [← hS0] at HN1 HN2
  clear hS0
  obtain ⟨L, hL⟩ : ∃ L, L = (someL ds).length := ⟨_, rfl⟩
  rw [← hL] at HS HSL
  have hL60 : L ≤ 60 := by have := HSL.out; omega
  have HL := Lib.hid hL
  clear hL
  go_enter Try.func20, Try.ntmps20
  go_wp2_with (first
    | (go_at_call 9; refine (HN1.out _).mono ?_; rintro e w1 ⟨a, g, cap, rfl, h1, hb1, ha1, hg1⟩; have H1 := Lib.hid h1; clear h1 HN1)
    | (go_at_call 9; refine (HN2.out _).mono ?_; rintro e w2 ⟨a2, g2, cap2, rfl, h2, hb2, ha2, hg2⟩; clear h2 HN2)
    | (go_at_call 13; refine (HS.out _ (hb1.trans (hb2.mono hb1.size))).mono ?_; rintro e w3 ⟨y, cap3, rfl, hrow, hb3⟩; clear HS))
  have HBW := Lib.hid (hb1.trans ((hb2.mono hb1.size).trans (hb3.mono (Nat.le_trans hb1.size hb2.size))))
  have H3 : Hid (PMem a g cap S0 2 w3) := Lib.hid (H1.out.kept (Kept.of_below (F := fun _ => False) (hb2.trans (hb3.mono hb2.size))) id id)
  have hglt : g < w2.heap.size := Nat.lt_of_lt_of_le H1.out.glt hb2.size
  have HROW := Lib.hid hrow
  clear hb1 hb2 hb3 hrow H1 ha2 hg2
  go_loopw [7] (fun iv wr => ∃ (i : Nat) (S : List Int), iv = .int .i64 i ∧ i ≤ L ∧ PMem a g cap S 2 wr ∧ S.length = 65536 ∧ Kept (· = g) w3 wr) (fun iv _ => L - (intOf iv).toNat)
  case atStart => exact ⟨0, S0, rfl, by omega, H3.out, HRL.out, Kept.refl _ _⟩
  case round =>
    obtain ⟨i, S, rfl, hiL, hm, hSl, hk3⟩ := hrel
    have HM : Hid (∀ w', Below wr.heap.size wr w' → PMem a g cap S 2 w') := Lib.hid fun w' hb => hm.kept (Kept.of_below (F := fun _ => False) hb) id id
    have HSL2 := Lib.hid hSl
    have HK := Lib.hid hk3
    clear hSl
    by_cases hlt : i < L
    · have hr2 := HROW.out.kept hk3 (fun b hb hbg => by omega)
      rcases hr2.2 with h0 | ⟨b, off, hy, hBb, hb, hcells⟩
      · have := HL.out
        omega
      · have hl := hcells i (by rw [← HL.out]; exact hlt)
        have hok : ((someL ds).getD i default).ok := hr2.1 _ (by rw [List.getD_eq_getElem?_getD, List.getElem?_eq_getElem (by rw [← HL.out]; exact hlt)]; exact List.getElem_mem _)
        clear hcells hr2 hk3 hm
        subst hy
        revert hl hok
        generalize (someL ds).getD i default = d
        intro hl hok
        have HA := Lib.hid (aimed_any d 65536 (by decide) (by decide) wr)
        have hok2 := aimD_ok hok 65536 (by decide) (by decide)
        revert HA hok2
        generalize aimD d 65536 = d2
        intro HA hok2
        obtain ⟨k0, o0, at0, p0, v0, nn0, s0, near0⟩ := d
        obtain ⟨c0, c1, c2, c3, c4, c5, c6, c7⟩ := hl
        obtain ⟨k, o, at', p, v, nn, s, near⟩ := d2
        have hat : at' ≤ 9223372036854775807 := hok2.at1.2
        unfold DeedL.val at HA
        dsimp only at c0 c1 c2 c3 c4 c5 c6 c7 HA
        clear hok hok2
        have HEND : Hid (∀ w5, Below wr.heap.size wr w5 → ∃ (j : Nat) (S : List Int), Value.int .i64 ((i : Int) + 1) = .int .i64 j ∧ j ≤ L ∧ PMem a g cap S 2 w5 ∧ S.length = 65536 ∧ Kept (· = g) w3 w5) := Lib.hid fun w5 hb5 => ⟨i + 1, S, by go_num, by omega, HM.out _ hb5, HSL2.out, HK.out.trans (Kept.of_below hb5)⟩
        have HEND2 : Hid (∀ w5 w6 S', Below wr.heap.size wr w5 → PMem a g cap S' 2 w6 → Kept (· = g) w5 w6 → S'.length = S.length → ∃ (j : Nat) (S : List Int), Value.int .i64 ((i : Int) + 1) = .int .i64 j ∧ j ≤ L ∧ PMem a g cap S 2 w6 ∧ S.length = 65536 ∧ Kept (· = g) w3 w6) := Lib.hid fun w5 w6 S' hb5 h6 k6 hl6 => ⟨i + 1, S', by go_num, by omega, h6, hl6.trans HSL2.out, (HK.out.trans (Kept.of_below hb5)).trans k6⟩
        by_cases hk : k = 0
        · subst hk
          go_wp2_with (first
            | (go_at_call 15; refine HA.out.mono ?_; rintro e w5 ⟨rfl, hb5⟩)
            | (go_at_call 22; refine (store_any a g cap S 2 _ _ _ _ (HM.out _ (hb5.alloc hb5.size _)) hat).mono ?_; rintro e w6 ⟨rfl, h6, k6⟩))
          exact ⟨HEND2.out _ _ _ (hb5.alloc hb5.size _) h6 k6 (storeS_length ..), by simp [intOf]; omega⟩
        have hk0 : (k == 0) = false := by simpa using hk
        clear hk
        by_cases hk : k = 1
        · subst hk
          go_wp2_with (first
            | (go_at_call 15; refine HA.out.mono ?_; rintro e w5 ⟨rfl, hb5⟩)
            | (go_at_call 22; refine (store_any a g cap S 2 _ _ _ _ (HM.out _ (hb5.alloc hb5.size _)) hat).mono ?_; rintro e w6 ⟨rfl, h6, k6⟩))
          exact ⟨HEND2.out _ _ _ (hb5.alloc hb5.size _) h6 k6 (storeS_length ..), by simp [intOf]; omega⟩
        have hk1 : (k == 1) = false := by simpa using hk
        clear hk
        by_cases hk : k = 4
        · subst hk
          go_wp2_with (first
            | (go_at_call 15; refine HA.out.mono ?_; rintro e w5 ⟨rfl, hb5⟩)
            | (go_at_call 28; refine (write_any a g cap S 2 _ _ _ (HM.out _ (hb5.alloc hb5.size _)) hat).mono ?_; rintro e w6 ⟨rfl, h6, k6⟩))
          exact ⟨HEND2.out _ _ _ (hb5.alloc hb5.size _) h6 k6 (writeS_length ..), by simp [intOf]; omega⟩
        have hk4 : (k == 4) = false := by simpa using hk
        clear hk
        by_cases hk : k = 6
        · subst hk
          go_wp2_with (first
            | (go_at_call 15; refine HA.out.mono ?_; rintro e w5 ⟨rfl, hb5⟩)
            | (go_at_call 29; refine (fill_any a g cap S 2 _ _ _ _ (HM.out _ (hb5.alloc hb5.size _)) hat).mono ?_; rintro e w6 ⟨rfl, h6, k6⟩))
          exact ⟨HEND2.out _ _ _ (hb5.alloc hb5.size _) h6 k6 (fillS_length ..), by simp [intOf]; omega⟩
        have hk6 : (k == 6) = false := by simpa using hk
        clear hk
        go_wp2_with (go_at_call 15; refine HA.out.mono ?_; rintro e w5 ⟨rfl, hb5⟩)
        exact ⟨HEND.out _ (hb5.alloc hb5.size _), by simp [intOf]; omega⟩
    · have hje : i = L := by omega
      subst hje
      go_wp2_with fail
      go_ret
      exact ⟨a, g, cap, S, rfl, hm, HSL2.out, HBW.out.trans (hk3.below HBW.out.size fun b hb => hb ▸ hg1), ha1, hg1⟩
end Go.Proofs.Ytogkieekpmcinaa
