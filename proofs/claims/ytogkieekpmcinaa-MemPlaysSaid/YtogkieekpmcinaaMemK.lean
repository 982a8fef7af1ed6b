/- The chapter's example, and the statements of widths and of no memory. -/
import Derived.Test.YtogkieekpmcinaaMemJ
namespace Go.Proofs.Ytogkieekpmcinaa
open Go.RowKit

theorem part_patch {S bs : List Int} {p k : Nat} (hp : p + bs.length ≤ S.length) (hk : k ≤ bs.length) : part (patch S p bs) p k = bs.take k := by
  unfold part patch
  have h1 : (S.take p).length = p := by rw [List.length_take]; omega
  rw [List.append_assoc, List.drop_append, h1, Nat.sub_self, List.drop_zero, List.drop_of_length_le (by omega), List.nil_append, List.take_append, show k - bs.length = 0 by omega, List.take_zero, List.append_nil]
theorem leB_m2 : leB (-2) 4 = [254, 255, 255, 255] := by decide
theorem width_54 : Mem.width 54 = (4, 127, true) := by decide
theorem store_first (a g cap : Nat) (S : List Int) (mo : Int) (w : World) (h : PMem a g cap S mo w) (hl : S.length = 65536) :
    Calls Try.prog 22 #[.pointer (some ⟨a, 0, none⟩), .int .i64 54, .int .i64 4, .int .i64 (-2)] w fun e w' => e = .returned (.int .i64 0) ∧ PMem a g cap (patch S 4 [254, 255, 255, 255]) mo w' ∧ Kept (· = g) w w' := by
  have h1 := store_any a g cap S mo 54 4 (-2) w h (by omega)
  have hi : inB S.length 4 4 = true := decide_eq_true (by omega)
  have hok : storeOk S 54 4 = true := by
    unfold storeOk
    rw [width_54]
    exact hi
  unfold storeT storeS at h1
  rw [if_pos hok, if_pos hok, width_54] at h1
  have e : leB (-2) (4 : Int).toNat = [254, 255, 255, 255] := leB_m2
  rw [e] at h1
  exact h1
theorem patch4_length {S : List Int} (hl : S.length = 65536) : (patch S 4 [254, 255, 255, 255]).length = 65536 := by
  rw [patch_length (by rw [hl]; decide), hl]
theorem read_first (a g cap : Nat) (S : List Int) (mo : Int) (w : World) (h : PMem a g cap (patch S 4 [254, 255, 255, 255]) mo w) (hl : S.length = 65536) :
    Calls Try.prog 21 #[.pointer (some ⟨a, 0, none⟩), .int .i64 4, .int .i64 4] w fun e w' => e = .returned (.tuple #[.string ⟨#[254, 255, 255, 255]⟩, .int .i64 0]) ∧ w = w' := by
  have h1 := read_any a g cap _ mo 4 4 w h (by omega)
  have hpl := patch4_length hl
  have hi : inB (patch S 4 [254, 255, 255, 255]).length 4 4 = true := decide_eq_true (by rw [hpl]; omega)
  unfold readTup at h1
  rw [if_pos hi] at h1
  have e : part (patch S 4 [254, 255, 255, 255]) (4 : Int).toNat (4 : Int).toNat = [254, 255, 255, 255] := part_patch (S := S) (bs := [254, 255, 255, 255]) (p := 4) (k := 4) (by rw [hl]; decide) (by decide)
  rw [e] at h1
  exact h1
theorem load_first (a g cap : Nat) (S : List Int) (mo : Int) (w : World) (h : PMem a g cap (patch S 4 [254, 255, 255, 255]) mo w) (hl : S.length = 65536) :
    Calls Try.prog 23 #[.pointer (some ⟨a, 0, none⟩), .int .i64 44, .int .i64 4] w fun e w' => e = .returned (.tuple #[.int .i64 4294967294, .int .i64 0]) ∧ w = w' := by
  have h1 := load_44 a g cap _ mo 4 w h (by rw [patch4_length hl]; decide)
  have e : part (patch S 4 [254, 255, 255, 255]) 4 1 = [254] := part_patch (S := S) (bs := [254, 255, 255, 255]) (p := 4) (k := 1) (by rw [hl]; decide) (by decide)
  rw [e, show loadV 1 127 true [254] = 4294967294 by decide] at h1
  exact h1
theorem load_second (a g cap : Nat) (S : List Int) (mo : Int) (w : World) (h : PMem a g cap (patch S 4 [254, 255, 255, 255]) mo w) (hl : S.length = 65536) :
    Calls Try.prog 23 #[.pointer (some ⟨a, 0, none⟩), .int .i64 48, .int .i64 4] w fun e w' => e = .returned (.tuple #[.int .i64 (-2), .int .i64 0]) ∧ w = w' := by
  have h1 := load_48 a g cap _ mo 4 w h (by rw [patch4_length hl]; decide)
  have e : part (patch S 4 [254, 255, 255, 255]) 4 1 = [254] := part_patch (S := S) (bs := [254, 255, 255, 255]) (p := 4) (k := 1) (by rw [hl]; decide) (by decide)
  rw [e, show loadV 1 126 true [254] = -2 by decide] at h1
  exact h1
theorem load_third (a g cap : Nat) (S : List Int) (mo : Int) (w : World) (h : PMem a g cap S mo w) (hl : S.length = 131072) :
    Calls Try.prog 23 #[.pointer (some ⟨a, 0, none⟩), .int .i64 41, .int .i64 131065] w fun e w' => e = .returned (.tuple #[.int .i64 0, .int .i64 4]) ∧ w = w' := by
  refine load_bad a g cap S mo 41 131065 w h (by omega) ?_
  unfold loadOk
  rw [show Mem.width 41 = (8, 126, false) by decide, show inB S.length 131065 8 = false from decide_eq_false (by omega), Bool.and_false]
set_option maxRecDepth 100000 in
set_option maxHeartbeats 1000000 in
theorem awake_any (w : World) : Calls Try.prog 12 #[] w fun e w' => e = .returned (.bool true) ∧ Below w.heap.size w w' := by
  obtain ⟨S, hS⟩ : ∃ S, S = List.replicate (1 * 65536) (0 : Int) := ⟨_, rfl⟩
  have hl : S.length = 65536 := by rw [hS, List.length_replicate]
  have HN := Lib.hid (new_yes 1 (-1) (by decide))
  rw [← hS] at HN
  have HLEN := Lib.hid hl
  clear hS hl
  go_enter Try.func12, Try.ntmps12
  go_wp2_with (first
    | (go_at_call 9; refine (HN.out _).mono ?_; rintro e w1 ⟨a, g, cap, rfl, h1, hb1, ha1, hg1⟩; have H1 := Lib.hid h1; clear h1)
    | (go_at_call 22; refine (store_first a g cap S _ w1 H1.out HLEN.out).mono ?_; rintro e w2 ⟨rfl, h2, k2⟩
       have HR := Lib.hid (read_first a g cap S _ w2 h2 HLEN.out)
       have HL1 := Lib.hid (load_first a g cap S _ w2 h2 HLEN.out)
       have HL2 := Lib.hid (load_second a g cap S _ w2 h2 HLEN.out)
       have HG := Lib.hid (grow_yes a g cap _ _ 1 1 w2 h2 (patch4_length HLEN.out) (by decide) (by decide))
       have K2 := Lib.hid k2
       clear h2 k2 H1)
    | (go_at_call 21; refine HR.out.mono ?_; rintro e w3 ⟨rfl, rfl⟩; clear HR)
    | (go_at_call 23; refine HL1.out.mono ?_; rintro e w3 ⟨rfl, rfl⟩; clear HL1)
    | (go_at_call 23; refine HL2.out.mono ?_; rintro e w3 ⟨rfl, rfl⟩; clear HL2)
    | (go_at_call 27; refine HG.out.mono ?_; rintro e w4 ⟨rfl, g2, cap2, h4, k4, hg2⟩
       have HL3 := Lib.hid (load_third a g2 cap2 _ _ w4 h4 (by rw [growS_length, patch4_length HLEN.out]))
       have K4 := Lib.hid k4
       clear h4 k4 HG)
    | (go_at_call 23; refine HL3.out.mono ?_; rintro e w5 ⟨rfl, rfl⟩; clear HL3))
  go_ret
  refine ⟨rfl, ?_⟩
  have b2 := K2.out.below hb1.size fun k hk => hk ▸ hg1
  have b4 := K4.out.below (Nat.le_trans hb1.size K2.out.size) fun k hk => hk.elim (fun e => e ▸ ha1) (fun e => e ▸ hg1)
  exact hb1.trans (b2.trans b4)
end Go.Proofs.Ytogkieekpmcinaa
