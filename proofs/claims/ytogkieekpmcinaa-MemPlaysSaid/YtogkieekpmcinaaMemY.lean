/- Any step; are both the same? -/
import Derived.Test.YtogkieekpmcinaaMemX
import Derived.BigQuiet
namespace Go.Proofs.Ytogkieekpmcinaa
open Go.RowKit

theorem step_any (B : Nat) (R : Nat → Prop) (a g cap ar gr : Nat) (S : List Int) (mo : Int) (a2 g2 cap2 ar2 gr2 : Nat) (S2 : List Int) (mo2 : Int) (w : World) (h : Both B R a g cap ar gr S mo a2 g2 cap2 ar2 gr2 S2 mo2 w) (hB : B ≤ w.heap.size) (d : DeedL) (hd : d.ok) (hs : d.s.size ≤ maxLen) :
    Calls Try.prog 14 #[.pointer (some ⟨a, 0, none⟩), .pointer (some ⟨a2, 0, none⟩), .pointer (some ⟨ar, 0, none⟩), .pointer (some ⟨ar2, 0, none⟩), d.val] w
      fun e w' => e = .returned (.bool true) ∧ Turned B R a ar mo a2 ar2 mo2 w w' := by
  obtain ⟨k, o, at', p, v, nn, s, near⟩ := d
  have hat : at' ≤ 9223372036854775807 := hd.at1.2
  have hp : p ≤ 9223372036854775807 := hd.p1.2
  unfold DeedL.val
  dsimp only at hs ⊢
  by_cases h0 : k = 0
  · subst h0
    exact step_0 B R a g cap ar gr S mo a2 g2 cap2 ar2 gr2 S2 mo2 w h hB o at' p v nn s near hat
  by_cases h1 : k = 1
  · subst h1
    exact step_1 B R a g cap ar gr S mo a2 g2 cap2 ar2 gr2 S2 mo2 w h hB o at' p v nn s near hat
  by_cases h2 : k = 2
  · subst h2
    exact step_2 B R a g cap ar gr S mo a2 g2 cap2 ar2 gr2 S2 mo2 w h hB o at' p v nn s near hat
  by_cases h3 : k = 3
  · subst h3
    obtain ⟨P, hP⟩ := h.one.P
    by_cases hno : v < 0 ∨ mostOf mo - P < v
    · exact step_3n B R a g cap ar gr S mo a2 g2 cap2 ar2 gr2 S2 mo2 w h hB o at' p v nn s near P hP hno
    · obtain ⟨q, rfl⟩ := Int.eq_ofNat_of_zero_le (show 0 ≤ v by omega)
      exact step_3y B R a g cap ar gr S mo a2 g2 cap2 ar2 gr2 S2 mo2 w h hB o at' p nn s near q P hP (by omega)
  by_cases h4 : k = 4
  · subst h4
    exact step_4 B R a g cap ar gr S mo a2 g2 cap2 ar2 gr2 S2 mo2 w h hB o at' p v nn s near hat hs
  by_cases h5 : k = 5
  · subst h5
    exact step_5 B R a g cap ar gr S mo a2 g2 cap2 ar2 gr2 S2 mo2 w h hB o at' p v nn s near hat
  by_cases h6 : k = 6
  · subst h6
    exact step_6 B R a g cap ar gr S mo a2 g2 cap2 ar2 gr2 S2 mo2 w h hB o at' p v nn s near hat
  by_cases h7 : k = 7
  · subst h7
    exact step_7 B R a g cap ar gr S mo a2 g2 cap2 ar2 gr2 S2 mo2 w h hB o at' p v nn s near hat hp
  by_cases h8 : k = 8
  · subst h8
    exact step_8 B R a g cap ar gr S mo a2 g2 cap2 ar2 gr2 S2 mo2 w h hB o at' p v nn s near hat hp
  exact step_9 B R a g cap ar gr S mo a2 g2 cap2 ar2 gr2 S2 mo2 w h hB k o at' p v nn s near hat hp (by simpa using h0) (by simpa using h1) (by simpa using h2) (by simpa using h3) (by simpa using h4) (by simpa using h5) (by simpa using h6) (by simpa using h7) (by simpa using h8)
set_option maxRecDepth 100000 in
set_option maxHeartbeats 4000000 in
theorem same_any (a g cap ar gr : Nat) (S : List Int) (mx mo : Int) (w : World) (h : PMem a g cap S mo w) (hr : RMem ar gr S mx mo w) :
    Calls Try.prog 16 #[.pointer (some ⟨a, 0, none⟩), .pointer (some ⟨ar, 0, none⟩)] w fun e w' => e = .returned (.bool true) ∧ Below w.heap.size w w' := by
  have hlen := h.len
  obtain ⟨n, hn⟩ : ∃ n, n = S.length := ⟨_, rfl⟩
  have s0 := hr.slot
  have s2 := hr.bound
  rw [← hn] at s0
  have R1 := read_any a g cap S mo 0 n w h (by omega)
  have R2 := read_any a g cap S mo 0 (n + 1) w h (by omega)
  have i1 : inB S.length 0 n = true := decide_eq_true (by omega)
  have i2 : inB S.length 0 ((n : Int) + 1) = false := decide_eq_false (by omega)
  unfold readTup at R1 R2
  rw [i1, if_pos rfl, Int.toNat_natCast, show (0 : Int).toNat = 0 from rfl, part_all hn.symm] at R1
  rw [i2, if_neg (by decide)] at R2
  have HR1 := Lib.hid R1
  have HR2 := Lib.hid R2
  have HW : Hid (∀ w', Below w.heap.size w w' → PMem a g cap S mo w' ∧ RMem ar gr S mx mo w') := Lib.hid fun w' hb => ⟨h.kept (Kept.of_below (F := fun _ => False) hb) id id, hr.kept (Kept.of_below (F := fun _ => False) hb) id id⟩
  have HPG : Hid (∀ m, Calls Try.prog 25 #[.pointer (some ⟨a, 0, none⟩)] (w.drewN m) fun e w' => e = .returned (.int .i64 (n / 65536 : Nat)) ∧ w.drewN m = w') := Lib.hid fun m => hn ▸ pages_any a g cap S mo _ (HW.out _ (below_drewN (Below.refl _ _) m)).1
  have HMO : Hid (∀ m, Calls Try.prog 26 #[.pointer (some ⟨a, 0, none⟩)] (w.drewN m) fun e w' => e = .returned (.int .i64 mo) ∧ w.drewN m = w') := Lib.hid fun m => most_any a g cap S mo _ (HW.out _ (below_drewN (Below.refl _ _) m)).1
  have hcv : ∀ m, (convert 39 9 (.slice (some ⟨gr, 0, none⟩) n n)).run Try.prog (w.drewN m) = .ok (.string (strOfNums S)) (w.drewN m) := fun m => by
    have := (HW.out _ (below_drewN (Below.refl _ _) m)).2.conv (at' := 0) (k := S.length) (by omega) S.length
    rw [part_all rfl, ← hn] at this
    exact this
  have e1 : ((n : Nat) : Int).tdiv 65536 = (n / 65536 : Nat) := by rw [Int.tdiv_eq_ediv_of_nonneg (by omega)]; rfl
  have hn2 : n ≤ 1048576 := by omega
  revert HR1 HR2 hcv
  generalize strOfNums S = sA
  intro HR1 HR2 hcv
  clear R1 R2 i1 i2 hn hlen h hr
  go_enter Try.func16, Try.ntmps16
  go_wp2_with (first
    | (go_at_call 21; refine HR1.out.mono ?_; rintro e w1 ⟨rfl, rfl⟩; clear HR1)
    | (go_at_call 21; refine HR2.out.mono ?_; rintro e w1 ⟨rfl, rfl⟩; clear HR2))
  go_quiet ((first
    | (go_at_call 25; exact Calls.quiet_of_same ((HPG.out _).mono fun e w1 h => ⟨h.1, h.2.symm⟩))
    | (go_at_call 26; exact Calls.quiet_of_same ((HMO.out _).mono fun e w1 h => ⟨h.1, h.2.symm⟩))))
  go_wp2
  go_ret
  exact ⟨by first | rfl | simp, below_drewN (Below.refl _ _) _⟩
end Go.Proofs.Ytogkieekpmcinaa
