/- The statement of memories that are played. -/
import Derived.Test.YtogkieekpmcinaaMemY
namespace Go.Proofs.Ytogkieekpmcinaa
open Go.RowKit

theorem someL_small {ds : List DeedL} : ∀ d ∈ someL ds, d.s.size ≤ 200 := by
  intro d hd
  unfold someL at hd
  obtain ⟨e, _, rfl⟩ := List.mem_map.1 hd
  unfold cutS
  split
  · rw [ByteArray.size_extract]
    omega
  · omega
theorem aimD_s (d : DeedL) (n : Int) : (aimD d n).s = d.s := by
  unfold aimD
  split <;> rfl
theorem mostOf_lim {mn mx : Int} (h : mayB mn mx = true) : 0 ≤ mostOf mx ∧ mostOf mx ≤ 16 := by
  obtain ⟨h1, h2, h3, h4, h5⟩ : 0 ≤ mn ∧ mn ≤ 16 ∧ -1 ≤ mx ∧ mx ≤ 16 ∧ (mx = -1 ∨ mn ≤ mx) := of_decide_eq_true h
  unfold mostOf
  split <;> omega
/-- The blocks of a row of deeds. -/
def RowB (L : Nat) (y : Option Addr) (k : Nat) : Prop := 0 < L ∧ ∃ off, y = some ⟨k, off, none⟩
theorem both_made {B a g cap ar gr a2 g2 cap2 ar2 gr2 : Nat} {S S2 : List Int} {mo mo2 : Int} {w0 w1 w2 w3 w4 : World} (hB : B ≤ w0.heap.size)
    (h1 : PMem a g cap S mo w1) (la : w0.heap.size ≤ a) (lg : w0.heap.size ≤ g)
    (b2 : Below w1.heap.size w1 w2) (h2 : RMem ar gr S (mostOf mo) mo w2) (lar : w1.heap.size ≤ ar) (lgr : w1.heap.size ≤ gr)
    (b3 : Below w2.heap.size w2 w3) (h3 : PMem a2 g2 cap2 S2 mo2 w3) (la2 : w2.heap.size ≤ a2) (lg2 : w2.heap.size ≤ g2)
    (b4 : Below w3.heap.size w3 w4) (h4 : RMem ar2 gr2 S2 (mostOf mo2) mo2 w4) (lar2 : w3.heap.size ≤ ar2) (lgr2 : w3.heap.size ≤ gr2)
    (p1 : ∃ P, S.length = P * 65536) (p2 : ∃ P, S2.length = P * 65536) (l1 : 0 ≤ mostOf mo ∧ mostOf mo ≤ 16) (l2 : 0 ≤ mostOf mo2 ∧ mostOf mo2 ≤ 16) :
    Both B (fun _ => False) a g cap ar gr S mo a2 g2 cap2 ar2 gr2 S2 mo2 w4 := by
  have za := h1.alt
  have zg := h1.glt
  have zar := h2.lt.1
  have zgr := h2.lt.2
  have za2 := h3.alt
  have zg2 := h3.glt
  have s2 := b2.size
  have s3 := b3.size
  have s4 := b4.size
  have b34 : Below w2.heap.size w2 w4 := b3.trans (b4.mono s3)
  have b24 : Below w1.heap.size w1 w4 := b2.trans (b34.mono s2)
  refine ⟨⟨h1.kept (Kept.of_below (F := fun _ => False) b24) id id, h2.kept (Kept.of_below (F := fun _ => False) b34) id id, p1, l1, by omega, by omega, by omega, by omega⟩,
    ⟨h3.kept (Kept.of_below (F := fun _ => False) b4) id id, h4, p2, l2, by omega, by omega, by omega, by omega⟩, ?_, ?_, ?_, fun k hk => hk.elim⟩
  · intro k hk hk2
    unfold Mine at hk hk2
    omega
  · intro k hk
    unfold Mine at hk
    omega
  · intro k hk
    unfold Mine at hk
    omega
set_option maxRecDepth 100000 in
set_option maxHeartbeats 2000000 in
theorem MemPlays_no (mn mx : Int) (x : Option Addr) (len cap0 : Nat) (hm : mayB mn mx = false) (w : World) :
    Calls Try.prog 3 #[.agg #[.int .i64 mn, .int .i64 mx], .slice x len cap0] w fun e w' => e = .returned (.bool true) ∧ Below w.heap.size w w' := by
  have HN := Lib.hid (new_no mn mx hm)
  have HRN := Lib.hid (refNew_no mn mx hm)
  have HC := Lib.hid (check_any mn mx)
  unfold checkE at HC
  rw [hm, if_neg (by decide)] at HC
  have hb0 : Below w.heap.size w (w.alloc (.cells #[.int .i64 mn, .int .i64 mx] 23)) := (Below.refl _ _).alloc (Nat.le_refl _) _
  have hz0 : (w.alloc (.cells #[.int .i64 mn, .int .i64 mx] 23)).heap.size = w.heap.size + 1 := by simp
  have c0 : (w.alloc (.cells #[.int .i64 mn, .int .i64 mx] 23)).cell? ⟨w.heap.size, 0, none⟩ = some (.int .i64 mn) := World.cell?_alloc_mark w _ _ _ 0
  have c1 : (w.alloc (.cells #[.int .i64 mn, .int .i64 mx] 23)).cell? ⟨w.heap.size, 1, none⟩ = some (.int .i64 mx) := World.cell?_alloc_mark w _ _ _ 1
  have C0 := Lib.hid c0
  have C1 := Lib.hid c1
  have Z0 := Lib.hid hz0
  have HB0 := Lib.hid hb0
  clear hm hb0 hz0 c0 c1
  go_enter Try.func3, Try.ntmps3
  go_wp2_with (first
    | (go_at_call 9; refine (HN.out _).mono ?_; rintro e w1 ⟨rfl, hb1⟩
       have d0 := (hb1.cell (p := ⟨w.heap.size, 0, none⟩) (by simp)).trans C0.out
       have d1 := (hb1.cell (p := ⟨w.heap.size, 1, none⟩) (by simp)).trans C1.out
       have z1 : w.heap.size < w1.heap.size := (by have := hb1.size; rw [Z0.out] at this; omega))
    | (go_at_call 10; refine (HRN.out _).mono ?_; rintro e w2 ⟨rfl, hb2⟩
       have e0 := (hb2.cell (p := ⟨w.heap.size, 0, none⟩) z1).trans d0
       have e1 := (hb2.cell (p := ⟨w.heap.size, 1, none⟩) z1).trans d1)
    | (go_at_call 11; refine (HC.out _).mono ?_; rintro e w3 ⟨rfl, hb3⟩)
    | (go_at_call 12; refine (awake_any _).mono ?_; rintro e w4 ⟨rfl, hb4⟩))
  go_ret
  have s0 := Z0.out
  have s1 := hb1.size
  have s2 := hb2.size
  have s3 := hb3.size
  exact ⟨rfl, HB0.out.trans ((hb1.mono (by omega)).trans ((hb2.mono (by omega)).trans ((hb3.mono (by omega)).trans (hb4.mono (by omega)))))⟩
end Go.Proofs.Ytogkieekpmcinaa
