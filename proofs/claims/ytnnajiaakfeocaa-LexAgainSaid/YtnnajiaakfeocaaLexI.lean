/- lex: versions. -/
import Derived.Test.YtnnajiaakfeocaaLexH
import Derived.Deep.RegionHeld
namespace Go.Proofs.Ytnnajiaakfeocaa
open Go.RowKit Go.Shelf
open Lex
attribute [local go_sem] Oper.semAt_some

/-- A version. -/
def versB (s : ByteArray) (hs : s.size ≤ maxLen) : Bool := ((parts s hs 46).all fun x => nbr (bl x.1)) && decide ((parts s hs 46).length = 3)
theorem rst_len (s : ByteArray) (hs : s.size ≤ maxLen) (c : Int) : ∀ (l : List Int) (a i : Nat), (rst s hs c a i l).length ≤ l.length + 1 := by
  intro l
  induction l with
  | nil => intro a i; simp [rst]
  | cons x r ih => intro a i; rw [rst]; split <;> simp <;> (first | exact ih _ _ | exact Nat.le_trans (ih _ _) (by omega))
theorem three {n : Nat} (h : n ≤ 9223372036854775808) : (wrap64 (n : Int) == 3) = decide (n = 3) := by
  by_cases h2 : n = 9223372036854775808
  · subst h2
    have e : wrap64 ((9223372036854775808 : Nat) : Int) = -9223372036854775808 := by unfold wrap64; decide
    rw [e]
    decide
  · rw [IntWalk.wrap64_in _ (by omega), Bool.eq_iff_iff]
    simp
    omega

theorem wrap64_succ (n : Int) : wrap64 (wrap64 n + 1) = wrap64 (n + 1) := by
  unfold wrap64
  omega

set_option maxRecDepth 100000 in
set_option maxHeartbeats 2000000 in
theorem Version_any (s : ByteArray) (hs : s.size ≤ maxLen) (w : World) :
    Calls Try.prog 16 #[.string s] w fun e W' => e = .returned (.bool (versB s hs)) ∧ Below w.heap.size w W' := by
  refine (callsIn_wide (n := 3)).1 ?_
  refine callsIn_of_wp_marks Try.func16 rfl trivial ?_ rfl
  simp only [Try.ntmps16, List.size_toArray, List.length_cons, List.length_nil, Nat.reduceAdd, Nat.reduceSub, Array.replicate_succ, Array.replicate_zero, List.push_toArray, List.append_toArray, List.nil_append, List.cons_append]
  gi_wp2_with (refine ⟨trivial, ?_⟩; gi_at_call 24; refine (parts_in Fence.wide _ trivial rfl _ _ _).mono ?_; rintro e w' ⟨rfl, rfl⟩)
  have bR := Boxed.new w 4 (.bool false)
  have bN := Boxed.new (w.alloc (.cells #[.bool false] 4)) 3 (.int .i64 0)
  have bS := Boxed.new ((w.alloc (.cells #[.bool false] 4)).alloc (.cells #[.int .i64 0] 3)) 9 (.string s)
  have bC := Boxed.new (((w.alloc (.cells #[.bool false] 4)).alloc (.cells #[.int .i64 0] 3)).alloc (.cells #[.string s] 9)) 5 (.int .u8 46)
  simp only [World.size_alloc] at bN bS bC
  have hB0 : Below w.heap.size w ((((w.alloc (.cells #[.bool false] 4)).alloc (.cells #[.int .i64 0] 3)).alloc (.cells #[.string s] 9)).alloc (.cells #[.int .u8 46] 5)) := ((((Below.refl _ w).alloc (Nat.le_refl _) _).alloc (by simp) _).alloc (by simp; omega) _).alloc (by simp; omega) _
  refine wpIn_rangeFunc_ownG rfl (by decide) (gf := 37) (lb := #[.pointer (some ⟨w.heap.size + 1 + 1, 0, none⟩), .pointer (some ⟨w.heap.size + 1 + 1 + 1, 0, none⟩)]) rfl trivial (enters_of Try.func37 (by kernel_rfl) rfl)
    (parts_stops Fence.wide _ trivial rfl (by decide) (w.heap.size + 1 + 1) s hs 46 _ (by simp) (bS.alloc _).cell bC.cell) KpB_t (KpB_b (by simp)) (Below.refl _ _) (fun _ => rfl)
    (fun pre W => ((∀ p ∈ pre, nbr (bl p.1) = true) ∧ (W.cell? ⟨w.heap.size, 0, none⟩ = some (.bool false) ∧ W.frozen? ⟨w.heap.size, 0, none⟩ = false) ∧ W.cell? ⟨w.heap.size + 1, 0, none⟩ = some (.int .i64 (wrap64 (pre.length : Nat))) ∧ W.frozen? ⟨w.heap.size + 1, 0, none⟩ = false) ∧ Below w.heap.size w W)
    (fun c pre W => (c = .ret ∧ (∃ last ∈ pre, nbr (bl last.1) = false) ∧ W.cell? ⟨w.heap.size, 0, none⟩ = some (.bool false)) ∧ Below w.heap.size w W)
    (OwnFrom.and (Own.from (fun s A B row hs hg hr => ⟨hs.1, ⟨cell_kept hs.2.1.1 hg hr, (frozen_kept hs.2.1.1 hg hr).trans hs.2.1.2⟩, cell_kept hs.2.2.1 hg hr, (frozen_kept hs.2.2.1 hg hr).trans hs.2.2.2⟩) _) (ownFrom_below (Nat.le_refl _) (by simp; omega)))
    (fun c => OwnFrom.and (Own.from (fun s A B row hs hg hr => ⟨hs.1, hs.2.1, cell_kept hs.2.2 hg hr⟩) _) (ownFrom_below (Nat.le_refl _) (by simp; omega)))
    ⟨⟨by simp, ⟨(((bR.alloc _).alloc _).alloc _).cell, (((bR.alloc _).alloc _).alloc _).frozen⟩, by rw [show wrap64 (([] : List Txt).length : Nat) = 0 from IntWalk.wrap64_in 0 (by decide)]; exact ((bN.alloc _).alloc _).cell, ((bN.alloc _).alloc _).frozen⟩, hB0⟩
    (fun x => { tmps := #[.string s, undef, .pointer (some ⟨w.heap.size, 0, none⟩), .pointer (some ⟨w.heap.size + 1, 0, none⟩), .string x.1, .string s, .func (.func 37) #[] #[.pointer (some ⟨w.heap.size + 1 + 1, 0, none⟩), .pointer (some ⟨w.heap.size + 1 + 1 + 1, 0, none⟩)], .string x.1, undef, undef, undef, undef, undef, undef, undef], defers := [] }) ?assign ?body ?done ?stop
  case assign =>
    intro l x W K hK
    gi_wp2
    exact hK
  case body =>
    rintro l pre x W ⟨⟨hp, ⟨hcr, hfr⟩, hcn, hfn⟩, hB⟩ _
    by_cases hx : nbr (bl x.1) = true
    · have HX := Lib.hid hx
      clear hx
      gi_wp2_with (refine ⟨trivial, ?_⟩; gi_at_call 28; refine (CallsIn.inRound l (callsIn_wide.2 (isNumber_any x.1 x.2 _))).mono ?_; rintro e w' ⟨rfl, rfl⟩; rw [HX.out])
      refine ⟨(KeepsOthers.setCell _ _ _).from _, ?_, ⟨fun p hp' => (List.mem_append.1 hp').elim (hp p) (fun e => by simp at e; subst e; exact HX.out), ⟨?_, by rw [World.frozen?_setCell]; exact hfr⟩, ?_, by rw [World.frozen?_setCell]; exact hfn⟩, hB.setCell (p := ⟨w.heap.size + 1, 0, none⟩) (by simp) _⟩
      · rintro b hb
        refine World.cell?_setCell_far _ _ _ _ ?_
        show w.heap.size + 1 ≠ b
        omega
      · rw [World.cell?_setCell_far _ _ _ _ (by simp)]
        exact hcr
      · rw [show wrap64 ((pre ++ [x]).length : Nat) = wrap64 (wrap64 (pre.length : Nat) + 1) by rw [List.length_append, List.length_singleton, wrap64_succ]; push_cast; rfl]
        exact World.cell?_setCell_same' _ _ _ (by rw [hcn]; rfl)
    · have HX := Lib.hid (not_true hx)
      clear hx
      gi_wp2_with (refine ⟨trivial, ?_⟩; gi_at_call 28; refine (CallsIn.inRound l (callsIn_wide.2 (isNumber_any x.1 x.2 _))).mono ?_; rintro e w' ⟨rfl, rfl⟩; rw [HX.out])
      exact ⟨(KeepsOthers.setCell _ _ _).from _, ⟨rfl, ⟨x, by simp, HX.out⟩, World.cell?_setCell_same' _ _ _ (by rw [hcr]; rfl)⟩, hB.setCell (p := ⟨w.heap.size, 0, none⟩) (Nat.le_refl _) _⟩
  case done =>
    rintro D ys W hD rfl ⟨⟨hall, ⟨hcr, hfr⟩, hcn, hfn⟩, hB⟩ hK
    gi_wp2
    have hlen : (parts s hs 46).length ≤ 9223372036854775808 := by
      have h1 := rst_len s hs 46 (bl s) 0 0
      rw [bl_length] at h1
      unfold maxLen at hs
      exact Nat.le_trans h1 (by omega)
    have hres : versB s hs = (wrap64 ((parts s hs 46).length : Nat) == 3) := by
      unfold versB
      rw [show ((parts s hs 46).all fun x => nbr (bl x.1)) = true from List.all_eq_true.2 hall, Bool.true_and, three hlen]
    rw [hres]
    generalize (wrap64 ((parts s hs 46).length : Nat) == 3) = bb
    have hK' := (KeepsOthers.setCell W ⟨w.heap.size, 0, none⟩ (.bool bb)).same D _ hK rfl
    refine ⟨by simp, .inl ⟨_, _, rfl, run_takeDeferred hK', ?_⟩⟩
    have hc5 := cell_kept (World.cell?_setCell_same' W ⟨w.heap.size, 0, none⟩ (.bool bb) (by rw [hcr]; rfl)) (grownBy_putObj' _ D (.deferred none)) (fun r e => by cases e; exact ⟨_, hK', rfl⟩)
    refine ⟨.bool bb, ?_, rfl, (hB.setCell (p := ⟨w.heap.size, 0, none⟩) (Nat.le_refl _) _).trans (belowK_b (w := w) (Nat.le_refl _) _ D _ _ (by simp at hD; omega) hK' rfl rfl)⟩
    simp [results, Try.f16, go_sem, hc5]
  case stop =>
    rintro D c pre W hD hpre ⟨⟨rfl, ⟨last, hlast, hbad⟩, hcr⟩, hB⟩ hK
    gi_wp2
    refine ⟨by simp, .inl ⟨_, _, rfl, run_takeDeferred hK, ?_⟩⟩
    have hc5 := cell_kept hcr (grownBy_putObj' _ D (.deferred none)) (fun r e => by cases e; exact ⟨_, hK, rfl⟩)
    refine ⟨.bool false, ?_, ?_, hB.trans (belowK_b (w := w) (Nat.le_refl _) W D _ _ (by simp at hD; omega) hK rfl rfl)⟩
    · simp [results, Try.f16, go_sem, hc5]
    · have : versB s hs = false := by
        unfold versB
        rw [Bool.and_eq_false_iff]
        left
        rw [Bool.eq_false_iff]
        intro h
        have := List.all_eq_true.1 h last (hpre.subset hlast)
        rw [hbad] at this
        cases this
      rw [this]
end Go.Proofs.Ytnnajiaakfeocaa
