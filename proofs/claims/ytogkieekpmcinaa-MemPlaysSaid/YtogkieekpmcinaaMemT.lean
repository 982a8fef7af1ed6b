/- Two memories of each side: what holds of them, and how a turn keeps it. -/
import Derived.Test.YtogkieekpmcinaaMemR
namespace Go.Proofs.Ytogkieekpmcinaa
open Go.RowKit

/-- One of four blocks. -/
def Mine (a g ar gr : Nat) (k : Nat) : Prop := k = a ∨ k = g ∨ k = ar ∨ k = gr
/-- A memory of the project, and one of the reference, of the same bytes. -/
structure Duo (a g cap ar gr : Nat) (S : List Int) (mo : Int) (w : World) : Prop where
  m : PMem a g cap S mo w
  r : RMem ar gr S (mostOf mo) mo w
  P : ∃ P, S.length = P * 65536
  lim : 0 ≤ mostOf mo ∧ mostOf mo ≤ 16
  d1 : a ≠ ar
  d2 : a ≠ gr
  d3 : g ≠ ar
  d4 : g ≠ gr
theorem Duo.lt {a g cap ar gr : Nat} {S : List Int} {mo : Int} {w : World} (h : Duo a g cap ar gr S mo w) : ∀ k, Mine a g ar gr k → k < w.heap.size := by
  intro k hk
  rcases hk with rfl | rfl | rfl | rfl
  · exact h.m.alt
  · exact h.m.glt
  · exact h.r.lt.1
  · exact h.r.lt.2
theorem Duo.kept {F : Nat → Prop} {a g cap ar gr : Nat} {S : List Int} {mo : Int} {w w' : World} (h : Duo a g cap ar gr S mo w) (k : Kept F w w') (hF : ∀ b, Mine a g ar gr b → ¬ F b) : Duo a g cap ar gr S mo w' :=
  ⟨h.m.kept k (hF a (.inl rfl)) (hF g (.inr (.inl rfl))), h.r.kept k (hF ar (.inr (.inr (.inl rfl)))) (hF gr (.inr (.inr (.inr rfl)))), h.P, h.lim, h.d1, h.d2, h.d3, h.d4⟩
/-- Two of these, apart; all at B or above; R's blocks are others'. -/
structure Both (B : Nat) (R : Nat → Prop) (a g cap ar gr : Nat) (S : List Int) (mo : Int) (a2 g2 cap2 ar2 gr2 : Nat) (S2 : List Int) (mo2 : Int) (w : World) : Prop where
  one : Duo a g cap ar gr S mo w
  two : Duo a2 g2 cap2 ar2 gr2 S2 mo2 w
  ap : ∀ k, Mine a g ar gr k → ¬ Mine a2 g2 ar2 gr2 k
  lo1 : ∀ k, Mine a g ar gr k → B ≤ k
  lo2 : ∀ k, Mine a2 g2 ar2 gr2 k → B ≤ k
  off : ∀ k, R k → k < w.heap.size ∧ ¬ Mine a g ar gr k ∧ ¬ Mine a2 g2 ar2 gr2 k
theorem Both.swap {B : Nat} {R : Nat → Prop} {a g cap ar gr : Nat} {S : List Int} {mo : Int} {a2 g2 cap2 ar2 gr2 : Nat} {S2 : List Int} {mo2 : Int} {w : World} (h : Both B R a g cap ar gr S mo a2 g2 cap2 ar2 gr2 S2 mo2 w) : Both B R a2 g2 cap2 ar2 gr2 S2 mo2 a g cap ar gr S mo w :=
  ⟨h.two, h.one, fun k h2 h1 => h.ap k h1 h2, h.lo2, h.lo1, fun k hk => ⟨(h.off k hk).1, (h.off k hk).2.2, (h.off k hk).2.1⟩⟩
theorem Both.below {B : Nat} {R : Nat → Prop} {a g cap ar gr : Nat} {S : List Int} {mo : Int} {a2 g2 cap2 ar2 gr2 : Nat} {S2 : List Int} {mo2 : Int} {w w' : World} (h : Both B R a g cap ar gr S mo a2 g2 cap2 ar2 gr2 S2 mo2 w) (hb : Below w.heap.size w w') : Both B R a g cap ar gr S mo a2 g2 cap2 ar2 gr2 S2 mo2 w' :=
  ⟨h.one.kept (Kept.of_below (F := fun _ => False) hb) (fun _ _ => id), h.two.kept (Kept.of_below (F := fun _ => False) hb) (fun _ _ => id), h.ap, h.lo1, h.lo2, fun k hk => ⟨Nat.lt_of_lt_of_le (h.off k hk).1 hb.size, (h.off k hk).2⟩⟩
/-- More that is others'. -/
theorem Both.more {B : Nat} {R : Nat → Prop} {a g cap ar gr : Nat} {S : List Int} {mo : Int} {a2 g2 cap2 ar2 gr2 : Nat} {S2 : List Int} {mo2 : Int} {w w' : World} (h : Both B R a g cap ar gr S mo a2 g2 cap2 ar2 gr2 S2 mo2 w) (hb : Below w.heap.size w w') {b : Nat} (h1 : w.heap.size ≤ b) (h2 : b < w'.heap.size) : Both B (fun k => R k ∨ k = b) a g cap ar gr S mo a2 g2 cap2 ar2 gr2 S2 mo2 w' := by
  have h' := h.below hb
  refine ⟨h'.one, h'.two, h'.ap, h'.lo1, h'.lo2, fun k hk => ?_⟩
  rcases hk with hk | rfl
  · exact h'.off k hk
  · exact ⟨h2, fun hm => by have := h.one.lt _ hm; omega, fun hm => by have := h.two.lt _ hm; omega⟩
theorem Both.less {B : Nat} {R R' : Nat → Prop} {a g cap ar gr : Nat} {S : List Int} {mo : Int} {a2 g2 cap2 ar2 gr2 : Nat} {S2 : List Int} {mo2 : Int} {w : World} (h : Both B R a g cap ar gr S mo a2 g2 cap2 ar2 gr2 S2 mo2 w) (hR : ∀ k, R' k → R k) : Both B R' a g cap ar gr S mo a2 g2 cap2 ar2 gr2 S2 mo2 w :=
  ⟨h.one, h.two, h.ap, h.lo1, h.lo2, fun k hk => h.off k (hR k hk)⟩
/-- What a turn leaves: the same, of other bytes, and what was there besides. -/
def Turned (B : Nat) (R : Nat → Prop) (a ar : Nat) (mo : Int) (a2 ar2 : Nat) (mo2 : Int) (w w' : World) : Prop :=
  ∃ g cap gr S g2 cap2 gr2 S2, Both B R a g cap ar gr S mo a2 g2 cap2 ar2 gr2 S2 mo2 w' ∧ Below B w w' ∧ ∀ k, R k → w'.heap[k]? = w.heap[k]?
theorem Both.turn {B : Nat} {R : Nat → Prop} {a g cap ar gr : Nat} {S : List Int} {mo : Int} {a2 g2 cap2 ar2 gr2 : Nat} {S2 : List Int} {mo2 : Int} {w w1 w2 : World} (h : Both B R a g cap ar gr S mo a2 g2 cap2 ar2 gr2 S2 mo2 w) (hB : B ≤ w.heap.size)
    {g' cap' gr' : Nat} {S' : List Int} (h1 : PMem a g' cap' S' mo w1) (k1 : Kept (fun k => k = a ∨ k = g) w w1) (e1 : g' = g ∨ w.heap.size ≤ g')
    (h2 : RMem ar gr' S' (mostOf mo) mo w2) (k2 : Kept (fun k => k = ar ∨ k = gr) w1 w2) (e2 : gr' = gr ∨ w1.heap.size ≤ gr') (hP : ∃ P, S'.length = P * 65536) : Turned B R a ar mo a2 ar2 mo2 w w2 := by
  have hl := h.one.lt
  have la := hl a (.inl rfl)
  have lg := hl g (.inr (.inl rfl))
  have lar := hl ar (.inr (.inr (.inl rfl)))
  have lgr := hl gr (.inr (.inr (.inr rfl)))
  have d1 := h.one.d1
  have d2 := h.one.d2
  have d3 := h.one.d3
  have d4 := h.one.d4
  have hz := k1.size
  have hz2 := k2.size
  have hglt := h1.glt
  have kk : Kept (Mine a g ar gr) w w2 := (k1.mono fun k hk => hk.elim .inl (fun e => .inr (.inl e))).trans (k2.mono fun k hk => hk.elim (fun e => .inr (.inr (.inl e))) (fun e => .inr (.inr (.inr e))))
  have new : ∀ k, Mine a g' ar gr' k → Mine a g ar gr k ∨ w.heap.size ≤ k := by
    intro k hk
    rcases hk with rfl | rfl | rfl | rfl
    · exact .inl (.inl rfl)
    · exact e1.elim (fun e => .inl (.inr (.inl e))) .inr
    · exact .inl (.inr (.inr (.inl rfl)))
    · exact e2.elim (fun e => .inl (.inr (.inr (.inr e)))) (fun e => .inr (Nat.le_trans hz e))
  refine ⟨g', cap', gr', S', g2, cap2, gr2, S2, ⟨⟨h1.kept k2 (by omega) (by omega), h2, hP, h.one.lim, d1, by omega, by omega, by omega⟩, h.two.kept kk (fun b hb hm => h.ap b hm hb), ?_, ?_, h.lo2, ?_⟩, ?_, ?_⟩
  · intro k hk hk2
    rcases new k hk with hm | hm
    · exact h.ap k hm hk2
    · have := h.two.lt k hk2
      omega
  · intro k hk
    rcases new k hk with hm | hm
    · exact h.lo1 k hm
    · omega
  · intro k hk
    obtain ⟨o1, o2, o3⟩ := h.off k hk
    refine ⟨Nat.lt_of_lt_of_le o1 kk.size, fun hm => ?_, o3⟩
    rcases new k hm with hm | hm
    · exact o2 hm
    · omega
  · exact kk.below hB h.lo1
  · intro k hk
    obtain ⟨o1, o2, _⟩ := h.off k hk
    exact kk.block k o1 o2
theorem Turned.swap {B : Nat} {R : Nat → Prop} {a ar : Nat} {mo : Int} {a2 ar2 : Nat} {mo2 : Int} {w w' : World} (h : Turned B R a ar mo a2 ar2 mo2 w w') : Turned B R a2 ar2 mo2 a ar mo w w' := by
  obtain ⟨g, cap, gr, S, g2, cap2, gr2, S2, h1, h2⟩ := h
  exact ⟨g2, cap2, gr2, S2, g, cap, gr, S, h1.swap, h2⟩
end Go.Proofs.Ytogkieekpmcinaa
