/- handles: both tables side by side; the law's same. -/
import Derived.Test.YtglhfofofacekaaHfN
set_option linter.unusedVariables false
set_option linter.unusedSimpArgs false
namespace Go.Proofs.Ytglhfofofacekaa
open Go.RowKit

/-- The project's tables in one state, the reference's in another one, apart from each other, and from some blocks. -/
structure Mid (w0 : World) (a b : Nat) (X : Nat → Prop) (w : World) (S T : Tb) (N M : Nat) : Prop where
  ex : ∃ F G : Nat → Prop, TbAt F a w S ∧ (∃ R J, RfR w0 G b w R J ∧ Rel M T R) ∧ (∀ k, F k → ¬ G k) ∧ (∀ k, F k → w0.heap.size ≤ k ∧ k < w.heap.size ∧ ¬ X k) ∧ (∀ k, G k → k < w.heap.size ∧ ¬ X k)
  ok : TbOk N S
  ok2 : TbOk M T
  base : Below w0.heap.size w0 w
  few : N ≤ 1000 ∧ M ≤ 1000
theorem Mid.below {w0 : World} {a b : Nat} {X : Nat → Prop} {w w' : World} {S T : Tb} {N M : Nat} (h : Mid w0 a b X w S T N M) (hb : Below w.heap.size w w') : Mid w0 a b X w' S T N M := by
  obtain ⟨F, G, h1, ⟨R, J, h2, h3⟩, h4, h5, h6⟩ := h.ex
  have hs := hb.size
  exact ⟨⟨F, G, h1.belowA hb, ⟨R, J, h2.below hb, h3⟩, h4, fun k hk => ⟨(h5 k hk).1, by have := (h5 k hk).2.1; omega, (h5 k hk).2.2⟩, fun k hk => ⟨by have := (h6 k hk).1; omega, (h6 k hk).2⟩⟩, h.ok, h.ok2, h.base.trans (hb.mono h.base.size), h.few⟩
/-- .. and from blocks that are made later. -/
theorem Mid.apart {w0 : World} {a b : Nat} {X Y : Nat → Prop} {w w' : World} {S T : Tb} {N M : Nat} (h : Mid w0 a b X w S T N M) (hb : Below w.heap.size w w') (hY : ∀ k, Y k → w.heap.size ≤ k) : Mid w0 a b Y w' S T N M := by
  obtain ⟨F, G, h1, ⟨R, J, h2, h3⟩, h4, h5, h6⟩ := h.ex
  have hs := hb.size
  exact ⟨⟨F, G, h1.belowA hb, ⟨R, J, h2.below hb, h3⟩, h4, fun k hk => ⟨(h5 k hk).1, by have := (h5 k hk).2.1; omega, fun e => by have h7 := hY k e; have := (h5 k hk).2.1; omega⟩, fun k hk => ⟨by have := (h6 k hk).1; omega, fun e => by have h7 := hY k e; have := (h6 k hk).1; omega⟩⟩, h.ok, h.ok2, h.base.trans (hb.mono h.base.size), h.few⟩
theorem Mid.free {w0 : World} {a b : Nat} {X : Nat → Prop} {w : World} {S T : Tb} {N M : Nat} (h : Mid w0 a b X w S T N M) : Mid w0 a b (fun _ => False) w S T N M := h.apart (Below.refl _ _) (fun _ e => e.elim)
theorem Mid.does {w0 : World} {a b : Nat} {X : Nat → Prop} {w : World} {S T : Tb} {N M : Nat} (h : Mid w0 a b X w S T N M) (hX : ∀ k, X k → k < w.heap.size) (hN : N < 1000) (d : Dh) (hw : wf64 d.h) :
    Calls Try.prog 11 #[.pointer (some ⟨a, 0, none⟩), d.v] w fun e w' => e = .returned (.tuple #[.int .i64 (doesS S d).1, .int .i64 (doesS S d).2.1, .bool (doesS S d).2.2.1]) ∧ Mid w0 a b X w' (doesS S d).2.2.2 T (N + 1) M ∧ Kept (fun k => w0.heap.size ≤ k ∧ ¬ X k) w w' := by
  obtain ⟨F, G, h1, ⟨R, J, h2, h3⟩, h4, h5, h6⟩ := h.ex
  have hbs := h.base.size
  have hst : StF (fun k => w0.heap.size ≤ k ∧ ¬ G k ∧ ¬ X k) a w S N := ⟨h1.mono (fun k hk => ⟨(h5 k hk).1, h4 k hk, (h5 k hk).2.2⟩), h.ok, fun k hk => ⟨by omega, fun e => by have := (h6 k e).1; omega, fun e => by have := hX k e; omega⟩, by have := h.few.1; omega⟩
  refine (doesF hst (by omega) d hw).mono ?_
  rintro e w' ⟨rfl, st, kk⟩
  obtain ⟨H, hH⟩ := st.at'
  have hs := kk.size
  refine ⟨rfl, ⟨⟨_, G, ⟨H, hH.low⟩, ⟨R, J, h2.kept kk (fun x hx e => e.2.1 hx) (fun x e => e.1), h3⟩, fun k hk => hk.1.2.1, fun k hk => ⟨hk.1.1, hk.2, hk.1.2.2⟩, fun k hk => ⟨by have := (h6 k hk).1; omega, (h6 k hk).2⟩⟩, st.ok, h.ok2, h.base.trans (kk.below hbs (fun k e => e.1)), by have := h.few.2; omega⟩, kk.mono (fun k e => ⟨e.1, e.2.2⟩)⟩
theorem Mid.did {w0 : World} {a b : Nat} {X : Nat → Prop} {w : World} {S T : Tb} {N M : Nat} (h : Mid w0 a b X w S T N M) (hX : ∀ k, X k → k < w.heap.size) (hM : M < 1000) (d : Dh) :
    Calls Try.prog 12 #[.pointer (some ⟨b, 0, none⟩), d.v] w fun e w' => e = .returned (.tuple #[.int .i64 (doesS T d).1, .int .i64 (doesS T d).2.1, .bool (doesS T d).2.2.1]) ∧ Mid w0 a b X w' S (doesS T d).2.2.2 N (M + 1) ∧ Kept (fun k => w0.heap.size ≤ k ∧ ¬ X k) w w' := by
  obtain ⟨F, G, h1, ⟨R, J, h2, h3⟩, h4, h5, h6⟩ := h.ex
  have hbs := h.base.size
  have hst : RfF w0 (fun k => w0.heap.size ≤ k ∧ ¬ F k ∧ ¬ X k) b w T M := ⟨⟨R, J, h2.mono (fun k hk => ⟨h2.gB k hk, fun e => h4 k e hk, (h6 k hk).2⟩) (fun k e => e.1), h3⟩, h.ok2, fun k hk => ⟨by omega, fun e => by have := (h5 k e).2.1; omega, fun e => by have := hX k e; omega⟩, h.few.2⟩
  refine (didF hst hM d).mono ?_
  rintro e w' ⟨rfl, st, kk⟩
  obtain ⟨R', J', hR', hrel'⟩ := st.at'
  have hs := kk.size
  refine ⟨rfl, ⟨⟨F, _, h1.kept kk (fun x hx e => e.2.1 hx), ⟨R', J', hR'.low, hrel'⟩, fun k hk e => e.1.2.1 hk, fun k hk => ⟨(h5 k hk).1, by have := (h5 k hk).2.1; omega, (h5 k hk).2.2⟩, fun k hk => ⟨hk.2, hk.1.2.2⟩⟩, h.ok, st.ok, h.base.trans (kk.below hbs (fun k e => e.1)), by have := h.few.1; omega⟩, kk.mono (fun k e => ⟨e.1, e.2.2⟩)⟩
theorem Mid.ofT {w0 : World} {a b : Nat} {X : Nat → Prop} {w : World} {S T : Tb} {N M : Nat} (h : Mid w0 a b X w S T N M) (i : Int) :
    Calls Try.prog 10 #[.pointer (some ⟨b, 0, none⟩), .int .i64 i] w fun e w' => ∃ v, e = .returned v ∧ Hds w.heap.size v (handlesS T i) w' ∧ Below w.heap.size w w' := by
  obtain ⟨F, G, h1, ⟨R, J, h2, h3⟩, h4, h5, h6⟩ := h.ex
  exact h2.ofT h3 h.ok2 h.few.2 i

set_option maxRecDepth 100000 in
set_option maxHeartbeats 4000000 in
/-- Tables in one state are the same. -/
theorem Mid.same {w0 : World} {a b : Nat} {X : Nat → Prop} {w : World} {S : Tb} {N M : Nat} (h : Mid w0 a b X w S S N M) :
    Calls Try.prog 13 #[.pointer (some ⟨a, 0, none⟩), .pointer (some ⟨b, 0, none⟩)] w fun e w' => e = .returned (.bool true) ∧ Below w.heap.size w w' := by
  obtain ⟨F, G, ⟨H, ha⟩, ⟨R, J, hb, hrel⟩, _, _, _⟩ := h.ex
  have HA := Lib.hid ha
  have HB := Lib.hid hb
  have HREL := Lib.hid hrel
  have HO := Lib.hid (And.intro h.ok (And.intro h.ok2 h.few.2))
  have HL : Hid (∀ i, (handlesS S i).length ≤ 256) := Lib.hid (fun i => (handlesS_ok h.ok i).1)
  have HC : Hid ((callsS S).length ≤ 3000) := Lib.hid (by have := h.ok.k1; simp; omega)
  have h4 : R.n ≤ 4 := by rw [hrel.n]; exact h.ok.n2
  have c0 := hb.cells.1
  have c3 := hb.cells.2.2.2.1
  obtain ⟨ca, cc, ecv⟩ := len_of_own hb.cr
  rw [ecv] at c3
  have HCV : Hid (∀ W, Below w.heap.size w W → Ints 0 (.slice ca R.cs.length cc) (callsS S) W) := Lib.hid (fun W hW => by
    have := (HB.out.below hW).cr
    rw [ecv, hrel.cs] at this
    rw [hrel.cs]
    exact this)
  have H4 := Lib.hid h4
  clear ha hb h hrel ecv h4
  generalize R.cs.length = rl at c3 HCV
  generalize R.n = rn at c0 H4
  go_enter Try.func13, Try.ntmps13
  go_wp2_with fail
  go_loopw [5] (fun i wr => ∃ k : Nat, i = .int .i64 k ∧ k ≤ rn ∧ Hid (Below w.heap.size w wr)) (fun i _ => rn - (intOf i).toNat)
  case atStart => exact ⟨0, rfl, by omega, Lib.hid (Below.refl _ _)⟩
  case round =>
    obtain ⟨k, rfl, hk, HW⟩ := hrel
    have d0 := farB c0 HW.out
    by_cases hlt : k < rn
    · have HLT := Lib.hid hlt
      clear hk
      go_wp2_with (first
        | (go_at_call 39; refine (SameH_any H1.out H2.out (HL.out _)).mono ?_; rintro e w3 ⟨rfl, b3⟩; have W3 := Lib.hid (W2.out.trans (b3.mono W2.out.size)); clear b3)
        | (go_at_call 10; refine ((HB.out.below W1.out).ofT HREL.out HO.out.2.1 HO.out.2.2 _).mono ?_; rintro e w2 ⟨v2, rfl, hv2, b2⟩; have H2 := Lib.hid hv2; have H1 := Lib.hid (H0.out.below b2); have W2 := Lib.hid (W1.out.trans (b2.mono W1.out.size)); clear hv2 b2 H0)
        | (go_at_call 16; refine ((HA.out.below HW.out).handles HO.out.1 _).mono ?_; rintro e w1 ⟨v1, rfl, hv1, b1⟩; have H0 := Lib.hid hv1; have W1 := Lib.hid (HW.out.trans (b1.mono HW.out.size)); clear hv1 b1))
      have hwk : wrap64 ((k : Int) + 1) = (k : Int) + 1 := by have h2 := HLT.out; have h3 := H4.out; unfold wrap64; omega
      rw [hwk]
      exact ⟨⟨k + 1, by simp, HLT.out, W3⟩, by have := HLT.out; simp [intOf]; omega⟩
    · have hke : k = rn := by omega
      subst hke
      have d3 := farB c3 HW.out
      have HWD : Hid (Below w.heap.size w wr.drew) := Lib.hid HW.out.drew
      clear hlt hk
      go_wp2_with fail
      go_region_with (first
        | (go_at_call 40; refine (Same_any H0.out (HCV.out _ W1.out) HC.out).mono ?_; rintro e w3 ⟨rfl, b3⟩; have W3 := Lib.hid (W1.out.trans (b3.mono W1.out.size)); clear b3)
        | (go_at_call 41; refine ((HA.out.below HWD.out).callsT HO.out.1.k1).mono ?_; rintro e w1 ⟨v1, rfl, hv1, b1⟩; have H0 := Lib.hid hv1; have W1 := Lib.hid (HWD.out.trans (b1.mono HWD.out.size)); have e3 := farB c3 W1.out; clear hv1 b1))
      all_goals go_wp2
      all_goals go_ret
      all_goals exact ⟨rfl, W3.out⟩
end Go.Proofs.Ytglhfofofacekaa
