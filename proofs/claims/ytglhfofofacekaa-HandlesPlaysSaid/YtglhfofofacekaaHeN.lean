/- handles: two slices of the same handles; two tables in one state. -/
import Derived.Test.YtglhfofofacekaaHeB
import Derived.Test.YtglhfofofacekaaSame
import Derived.Laws.StructEq
set_option linter.unusedVariables false
set_option linter.unusedSimpArgs false
namespace Go.Proofs.Ytglhfofofacekaa
open Go.RowKit

set_option maxRecDepth 100000 in
set_option maxHeartbeats 4000000 in
theorem SameH_any {B C : Nat} {va vb : Value} {T : List Hd} {w : World} (ha : Hds B va T w) (hb : Hds C vb T w) (hl : T.length ≤ 256) :
    Calls Try.prog 39 #[va, vb] w fun e w' => e = .returned (.bool true) ∧ Below w.heap.size w w' := by
  obtain ⟨a, ca, rfl, ra⟩ := ha.row
  obtain ⟨b, cb, rfl, rb⟩ := hb.row
  have RA := Lib.hid ra
  have RB := Lib.hid rb
  have HL := Lib.hid hl
  have hne : ((T.length : Int) != (T.length : Int)) = false := by simp
  clear ha hb ra rb hl
  go_enter Try.func39, Try.ntmps39
  go_wp2_with fail
  go_loopw [5] (fun i wr => ∃ k : Nat, i = .int .i64 k ∧ k ≤ T.length ∧ Below w.heap.size w wr) (fun i wr => T.length - (intOf i).toNat)
  case atStart => exact ⟨0, rfl, by omega, Below.refl _ _⟩
  case round =>
    obtain ⟨k, rfl, hk, hb⟩ := hrel
    by_cases hlt : k < T.length
    · obtain ⟨b, off, rfl, hca⟩ := RA.out.resolve_left (by omega)
      obtain ⟨d, off2, rfl, hcc⟩ := RB.out.resolve_left (by omega)
      obtain ⟨c0, c1, c2, c3, c4, c5⟩ := hca k hlt
      obtain ⟨d0, d1, d2, d3, d4, d5⟩ := hcc k hlt
      replace c0 := farB c0 hb
      replace c1 := farB c1 hb
      replace c2 := farB c2 hb
      replace c3 := farB c3 hb
      replace c4 := farB c4 hb
      replace c5 := farB c5 hb
      replace d0 := farB d0 hb
      replace d1 := farB d1 hb
      replace d2 := farB d2 hb
      replace d3 := farB d3 hb
      replace d4 := farB d4 hb
      replace d5 := farB d5 hb
      clear hca hcc
      generalize T.getD k Hd.zero = y at c0 c1 c2 c3 c4 c5 d0 d1 d2 d3 d4 d5
      obtain ⟨yh, yr, yrep, yown, yl, yc⟩ := y
      dsimp only at c0 c1 c2 c3 c4 c5 d0 d1 d2 d3 d4 d5
      have HB := Lib.hid hb
      have HLT := Lib.hid hlt
      clear hb hk hlt
      go_wp2_with fail
      go_quiet (fail)
      go_wp2
      have hwk : wrap64 ((k : Int) + 1) = (k : Int) + 1 := by have h1 := HL.out; have h2 := HLT.out; unfold wrap64; omega
      rw [hwk]
      exact ⟨⟨k + 1, by simp, HLT.out, below_drewN HB.out _⟩, by have := HLT.out; simp [intOf]; omega⟩
    · have hke : k = T.length := by omega
      subst hke
      go_wp2_with fail
      go_ret
      exact ⟨rfl, hb⟩
set_option maxRecDepth 100000 in
set_option maxHeartbeats 4000000 in
/-- Two tables in one state are alike. -/
theorem alike_yes {F G : Nat → Prop} {a b N : Nat} {w : World} {S : Tb} (ha : TbAt F a w S) (hb : TbAt G b w S) (ok : TbOk N S) :
    Calls Try.prog 17 #[.pointer (some ⟨a, 0, none⟩), .pointer (some ⟨b, 0, none⟩)] w fun e w' => e = .returned (.bool true) ∧ Below w.heap.size w w' := by
  obtain ⟨H, ha⟩ := ha
  obtain ⟨J, hb⟩ := hb
  have HA := Lib.hid ha
  have HB := Lib.hid hb
  have HO := Lib.hid ok
  have HL : Hid (∀ i, (handlesS S i).length ≤ 256) := Lib.hid (fun i => (handlesS_ok ok i).1)
  have HC : Hid ((callsS S).length ≤ 3000) := Lib.hid (by have := ok.k1; simp; omega)
  clear ha hb ok
  go_enter Try.func17, Try.ntmps17
  go_wp2_with fail
  go_loopw [5] (fun i wr => ∃ k : Nat, i = .int .i64 k ∧ k ≤ 4 ∧ Hid (Below w.heap.size w wr)) (fun i _ => 4 - (intOf i).toNat)
  case atStart => exact ⟨0, rfl, by omega, Lib.hid (Below.refl _ _)⟩
  case round =>
    obtain ⟨k, rfl, hk, HW⟩ := hrel
    by_cases hlt : k < 4
    · have hd : decide ((k : Int) < 4) = true := decide_eq_true (by omega)
      have HLT := Lib.hid hlt
      clear hlt hk
      go_wp2_with (first
        | (go_at_call 39; refine (SameH_any H1.out H2.out (HL.out _)).mono ?_; rintro e w3 ⟨rfl, b3⟩; have W3 := Lib.hid (W2.out.trans (b3.mono W2.out.size)); clear b3)
        | (go_at_call 16; refine ((HB.out.below W1.out).handles HO.out _).mono ?_; rintro e w2 ⟨v2, rfl, hv2, b2⟩; have H2 := Lib.hid hv2; have H1 := Lib.hid (H0.out.below b2); have W2 := Lib.hid (W1.out.trans (b2.mono W1.out.size)); clear hv2 b2 H0)
        | (go_at_call 16; refine ((HA.out.below HW.out).handles HO.out _).mono ?_; rintro e w1 ⟨v1, rfl, hv1, b1⟩; have H0 := Lib.hid hv1; have W1 := Lib.hid (HW.out.trans (b1.mono HW.out.size)); clear hv1 b1))
      have hwk : wrap64 ((k : Int) + 1) = (k : Int) + 1 := by have h2 := HLT.out; unfold wrap64; omega
      rw [hwk]
      exact ⟨⟨k + 1, by simp, HLT.out, W3⟩, by have := HLT.out; simp [intOf]; omega⟩
    · have hke : k = 4 := by omega
      subst hke
      clear hlt hk
      go_wp2_with (first
        | (go_at_call 40; refine (Same_any H1.out H2.out HC.out).mono ?_; rintro e w3 ⟨rfl, b3⟩; have W3 := Lib.hid (W2.out.trans (b3.mono W2.out.size)); clear b3)
        | (go_at_call 41; refine ((HB.out.below W1.out).callsT HO.out.k1).mono ?_; rintro e w2 ⟨v2, rfl, hv2, b2⟩; have H2 := Lib.hid hv2; have H1 := Lib.hid (Ints.below H0.out b2); have W2 := Lib.hid (W1.out.trans (b2.mono W1.out.size)); clear hv2 b2 H0)
        | (go_at_call 41; refine ((HA.out.below HW.out).callsT HO.out.k1).mono ?_; rintro e w1 ⟨v1, rfl, hv1, b1⟩; have H0 := Lib.hid hv1; have W1 := Lib.hid (HW.out.trans (b1.mono HW.out.size)); clear hv1 b1))
      go_ret
      exact ⟨rfl, W3.out⟩
end Go.Proofs.Ytglhfofofacekaa
