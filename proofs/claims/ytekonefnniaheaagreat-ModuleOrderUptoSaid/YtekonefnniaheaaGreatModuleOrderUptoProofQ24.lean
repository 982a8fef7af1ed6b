/- Texts of the proof of ModuleOrderUptoProof, part 24. -/
import Derived.Test.YtekonefnniaheaaGreatModuleOrderUptoProofQ23
set_option linter.unusedVariables false
set_option linter.unusedVariables false
namespace Go.Proofs.YtekonefnniaheaaGreat
open Go.RowKit Go.Deep

set_option maxRecDepth 100000 in
set_option maxHeartbeats 8000000 in
theorem sameFirst_any (m : Mdl) (xT : Option Addr) (cT : Nat) (xI : Option Addr) (cI : Nat) (xF : Option Addr) (cF : Nat) (xB : Option Addr) (cB : Nat) (xM : Option Addr) (cM : Nat) (xG : Option Addr) (cG : Nat) (xX : Option Addr) (cX : Nat) (xE : Option Addr) (cE : Nat) (xC : Option Addr) (cC : Nat) (xD : Option Addr) (cD : Nat) (yT : Option Addr) (dT : Nat) (yI : Option Addr) (dI : Nat) (yF : Option Addr) (dF : Nat) (yB : Option Addr) (dB : Nat) (yM : Option Addr) (dM : Nat) (yG : Option Addr) (dG : Nat) (yX : Option Addr) (dX : Nat) (yE : Option Addr) (dE : Nat) (yC : Option Addr) (dC : Nat) (yD : Option Addr) (dD : Nat) (w : World) (hx : MdlIn w m xT cT xI cI xF cF xB cB xM cM xG cG xX cX xE cE xC cC xD cD) (hy : MdlIn w m yT dT yI dI yF dF yB dB yM dM yG dG yX dX yE dE yC dC yD dD) :
    Calls Tryz.prog 23 #[.agg #[.slice xT m.types.length cT, .slice xI m.imports.length cI, .slice xF m.funcs.length cF, .slice xB m.tables.length cB, .slice xM m.mems.length cM, .slice xG m.globals.length cG, .slice xX m.exports.length cX, .int .i64 m.start, .slice xE m.elems.length cE, .slice xC m.codes.length cC, .slice xD m.datas.length cD], .agg #[.slice yT m.types.length dT, .slice yI m.imports.length dI, .slice yF m.funcs.length dF, .slice yB m.tables.length dB, .slice yM m.mems.length dM, .slice yG m.globals.length dG, .slice yX m.exports.length dX, .int .i64 m.start, .slice yE m.elems.length dE, .slice yC m.codes.length dC, .slice yD m.datas.length dD]] w fun e w' => e = .returned (.bool true) ∧ Below w.heap.size w w' := by
  have b1 := BlkAt.new w #[.slice xT m.types.length cT, .slice xI m.imports.length cI, .slice xF m.funcs.length cF, .slice xB m.tables.length cB, .slice xM m.mems.length cM, .slice xG m.globals.length cG, .slice xX m.exports.length cX, .int .i64 m.start, .slice xE m.elems.length cE, .slice xC m.codes.length cC, .slice xD m.datas.length cD] 32
  have hs1 : (w.alloc (.cells #[.slice xT m.types.length cT, .slice xI m.imports.length cI, .slice xF m.funcs.length cF, .slice xB m.tables.length cB, .slice xM m.mems.length cM, .slice xG m.globals.length cG, .slice xX m.exports.length cX, .int .i64 m.start, .slice xE m.elems.length cE, .slice xC m.codes.length cC, .slice xD m.datas.length cD] 32)).heap.size = w.heap.size + 1 := by simp
  have bb1 := (Below.refl w.heap.size w).alloc (Nat.le_refl _) (.cells #[.slice xT m.types.length cT, .slice xI m.imports.length cI, .slice xF m.funcs.length cF, .slice xB m.tables.length cB, .slice xM m.mems.length cM, .slice xG m.globals.length cG, .slice xX m.exports.length cX, .int .i64 m.start, .slice xE m.elems.length cE, .slice xC m.codes.length cC, .slice xD m.datas.length cD] 32)
  have b2 := BlkAt.new (w.alloc (.cells #[.slice xT m.types.length cT, .slice xI m.imports.length cI, .slice xF m.funcs.length cF, .slice xB m.tables.length cB, .slice xM m.mems.length cM, .slice xG m.globals.length cG, .slice xX m.exports.length cX, .int .i64 m.start, .slice xE m.elems.length cE, .slice xC m.codes.length cC, .slice xD m.datas.length cD] 32)) #[.slice yT m.types.length dT, .slice yI m.imports.length dI, .slice yF m.funcs.length dF, .slice yB m.tables.length dB, .slice yM m.mems.length dM, .slice yG m.globals.length dG, .slice yX m.exports.length dX, .int .i64 m.start, .slice yE m.elems.length dE, .slice yC m.codes.length dC, .slice yD m.datas.length dD] 32
  have bb2 := (Below.refl (w.alloc (.cells #[.slice xT m.types.length cT, .slice xI m.imports.length cI, .slice xF m.funcs.length cF, .slice xB m.tables.length cB, .slice xM m.mems.length cM, .slice xG m.globals.length cG, .slice xX m.exports.length cX, .int .i64 m.start, .slice xE m.elems.length cE, .slice xC m.codes.length cC, .slice xD m.datas.length cD] 32)).heap.size (w.alloc (.cells #[.slice xT m.types.length cT, .slice xI m.imports.length cI, .slice xF m.funcs.length cF, .slice xB m.tables.length cB, .slice xM m.mems.length cM, .slice xG m.globals.length cG, .slice xX m.exports.length cX, .int .i64 m.start, .slice xE m.elems.length cE, .slice xC m.codes.length cC, .slice xD m.datas.length cD] 32))).alloc (Nat.le_refl _) (.cells #[.slice yT m.types.length dT, .slice yI m.imports.length dI, .slice yF m.funcs.length dF, .slice yB m.tables.length dB, .slice yM m.mems.length dM, .slice yG m.globals.length dG, .slice yX m.exports.length dX, .int .i64 m.start, .slice yE m.elems.length dE, .slice yC m.codes.length dC, .slice yD m.datas.length dD] 32)
  have HB := Lib.hid (bb1.trans (bb2.mono (by rw [hs1]; omega)))
  have b3 := b1.below bb2
  rw [hs1] at b2
  have hs2 : ((w.alloc (.cells #[.slice xT m.types.length cT, .slice xI m.imports.length cI, .slice xF m.funcs.length cF, .slice xB m.tables.length cB, .slice xM m.mems.length cM, .slice xG m.globals.length cG, .slice xX m.exports.length cX, .int .i64 m.start, .slice xE m.elems.length cE, .slice xC m.codes.length cC, .slice xD m.datas.length cD] 32)).alloc (.cells #[.slice yT m.types.length dT, .slice yI m.imports.length dI, .slice yF m.funcs.length dF, .slice yB m.tables.length dB, .slice yM m.mems.length dM, .slice yG m.globals.length dG, .slice yX m.exports.length dX, .int .i64 m.start, .slice yE m.elems.length dE, .slice yC m.codes.length dC, .slice yD m.datas.length dD] 32)).heap.size = w.heap.size + 2 := by simp
  have HC : Hid (∀ w', Below ((w.alloc (.cells #[.slice xT m.types.length cT, .slice xI m.imports.length cI, .slice xF m.funcs.length cF, .slice xB m.tables.length cB, .slice xM m.mems.length cM, .slice xG m.globals.length cG, .slice xX m.exports.length cX, .int .i64 m.start, .slice xE m.elems.length cE, .slice xC m.codes.length cC, .slice xD m.datas.length cD] 32)).alloc (.cells #[.slice yT m.types.length dT, .slice yI m.imports.length dI, .slice yF m.funcs.length dF, .slice yB m.tables.length dB, .slice yM m.mems.length dM, .slice yG m.globals.length dG, .slice yX m.exports.length dX, .int .i64 m.start, .slice yE m.elems.length dE, .slice yC m.codes.length dC, .slice yD m.datas.length dD] 32)).heap.size ((w.alloc (.cells #[.slice xT m.types.length cT, .slice xI m.imports.length cI, .slice xF m.funcs.length cF, .slice xB m.tables.length cB, .slice xM m.mems.length cM, .slice xG m.globals.length cG, .slice xX m.exports.length cX, .int .i64 m.start, .slice xE m.elems.length cE, .slice xC m.codes.length cC, .slice xD m.datas.length cD] 32)).alloc (.cells #[.slice yT m.types.length dT, .slice yI m.imports.length dI, .slice yF m.funcs.length dF, .slice yB m.tables.length dB, .slice yM m.mems.length dM, .slice yG m.globals.length dG, .slice yX m.exports.length dX, .int .i64 m.start, .slice yE m.elems.length dE, .slice yC m.codes.length dC, .slice yD m.datas.length dD] 32)) w' → w'.cell? ⟨w.heap.size, 1, none⟩ = some (.slice xI m.imports.length cI) ∧ w'.cell? ⟨w.heap.size, 6, none⟩ = some (.slice xX m.exports.length cX) ∧ w'.cell? ⟨w.heap.size, 3, none⟩ = some (.slice xB m.tables.length cB) ∧ w'.cell? ⟨w.heap.size, 4, none⟩ = some (.slice xM m.mems.length cM) ∧ w'.cell? ⟨(w.heap.size + 1), 1, none⟩ = some (.slice yI m.imports.length dI) ∧ w'.cell? ⟨(w.heap.size + 1), 6, none⟩ = some (.slice yX m.exports.length dX) ∧ w'.cell? ⟨(w.heap.size + 1), 3, none⟩ = some (.slice yB m.tables.length dB) ∧ w'.cell? ⟨(w.heap.size + 1), 4, none⟩ = some (.slice yM m.mems.length dM)) := Lib.hid fun w' h => by
    have q0 := b3.below h
    have q1 := b2.below h
    exact ⟨q0.cell 1, q0.cell 6, q0.cell 3, q0.cell 4, q1.cell 1, q1.cell 6, q1.cell 3, q1.cell 4⟩
  clear b1 b2 b3 bb1 bb2 hs1 hs2
  have nI : ((m.imports.length : Int) != (m.imports.length : Int)) = false := by simp
  have nX : ((m.exports.length : Int) != (m.exports.length : Int)) = false := by simp
  have tI := hx.hI.top
  have lI := hx.hI.le
  have tX := hx.hX.top
  have lX := hx.hX.le
  have HIX := Lib.hid hx.hI
  have HIY := Lib.hid hy.hI
  have HXX := Lib.hid hx.hX
  have HXY := Lib.hid hy.hX
  have HLB : Hid (∀ w', Below ((w.alloc (.cells #[.slice xT m.types.length cT, .slice xI m.imports.length cI, .slice xF m.funcs.length cF, .slice xB m.tables.length cB, .slice xM m.mems.length cM, .slice xG m.globals.length cG, .slice xX m.exports.length cX, .int .i64 m.start, .slice xE m.elems.length cE, .slice xC m.codes.length cC, .slice xD m.datas.length cD] 32)).alloc (.cells #[.slice yT m.types.length dT, .slice yI m.imports.length dI, .slice yF m.funcs.length dF, .slice yB m.tables.length dB, .slice yM m.mems.length dM, .slice yG m.globals.length dG, .slice yX m.exports.length dX, .int .i64 m.start, .slice yE m.elems.length dE, .slice yC m.codes.length dC, .slice yD m.datas.length dD] 32)).heap.size ((w.alloc (.cells #[.slice xT m.types.length cT, .slice xI m.imports.length cI, .slice xF m.funcs.length cF, .slice xB m.tables.length cB, .slice xM m.mems.length cM, .slice xG m.globals.length cG, .slice xX m.exports.length cX, .int .i64 m.start, .slice xE m.elems.length cE, .slice xC m.codes.length cC, .slice xD m.datas.length cD] 32)).alloc (.cells #[.slice yT m.types.length dT, .slice yI m.imports.length dI, .slice yF m.funcs.length dF, .slice yB m.tables.length dB, .slice yM m.mems.length dM, .slice yG m.globals.length dG, .slice yX m.exports.length dX, .int .i64 m.start, .slice yE m.elems.length dE, .slice yC m.codes.length dC, .slice yD m.datas.length dD] 32)) w' → Calls Tryz.prog 71 #[.slice xB m.tables.length cB, .slice yB m.tables.length dB] w' fun e w2 => e = .returned (.bool true) ∧ Below w'.heap.size w' w2) :=
    Lib.hid fun w' h => by
      have hb := HB.out.trans (h.mono HB.out.size)
      exact sameLimits_any (hx.below hb).hB (hy.below hb).hB
  have HLM : Hid (∀ w', Below ((w.alloc (.cells #[.slice xT m.types.length cT, .slice xI m.imports.length cI, .slice xF m.funcs.length cF, .slice xB m.tables.length cB, .slice xM m.mems.length cM, .slice xG m.globals.length cG, .slice xX m.exports.length cX, .int .i64 m.start, .slice xE m.elems.length cE, .slice xC m.codes.length cC, .slice xD m.datas.length cD] 32)).alloc (.cells #[.slice yT m.types.length dT, .slice yI m.imports.length dI, .slice yF m.funcs.length dF, .slice yB m.tables.length dB, .slice yM m.mems.length dM, .slice yG m.globals.length dG, .slice yX m.exports.length dX, .int .i64 m.start, .slice yE m.elems.length dE, .slice yC m.codes.length dC, .slice yD m.datas.length dD] 32)).heap.size ((w.alloc (.cells #[.slice xT m.types.length cT, .slice xI m.imports.length cI, .slice xF m.funcs.length cF, .slice xB m.tables.length cB, .slice xM m.mems.length cM, .slice xG m.globals.length cG, .slice xX m.exports.length cX, .int .i64 m.start, .slice xE m.elems.length cE, .slice xC m.codes.length cC, .slice xD m.datas.length cD] 32)).alloc (.cells #[.slice yT m.types.length dT, .slice yI m.imports.length dI, .slice yF m.funcs.length dF, .slice yB m.tables.length dB, .slice yM m.mems.length dM, .slice yG m.globals.length dG, .slice yX m.exports.length dX, .int .i64 m.start, .slice yE m.elems.length dE, .slice yC m.codes.length dC, .slice yD m.datas.length dD] 32)) w' → Calls Tryz.prog 71 #[.slice xM m.mems.length cM, .slice yM m.mems.length dM] w' fun e w2 => e = .returned (.bool true) ∧ Below w'.heap.size w' w2) :=
    Lib.hid fun w' h => by
      have hb := HB.out.trans (h.mono HB.out.size)
      exact sameLimits_any (hx.below hb).hM (hy.below hb).hM
  clear hx hy
  have hb0 : Below ((w.alloc (.cells #[.slice xT m.types.length cT, .slice xI m.imports.length cI, .slice xF m.funcs.length cF, .slice xB m.tables.length cB, .slice xM m.mems.length cM, .slice xG m.globals.length cG, .slice xX m.exports.length cX, .int .i64 m.start, .slice xE m.elems.length cE, .slice xC m.codes.length cC, .slice xD m.datas.length cD] 32)).alloc (.cells #[.slice yT m.types.length dT, .slice yI m.imports.length dI, .slice yF m.funcs.length dF, .slice yB m.tables.length dB, .slice yM m.mems.length dM, .slice yG m.globals.length dG, .slice yX m.exports.length dX, .int .i64 m.start, .slice yE m.elems.length dE, .slice yC m.codes.length dC, .slice yD m.datas.length dD] 32)).heap.size ((w.alloc (.cells #[.slice xT m.types.length cT, .slice xI m.imports.length cI, .slice xF m.funcs.length cF, .slice xB m.tables.length cB, .slice xM m.mems.length cM, .slice xG m.globals.length cG, .slice xX m.exports.length cX, .int .i64 m.start, .slice xE m.elems.length cE, .slice xC m.codes.length cC, .slice xD m.datas.length cD] 32)).alloc (.cells #[.slice yT m.types.length dT, .slice yI m.imports.length dI, .slice yF m.funcs.length dF, .slice yB m.tables.length dB, .slice yM m.mems.length dM, .slice yG m.globals.length dG, .slice yX m.exports.length dX, .int .i64 m.start, .slice yE m.elems.length dE, .slice yC m.codes.length dC, .slice yD m.datas.length dD] 32)) ((w.alloc (.cells #[.slice xT m.types.length cT, .slice xI m.imports.length cI, .slice xF m.funcs.length cF, .slice xB m.tables.length cB, .slice xM m.mems.length cM, .slice xG m.globals.length cG, .slice xX m.exports.length cX, .int .i64 m.start, .slice xE m.elems.length cE, .slice xC m.codes.length cC, .slice xD m.datas.length cD] 32)).alloc (.cells #[.slice yT m.types.length dT, .slice yI m.imports.length dI, .slice yF m.funcs.length dF, .slice yB m.tables.length dB, .slice yM m.mems.length dM, .slice yG m.globals.length dG, .slice yX m.exports.length dX, .int .i64 m.start, .slice yE m.elems.length dE, .slice yC m.codes.length dC, .slice yD m.datas.length dD] 32)) := Below.refl _ _
  obtain ⟨c0I, c0X, c0B, c0M, c1I, c1X, c1B, c1M⟩ := HC.out _ hb0
  go_enter Tryz.func23, Tryz.ntmps23
  go_wp2_with (first
    | (go_at_call 71; refine (HLB.out _ hb0).mono ?_; rintro e w1 ⟨rfl, q1⟩; have hb1 := hb0.trans (q1.mono hb0.size); obtain ⟨g0I, g0X, g0B, g0M, g1I, g1X, g1B, g1M⟩ := HC.out _ hb1; clear HLB q1 hb0)
    | (go_at_call 71; refine (HLM.out _ hb1).mono ?_; rintro e w2 ⟨rfl, q2⟩; have hb2 := hb1.trans (q2.mono hb1.size); obtain ⟨h0I, h0X, h0B, h0M, h1I, h1X, h1B, h1M⟩ := HC.out _ hb2; clear HLM q2))
  go_loopw [5] (fun iv wr => ∃ i : Nat, iv = .int .i64 i ∧ i ≤ m.imports.length ∧ Below ((w.alloc (.cells #[.slice xT m.types.length cT, .slice xI m.imports.length cI, .slice xF m.funcs.length cF, .slice xB m.tables.length cB, .slice xM m.mems.length cM, .slice xG m.globals.length cG, .slice xX m.exports.length cX, .int .i64 m.start, .slice xE m.elems.length cE, .slice xC m.codes.length cC, .slice xD m.datas.length cD] 32)).alloc (.cells #[.slice yT m.types.length dT, .slice yI m.imports.length dI, .slice yF m.funcs.length dF, .slice yB m.tables.length dB, .slice yM m.mems.length dM, .slice yG m.globals.length dG, .slice yX m.exports.length dX, .int .i64 m.start, .slice yE m.elems.length dE, .slice yC m.codes.length dC, .slice yD m.datas.length dD] 32)).heap.size ((w.alloc (.cells #[.slice xT m.types.length cT, .slice xI m.imports.length cI, .slice xF m.funcs.length cF, .slice xB m.tables.length cB, .slice xM m.mems.length cM, .slice xG m.globals.length cG, .slice xX m.exports.length cX, .int .i64 m.start, .slice xE m.elems.length cE, .slice xC m.codes.length cC, .slice xD m.datas.length cD] 32)).alloc (.cells #[.slice yT m.types.length dT, .slice yI m.imports.length dI, .slice yF m.funcs.length dF, .slice yB m.tables.length dB, .slice yM m.mems.length dM, .slice yG m.globals.length dG, .slice yX m.exports.length dX, .int .i64 m.start, .slice yE m.elems.length dE, .slice yC m.codes.length dC, .slice yD m.datas.length dD] 32)) wr) (fun iv _ => m.imports.length - (intOf iv).toNat)
  case atStart => exact ⟨0, rfl, by omega, hb2⟩
  case round =>
    obtain ⟨i, rfl, hi, hb⟩ := hrel
    obtain ⟨k0I, k0X, k0B, k0M, k1I, k1X, k1B, k1M⟩ := HC.out _ hb
    by_cases hlt : i < m.imports.length
    · obtain ⟨bx, ox, rfl, ⟨e0, e1, e2, e3, e4, e5, e6⟩, _⟩ := HIX.out.at hlt
      obtain ⟨by', oy, rfl, ⟨f0, f1, f2, f3, f4, f5, f6⟩, _⟩ := HIY.out.at hlt
      have hbw := HB.out.trans (hb.mono HB.out.size)
      replace e0 := below_cell hbw e0
      replace e1 := below_cell hbw e1
      replace e2 := below_cell hbw e2
      replace e3 := below_cell hbw e3
      replace e4 := below_cell hbw e4
      replace e5 := below_cell hbw e5
      replace e6 := below_cell hbw e6
      replace f0 := below_cell hbw f0
      replace f1 := below_cell hbw f1
      replace f2 := below_cell hbw f2
      replace f3 := below_cell hbw f3
      replace f4 := below_cell hbw f4
      replace f5 := below_cell hbw f5
      replace f6 := below_cell hbw f6
      clear hbw
      revert e0 e1 e2 e3 e4 e5 e6 f0 f1 f2 f3 f4 f5 f6
      generalize m.imports.getD i default = t
      intro e0 e1 e2 e3 e4 e5 e6 f0 f1 f2 f3 f4 f5 f6
      go_wp2_with fail
      go_quiet (fail)
      go_wp2
      exact ⟨⟨i + 1, by go_num, by omega, below_drewN hb _⟩, by simp [intOf]; omega⟩
    · have hie : i = m.imports.length := by omega
      subst hie
      go_wp2_with fail
      go_loopw [6] (fun iv wr2 => ∃ i : Nat, iv = .int .i64 i ∧ i ≤ m.exports.length ∧ Below ((w.alloc (.cells #[.slice xT m.types.length cT, .slice xI m.imports.length cI, .slice xF m.funcs.length cF, .slice xB m.tables.length cB, .slice xM m.mems.length cM, .slice xG m.globals.length cG, .slice xX m.exports.length cX, .int .i64 m.start, .slice xE m.elems.length cE, .slice xC m.codes.length cC, .slice xD m.datas.length cD] 32)).alloc (.cells #[.slice yT m.types.length dT, .slice yI m.imports.length dI, .slice yF m.funcs.length dF, .slice yB m.tables.length dB, .slice yM m.mems.length dM, .slice yG m.globals.length dG, .slice yX m.exports.length dX, .int .i64 m.start, .slice yE m.elems.length dE, .slice yC m.codes.length dC, .slice yD m.datas.length dD] 32)).heap.size ((w.alloc (.cells #[.slice xT m.types.length cT, .slice xI m.imports.length cI, .slice xF m.funcs.length cF, .slice xB m.tables.length cB, .slice xM m.mems.length cM, .slice xG m.globals.length cG, .slice xX m.exports.length cX, .int .i64 m.start, .slice xE m.elems.length cE, .slice xC m.codes.length cC, .slice xD m.datas.length cD] 32)).alloc (.cells #[.slice yT m.types.length dT, .slice yI m.imports.length dI, .slice yF m.funcs.length dF, .slice yB m.tables.length dB, .slice yM m.mems.length dM, .slice yG m.globals.length dG, .slice yX m.exports.length dX, .int .i64 m.start, .slice yE m.elems.length dE, .slice yC m.codes.length dC, .slice yD m.datas.length dD] 32)) wr2) (fun iv _ => m.exports.length - (intOf iv).toNat)
      case atStart => exact ⟨0, rfl, by omega, hb⟩
      case round =>
        clear hb
        obtain ⟨i, rfl, hi, hb⟩ := hrel
        obtain ⟨n0I, n0X, n0B, n0M, n1I, n1X, n1B, n1M⟩ := HC.out _ hb
        by_cases hlt2 : i < m.exports.length
        · obtain ⟨bx, ox, rfl, ⟨e0, e1, e2⟩, _⟩ := HXX.out.at hlt2
          obtain ⟨by', oy, rfl, ⟨f0, f1, f2⟩, _⟩ := HXY.out.at hlt2
          have hbw := HB.out.trans (hb.mono HB.out.size)
          replace e0 := below_cell hbw e0
          replace e1 := below_cell hbw e1
          replace e2 := below_cell hbw e2
          replace f0 := below_cell hbw f0
          replace f1 := below_cell hbw f1
          replace f2 := below_cell hbw f2
          clear hbw
          revert e0 e1 e2 f0 f1 f2
          generalize m.exports.getD i default = t
          intro e0 e1 e2 f0 f1 f2
          go_wp2_with fail
          go_quiet (fail)
          go_wp2
          exact ⟨⟨i + 1, by go_num, by omega, below_drewN hb _⟩, by simp [intOf]; omega⟩
        · have hie2 : i = m.exports.length := by omega
          subst hie2
          go_wp2_with fail
          go_ret
          exact ⟨rfl, HB.out.trans (hb.mono HB.out.size)⟩
end Go.Proofs.YtekonefnniaheaaGreat
