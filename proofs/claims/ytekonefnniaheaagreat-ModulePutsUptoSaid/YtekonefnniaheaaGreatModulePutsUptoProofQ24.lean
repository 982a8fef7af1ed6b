/- Texts of the proof of ModulePutsUptoProof, part 24. -/
import Derived.Test.YtekonefnniaheaaGreatModulePutsUptoProofQ23
set_option linter.unusedVariables false
namespace Go.Proofs.YtekonefnniaheaaGreat
open Go.RowKit Go.Deep
open Leb (putU putS)

theorem rmCode1 (c : Ins) (xn : Option Addr) (nc : Nat) (xl : Option Addr) (lc : Nat) (xe : Option Addr) (ec : Nat) (w : World) (hc : InsV w c xn nc xl lc xe ec) (w2 : World) (hb : Below w.heap.size w w2) :
    Calls Tryz.prog 51 #[.slice (some ⟨w2.heap.size, 0, none⟩) 1 1] (w2.alloc (.cells #[.int .i64 c.op, .int .i64 c.a, .int .i64 c.b, .int .i64 c.m, .slice xn c.n.length nc, .slice xl c.l.length lc, .slice xe c.e.length ec] 50)) fun e w' => e = .returned (.bool (rmCode [c])) ∧ Below w2.heap.size w2 w' := by
  have hba : Below w2.heap.size w2 (w2.alloc (.cells #[.int .i64 c.op, .int .i64 c.a, .int .i64 c.b, .int .i64 c.m, .slice xn c.n.length nc, .slice xl c.l.length lc, .slice xe c.e.length ec] 50)) := (Below.refl _ _).alloc (Nat.le_refl _) _
  refine (rmCode_any [c] (some ⟨w2.heap.size, 0, none⟩) 1 1 _ (hc.lies (hb.trans (hba.mono hb.size)) (BlkAt.new w2 #[.int .i64 c.op, .int .i64 c.a, .int .i64 c.b, .int .i64 c.m, .slice xn c.n.length nc, .slice xl c.l.length lc, .slice xe c.e.length ec] 50))).mono ?_
  rintro e w' ⟨h1, h2⟩
  exact ⟨h1, hba.trans (h2.mono hba.size)⟩
theorem rmTypes1 (t : Int) (w2 : World) :
    Calls Tryz.prog 50 #[.slice (some ⟨w2.heap.size, 0, none⟩) 1 1, .int .i64 1] (w2.alloc (.cells #[.int .i64 t] 3)) fun e w' => e = .returned (.bool (decide ((typeV t).2 = 0))) ∧ Below w2.heap.size w2 w' := by
  have hba : Below w2.heap.size w2 (w2.alloc (.cells #[.int .i64 t] 3)) := (Below.refl _ _).alloc (Nat.le_refl _) _
  refine (rmSingle_any t 1 _ w2.heap.size (World.cell?_alloc_mark w2 _ _ _ 0)).mono ?_
  rintro e w' ⟨h1, h2⟩
  refine ⟨?_, hba.trans (h2.mono hba.size)⟩
  rw [h1, show decide ((1 : Int) ≤ 1) = true from rfl, Bool.and_true]
def oGl (x : Glo) : Bool := decide ((typeV x.t).2 = 0) && rmCode [x.init]
def oEx (x : Exp) : Bool := nameB x.name && (!decide (x.kind < 0) && (!decide (3 < x.kind) && rmIn x.i))
def oEl (x : Ele) : Bool := rmIn x.table && (rmCode [x.off] && rmInAll x.f)
def oCo (x : Cod) : Bool := rmTypes x.locals 256 && rmCode x.l
def oDa (x : Dat) : Bool := rmIn x.mem && rmCode [x.off]
def rMay (m : Mdl) : Bool := rFirst m && (decide (m.funcs.length = m.codes.length) && (!decide (m.start < 0) && (!decide (4294967296 < m.start) && (decide (m.globals.length ≤ 1000) && (decide (m.exports.length ≤ 1000) && (decide (m.elems.length ≤ 1000) && (decide (m.datas.length ≤ 1000) &&
  (m.globals.all oGl && (m.exports.all oEx && (m.elems.all oEl && (m.codes.all oCo && m.datas.all oDa)))))))))))
theorem refHead_any (w : World) : Calls Tryz.prog 18 #[] w fun e w' => e = .returned (.string (strOfNums headB)) ∧ w = w' := by
  rw [show strOfNums headB = (⟨#[0, 97, 115, 109, 1, 0, 0, 0]⟩ : ByteArray) by kernel_rfl]
  go_enter Tryz.func18, Tryz.ntmps18
  go_wp2_with fail
  go_ret
  exact ⟨rfl, rfl⟩
set_option maxRecDepth 100000 in
set_option maxHeartbeats 8000000 in
theorem rmMay_any (m : Mdl) (xT : Option Addr) (cT : Nat) (xI : Option Addr) (cI : Nat) (xF : Option Addr) (cF : Nat) (xB : Option Addr) (cB : Nat) (xM : Option Addr) (cM : Nat) (xG : Option Addr) (cG : Nat) (xX : Option Addr) (cX : Nat) (xE : Option Addr) (cE : Nat) (xC : Option Addr) (cC : Nat) (xD : Option Addr) (cD : Nat) (w : World) (hx : MdlIn w m xT cT xI cI xF cF xB cB xM cM xG cG xX cX xE cE xC cC xD cD) (hu : MdlUp 1048576 m) :
    Calls Tryz.prog 17 #[.agg #[.slice xT m.types.length cT, .slice xI m.imports.length cI, .slice xF m.funcs.length cF, .slice xB m.tables.length cB, .slice xM m.mems.length cM, .slice xG m.globals.length cG, .slice xX m.exports.length cX, .int .i64 m.start, .slice xE m.elems.length cE, .slice xC m.codes.length cC, .slice xD m.datas.length cD]] w fun e w' => e = .returned (.bool (rMay m)) ∧ Below w.heap.size w w' := by
  have b1 := BlkAt.new w #[.slice xT m.types.length cT, .slice xI m.imports.length cI, .slice xF m.funcs.length cF, .slice xB m.tables.length cB, .slice xM m.mems.length cM, .slice xG m.globals.length cG, .slice xX m.exports.length cX, .int .i64 m.start, .slice xE m.elems.length cE, .slice xC m.codes.length cC, .slice xD m.datas.length cD] 32
  have HB := Lib.hid ((Below.refl w.heap.size w).alloc (Nat.le_refl _) (.cells #[.slice xT m.types.length cT, .slice xI m.imports.length cI, .slice xF m.funcs.length cF, .slice xB m.tables.length cB, .slice xM m.mems.length cM, .slice xG m.globals.length cG, .slice xX m.exports.length cX, .int .i64 m.start, .slice xE m.elems.length cE, .slice xC m.codes.length cC, .slice xD m.datas.length cD] 32))
  have HC := Lib.hid (fun (w' : World) (h : Below (w.alloc (.cells #[.slice xT m.types.length cT, .slice xI m.imports.length cI, .slice xF m.funcs.length cF, .slice xB m.tables.length cB, .slice xM m.mems.length cM, .slice xG m.globals.length cG, .slice xX m.exports.length cX, .int .i64 m.start, .slice xE m.elems.length cE, .slice xC m.codes.length cC, .slice xD m.datas.length cD] 32)).heap.size (w.alloc (.cells #[.slice xT m.types.length cT, .slice xI m.imports.length cI, .slice xF m.funcs.length cF, .slice xB m.tables.length cB, .slice xM m.mems.length cM, .slice xG m.globals.length cG, .slice xX m.exports.length cX, .int .i64 m.start, .slice xE m.elems.length cE, .slice xC m.codes.length cC, .slice xD m.datas.length cD] 32)) w') => (b1.below h).eleven)
  have q0 := Below.refl (w.alloc (.cells #[.slice xT m.types.length cT, .slice xI m.imports.length cI, .slice xF m.funcs.length cF, .slice xB m.tables.length cB, .slice xM m.mems.length cM, .slice xG m.globals.length cG, .slice xX m.exports.length cX, .int .i64 m.start, .slice xE m.elems.length cE, .slice xC m.codes.length cC, .slice xD m.datas.length cD] 32)).heap.size (w.alloc (.cells #[.slice xT m.types.length cT, .slice xI m.imports.length cI, .slice xF m.funcs.length cF, .slice xB m.tables.length cB, .slice xM m.mems.length cM, .slice xG m.globals.length cG, .slice xX m.exports.length cX, .int .i64 m.start, .slice xE m.elems.length cE, .slice xC m.codes.length cC, .slice xD m.datas.length cD] 32))
  have HX := Lib.hid hx
  have HU := Lib.hid hu
  have tG := hx.hG.top
  have lG := hx.hG.le
  have tX := hx.hX.top
  have lX := hx.hX.le
  have tE := hx.hE.top
  have lE := hx.hE.le
  have tC := hx.hC.top
  have lC := hx.hC.le
  have tD := hx.hD.top
  have lD := hx.hD.le
  have tT := hx.hT.top
  have lT := hx.hT.le
  have tI := hx.hI.top
  have lI := hx.hI.le
  have tF := hx.hF.top
  have lF := hx.hF.le
  have tB := hx.hB.top
  have lB := hx.hB.le
  have tM := hx.hM.top
  have lM := hx.hM.le
  have P0 : Hid ((rFirst m) = false → rMay m = false) := Lib.hid fun h => by unfold rMay; rw [h]; simp
  have P1 : Hid ((decide (m.funcs.length = m.codes.length)) = false → rMay m = false) := Lib.hid fun h => by unfold rMay; rw [h]; simp
  have P2 : Hid ((!decide (m.start < 0)) = false → rMay m = false) := Lib.hid fun h => by unfold rMay; rw [h]; simp
  have P3 : Hid ((!decide (4294967296 < m.start)) = false → rMay m = false) := Lib.hid fun h => by unfold rMay; rw [h]; simp
  have P4 : Hid ((decide (m.globals.length ≤ 1000)) = false → rMay m = false) := Lib.hid fun h => by unfold rMay; rw [h]; simp
  have P5 : Hid ((decide (m.exports.length ≤ 1000)) = false → rMay m = false) := Lib.hid fun h => by unfold rMay; rw [h]; simp
  have P6 : Hid ((decide (m.elems.length ≤ 1000)) = false → rMay m = false) := Lib.hid fun h => by unfold rMay; rw [h]; simp
  have P7 : Hid ((decide (m.datas.length ≤ 1000)) = false → rMay m = false) := Lib.hid fun h => by unfold rMay; rw [h]; simp
  have FG : Hid (m.globals.all oGl = false → rMay m = false) := Lib.hid fun h => by unfold rMay; rw [h]; simp
  have FX : Hid (m.exports.all oEx = false → rMay m = false) := Lib.hid fun h => by unfold rMay; rw [h]; simp
  have FE : Hid (m.elems.all oEl = false → rMay m = false) := Lib.hid fun h => by unfold rMay; rw [h]; simp
  have FC : Hid (m.codes.all oCo = false → rMay m = false) := Lib.hid fun h => by unfold rMay; rw [h]; simp
  have FD : Hid (m.datas.all oDa = false → rMay m = false) := Lib.hid fun h => by unfold rMay; rw [h]; simp
  have FZ : Hid ((rFirst m) = true → (decide (m.funcs.length = m.codes.length)) = true → (!decide (m.start < 0)) = true → (!decide (4294967296 < m.start)) = true → (decide (m.globals.length ≤ 1000)) = true → (decide (m.exports.length ≤ 1000)) = true → (decide (m.elems.length ≤ 1000)) = true → (decide (m.datas.length ≤ 1000)) = true → m.globals.all oGl = true → m.exports.all oEx = true → m.elems.all oEl = true → m.codes.all oCo = true → m.datas.all oDa = true → rMay m = true) := Lib.hid fun h0 h1 h2 h3 h4 h5 h6 h7 h8 h9 h10 h11 h12 => by unfold rMay; rw [h0, h1, h2, h3, h4, h5, h6, h7, h8, h9, h10, h11, h12]; rfl
  have HFI := Lib.hid (fun (w2 : World) (h : Below w.heap.size w w2) => rmFirst_any m xT cT xI cI xF cF xB cB xM cM xG cG xX cX xE cE xC cC xD cD w2 (hx.below h) hu)
  revert P0 P1 P2 P3 P4 P5 P6 P7 FG FX FE FC FD FZ HFI
  generalize rMay m = R
  generalize rFirst m = RF
  intro P0 P1 P2 P3 P4 P5 P6 P7 FG FX FE FC FD FZ HFI
  obtain ⟨g0, g1, g2, g3, g4, g5, g6, g7, g8, g9, g10⟩ := HC.out _ q0
  clear b1 hx hu
  cases RF with
  | false =>
    go_enter Tryz.func17, Tryz.ntmps17
    go_wp2_with (first | (go_at_call 49; refine (HFI.out _ (HB.out.trans (q0.mono HB.out.size))).mono ?_; rintro e w1 ⟨rfl, k1⟩; have hb := q0.trans (k1.mono q0.size); obtain ⟨d0, d1, d2, d3, d4, d5, d6, d7, d8, d9, d10⟩ := HC.out _ hb; clear k1 HFI g0 g1 g2 g3 g4 g5 g6 g7 g8 g9 g10))
    go_ret
    exact ⟨congrArg (fun b => Ending.returned (.bool b)) (P0.out (by first | rfl | trivial)).symm, (HB.out.trans (hb.mono HB.out.size))⟩
  | true =>
    by_cases hq : m.funcs.length = m.codes.length
    case neg =>
      have PN := Lib.hid (P1.out (decide_eq_false hq))
      have hq1 : ((m.funcs.length : Int) == (m.codes.length : Int)) = false := eq_no (by omega)
      have hq2 : (m.funcs.length == m.codes.length) = false := by simpa using hq
      have hq3 : ((m.funcs.length : Int) != (m.codes.length : Int)) = true := by rw [bne, hq1]; rfl
      have hq4 : (m.funcs.length != m.codes.length) = true := by rw [bne, hq2]; rfl
      clear hq
      go_enter Tryz.func17, Tryz.ntmps17
      go_wp2_with (first | (go_at_call 49; refine (HFI.out _ (HB.out.trans (q0.mono HB.out.size))).mono ?_; rintro e w1 ⟨rfl, k1⟩; have hb := q0.trans (k1.mono q0.size); obtain ⟨d0, d1, d2, d3, d4, d5, d6, d7, d8, d9, d10⟩ := HC.out _ hb; clear k1 HFI g0 g1 g2 g3 g4 g5 g6 g7 g8 g9 g10))
      go_ret
      exact ⟨congrArg (fun b => Ending.returned (.bool b)) PN.out.symm, (HB.out.trans (hb.mono HB.out.size))⟩
    have Q1 := Lib.hid (show decide (m.funcs.length = m.codes.length) = true from decide_eq_true hq)
    have eQ : ((m.funcs.length : Int) == (m.codes.length : Int)) = true := by rw [hq]; simp
    have eQ2 : (m.funcs.length == m.codes.length) = true := by rw [hq]; simp
    have eQ3x : ((m.funcs.length : Int) != (m.codes.length : Int)) = false := by rw [bne, eQ]; rfl
    have eQ4x : (m.funcs.length != m.codes.length) = false := by rw [bne, eQ2]; rfl
    clear hq
    by_cases hq : m.start < 0
    case pos =>
      have PN := Lib.hid (P2.out (by simpa using hq))
      go_enter Tryz.func17, Tryz.ntmps17
      go_wp2_with (first | (go_at_call 49; refine (HFI.out _ (HB.out.trans (q0.mono HB.out.size))).mono ?_; rintro e w1 ⟨rfl, k1⟩; have hb := q0.trans (k1.mono q0.size); obtain ⟨d0, d1, d2, d3, d4, d5, d6, d7, d8, d9, d10⟩ := HC.out _ hb; clear k1 HFI g0 g1 g2 g3 g4 g5 g6 g7 g8 g9 g10))
      go_ret
      exact ⟨congrArg (fun b => Ending.returned (.bool b)) PN.out.symm, (HB.out.trans (hb.mono HB.out.size))⟩
    have Q2 : Hid ((!decide (m.start < 0)) = true) := Lib.hid (by simpa using hq)
    have eQ2 : decide (m.start < 0) = false := decide_eq_false hq
    have hQ2 := hq
    clear hq
    by_cases hq : 4294967296 < m.start
    case pos =>
      have PN := Lib.hid (P3.out (by simpa using hq))
      go_enter Tryz.func17, Tryz.ntmps17
      go_wp2_with (first | (go_at_call 49; refine (HFI.out _ (HB.out.trans (q0.mono HB.out.size))).mono ?_; rintro e w1 ⟨rfl, k1⟩; have hb := q0.trans (k1.mono q0.size); obtain ⟨d0, d1, d2, d3, d4, d5, d6, d7, d8, d9, d10⟩ := HC.out _ hb; clear k1 HFI g0 g1 g2 g3 g4 g5 g6 g7 g8 g9 g10))
      go_ret
      exact ⟨congrArg (fun b => Ending.returned (.bool b)) PN.out.symm, (HB.out.trans (hb.mono HB.out.size))⟩
    have Q3 : Hid ((!decide (4294967296 < m.start)) = true) := Lib.hid (by simpa using hq)
    have eQ3 : decide (4294967296 < m.start) = false := decide_eq_false hq
    have hQ3 := hq
    clear hq
    by_cases hq : m.globals.length ≤ 1000
    case neg =>
      have PN := Lib.hid (P4.out (decide_eq_false hq))
      have hq1 : (1000 : Int) < m.globals.length := by omega
      clear hq
      go_enter Tryz.func17, Tryz.ntmps17
      go_wp2_with (first | (go_at_call 49; refine (HFI.out _ (HB.out.trans (q0.mono HB.out.size))).mono ?_; rintro e w1 ⟨rfl, k1⟩; have hb := q0.trans (k1.mono q0.size); obtain ⟨d0, d1, d2, d3, d4, d5, d6, d7, d8, d9, d10⟩ := HC.out _ hb; clear k1 HFI g0 g1 g2 g3 g4 g5 g6 g7 g8 g9 g10))
      go_ret
      exact ⟨congrArg (fun b => Ending.returned (.bool b)) PN.out.symm, (HB.out.trans (hb.mono HB.out.size))⟩
    have Q4 := Lib.hid (show decide (m.globals.length ≤ 1000) = true from decide_eq_true hq)
    have eQ4 : decide ((1000 : Int) < m.globals.length) = false := decide_eq_false (by omega)
    have hQ4 : ¬ (1000 : Int) < m.globals.length := by omega
    clear hq
    by_cases hq : m.exports.length ≤ 1000
    case neg =>
      have PN := Lib.hid (P5.out (decide_eq_false hq))
      have hq1 : (1000 : Int) < m.exports.length := by omega
      clear hq
      go_enter Tryz.func17, Tryz.ntmps17
      go_wp2_with (first | (go_at_call 49; refine (HFI.out _ (HB.out.trans (q0.mono HB.out.size))).mono ?_; rintro e w1 ⟨rfl, k1⟩; have hb := q0.trans (k1.mono q0.size); obtain ⟨d0, d1, d2, d3, d4, d5, d6, d7, d8, d9, d10⟩ := HC.out _ hb; clear k1 HFI g0 g1 g2 g3 g4 g5 g6 g7 g8 g9 g10))
      go_ret
      exact ⟨congrArg (fun b => Ending.returned (.bool b)) PN.out.symm, (HB.out.trans (hb.mono HB.out.size))⟩
    have Q5 := Lib.hid (show decide (m.exports.length ≤ 1000) = true from decide_eq_true hq)
    have eQ5 : decide ((1000 : Int) < m.exports.length) = false := decide_eq_false (by omega)
    have hQ5 : ¬ (1000 : Int) < m.exports.length := by omega
    clear hq
    by_cases hq : m.elems.length ≤ 1000
    case neg =>
      have PN := Lib.hid (P6.out (decide_eq_false hq))
      have hq1 : (1000 : Int) < m.elems.length := by omega
      clear hq
      go_enter Tryz.func17, Tryz.ntmps17
      go_wp2_with (first | (go_at_call 49; refine (HFI.out _ (HB.out.trans (q0.mono HB.out.size))).mono ?_; rintro e w1 ⟨rfl, k1⟩; have hb := q0.trans (k1.mono q0.size); obtain ⟨d0, d1, d2, d3, d4, d5, d6, d7, d8, d9, d10⟩ := HC.out _ hb; clear k1 HFI g0 g1 g2 g3 g4 g5 g6 g7 g8 g9 g10))
      go_ret
      exact ⟨congrArg (fun b => Ending.returned (.bool b)) PN.out.symm, (HB.out.trans (hb.mono HB.out.size))⟩
    have Q6 := Lib.hid (show decide (m.elems.length ≤ 1000) = true from decide_eq_true hq)
    have eQ6 : decide ((1000 : Int) < m.elems.length) = false := decide_eq_false (by omega)
    have hQ6 : ¬ (1000 : Int) < m.elems.length := by omega
    clear hq
    by_cases hq : m.datas.length ≤ 1000
    case neg =>
      have PN := Lib.hid (P7.out (decide_eq_false hq))
      have hq1 : (1000 : Int) < m.datas.length := by omega
      clear hq
      go_enter Tryz.func17, Tryz.ntmps17
      go_wp2_with (first | (go_at_call 49; refine (HFI.out _ (HB.out.trans (q0.mono HB.out.size))).mono ?_; rintro e w1 ⟨rfl, k1⟩; have hb := q0.trans (k1.mono q0.size); obtain ⟨d0, d1, d2, d3, d4, d5, d6, d7, d8, d9, d10⟩ := HC.out _ hb; clear k1 HFI g0 g1 g2 g3 g4 g5 g6 g7 g8 g9 g10))
      go_ret
      exact ⟨congrArg (fun b => Ending.returned (.bool b)) PN.out.symm, (HB.out.trans (hb.mono HB.out.size))⟩
    have Q7 := Lib.hid (show decide (m.datas.length ≤ 1000) = true from decide_eq_true hq)
    have eQ7 : decide ((1000 : Int) < m.datas.length) = false := decide_eq_false (by omega)
    have hQ7 : ¬ (1000 : Int) < m.datas.length := by omega
    clear hq
    go_enter Tryz.func17, Tryz.ntmps17
    go_wp2_with (first | (go_at_call 49; refine (HFI.out _ (HB.out.trans (q0.mono HB.out.size))).mono ?_; rintro e w1 ⟨rfl, k1⟩; have hb := q0.trans (k1.mono q0.size); obtain ⟨d0, d1, d2, d3, d4, d5, d6, d7, d8, d9, d10⟩ := HC.out _ hb; clear k1 HFI g0 g1 g2 g3 g4 g5 g6 g7 g8 g9 g10))
    clear d0 d1 d2 d3 d4 d5 d6 d7 d8 d9 d10 eQ eQ2 eQ3x eQ4x hQ2 hQ3 hQ4 hQ5 hQ6 hQ7 eQ3 eQ4 eQ5 eQ6 eQ7
    go_loopw [3] (fun iv wr => ∃ i : Nat, iv = .int .i64 i ∧ i ≤ m.globals.length ∧ (∀ j, j < i → oGl (m.globals.getD j default) = true) ∧ Below (w.alloc (.cells #[.slice xT m.types.length cT, .slice xI m.imports.length cI, .slice xF m.funcs.length cF, .slice xB m.tables.length cB, .slice xM m.mems.length cM, .slice xG m.globals.length cG, .slice xX m.exports.length cX, .int .i64 m.start, .slice xE m.elems.length cE, .slice xC m.codes.length cC, .slice xD m.datas.length cD] 32)).heap.size (w.alloc (.cells #[.slice xT m.types.length cT, .slice xI m.imports.length cI, .slice xF m.funcs.length cF, .slice xB m.tables.length cB, .slice xM m.mems.length cM, .slice xG m.globals.length cG, .slice xX m.exports.length cX, .int .i64 m.start, .slice xE m.elems.length cE, .slice xC m.codes.length cC, .slice xD m.datas.length cD] 32)) wr) (fun iv _ => m.globals.length - (intOf iv).toNat)
    case atStart => exact ⟨0, rfl, Nat.zero_le _, fun j h => absurd h (Nat.not_lt_zero _), hb⟩
    case round =>
      clear hb
      obtain ⟨i, rfl, hi, hall, hb⟩ := hrel
      have HALL := Lib.hid hall
      clear hall
      have hk := (HC.out _ hb).2.2.2.2.2.1
      by_cases hlt : i < m.globals.length
      · obtain ⟨bx, ox, rfl, xn, nc, xl, lc, xe, ec, ⟨e0, _⟩, ⟨i0, i1, i2, i3, i4, i5, i6⟩, hv, _⟩ := HX.out.hG.at hlt
        have f0 := below_cell (HB.out.trans (hb.mono HB.out.size)) e0
        have EI := Lib.hid (fun (w' : World) (h : Below w.heap.size w w') => (And.intro (below_cell h i0) (And.intro (below_cell h i1) (And.intro (below_cell h i2) (And.intro (below_cell h i3) (And.intro (below_cell h i4) (And.intro (below_cell h i5) (below_cell h i6))))))))
        have HP := Lib.hid (fun (w2 : World) (_ : Below w.heap.size w w2) => rmTypes1 (m.globals.getD i default).t w2)
        have HQ := Lib.hid (fun (w2 : World) (h : Below w.heap.size w w2) => rmCode1 (m.globals.getD i default).init xn nc xl lc xe ec w hv w2 h)
        have hok : oGl (m.globals.getD i default) = (decide ((typeV (m.globals.getD i default).t).2 = 0) && rmCode [(m.globals.getD i default).init]) := rfl
        clear e0 i0 i1 i2 i3 i4 i5 i6 hv
        revert f0 EI HP HQ hok
        generalize decide ((typeV (m.globals.getD i default).t).2 = 0) = r1
        generalize rmCode [(m.globals.getD i default).init] = r2
        generalize (m.globals.getD i default).t = xt
        generalize (m.globals.getD i default).init = c
        intro f0 EI HP HQ hok
        cases r1 with
        | false =>
          have HNO : Hid (oGl (m.globals.getD i default) = false) := Lib.hid hok
          clear hok
          go_wp2_with (first
            | (go_at_call 50; refine (HP.out _ (HB.out.trans (hb.mono HB.out.size))).mono ?_; rintro e w1 ⟨rfl, k1⟩; replace hb := hb.trans (k1.mono hb.size); have hk1 := (HC.out _ hb).2.2.2.2.2.1; obtain ⟨c0, c1, c2, c3, c4, c5, c6⟩ := EI.out _ (HB.out.trans (hb.mono HB.out.size)); clear k1 HP))
          go_ret
          exact ⟨congrArg (fun b => Ending.returned (.bool b)) (FG.out (all_noneG (p := oGl) hlt HNO.out)).symm, (HB.out.trans (hb.mono HB.out.size))⟩
        | true =>
          cases r2 with
          | false =>
            have HNO : Hid (oGl (m.globals.getD i default) = false) := Lib.hid hok
            clear hok
            go_wp2_with (first
              | (go_at_call 50; refine (HP.out _ (HB.out.trans (hb.mono HB.out.size))).mono ?_; rintro e w1 ⟨rfl, k1⟩; replace hb := hb.trans (k1.mono hb.size); have hk1 := (HC.out _ hb).2.2.2.2.2.1; obtain ⟨c0, c1, c2, c3, c4, c5, c6⟩ := EI.out _ (HB.out.trans (hb.mono HB.out.size)); clear k1 HP)
              | (go_at_call 51; refine (HQ.out _ (HB.out.trans (hb.mono HB.out.size))).mono ?_; rintro e w2 ⟨rfl, k2⟩; replace hb := hb.trans (k2.mono hb.size); clear k2 HQ))
            go_ret
            exact ⟨congrArg (fun b => Ending.returned (.bool b)) (FG.out (all_noneG (p := oGl) hlt HNO.out)).symm, (HB.out.trans (hb.mono HB.out.size))⟩
          | true =>
            have NXT : Hid (∀ j, j < i + 1 → oGl (m.globals.getD j default) = true) := Lib.hid fun j hj => by
              rcases Nat.lt_or_ge j i with q | q
              · exact HALL.out j q
              · obtain rfl : j = i := by omega
                exact hok
            clear hok
            go_wp2_with (first
              | (go_at_call 50; refine (HP.out _ (HB.out.trans (hb.mono HB.out.size))).mono ?_; rintro e w1 ⟨rfl, k1⟩; replace hb := hb.trans (k1.mono hb.size); have hk1 := (HC.out _ hb).2.2.2.2.2.1; obtain ⟨c0, c1, c2, c3, c4, c5, c6⟩ := EI.out _ (HB.out.trans (hb.mono HB.out.size)); clear k1 HP)
              | (go_at_call 51; refine (HQ.out _ (HB.out.trans (hb.mono HB.out.size))).mono ?_; rintro e w2 ⟨rfl, k2⟩; replace hb := hb.trans (k2.mono hb.size); clear k2 HQ))
            exact ⟨⟨i + 1, by go_num, by omega, NXT.out, hb⟩, by simp [intOf]; omega⟩
      · have AG := Lib.hid (all_allG (p := oGl) (fun j hj => HALL.out j (by omega)))
        go_wp2_with fail
        go_loopw [4] (fun iv wr => ∃ i : Nat, iv = .int .i64 i ∧ i ≤ m.exports.length ∧ (∀ j, j < i → oEx (m.exports.getD j default) = true) ∧ Below (w.alloc (.cells #[.slice xT m.types.length cT, .slice xI m.imports.length cI, .slice xF m.funcs.length cF, .slice xB m.tables.length cB, .slice xM m.mems.length cM, .slice xG m.globals.length cG, .slice xX m.exports.length cX, .int .i64 m.start, .slice xE m.elems.length cE, .slice xC m.codes.length cC, .slice xD m.datas.length cD] 32)).heap.size (w.alloc (.cells #[.slice xT m.types.length cT, .slice xI m.imports.length cI, .slice xF m.funcs.length cF, .slice xB m.tables.length cB, .slice xM m.mems.length cM, .slice xG m.globals.length cG, .slice xX m.exports.length cX, .int .i64 m.start, .slice xE m.elems.length cE, .slice xC m.codes.length cC, .slice xD m.datas.length cD] 32)) wr) (fun iv _ => m.exports.length - (intOf iv).toNat)
        case atStart => exact ⟨0, rfl, Nat.zero_le _, fun j h => absurd h (Nat.not_lt_zero _), hb⟩
        case round =>
          clear hb
          obtain ⟨i, rfl, hi, hall, hb⟩ := hrel
          have HALL := Lib.hid hall
          clear hall
          have hk := (HC.out _ hb).2.2.2.2.2.2.1
          by_cases hlt : i < m.exports.length
          · obtain ⟨bx, ox, rfl, ⟨e0, e1, e2⟩, _⟩ := HX.out.hX.at hlt
            have u0 := HU.out.exports.2 i hlt
            have f0 := below_cell (HB.out.trans (hb.mono HB.out.size)) e0
            have f1 := below_cell (HB.out.trans (hb.mono HB.out.size)) e1
            have f2 := below_cell (HB.out.trans (hb.mono HB.out.size)) e2
            have HP := Lib.hid (fun (w2 : World) => rmName_any (m.exports.getD i default).name u0 w2)
            have HQ := Lib.hid (fun (w2 : World) => rmIn_any (m.exports.getD i default).i w2)
            have hok : oEx (m.exports.getD i default) = (nameB (m.exports.getD i default).name && (!decide ((m.exports.getD i default).kind < 0) && (!decide (3 < (m.exports.getD i default).kind) && rmIn (m.exports.getD i default).i))) := rfl
            clear e0 e1 e2 u0
            revert f0 f1 f2 HP HQ hok
            generalize nameB (m.exports.getD i default).name = r1
            generalize rmIn (m.exports.getD i default).i = r2
            generalize (m.exports.getD i default).name = nm
            generalize (m.exports.getD i default).kind = kd
            generalize (m.exports.getD i default).i = ix
            intro f0 f1 f2 HP HQ hok
            have bq := BlkAt.new wr #[.string nm, .int .i64 kd, .int .i64 ix] 95
            replace hb := hb.alloc hb.size (.cells #[.string nm, .int .i64 kd, .int .i64 ix] 95)
            have BQ := Lib.hid bq
            clear bq
            cases r1 with
            | false =>
              have HNO : Hid (oEx (m.exports.getD i default) = false) := Lib.hid hok
              clear hok
              go_wp2_with (first | (go_at_call 52; refine (HP.out _).mono ?_; rintro e w1 ⟨rfl, k1⟩; have y1 := (BQ.out.below k1).cell 1; have y2 := (BQ.out.below k1).cell 2; simp at y1 y2; replace hb := hb.trans (k1.mono hb.size); clear k1 HP))
              go_ret
              exact ⟨congrArg (fun b => Ending.returned (.bool b)) (FX.out (all_noneG (p := oEx) hlt HNO.out)).symm, (HB.out.trans (hb.mono HB.out.size))⟩
            | true =>
              by_cases k0 : kd < 0
              case pos =>
                have HNO : Hid (oEx (m.exports.getD i default) = false) := Lib.hid (hok.trans (by simp [k0]))
                clear hok
                go_wp2_with (first | (go_at_call 52; refine (HP.out _).mono ?_; rintro e w1 ⟨rfl, k1⟩; have y1 := (BQ.out.below k1).cell 1; have y2 := (BQ.out.below k1).cell 2; simp at y1 y2; replace hb := hb.trans (k1.mono hb.size); clear k1 HP))
                go_ret
                exact ⟨congrArg (fun b => Ending.returned (.bool b)) (FX.out (all_noneG (p := oEx) hlt HNO.out)).symm, (HB.out.trans (hb.mono HB.out.size))⟩
              have d0 : decide (kd < 0) = false := decide_eq_false k0
              by_cases k3 : 3 < kd
              case pos =>
                have HNO : Hid (oEx (m.exports.getD i default) = false) := Lib.hid (hok.trans (by simp [k3]))
                clear hok
                go_wp2_with (first | (go_at_call 52; refine (HP.out _).mono ?_; rintro e w1 ⟨rfl, k1⟩; have y1 := (BQ.out.below k1).cell 1; have y2 := (BQ.out.below k1).cell 2; simp at y1 y2; replace hb := hb.trans (k1.mono hb.size); clear k1 HP))
                go_ret
                exact ⟨congrArg (fun b => Ending.returned (.bool b)) (FX.out (all_noneG (p := oEx) hlt HNO.out)).symm, (HB.out.trans (hb.mono HB.out.size))⟩
              have d3 : decide (3 < kd) = false := decide_eq_false k3
              replace hok : oEx (m.exports.getD i default) = r2 := hok.trans (by simp [k0, k3])
              cases r2 with
              | false =>
                have HNO : Hid (oEx (m.exports.getD i default) = false) := Lib.hid hok
                clear hok
                go_wp2_with (first | (go_at_call 52; refine (HP.out _).mono ?_; rintro e w1 ⟨rfl, k1⟩; have y1 := (BQ.out.below k1).cell 1; have y2 := (BQ.out.below k1).cell 2; simp at y1 y2; replace hb := hb.trans (k1.mono hb.size); clear k1 HP) | (go_at_call 53; refine (HQ.out _).mono ?_; rintro e w2 ⟨rfl, rfl⟩))
                go_ret
                exact ⟨congrArg (fun b => Ending.returned (.bool b)) (FX.out (all_noneG (p := oEx) hlt HNO.out)).symm, (HB.out.trans (hb.mono HB.out.size))⟩
              | true =>
                have NXT : Hid (∀ j, j < i + 1 → oEx (m.exports.getD j default) = true) := Lib.hid fun j hj => by
                  rcases Nat.lt_or_ge j i with q | q
                  · exact HALL.out j q
                  · obtain rfl : j = i := by omega
                    exact hok
                clear hok
                go_wp2_with (first | (go_at_call 52; refine (HP.out _).mono ?_; rintro e w1 ⟨rfl, k1⟩; have y1 := (BQ.out.below k1).cell 1; have y2 := (BQ.out.below k1).cell 2; simp at y1 y2; replace hb := hb.trans (k1.mono hb.size); clear k1 HP) | (go_at_call 53; refine (HQ.out _).mono ?_; rintro e w2 ⟨rfl, rfl⟩))
                exact ⟨⟨i + 1, by go_num, by omega, NXT.out, hb⟩, by simp [intOf]; omega⟩
          · have AX := Lib.hid (all_allG (p := oEx) (fun j hj => HALL.out j (by omega)))
            go_wp2_with fail
            go_loopw [6] (fun iv wr => ∃ i : Nat, iv = .int .i64 i ∧ i ≤ m.elems.length ∧ (∀ j, j < i → oEl (m.elems.getD j default) = true) ∧ Below (w.alloc (.cells #[.slice xT m.types.length cT, .slice xI m.imports.length cI, .slice xF m.funcs.length cF, .slice xB m.tables.length cB, .slice xM m.mems.length cM, .slice xG m.globals.length cG, .slice xX m.exports.length cX, .int .i64 m.start, .slice xE m.elems.length cE, .slice xC m.codes.length cC, .slice xD m.datas.length cD] 32)).heap.size (w.alloc (.cells #[.slice xT m.types.length cT, .slice xI m.imports.length cI, .slice xF m.funcs.length cF, .slice xB m.tables.length cB, .slice xM m.mems.length cM, .slice xG m.globals.length cG, .slice xX m.exports.length cX, .int .i64 m.start, .slice xE m.elems.length cE, .slice xC m.codes.length cC, .slice xD m.datas.length cD] 32)) wr) (fun iv _ => m.elems.length - (intOf iv).toNat)
            case atStart => exact ⟨0, rfl, Nat.zero_le _, fun j h => absurd h (Nat.not_lt_zero _), hb⟩
            case round =>
              clear hb
              obtain ⟨i, rfl, hi, hall, hb⟩ := hrel
              have HALL := Lib.hid hall
              clear hall
              have hk := (HC.out _ hb).2.2.2.2.2.2.2.2.1
              by_cases hlt : i < m.elems.length
              · obtain ⟨bx, ox, rfl, xn, nc, xl, lc, xe, ec, xf, cf, ⟨e0, e8⟩, ⟨i0, i1, i2, i3, i4, i5, i6⟩, hv, _, hf, _⟩ := HX.out.hE.at hlt
                have u0 := HU.out.elems.2 i hlt
                have f0 := below_cell (HB.out.trans (hb.mono HB.out.size)) e0
                have E8 := Lib.hid e8
                have EI := Lib.hid (fun (w' : World) (h : Below w.heap.size w w') => (And.intro (below_cell h i0) (And.intro (below_cell h i1) (And.intro (below_cell h i2) (And.intro (below_cell h i3) (And.intro (below_cell h i4) (And.intro (below_cell h i5) (below_cell h i6))))))))
                obtain ⟨c0, c1, c2, c3, c4, c5, c6⟩ := EI.out _ (HB.out.trans (hb.mono HB.out.size))
                have HP := Lib.hid (fun (w2 : World) => rmIn_any (m.elems.getD i default).table w2)
                have HQ := Lib.hid (fun (w2 : World) (h : Below w.heap.size w w2) => rmCode1 (m.elems.getD i default).off xn nc xl lc xe ec w hv w2 h)
                have HS := Lib.hid (fun (w2 : World) (h : Below w.heap.size w w2) => rmInAll_any (m.elems.getD i default).f xf _ cf w2 (hf.lie.below h) rfl u0)
                have hok : oEl (m.elems.getD i default) = (rmIn (m.elems.getD i default).table && (rmCode [(m.elems.getD i default).off] && rmInAll (m.elems.getD i default).f)) := rfl
                clear e0 e8 i0 i1 i2 i3 i4 i5 i6 hv hf u0
                revert f0 E8 EI c0 c1 c2 c3 c4 c5 c6 HP HQ HS hok
                generalize rmIn (m.elems.getD i default).table = r1
                generalize rmCode [(m.elems.getD i default).off] = r2
                generalize rmInAll (m.elems.getD i default).f = r3
                generalize (m.elems.getD i default).table = xt
                generalize (m.elems.getD i default).off = c
                generalize (m.elems.getD i default).f.length = nf
                intro f0 E8 EI c0 c1 c2 c3 c4 c5 c6 HP HQ HS hok
                cases r1 with
                | false =>
                  have HNO : Hid (oEl (m.elems.getD i default) = false) := Lib.hid hok
                  clear hok
                  go_wp2_with (first
                    | (go_at_call 53; refine (HP.out _).mono ?_; rintro e w1 ⟨rfl, rfl⟩))
                  go_ret
                  exact ⟨congrArg (fun b => Ending.returned (.bool b)) (FE.out (all_noneG (p := oEl) hlt HNO.out)).symm, (HB.out.trans (hb.mono HB.out.size))⟩
                | true =>
                  cases r2 with
                  | false =>
                    have HNO : Hid (oEl (m.elems.getD i default) = false) := Lib.hid hok
                    clear hok
                    go_wp2_with (first
                      | (go_at_call 53; refine (HP.out _).mono ?_; rintro e w1 ⟨rfl, rfl⟩)
                      | (go_at_call 51; refine (HQ.out _ (HB.out.trans (hb.mono HB.out.size))).mono ?_; rintro e w2 ⟨rfl, k2⟩; replace hb := hb.trans (k2.mono hb.size); have hk1 := (HC.out _ hb).2.2.2.2.2.2.2.2.1; have y8 := below_cell (HB.out.trans (hb.mono HB.out.size)) E8.out; clear k2 HQ))
                    go_ret
                    exact ⟨congrArg (fun b => Ending.returned (.bool b)) (FE.out (all_noneG (p := oEl) hlt HNO.out)).symm, (HB.out.trans (hb.mono HB.out.size))⟩
                  | true =>
                    cases r3 with
                    | false =>
                      have HNO : Hid (oEl (m.elems.getD i default) = false) := Lib.hid hok
                      clear hok
                      go_wp2_with (first
                        | (go_at_call 53; refine (HP.out _).mono ?_; rintro e w1 ⟨rfl, rfl⟩)
                        | (go_at_call 51; refine (HQ.out _ (HB.out.trans (hb.mono HB.out.size))).mono ?_; rintro e w2 ⟨rfl, k2⟩; replace hb := hb.trans (k2.mono hb.size); have hk1 := (HC.out _ hb).2.2.2.2.2.2.2.2.1; have y8 := below_cell (HB.out.trans (hb.mono HB.out.size)) E8.out; clear k2 HQ)
                        | (go_at_call 54; refine (HS.out _ (HB.out.trans (hb.mono HB.out.size))).mono ?_; rintro e w3 ⟨rfl, rfl⟩))
                      go_ret
                      exact ⟨congrArg (fun b => Ending.returned (.bool b)) (FE.out (all_noneG (p := oEl) hlt HNO.out)).symm, (HB.out.trans (hb.mono HB.out.size))⟩
                    | true =>
                      have NXT : Hid (∀ j, j < i + 1 → oEl (m.elems.getD j default) = true) := Lib.hid fun j hj => by
                        rcases Nat.lt_or_ge j i with q | q
                        · exact HALL.out j q
                        · obtain rfl : j = i := by omega
                          exact hok
                      clear hok
                      go_wp2_with (first
                        | (go_at_call 53; refine (HP.out _).mono ?_; rintro e w1 ⟨rfl, rfl⟩)
                        | (go_at_call 51; refine (HQ.out _ (HB.out.trans (hb.mono HB.out.size))).mono ?_; rintro e w2 ⟨rfl, k2⟩; replace hb := hb.trans (k2.mono hb.size); have hk1 := (HC.out _ hb).2.2.2.2.2.2.2.2.1; have y8 := below_cell (HB.out.trans (hb.mono HB.out.size)) E8.out; clear k2 HQ)
                        | (go_at_call 54; refine (HS.out _ (HB.out.trans (hb.mono HB.out.size))).mono ?_; rintro e w3 ⟨rfl, rfl⟩))
                      exact ⟨⟨i + 1, by go_num, by omega, NXT.out, hb⟩, by simp [intOf]; omega⟩
              · have AE := Lib.hid (all_allG (p := oEl) (fun j hj => HALL.out j (by omega)))
                go_wp2_with fail
                go_loopw [7] (fun iv wr => ∃ i : Nat, iv = .int .i64 i ∧ i ≤ m.codes.length ∧ (∀ j, j < i → oCo (m.codes.getD j default) = true) ∧ Below (w.alloc (.cells #[.slice xT m.types.length cT, .slice xI m.imports.length cI, .slice xF m.funcs.length cF, .slice xB m.tables.length cB, .slice xM m.mems.length cM, .slice xG m.globals.length cG, .slice xX m.exports.length cX, .int .i64 m.start, .slice xE m.elems.length cE, .slice xC m.codes.length cC, .slice xD m.datas.length cD] 32)).heap.size (w.alloc (.cells #[.slice xT m.types.length cT, .slice xI m.imports.length cI, .slice xF m.funcs.length cF, .slice xB m.tables.length cB, .slice xM m.mems.length cM, .slice xG m.globals.length cG, .slice xX m.exports.length cX, .int .i64 m.start, .slice xE m.elems.length cE, .slice xC m.codes.length cC, .slice xD m.datas.length cD] 32)) wr) (fun iv _ => m.codes.length - (intOf iv).toNat)
                case atStart => exact ⟨0, rfl, Nat.zero_le _, fun j h => absurd h (Nat.not_lt_zero _), hb⟩
                case round =>
                  clear hb
                  obtain ⟨i, rfl, hi, hall, hb⟩ := hrel
                  have HALL := Lib.hid hall
                  clear hall
                  have hk := (HC.out _ hb).2.2.2.2.2.2.2.2.2.1
                  by_cases hlt : i < m.codes.length
                  · obtain ⟨bx, ox, rfl, xs, cs, xl, cl, ⟨e0, e1⟩, hs, hl, _, hm⟩ := HX.out.hC.at hlt
                    have f0 := below_cell (HB.out.trans (hb.mono HB.out.size)) e0
                    have E1 := Lib.hid e1
                    have HP := Lib.hid (fun (w2 : World) (h : Below w.heap.size w w2) => rmTypes_any (m.codes.getD i default).locals 256 xs _ cs w2 (hs.lie.below h) rfl hm)
                    have HQ := Lib.hid (fun (w2 : World) (h : Below w.heap.size w w2) => rmCode_any (m.codes.getD i default).l xl _ cl w2 (hl.below h))
                    have hok : oCo (m.codes.getD i default) = (rmTypes (m.codes.getD i default).locals 256 && rmCode (m.codes.getD i default).l) := rfl
                    clear e0 e1 hs hl hm
                    revert f0 E1 HP HQ hok
                    generalize rmTypes (m.codes.getD i default).locals 256 = r1
                    generalize rmCode (m.codes.getD i default).l = r2
                    generalize (m.codes.getD i default).locals.length = ls
                    generalize (m.codes.getD i default).l.length = ll
                    intro f0 E1 HP HQ hok
                    cases r1 with
                    | false =>
                      have HNO : Hid (oCo (m.codes.getD i default) = false) := Lib.hid hok
                      clear hok
                      go_wp2_with (first
                        | (go_at_call 50; refine (HP.out _ (HB.out.trans (hb.mono HB.out.size))).mono ?_; rintro e w1 ⟨rfl, k1⟩; replace hb := hb.trans (k1.mono hb.size); have hk1 := (HC.out _ hb).2.2.2.2.2.2.2.2.2.1; have y1 := below_cell (HB.out.trans (hb.mono HB.out.size)) E1.out; clear k1 HP))
                      go_ret
                      exact ⟨congrArg (fun b => Ending.returned (.bool b)) (FC.out (all_noneG (p := oCo) hlt HNO.out)).symm, (HB.out.trans (hb.mono HB.out.size))⟩
                    | true =>
                      cases r2 with
                      | false =>
                        have HNO : Hid (oCo (m.codes.getD i default) = false) := Lib.hid hok
                        clear hok
                        go_wp2_with (first
                          | (go_at_call 50; refine (HP.out _ (HB.out.trans (hb.mono HB.out.size))).mono ?_; rintro e w1 ⟨rfl, k1⟩; replace hb := hb.trans (k1.mono hb.size); have hk1 := (HC.out _ hb).2.2.2.2.2.2.2.2.2.1; have y1 := below_cell (HB.out.trans (hb.mono HB.out.size)) E1.out; clear k1 HP)
                          | (go_at_call 51; refine (HQ.out _ (HB.out.trans (hb.mono HB.out.size))).mono ?_; rintro e w2 ⟨rfl, k2⟩; replace hb := hb.trans (k2.mono hb.size); clear k2 HQ))
                        go_ret
                        exact ⟨congrArg (fun b => Ending.returned (.bool b)) (FC.out (all_noneG (p := oCo) hlt HNO.out)).symm, (HB.out.trans (hb.mono HB.out.size))⟩
                      | true =>
                        have NXT : Hid (∀ j, j < i + 1 → oCo (m.codes.getD j default) = true) := Lib.hid fun j hj => by
                          rcases Nat.lt_or_ge j i with q | q
                          · exact HALL.out j q
                          · obtain rfl : j = i := by omega
                            exact hok
                        clear hok
                        go_wp2_with (first
                          | (go_at_call 50; refine (HP.out _ (HB.out.trans (hb.mono HB.out.size))).mono ?_; rintro e w1 ⟨rfl, k1⟩; replace hb := hb.trans (k1.mono hb.size); have hk1 := (HC.out _ hb).2.2.2.2.2.2.2.2.2.1; have y1 := below_cell (HB.out.trans (hb.mono HB.out.size)) E1.out; clear k1 HP)
                          | (go_at_call 51; refine (HQ.out _ (HB.out.trans (hb.mono HB.out.size))).mono ?_; rintro e w2 ⟨rfl, k2⟩; replace hb := hb.trans (k2.mono hb.size); clear k2 HQ))
                        exact ⟨⟨i + 1, by go_num, by omega, NXT.out, hb⟩, by simp [intOf]; omega⟩
                  · have AC := Lib.hid (all_allG (p := oCo) (fun j hj => HALL.out j (by omega)))
                    go_wp2_with fail
                    go_loopw [8] (fun iv wr => ∃ i : Nat, iv = .int .i64 i ∧ i ≤ m.datas.length ∧ (∀ j, j < i → oDa (m.datas.getD j default) = true) ∧ Below (w.alloc (.cells #[.slice xT m.types.length cT, .slice xI m.imports.length cI, .slice xF m.funcs.length cF, .slice xB m.tables.length cB, .slice xM m.mems.length cM, .slice xG m.globals.length cG, .slice xX m.exports.length cX, .int .i64 m.start, .slice xE m.elems.length cE, .slice xC m.codes.length cC, .slice xD m.datas.length cD] 32)).heap.size (w.alloc (.cells #[.slice xT m.types.length cT, .slice xI m.imports.length cI, .slice xF m.funcs.length cF, .slice xB m.tables.length cB, .slice xM m.mems.length cM, .slice xG m.globals.length cG, .slice xX m.exports.length cX, .int .i64 m.start, .slice xE m.elems.length cE, .slice xC m.codes.length cC, .slice xD m.datas.length cD] 32)) wr) (fun iv _ => m.datas.length - (intOf iv).toNat)
                    case atStart => exact ⟨0, rfl, Nat.zero_le _, fun j h => absurd h (Nat.not_lt_zero _), hb⟩
                    case round =>
                      clear hb
                      obtain ⟨i, rfl, hi, hall, hb⟩ := hrel
                      have HALL := Lib.hid hall
                      clear hall
                      have hk := (HC.out _ hb).2.2.2.2.2.2.2.2.2.2
                      by_cases hlt : i < m.datas.length
                      · obtain ⟨bx, ox, rfl, xn, nc, xl, lc, xe, ec, ⟨e0, _⟩, ⟨i0, i1, i2, i3, i4, i5, i6⟩, hv, _⟩ := HX.out.hD.at hlt
                        have f0 := below_cell (HB.out.trans (hb.mono HB.out.size)) e0
                        have EI := Lib.hid (fun (w' : World) (h : Below w.heap.size w w') => (And.intro (below_cell h i0) (And.intro (below_cell h i1) (And.intro (below_cell h i2) (And.intro (below_cell h i3) (And.intro (below_cell h i4) (And.intro (below_cell h i5) (below_cell h i6))))))))
                        obtain ⟨c0, c1, c2, c3, c4, c5, c6⟩ := EI.out _ (HB.out.trans (hb.mono HB.out.size))
                        have HP := Lib.hid (fun (w2 : World) => rmIn_any (m.datas.getD i default).mem w2)
                        have HQ := Lib.hid (fun (w2 : World) (h : Below w.heap.size w w2) => rmCode1 (m.datas.getD i default).off xn nc xl lc xe ec w hv w2 h)
                        have hok : oDa (m.datas.getD i default) = (rmIn (m.datas.getD i default).mem && rmCode [(m.datas.getD i default).off]) := rfl
                        clear e0 i0 i1 i2 i3 i4 i5 i6 hv
                        revert f0 EI c0 c1 c2 c3 c4 c5 c6 HP HQ hok
                        generalize rmIn (m.datas.getD i default).mem = r1
                        generalize rmCode [(m.datas.getD i default).off] = r2
                        generalize (m.datas.getD i default).mem = xt
                        generalize (m.datas.getD i default).off = c
                        intro f0 EI c0 c1 c2 c3 c4 c5 c6 HP HQ hok
                        cases r1 with
                        | false =>
                          have HNO : Hid (oDa (m.datas.getD i default) = false) := Lib.hid hok
                          clear hok
                          go_wp2_with (first
                            | (go_at_call 53; refine (HP.out _).mono ?_; rintro e w1 ⟨rfl, rfl⟩))
                          go_ret
                          exact ⟨congrArg (fun b => Ending.returned (.bool b)) (FD.out (all_noneG (p := oDa) hlt HNO.out)).symm, (HB.out.trans (hb.mono HB.out.size))⟩
                        | true =>
                          cases r2 with
                          | false =>
                            have HNO : Hid (oDa (m.datas.getD i default) = false) := Lib.hid hok
                            clear hok
                            go_wp2_with (first
                              | (go_at_call 53; refine (HP.out _).mono ?_; rintro e w1 ⟨rfl, rfl⟩)
                              | (go_at_call 51; refine (HQ.out _ (HB.out.trans (hb.mono HB.out.size))).mono ?_; rintro e w2 ⟨rfl, k2⟩; replace hb := hb.trans (k2.mono hb.size); clear k2 HQ))
                            go_ret
                            exact ⟨congrArg (fun b => Ending.returned (.bool b)) (FD.out (all_noneG (p := oDa) hlt HNO.out)).symm, (HB.out.trans (hb.mono HB.out.size))⟩
                          | true =>
                            have NXT : Hid (∀ j, j < i + 1 → oDa (m.datas.getD j default) = true) := Lib.hid fun j hj => by
                              rcases Nat.lt_or_ge j i with q | q
                              · exact HALL.out j q
                              · obtain rfl : j = i := by omega
                                exact hok
                            clear hok
                            go_wp2_with (first
                              | (go_at_call 53; refine (HP.out _).mono ?_; rintro e w1 ⟨rfl, rfl⟩)
                              | (go_at_call 51; refine (HQ.out _ (HB.out.trans (hb.mono HB.out.size))).mono ?_; rintro e w2 ⟨rfl, k2⟩; replace hb := hb.trans (k2.mono hb.size); clear k2 HQ))
                            exact ⟨⟨i + 1, by go_num, by omega, NXT.out, hb⟩, by simp [intOf]; omega⟩
                      · have AD := Lib.hid (all_allG (p := oDa) (fun j hj => HALL.out j (by omega)))
                        have PN := Lib.hid (FZ.out (by first | rfl | trivial) Q1.out Q2.out Q3.out Q4.out Q5.out Q6.out Q7.out AG.out AX.out AE.out AC.out AD.out)
                        go_wp2_with fail
                        go_ret
                        exact ⟨congrArg (fun b => Ending.returned (.bool b)) PN.out.symm, (HB.out.trans (hb.mono HB.out.size))⟩
end Go.Proofs.YtekonefnniaheaaGreat
