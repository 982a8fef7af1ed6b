/- Texts of the proof of ModulePutsUptoProof, part 27. -/
import Derived.IntWalk
import Derived.Deep.RegionHeld3
import Derived.Test.YtekonefnniaheaaGreatModulePutsUptoProofQ26
set_option linter.unusedVariables false
namespace Go.Proofs.YtekonefnniaheaaGreat
open Go.RowKit Go.Deep
open Leb (putU putS)

set_option maxRecDepth 100000 in
set_option maxHeartbeats 8000000 in
theorem rmTail_pos (m : Mdl) (xT : Option Addr) (cT : Nat) (xI : Option Addr) (cI : Nat) (xF : Option Addr) (cF : Nat) (xB : Option Addr) (cB : Nat) (xM : Option Addr) (cM : Nat) (xG : Option Addr) (cG : Nat) (xX : Option Addr) (cX : Nat) (xE : Option Addr) (cE : Nat) (xC : Option Addr) (cC : Nat) (xD : Option Addr) (cD : Nat) (w : World) (hx : MdlIn w m xT cT xI cI xF cF xB cB xM cM xG cG xX cX xE cE xC cC xD cD) (hu : MdlUp 1048576 m) (kE : ∀ i, i < m.elems.length → (m.elems.getD i default).f.length ≤ 1000) (kC : ∀ i, i < m.codes.length → (m.codes.getD i default).locals.length ≤ 256) (zG : (m.globals.flatMap bGlo).length ≤ 1000000000000) (zX : (m.exports.flatMap bExp).length ≤ 1000000000000) (zE : (m.elems.flatMap bEle).length ≤ 1000000000000) (zC : (m.codes.flatMap bCod).length ≤ 1000000000000) (zD : (m.datas.flatMap bDat).length ≤ 1000000000000) (hpos : 0 < m.start) (hst : m.start ≤ 4294967296) :
    Calls Tryz.prog 20 #[.agg #[.slice xT m.types.length cT, .slice xI m.imports.length cI, .slice xF m.funcs.length cF, .slice xB m.tables.length cB, .slice xM m.mems.length cM, .slice xG m.globals.length cG, .slice xX m.exports.length cX, .int .i64 m.start, .slice xE m.elems.length cE, .slice xC m.codes.length cC, .slice xD m.datas.length cD]] w fun e w' => e = .returned (.string (strOfNums (bTail m))) ∧ Below w.heap.size w w' := by
  have b1 := BlkAt.new w #[.slice xT m.types.length cT, .slice xI m.imports.length cI, .slice xF m.funcs.length cF, .slice xB m.tables.length cB, .slice xM m.mems.length cM, .slice xG m.globals.length cG, .slice xX m.exports.length cX, .int .i64 m.start, .slice xE m.elems.length cE, .slice xC m.codes.length cC, .slice xD m.datas.length cD] 32
  have HB := Lib.hid ((Below.refl w.heap.size w).alloc (Nat.le_refl _) (.cells #[.slice xT m.types.length cT, .slice xI m.imports.length cI, .slice xF m.funcs.length cF, .slice xB m.tables.length cB, .slice xM m.mems.length cM, .slice xG m.globals.length cG, .slice xX m.exports.length cX, .int .i64 m.start, .slice xE m.elems.length cE, .slice xC m.codes.length cC, .slice xD m.datas.length cD] 32))
  have HC := Lib.hid (fun (w' : World) (h : Below (w.alloc (.cells #[.slice xT m.types.length cT, .slice xI m.imports.length cI, .slice xF m.funcs.length cF, .slice xB m.tables.length cB, .slice xM m.mems.length cM, .slice xG m.globals.length cG, .slice xX m.exports.length cX, .int .i64 m.start, .slice xE m.elems.length cE, .slice xC m.codes.length cC, .slice xD m.datas.length cD] 32)).heap.size (w.alloc (.cells #[.slice xT m.types.length cT, .slice xI m.imports.length cI, .slice xF m.funcs.length cF, .slice xB m.tables.length cB, .slice xM m.mems.length cM, .slice xG m.globals.length cG, .slice xX m.exports.length cX, .int .i64 m.start, .slice xE m.elems.length cE, .slice xC m.codes.length cC, .slice xD m.datas.length cD] 32)) w') => (b1.below h).eleven)
  have q0 := Below.refl (w.alloc (.cells #[.slice xT m.types.length cT, .slice xI m.imports.length cI, .slice xF m.funcs.length cF, .slice xB m.tables.length cB, .slice xM m.mems.length cM, .slice xG m.globals.length cG, .slice xX m.exports.length cX, .int .i64 m.start, .slice xE m.elems.length cE, .slice xC m.codes.length cC, .slice xD m.datas.length cD] 32)).heap.size (w.alloc (.cells #[.slice xT m.types.length cT, .slice xI m.imports.length cI, .slice xF m.funcs.length cF, .slice xB m.tables.length cB, .slice xM m.mems.length cM, .slice xG m.globals.length cG, .slice xX m.exports.length cX, .int .i64 m.start, .slice xE m.elems.length cE, .slice xC m.codes.length cC, .slice xD m.datas.length cD] 32))
  have HX := Lib.hid hx
  have HU := Lib.hid hu
  have hb := q0
  clear b1 q0
  have tG := hx.hG.top
  have lG := hx.hG.le
  have tX := hx.hX.top
  have lX := hx.hX.le
  have tE := hx.hE.top
  have lE := hx.hE.le
  have tC := hx.hC.top
  have lC := hx.hC.le
  have tD := hx.hD.top
  have lD := hx.hD.le
  have KE := Lib.hid kE
  have KC := Lib.hid kC
  clear kE kC hx hu
  go_enter Tryz.func20, Tryz.ntmps20
  go_wp2_with fail
  go_loopw [3, 8] (fun sv iv wr => ∃ i : Nat, iv = .int .i64 i ∧ i ≤ m.globals.length ∧ sv = .string (strOfNums ((m.globals.take i).flatMap bGlo)) ∧ Below (w.alloc (.cells #[.slice xT m.types.length cT, .slice xI m.imports.length cI, .slice xF m.funcs.length cF, .slice xB m.tables.length cB, .slice xM m.mems.length cM, .slice xG m.globals.length cG, .slice xX m.exports.length cX, .int .i64 m.start, .slice xE m.elems.length cE, .slice xC m.codes.length cC, .slice xD m.datas.length cD] 32)).heap.size (w.alloc (.cells #[.slice xT m.types.length cT, .slice xI m.imports.length cI, .slice xF m.funcs.length cF, .slice xB m.tables.length cB, .slice xM m.mems.length cM, .slice xG m.globals.length cG, .slice xX m.exports.length cX, .int .i64 m.start, .slice xE m.elems.length cE, .slice xC m.codes.length cC, .slice xD m.datas.length cD] 32)) wr) (fun _ iv _ => m.globals.length - (intOf iv).toNat)
  case atStart => exact ⟨0, rfl, Nat.zero_le _, rfl, hb⟩
  case round =>
    clear hb
    obtain ⟨i, rfl, hi, rfl, hb⟩ := hrel
    have hk := (HC.out _ hb).2.2.2.2.2.1
    by_cases hlt : i < m.globals.length
    · obtain ⟨bx, ox, rfl, xn, nc, xl, lc, xe, ec, ⟨e0, e1⟩, ⟨i0, i1, i2, i3, i4, i5, i6⟩, hv, hw⟩ := HX.out.hG.at hlt
      have z0 : (strOfNums ((m.globals.take i).flatMap bGlo)).size ≤ 1000000000000 := by rw [strOfNums_size]; exact Nat.le_trans (take_flat bGlo m.globals i) zG
      have zp : (strOfNums (bGlo (m.globals.getD i default))).size ≤ 1000000000000 := by rw [strOfNums_size]; exact Nat.le_trans (elem_flat bGlo m.globals hlt) zG
      have hstr := str_glo (m.globals.getD i default)
      have hnx := str_next bGlo m.globals hlt hstr
      rw [hstr] at zp
      try simp only [ByteArray.size_append] at zp
      try simp only [← ByteArray.append_assoc] at hnx
      have NXT := Lib.hid hnx
      clear hstr hnx
      have HS := Lib.hid (fun (w3 : World) (h : Below (w.alloc (.cells #[.slice xT m.types.length cT, .slice xI m.imports.length cI, .slice xF m.funcs.length cF, .slice xB m.tables.length cB, .slice xM m.mems.length cM, .slice (some ⟨bx, ox, none⟩) m.globals.length cG, .slice xX m.exports.length cX, .int .i64 m.start, .slice xE m.elems.length cE, .slice xC m.codes.length cC, .slice xD m.datas.length cD] 32)).heap.size (w.alloc (.cells #[.slice xT m.types.length cT, .slice xI m.imports.length cI, .slice xF m.funcs.length cF, .slice xB m.tables.length cB, .slice xM m.mems.length cM, .slice (some ⟨bx, ox, none⟩) m.globals.length cG, .slice xX m.exports.length cX, .int .i64 m.start, .slice xE m.elems.length cE, .slice xC m.codes.length cC, .slice xD m.datas.length cD] 32)) w3) => (show w3.cell? ⟨w.heap.size, 5, none⟩ = some (.slice (some ⟨bx, ox, none⟩) m.globals.length cG) ∧ w3.cell? ⟨bx, ox + i * 9, none⟩ = some (.int .i64 (m.globals.getD i default).t) ∧ w3.cell? ⟨bx, ox + i * 9 + 1, none⟩ = some (.bool (m.globals.getD i default).mu) ∧ w3.cell? ⟨bx, ox + i * 9 + 2, none⟩ = some (.int .i64 (m.globals.getD i default).init.op) ∧ w3.cell? ⟨bx, ox + i * 9 + 2 + 1, none⟩ = some (.int .i64 (m.globals.getD i default).init.a) ∧ w3.cell? ⟨bx, ox + i * 9 + 2 + 2, none⟩ = some (.int .i64 (m.globals.getD i default).init.b) ∧ w3.cell? ⟨bx, ox + i * 9 + 2 + 3, none⟩ = some (.int .i64 (m.globals.getD i default).init.m) ∧ w3.cell? ⟨bx, ox + i * 9 + 2 + 4, none⟩ = some (.slice xn (m.globals.getD i default).init.n.length nc) ∧ w3.cell? ⟨bx, ox + i * 9 + 2 + 5, none⟩ = some (.slice xl (m.globals.getD i default).init.l.length lc) ∧ w3.cell? ⟨bx, ox + i * 9 + 2 + 6, none⟩ = some (.slice xe (m.globals.getD i default).init.e.length ec) from ⟨(HC.out w3 h).2.2.2.2.2.1, below_cell (HB.out.trans (h.mono HB.out.size)) e0, below_cell (HB.out.trans (h.mono HB.out.size)) e1, below_cell (HB.out.trans (h.mono HB.out.size)) i0, below_cell (HB.out.trans (h.mono HB.out.size)) i1, below_cell (HB.out.trans (h.mono HB.out.size)) i2, below_cell (HB.out.trans (h.mono HB.out.size)) i3, below_cell (HB.out.trans (h.mono HB.out.size)) i4, below_cell (HB.out.trans (h.mono HB.out.size)) i5, below_cell (HB.out.trans (h.mono HB.out.size)) i6⟩))
      have H1 := Lib.hid (fun (w2 : World) => rmOne_any (m.globals.getD i default).t w2)
      have H2 := Lib.hid (fun (w2 : World) => rmYes_any (m.globals.getD i default).mu w2)
      have H3 := Lib.hid (fun (w2 : World) (h : Below w.heap.size w w2) => rmConst_any (m.globals.getD i default).init xn nc xl lc xe ec w2 (hv.below h) hw)
      clear e0 e1 i0 i1 i2 i3 i4 i5 i6 hv hw
      revert z0 zp NXT HS H1 H2 H3
      generalize strOfNums ((m.globals.take i).flatMap bGlo) = S0
      generalize strOfNums [(m.globals.getD i default).t % 256] = P1
      generalize strOfNums [if (m.globals.getD i default).mu = true then (1 : Int) else 0] = P2
      generalize strOfNums (putV [(m.globals.getD i default).init]).1 = QM
      generalize (m.globals.getD i default).t = xt
      generalize (m.globals.getD i default).mu = xmu
      generalize (m.globals.getD i default).init = c
      intro z0 zp NXT HS H1 H2 H3
      have n0 : ¬ 9223372036854775807 < S0.size + P1.size := by omega
      have n1 : ¬ 9223372036854775807 < S0.size + P1.size + P2.size := by omega
      have m1 : ¬ 9223372036854775807 < ((S0 ++ P1)).size + P2.size := by simp only [ByteArray.size_append]; omega
      have n2 : ¬ 9223372036854775807 < S0.size + P1.size + P2.size + QM.size := by omega
      have m2 : ¬ 9223372036854775807 < (((S0 ++ P1) ++ P2)).size + QM.size := by simp only [ByteArray.size_append]; omega
      have ib : (i : Int) < m.globals.length := by omega
      go_wp2_with fail
      go_region_held3 (fun w' => w'.cell? ⟨w.heap.size, 5, none⟩ = some (.slice (some ⟨bx, ox, none⟩) m.globals.length cG) ∧ w'.cell? ⟨bx, ox + i * 9, none⟩ = some (.int .i64 xt) ∧ w'.cell? ⟨bx, ox + i * 9 + 1, none⟩ = some (.bool xmu) ∧ w'.cell? ⟨bx, ox + i * 9 + 2, none⟩ = some (.int .i64 c.op) ∧ w'.cell? ⟨bx, ox + i * 9 + 2 + 1, none⟩ = some (.int .i64 c.a) ∧ w'.cell? ⟨bx, ox + i * 9 + 2 + 2, none⟩ = some (.int .i64 c.b) ∧ w'.cell? ⟨bx, ox + i * 9 + 2 + 3, none⟩ = some (.int .i64 c.m) ∧ w'.cell? ⟨bx, ox + i * 9 + 2 + 4, none⟩ = some (.slice xn c.n.length nc) ∧ w'.cell? ⟨bx, ox + i * 9 + 2 + 5, none⟩ = some (.slice xl c.l.length lc) ∧ w'.cell? ⟨bx, ox + i * 9 + 2 + 6, none⟩ = some (.slice xe c.e.length ec))
        (first | exact HS.out _ (hb.drew) | exact HS.out _ q1 | exact HS.out _ q2 | exact HS.out _ q3)
        (first
          | (go_at_call 55; refine (H1.out _).mono ?_; rintro e v1 ⟨rfl, k1⟩; have q1 := bel_step (hb.drew) k1; clear k1 H1)
          | (go_at_call 61; refine (H2.out _).mono ?_; rintro e v2 ⟨rfl, k2⟩; have q2 := bel_step (q1) k2; clear k2 H2)
          | (go_at_call 62; refine (H3.out _ (HB.out.trans ((q2).mono HB.out.size))).mono ?_; rintro e v3 ⟨rfl, k3⟩; have q3 := bel_step (q2) k3; clear k3 H3))
      all_goals go_wp2_with fail
      all_goals exact ⟨⟨i + 1, by go_num, by omega, congrArg Value.string NXT.out.symm, q3⟩, by simp [intOf]; omega⟩
    · have hE : i = m.globals.length := by omega
      subst hE
      rw [List.take_length]
      go_wp2_with fail
      go_loopw [4, 9] (fun sv iv wr => ∃ i : Nat, iv = .int .i64 i ∧ i ≤ m.exports.length ∧ sv = .string (strOfNums ((m.exports.take i).flatMap bExp)) ∧ Below (w.alloc (.cells #[.slice xT m.types.length cT, .slice xI m.imports.length cI, .slice xF m.funcs.length cF, .slice xB m.tables.length cB, .slice xM m.mems.length cM, .slice xG m.globals.length cG, .slice xX m.exports.length cX, .int .i64 m.start, .slice xE m.elems.length cE, .slice xC m.codes.length cC, .slice xD m.datas.length cD] 32)).heap.size (w.alloc (.cells #[.slice xT m.types.length cT, .slice xI m.imports.length cI, .slice xF m.funcs.length cF, .slice xB m.tables.length cB, .slice xM m.mems.length cM, .slice xG m.globals.length cG, .slice xX m.exports.length cX, .int .i64 m.start, .slice xE m.elems.length cE, .slice xC m.codes.length cC, .slice xD m.datas.length cD] 32)) wr) (fun _ iv _ => m.exports.length - (intOf iv).toNat)
      case atStart => exact ⟨0, rfl, Nat.zero_le _, rfl, hb⟩
      case round =>
        clear hb
        obtain ⟨i, rfl, hi, rfl, hb⟩ := hrel
        have hk := (HC.out _ hb).2.2.2.2.2.2.1
        by_cases hlt : i < m.exports.length
        · obtain ⟨bx, ox, rfl, ⟨e0, e1, e2⟩, v0, v1, v2⟩ := HX.out.hX.at hlt
          have u0 := HU.out.exports.2 i hlt
          have z0 : (strOfNums ((m.exports.take i).flatMap bExp)).size ≤ 1000000000000 := by rw [strOfNums_size]; exact Nat.le_trans (take_flat bExp m.exports i) zX
          have zp : (strOfNums (bExp (m.exports.getD i default))).size ≤ 1000000000000 := by rw [strOfNums_size]; exact Nat.le_trans (elem_flat bExp m.exports hlt) zX
          have hstr := str_exp (m.exports.getD i default)
          have hnx := str_next bExp m.exports hlt hstr
          rw [hstr] at zp
          try simp only [ByteArray.size_append] at zp
          try simp only [← ByteArray.append_assoc] at hnx
          have NXT := Lib.hid hnx
          clear hstr hnx
          have HS := Lib.hid (fun (w3 : World) (h : Below (w.alloc (.cells #[.slice xT m.types.length cT, .slice xI m.imports.length cI, .slice xF m.funcs.length cF, .slice xB m.tables.length cB, .slice xM m.mems.length cM, .slice xG m.globals.length cG, .slice (some ⟨bx, ox, none⟩) m.exports.length cX, .int .i64 m.start, .slice xE m.elems.length cE, .slice xC m.codes.length cC, .slice xD m.datas.length cD] 32)).heap.size (w.alloc (.cells #[.slice xT m.types.length cT, .slice xI m.imports.length cI, .slice xF m.funcs.length cF, .slice xB m.tables.length cB, .slice xM m.mems.length cM, .slice xG m.globals.length cG, .slice (some ⟨bx, ox, none⟩) m.exports.length cX, .int .i64 m.start, .slice xE m.elems.length cE, .slice xC m.codes.length cC, .slice xD m.datas.length cD] 32)) w3) => (show w3.cell? ⟨w.heap.size, 6, none⟩ = some (.slice (some ⟨bx, ox, none⟩) m.exports.length cX) ∧ w3.cell? ⟨bx, ox + i * 3, none⟩ = some (.string (m.exports.getD i default).name) ∧ w3.cell? ⟨bx, ox + i * 3 + 1, none⟩ = some (.int .i64 (m.exports.getD i default).kind) ∧ w3.cell? ⟨bx, ox + i * 3 + 2, none⟩ = some (.int .i64 (m.exports.getD i default).i) from ⟨(HC.out w3 h).2.2.2.2.2.2.1, below_cell (HB.out.trans (h.mono HB.out.size)) e0, below_cell (HB.out.trans (h.mono HB.out.size)) e1, below_cell (HB.out.trans (h.mono HB.out.size)) e2⟩))
          have H1 := Lib.hid (fun (w2 : World) => rPutB_any (m.exports.getD i default).name (by omega) w2)
          have H2 := Lib.hid (fun (w2 : World) => rmOne_any (m.exports.getD i default).kind w2)
          have H3 := Lib.hid (fun (w2 : World) => refPutU_any (m.exports.getD i default).i w2 v2)
          clear e0 e1 e2 v0 v1 v2 u0
          revert z0 zp NXT HS H1 H2 H3
          generalize strOfNums ((m.exports.take i).flatMap bExp) = S0
          generalize strB (m.exports.getD i default).name = P1
          generalize strOfNums [(m.exports.getD i default).kind % 256] = P2
          generalize strOfNums (putU (m.exports.getD i default).i) = QM
          generalize (m.exports.getD i default).name = nm
          generalize (m.exports.getD i default).kind = kd
          generalize (m.exports.getD i default).i = ix
          intro z0 zp NXT HS H1 H2 H3
          have n0 : ¬ 9223372036854775807 < S0.size + P1.size := by omega
          have n1 : ¬ 9223372036854775807 < S0.size + P1.size + P2.size := by omega
          have m1 : ¬ 9223372036854775807 < ((S0 ++ P1)).size + P2.size := by simp only [ByteArray.size_append]; omega
          have n2 : ¬ 9223372036854775807 < S0.size + P1.size + P2.size + QM.size := by omega
          have m2 : ¬ 9223372036854775807 < (((S0 ++ P1) ++ P2)).size + QM.size := by simp only [ByteArray.size_append]; omega
          have ib : (i : Int) < m.exports.length := by omega
          go_wp2_with fail
          go_region_held3 (fun w' => w'.cell? ⟨w.heap.size, 6, none⟩ = some (.slice (some ⟨bx, ox, none⟩) m.exports.length cX) ∧ w'.cell? ⟨bx, ox + i * 3, none⟩ = some (.string nm) ∧ w'.cell? ⟨bx, ox + i * 3 + 1, none⟩ = some (.int .i64 kd) ∧ w'.cell? ⟨bx, ox + i * 3 + 2, none⟩ = some (.int .i64 ix))
            (first | exact HS.out _ (hb.drew) | exact HS.out _ q1 | exact HS.out _ q2 | exact HS.out _ q3)
            (first
              | (go_at_call 63; refine (H1.out _).mono ?_; rintro e v1 ⟨rfl, k1⟩; have q1 := bel_step (hb.drew) k1; clear k1 H1)
              | (go_at_call 55; refine (H2.out _).mono ?_; rintro e v2 ⟨rfl, k2⟩; have q2 := bel_step (q1) k2; clear k2 H2)
              | (go_at_call 58; refine (H3.out _).mono ?_; rintro e v3 ⟨rfl, k3⟩; have q3 := bel_step (q2) k3; clear k3 H3))
          all_goals go_wp2_with fail
          all_goals exact ⟨⟨i + 1, by go_num, by omega, congrArg Value.string NXT.out.symm, q3⟩, by simp [intOf]; omega⟩
        · have hE : i = m.exports.length := by omega
          subst hE
          rw [List.take_length]
          have hk7 := (HC.out _ hb).2.2.2.2.2.2.2.1
          have HST0 := start_pos hpos
          have H1 := Lib.hid (fun (w2 : World) => rmOne_any 8 w2)
          have H2 := Lib.hid (fun (w2 : World) => refPutU_any (m.start - 1) w2 (by omega))
          have zq : (strOfNums (putU (m.start - 1))).size ≤ 100 := by rw [strOfNums_size]; have := Leb.putU_length (m.start - 1); omega
          have H3 := Lib.hid (fun (w2 : World) => rPutBytes_any (strOfNums (putU (m.start - 1))) (by omega) w2)
          have y1 : (strOfNums [(8 : Int) % 256]).size ≤ 100 := by rw [strOfNums_size]; show 1 ≤ 100; omega
          have y3 : (strOfNums (putU ((strOfNums (putU (m.start - 1))).size : Int)) ++ strOfNums (putU (m.start - 1))).size ≤ 200 := by rw [ByteArray.size_append, strOfNums_size]; have := Leb.putU_length ((strOfNums (putU (m.start - 1))).size : Int); omega
          have HS := Lib.hid (fun (w3 : World) (h : Below (w.alloc (.cells #[.slice xT m.types.length cT, .slice xI m.imports.length cI, .slice xF m.funcs.length cF, .slice xB m.tables.length cB, .slice xM m.mems.length cM, .slice xG m.globals.length cG, .slice xX m.exports.length cX, .int .i64 m.start, .slice xE m.elems.length cE, .slice xC m.codes.length cC, .slice xD m.datas.length cD] 32)).heap.size (w.alloc (.cells #[.slice xT m.types.length cT, .slice xI m.imports.length cI, .slice xF m.funcs.length cF, .slice xB m.tables.length cB, .slice xM m.mems.length cM, .slice xG m.globals.length cG, .slice xX m.exports.length cX, .int .i64 m.start, .slice xE m.elems.length cE, .slice xC m.codes.length cC, .slice xD m.datas.length cD] 32)) w3) => (show w3.cell? ⟨w.heap.size, 7, none⟩ = some (.int .i64 m.start) from (HC.out w3 h).2.2.2.2.2.2.2.1))
          revert HST0 H1 H2 H3 zq y1 y3
          generalize strOfNums (putU ((strOfNums (putU (m.start - 1))).size : Int)) ++ strOfNums (putU (m.start - 1)) = Q3
          generalize strOfNums (putU (m.start - 1)) = Q2
          generalize strOfNums [(8 : Int) % 256] = Q1
          intro HST0 H1 H2 zq H3 y1 y3
          have HST := Lib.hid HST0
          clear HST0
          have n0 : ¬ 9223372036854775807 < Q1.size + Q3.size := by omega
          have hw1 : IntKind.i64.wrap (m.start - 1) = m.start - 1 := IntWalk.i64_in _ (by omega)
          have hs1 : 0 < m.start := hpos
          go_wp2_with fail
          go_region_held3 (fun w' => w'.cell? ⟨w.heap.size, 7, none⟩ = some (.int .i64 m.start))
            (first | exact HS.out _ (hb.drew) | exact HS.out _ q1 | exact HS.out _ q2 | exact HS.out _ q3)
            (first
              | (go_at_call 55; refine (H1.out _).mono ?_; rintro e v1 ⟨rfl, k1⟩; have q1 := bel_step (hb.drew) k1; clear k1 H1)
              | (go_at_call 58; refine (H2.out _).mono ?_; rintro e v2 ⟨rfl, k2⟩; have q2 := bel_step (q1) k2; clear k2 H2)
              | (go_at_call 63; refine (H3.out _).mono ?_; rintro e v3 ⟨rfl, k3⟩; have q3 := bel_step (q2) k3; clear k3 H3))
          all_goals clear hw1 n0 zq hk7 hk
          all_goals have hyy : (Q1 ++ Q3).size ≤ 1000 := by rw [ByteArray.size_append]; omega
          all_goals clear y1 y3
          all_goals generalize Q1 ++ Q3 = QM at HST hyy ⊢
          all_goals have hb9 := q3
          all_goals clear hb
          all_goals have hb := hb9
          all_goals clear hb9
          all_goals go_wp2_with fail
          go_loopw [5, 11] (fun sv iv wr => ∃ i : Nat, iv = .int .i64 i ∧ i ≤ m.elems.length ∧ sv = .string (strOfNums ((m.elems.take i).flatMap bEle)) ∧ Below (w.alloc (.cells #[.slice xT m.types.length cT, .slice xI m.imports.length cI, .slice xF m.funcs.length cF, .slice xB m.tables.length cB, .slice xM m.mems.length cM, .slice xG m.globals.length cG, .slice xX m.exports.length cX, .int .i64 m.start, .slice xE m.elems.length cE, .slice xC m.codes.length cC, .slice xD m.datas.length cD] 32)).heap.size (w.alloc (.cells #[.slice xT m.types.length cT, .slice xI m.imports.length cI, .slice xF m.funcs.length cF, .slice xB m.tables.length cB, .slice xM m.mems.length cM, .slice xG m.globals.length cG, .slice xX m.exports.length cX, .int .i64 m.start, .slice xE m.elems.length cE, .slice xC m.codes.length cC, .slice xD m.datas.length cD] 32)) wr) (fun _ iv _ => m.elems.length - (intOf iv).toNat)
          case atStart => exact ⟨0, rfl, Nat.zero_le _, rfl, hb⟩
          case round =>
            clear hb
            obtain ⟨i, rfl, hi, rfl, hb⟩ := hrel
            have hk := (HC.out _ hb).2.2.2.2.2.2.2.2.1
            by_cases hlt : i < m.elems.length
            · obtain ⟨bx, ox, rfl, xn, nc, xl, lc, xe, ec, xf, cf, ⟨e0, e8⟩, ⟨i0, i1, i2, i3, i4, i5, i6⟩, hv, hw, hf, v0⟩ := HX.out.hE.at hlt
              have u0 := KE.out i hlt
              have f0 := below_cell (HB.out.trans (hb.mono HB.out.size)) e0
              have f1 := below_cell (HB.out.trans (hb.mono HB.out.size)) i0
              have f2 := below_cell (HB.out.trans (hb.mono HB.out.size)) i1
              have f3 := below_cell (HB.out.trans (hb.mono HB.out.size)) i2
              have f4 := below_cell (HB.out.trans (hb.mono HB.out.size)) i3
              have f5 := below_cell (HB.out.trans (hb.mono HB.out.size)) i4
              have f6 := below_cell (HB.out.trans (hb.mono HB.out.size)) i5
              have f7 := below_cell (HB.out.trans (hb.mono HB.out.size)) i6
              have f8 := below_cell (HB.out.trans (hb.mono HB.out.size)) e8
              by_cases ht : (m.elems.getD i default).table = 0
              · skip
                have z0 : (strOfNums ((m.elems.take i).flatMap bEle)).size ≤ 1000000000000 := by rw [strOfNums_size]; exact Nat.le_trans (take_flat bEle m.elems i) zE
                have zp : (strOfNums (bEle (m.elems.getD i default))).size ≤ 1000000000000 := by rw [strOfNums_size]; exact Nat.le_trans (elem_flat bEle m.elems hlt) zE
                have hstr := str_ele0 (m.elems.getD i default) ht
                have hnx := str_next bEle m.elems hlt hstr
                rw [hstr] at zp
                try simp only [ByteArray.size_append] at zp
                try simp only [← ByteArray.append_assoc] at hnx
                have NXT := Lib.hid hnx
                clear hstr hnx
                have H1 := Lib.hid (fun (w2 : World) => rmOne_any 0 w2)
                have HI := Lib.hid (fun (w2 : World) (h : Below w.heap.size w w2) => rmConst_any (m.elems.getD i default).off xn nc xl lc xe ec w2 (hv.below h) hw)
                have HL := Lib.hid (fun (w2 : World) (h : Below w.heap.size w w2) => refPutAll2 xf cf (m.elems.getD i default).f w2 (hf.lie.below h) u0 hf.range)
                clear e0 e8 i0 i1 i2 i3 i4 i5 i6 hv hw u0 v0 hf
                revert z0 zp NXT f0 f1 f2 f3 f4 f5 f6 f7 f8 ht H1 HI HL
                generalize strOfNums ((m.elems.take i).flatMap bEle) = S0
                generalize strOfNums [(0 : Int) % 256] = P1
                generalize strOfNums (putV [(m.elems.getD i default).off]).1 = P2
                generalize strOfNums (bList putU (m.elems.getD i default).f) = QM
                generalize (m.elems.getD i default).table = xt
                generalize (m.elems.getD i default).off = c
                generalize (m.elems.getD i default).f.length = nf
                intro f0 f1 f2 f3 f4 f5 f6 f7 f8 ht z0 zp NXT H1 HI HL
                have n0 : ¬ 9223372036854775807 < S0.size + P1.size := by omega
                have n1 : ¬ 9223372036854775807 < S0.size + P1.size + P2.size := by omega
                have m1 : ¬ 9223372036854775807 < ((S0 ++ P1)).size + P2.size := by simp only [ByteArray.size_append]; omega
                have n2 : ¬ 9223372036854775807 < S0.size + P1.size + P2.size + QM.size := by omega
                have m2 : ¬ 9223372036854775807 < (((S0 ++ P1) ++ P2)).size + QM.size := by simp only [ByteArray.size_append]; omega
                have ib : (i : Int) < m.elems.length := by omega
                subst ht
                have BQ := Lib.hid (BlkAt.new wr #[.int .i64 0, .int .i64 c.op, .int .i64 c.a, .int .i64 c.b, .int .i64 c.m, .slice xn c.n.length nc, .slice xl c.l.length lc, .slice xe c.e.length ec, .slice xf nf cf] 71)
                have hb1 := hb.alloc hb.size (.cells #[.int .i64 0, .int .i64 c.op, .int .i64 c.a, .int .i64 c.b, .int .i64 c.m, .slice xn c.n.length nc, .slice xl c.l.length lc, .slice xe c.e.length ec, .slice xf nf cf] 71)
                have r0 := (Below.refl (wr.alloc (.cells #[.int .i64 0, .int .i64 c.op, .int .i64 c.a, .int .i64 c.b, .int .i64 c.m, .slice xn c.n.length nc, .slice xl c.l.length lc, .slice xe c.e.length ec, .slice xf nf cf] 71)).heap.size (wr.alloc (.cells #[.int .i64 0, .int .i64 c.op, .int .i64 c.a, .int .i64 c.b, .int .i64 c.m, .slice xn c.n.length nc, .slice xl c.l.length lc, .slice xe c.e.length ec, .slice xf nf cf] 71))).drew
                have HS := Lib.hid (fun (w3 : World) (h : Below (wr.alloc (.cells #[.int .i64 0, .int .i64 c.op, .int .i64 c.a, .int .i64 c.b, .int .i64 c.m, .slice xn c.n.length nc, .slice xl c.l.length lc, .slice xe c.e.length ec, .slice xf nf cf] 71)).heap.size (wr.alloc (.cells #[.int .i64 0, .int .i64 c.op, .int .i64 c.a, .int .i64 c.b, .int .i64 c.m, .slice xn c.n.length nc, .slice xl c.l.length lc, .slice xe c.e.length ec, .slice xf nf cf] 71)) w3) => (show w3.cell? ⟨wr.heap.size, 1, none⟩ = some (.int .i64 c.op) ∧ w3.cell? ⟨wr.heap.size, 2, none⟩ = some (.int .i64 c.a) ∧ w3.cell? ⟨wr.heap.size, 3, none⟩ = some (.int .i64 c.b) ∧ w3.cell? ⟨wr.heap.size, 4, none⟩ = some (.int .i64 c.m) ∧ w3.cell? ⟨wr.heap.size, 5, none⟩ = some (.slice xn c.n.length nc) ∧ w3.cell? ⟨wr.heap.size, 6, none⟩ = some (.slice xl c.l.length lc) ∧ w3.cell? ⟨wr.heap.size, 7, none⟩ = some (.slice xe c.e.length ec) ∧ w3.cell? ⟨wr.heap.size, 8, none⟩ = some (.slice xf nf cf) from ⟨(BQ.out.below h).cell 1, (BQ.out.below h).cell 2, (BQ.out.below h).cell 3, (BQ.out.below h).cell 4, (BQ.out.below h).cell 5, (BQ.out.below h).cell 6, (BQ.out.below h).cell 7, (BQ.out.below h).cell 8⟩))
                go_wp2_with fail
                go_region_held3 (fun w' => w'.cell? ⟨wr.heap.size, 1, none⟩ = some (.int .i64 c.op) ∧ w'.cell? ⟨wr.heap.size, 2, none⟩ = some (.int .i64 c.a) ∧ w'.cell? ⟨wr.heap.size, 3, none⟩ = some (.int .i64 c.b) ∧ w'.cell? ⟨wr.heap.size, 4, none⟩ = some (.int .i64 c.m) ∧ w'.cell? ⟨wr.heap.size, 5, none⟩ = some (.slice xn c.n.length nc) ∧ w'.cell? ⟨wr.heap.size, 6, none⟩ = some (.slice xl c.l.length lc) ∧ w'.cell? ⟨wr.heap.size, 7, none⟩ = some (.slice xe c.e.length ec) ∧ w'.cell? ⟨wr.heap.size, 8, none⟩ = some (.slice xf nf cf))
                  (first | exact HS.out _ r0 | exact HS.out _ r1 | exact HS.out _ r2 | exact HS.out _ r3)
                  (first
                    | (go_at_call 55; refine (H1.out _).mono ?_; rintro e v1 ⟨rfl, k1⟩; have r1 := bel_step r0 k1; clear k1 H1)
                    | (go_at_call 62; refine (HI.out _ (HB.out.trans ((hb1.trans (r1.mono hb1.size)).mono HB.out.size))).mono ?_; rintro e v2 ⟨rfl, k2⟩; have r2 := bel_step r1 k2; clear k2 HI)
                    | (go_at_call 64; refine (HL.out _ (HB.out.trans ((hb1.trans (r2.mono hb1.size)).mono HB.out.size))).mono ?_; rintro e v3 ⟨rfl, k3⟩; have r3 := bel_step r2 k3; clear k3 HL))
                all_goals go_wp2_with fail
                all_goals exact ⟨⟨i + 1, by go_num, by omega, congrArg Value.string NXT.out.symm, (hb1.trans (r3.mono hb1.size))⟩, by simp [intOf]; omega⟩
              · skip
                have z0 : (strOfNums ((m.elems.take i).flatMap bEle)).size ≤ 1000000000000 := by rw [strOfNums_size]; exact Nat.le_trans (take_flat bEle m.elems i) zE
                have zp : (strOfNums (bEle (m.elems.getD i default))).size ≤ 1000000000000 := by rw [strOfNums_size]; exact Nat.le_trans (elem_flat bEle m.elems hlt) zE
                have hstr := str_ele1 (m.elems.getD i default) ht
                have hnx := str_next bEle m.elems hlt hstr
                rw [hstr] at zp
                try simp only [ByteArray.size_append] at zp
                try simp only [← ByteArray.append_assoc] at hnx
                have NXT := Lib.hid hnx
                clear hstr hnx
                have H1 := Lib.hid (fun (w2 : World) => rmOne_any 2 w2)
                have H2 := Lib.hid (fun (w2 : World) => refPutU_any (m.elems.getD i default).table w2 v0)
                have HI := Lib.hid (fun (w2 : World) (h : Below w.heap.size w w2) => rmConst_any (m.elems.getD i default).off xn nc xl lc xe ec w2 (hv.below h) hw)
                have H4 := Lib.hid (fun (w2 : World) => rmOne_any 0 w2)
                have HL := Lib.hid (fun (w2 : World) (h : Below w.heap.size w w2) => refPutAll2 xf cf (m.elems.getD i default).f w2 (hf.lie.below h) u0 hf.range)
                clear e0 e8 i0 i1 i2 i3 i4 i5 i6 hv hw u0 v0 hf
                revert z0 zp NXT f0 f1 f2 f3 f4 f5 f6 f7 f8 ht H1 H2 HI H4 HL
                generalize strOfNums ((m.elems.take i).flatMap bEle) = S0
                generalize strOfNums [(2 : Int) % 256] = P1
                generalize strOfNums (putU (m.elems.getD i default).table) = P2
                generalize strOfNums (putV [(m.elems.getD i default).off]).1 = QM
                generalize strOfNums [(0 : Int) % 256] = P4
                generalize strOfNums (bList putU (m.elems.getD i default).f) = P5
                generalize (m.elems.getD i default).table = xt
                generalize (m.elems.getD i default).off = c
                generalize (m.elems.getD i default).f.length = nf
                intro f0 f1 f2 f3 f4 f5 f6 f7 f8 ht z0 zp NXT H1 H2 HI H4 HL
                have n0 : ¬ 9223372036854775807 < S0.size + P1.size := by omega
                have n1 : ¬ 9223372036854775807 < S0.size + P1.size + P2.size := by omega
                have m1 : ¬ 9223372036854775807 < ((S0 ++ P1)).size + P2.size := by simp only [ByteArray.size_append]; omega
                have n2 : ¬ 9223372036854775807 < S0.size + P1.size + P2.size + QM.size := by omega
                have m2 : ¬ 9223372036854775807 < (((S0 ++ P1) ++ P2)).size + QM.size := by simp only [ByteArray.size_append]; omega
                have n3 : ¬ 9223372036854775807 < S0.size + P1.size + P2.size + QM.size + P4.size := by omega
                have m3 : ¬ 9223372036854775807 < ((((S0 ++ P1) ++ P2) ++ QM)).size + P4.size := by simp only [ByteArray.size_append]; omega
                have n4 : ¬ 9223372036854775807 < S0.size + P1.size + P2.size + QM.size + P4.size + P5.size := by omega
                have m4 : ¬ 9223372036854775807 < (((((S0 ++ P1) ++ P2) ++ QM) ++ P4)).size + P5.size := by simp only [ByteArray.size_append]; omega
                have ib : (i : Int) < m.elems.length := by omega
                have ht1 := eq_no ht
                clear ht
                have BQ := Lib.hid (BlkAt.new wr #[.int .i64 xt, .int .i64 c.op, .int .i64 c.a, .int .i64 c.b, .int .i64 c.m, .slice xn c.n.length nc, .slice xl c.l.length lc, .slice xe c.e.length ec, .slice xf nf cf] 71)
                have hb1 := hb.alloc hb.size (.cells #[.int .i64 xt, .int .i64 c.op, .int .i64 c.a, .int .i64 c.b, .int .i64 c.m, .slice xn c.n.length nc, .slice xl c.l.length lc, .slice xe c.e.length ec, .slice xf nf cf] 71)
                have r0 := (Below.refl (wr.alloc (.cells #[.int .i64 xt, .int .i64 c.op, .int .i64 c.a, .int .i64 c.b, .int .i64 c.m, .slice xn c.n.length nc, .slice xl c.l.length lc, .slice xe c.e.length ec, .slice xf nf cf] 71)).heap.size (wr.alloc (.cells #[.int .i64 xt, .int .i64 c.op, .int .i64 c.a, .int .i64 c.b, .int .i64 c.m, .slice xn c.n.length nc, .slice xl c.l.length lc, .slice xe c.e.length ec, .slice xf nf cf] 71))).drew
                have HS := Lib.hid (fun (w3 : World) (h : Below (wr.alloc (.cells #[.int .i64 xt, .int .i64 c.op, .int .i64 c.a, .int .i64 c.b, .int .i64 c.m, .slice xn c.n.length nc, .slice xl c.l.length lc, .slice xe c.e.length ec, .slice xf nf cf] 71)).heap.size (wr.alloc (.cells #[.int .i64 xt, .int .i64 c.op, .int .i64 c.a, .int .i64 c.b, .int .i64 c.m, .slice xn c.n.length nc, .slice xl c.l.length lc, .slice xe c.e.length ec, .slice xf nf cf] 71)) w3) => (show w3.cell? ⟨wr.heap.size, 0, none⟩ = some (.int .i64 xt) ∧ w3.cell? ⟨wr.heap.size, 1, none⟩ = some (.int .i64 c.op) ∧ w3.cell? ⟨wr.heap.size, 2, none⟩ = some (.int .i64 c.a) ∧ w3.cell? ⟨wr.heap.size, 3, none⟩ = some (.int .i64 c.b) ∧ w3.cell? ⟨wr.heap.size, 4, none⟩ = some (.int .i64 c.m) ∧ w3.cell? ⟨wr.heap.size, 5, none⟩ = some (.slice xn c.n.length nc) ∧ w3.cell? ⟨wr.heap.size, 6, none⟩ = some (.slice xl c.l.length lc) ∧ w3.cell? ⟨wr.heap.size, 7, none⟩ = some (.slice xe c.e.length ec) ∧ w3.cell? ⟨wr.heap.size, 8, none⟩ = some (.slice xf nf cf) from ⟨(BQ.out.below h).cell 0, (BQ.out.below h).cell 1, (BQ.out.below h).cell 2, (BQ.out.below h).cell 3, (BQ.out.below h).cell 4, (BQ.out.below h).cell 5, (BQ.out.below h).cell 6, (BQ.out.below h).cell 7, (BQ.out.below h).cell 8⟩))
                go_wp2_with fail
                go_region_held3 (fun w' => w'.cell? ⟨wr.heap.size, 0, none⟩ = some (.int .i64 xt) ∧ w'.cell? ⟨wr.heap.size, 1, none⟩ = some (.int .i64 c.op) ∧ w'.cell? ⟨wr.heap.size, 2, none⟩ = some (.int .i64 c.a) ∧ w'.cell? ⟨wr.heap.size, 3, none⟩ = some (.int .i64 c.b) ∧ w'.cell? ⟨wr.heap.size, 4, none⟩ = some (.int .i64 c.m) ∧ w'.cell? ⟨wr.heap.size, 5, none⟩ = some (.slice xn c.n.length nc) ∧ w'.cell? ⟨wr.heap.size, 6, none⟩ = some (.slice xl c.l.length lc) ∧ w'.cell? ⟨wr.heap.size, 7, none⟩ = some (.slice xe c.e.length ec) ∧ w'.cell? ⟨wr.heap.size, 8, none⟩ = some (.slice xf nf cf))
                  (first | exact HS.out _ r0 | exact HS.out _ r1 | exact HS.out _ r2 | exact HS.out _ r3 | exact HS.out _ r4 | exact HS.out _ r5)
                  (first
                    | (go_at_call 55; refine (H1.out _).mono ?_; rintro e v1 ⟨rfl, k1⟩; have r1 := bel_step r0 k1; clear k1 H1)
                    | (go_at_call 58; refine (H2.out _).mono ?_; rintro e v2 ⟨rfl, k2⟩; have r2 := bel_step r1 k2; clear k2 H2)
                    | (go_at_call 62; refine (HI.out _ (HB.out.trans ((hb1.trans (r2.mono hb1.size)).mono HB.out.size))).mono ?_; rintro e v3 ⟨rfl, k3⟩; have r3 := bel_step r2 k3; clear k3 HI)
                    | (go_at_call 55; refine (H4.out _).mono ?_; rintro e v4 ⟨rfl, k4⟩; have r4 := bel_step r3 k4; clear k4 H4)
                    | (go_at_call 64; refine (HL.out _ (HB.out.trans ((hb1.trans (r4.mono hb1.size)).mono HB.out.size))).mono ?_; rintro e v5 ⟨rfl, k5⟩; have r5 := bel_step r4 k5; clear k5 HL))
                all_goals go_wp2_with fail
                all_goals exact ⟨⟨i + 1, by go_num, by omega, congrArg Value.string NXT.out.symm, (hb1.trans (r5.mono hb1.size))⟩, by simp [intOf]; omega⟩
            · have hE : i = m.elems.length := by omega
              subst hE
              rw [List.take_length]
              go_wp2_with fail
              go_loopw [6, 13] (fun sv iv wr => ∃ i : Nat, iv = .int .i64 i ∧ i ≤ m.codes.length ∧ sv = .string (strOfNums ((m.codes.take i).flatMap bCod)) ∧ Below (w.alloc (.cells #[.slice xT m.types.length cT, .slice xI m.imports.length cI, .slice xF m.funcs.length cF, .slice xB m.tables.length cB, .slice xM m.mems.length cM, .slice xG m.globals.length cG, .slice xX m.exports.length cX, .int .i64 m.start, .slice xE m.elems.length cE, .slice xC m.codes.length cC, .slice xD m.datas.length cD] 32)).heap.size (w.alloc (.cells #[.slice xT m.types.length cT, .slice xI m.imports.length cI, .slice xF m.funcs.length cF, .slice xB m.tables.length cB, .slice xM m.mems.length cM, .slice xG m.globals.length cG, .slice xX m.exports.length cX, .int .i64 m.start, .slice xE m.elems.length cE, .slice xC m.codes.length cC, .slice xD m.datas.length cD] 32)) wr) (fun _ iv _ => m.codes.length - (intOf iv).toNat)
              case atStart => exact ⟨0, rfl, Nat.zero_le _, rfl, hb⟩
              case round =>
                clear hb
                obtain ⟨i, rfl, hi, rfl, hb⟩ := hrel
                have hk := (HC.out _ hb).2.2.2.2.2.2.2.2.2.1
                by_cases hlt : i < m.codes.length
                · obtain ⟨bx, ox, rfl, xs, cs, xl, cl, ⟨e0, e1⟩, hs, hl, hwf, _⟩ := HX.out.hC.at hlt
                  have u0 := KC.out i hlt
                  have f1 := below_cell (HB.out.trans (hb.mono HB.out.size)) e1
                  have E0 := Lib.hid e0
                  have zb : (strOfNums (bList bRow (rowsL (m.codes.getD i default).locals)) ++ strOfNums (putV (m.codes.getD i default).l).1).size ≤ 1000000000000 := by
                    have h1 := Nat.le_trans (elem_flat bCod m.codes hlt) zC
                    have h2 := congrArg ByteArray.size (str_cod (m.codes.getD i default))
                    rw [strOfNums_size (bCod _), ByteArray.size_append (a := strOfNums (putU _))] at h2
                    omega
                  have z0 : (strOfNums ((m.codes.take i).flatMap bCod)).size ≤ 1000000000000 := by rw [strOfNums_size]; exact Nat.le_trans (take_flat bCod m.codes i) zC
                  have zp : (strOfNums (bCod (m.codes.getD i default))).size ≤ 1000000000000 := by rw [strOfNums_size]; exact Nat.le_trans (elem_flat bCod m.codes hlt) zC
                  have hstr := (show strOfNums (bCod (m.codes.getD i default)) = strOfNums (bCod (m.codes.getD i default)) from rfl)
                  have hnx := str_next bCod m.codes hlt hstr
                  rw [hstr] at zp
                  try simp only [ByteArray.size_append] at zp
                  try simp only [← ByteArray.append_assoc] at hnx
                  have NXT := Lib.hid hnx
                  clear hstr hnx
                  have H1 := Lib.hid (fun (w2 : World) (h : Below w.heap.size w w2) => refPut_any (m.codes.getD i default).l xl _ cl w2 (hl.below h) hwf)
                  have H2 := Lib.hid (fun (w2 : World) (h : Below w.heap.size w w2) => rmLocals_any (m.codes.getD i default).locals xs _ cs w2 (hs.lie.below h) rfl u0)
                  have H3 := Lib.hid (fun (w2 : World) => (str_cod (m.codes.getD i default)) ▸ rPutBytes_any (strOfNums (bList bRow (rowsL (m.codes.getD i default).locals)) ++ strOfNums (putV (m.codes.getD i default).l).1) (by omega) w2)
                  clear e0 e1 hs hl hwf u0
                  revert z0 zp NXT f1 E0 zb H1 H2 H3
                  generalize strOfNums ((m.codes.take i).flatMap bCod) = S0
                  generalize strOfNums (bCod (m.codes.getD i default)) = P1
                  generalize (putV (m.codes.getD i default).l).2 = pe
                  generalize strOfNums (putV (m.codes.getD i default).l).1 = B2
                  generalize strOfNums (bList bRow (rowsL (m.codes.getD i default).locals)) = B1
                  generalize (m.codes.getD i default).locals.length = nl
                  generalize (m.codes.getD i default).l.length = ll
                  intro f1 E0 zb z0 zp NXT H1 H2 H3
                  have n0 : ¬ 9223372036854775807 < S0.size + P1.size := by omega
                  have ib : (i : Int) < m.codes.length := by omega
                  rw [ByteArray.size_append] at zb
                  have n9 : ¬ 9223372036854775807 < B1.size + B2.size := by omega
                  go_wp2_with (first
                    | (go_at_call 65; refine (H1.out _ (HB.out.trans (hb.mono HB.out.size))).mono ?_; rintro e v1 ⟨rfl, k1⟩; have q1 := bel_step hb k1; have hk1 := (HC.out _ q1).2.2.2.2.2.2.2.2.2.1; have y0 := below_cell (HB.out.trans (q1.mono HB.out.size)) E0.out; clear k1 H1)
                    | (go_at_call 66; refine (H2.out _ (HB.out.trans (q1.mono HB.out.size))).mono ?_; rintro e v2 ⟨rfl, k2⟩; have q2 := bel_step q1 k2; clear k2 H2)
                    | (go_at_call 63; refine (H3.out _).mono ?_; rintro e v3 ⟨rfl, k3⟩; have q3 := bel_step q2 k3; clear k3 H3))
                  go_wp2_with fail
                  exact ⟨⟨i + 1, by go_num, by omega, congrArg Value.string NXT.out.symm, q3⟩, by simp [intOf]; omega⟩
                · have hE : i = m.codes.length := by omega
                  subst hE
                  rw [List.take_length]
                  go_wp2_with fail
                  go_loopw [7, 16] (fun sv iv wr => ∃ i : Nat, iv = .int .i64 i ∧ i ≤ m.datas.length ∧ sv = .string (strOfNums ((m.datas.take i).flatMap bDat)) ∧ Below (w.alloc (.cells #[.slice xT m.types.length cT, .slice xI m.imports.length cI, .slice xF m.funcs.length cF, .slice xB m.tables.length cB, .slice xM m.mems.length cM, .slice xG m.globals.length cG, .slice xX m.exports.length cX, .int .i64 m.start, .slice xE m.elems.length cE, .slice xC m.codes.length cC, .slice xD m.datas.length cD] 32)).heap.size (w.alloc (.cells #[.slice xT m.types.length cT, .slice xI m.imports.length cI, .slice xF m.funcs.length cF, .slice xB m.tables.length cB, .slice xM m.mems.length cM, .slice xG m.globals.length cG, .slice xX m.exports.length cX, .int .i64 m.start, .slice xE m.elems.length cE, .slice xC m.codes.length cC, .slice xD m.datas.length cD] 32)) wr) (fun _ iv _ => m.datas.length - (intOf iv).toNat)
                  case atStart => exact ⟨0, rfl, Nat.zero_le _, rfl, hb⟩
                  case round =>
                    clear hb
                    obtain ⟨i, rfl, hi, rfl, hb⟩ := hrel
                    have hk := (HC.out _ hb).2.2.2.2.2.2.2.2.2.2
                    by_cases hlt : i < m.datas.length
                    · obtain ⟨bx, ox, rfl, xn, nc, xl, lc, xe, ec, ⟨e0, e8⟩, ⟨i0, i1, i2, i3, i4, i5, i6⟩, hv, hw, v8, v0⟩ := HX.out.hD.at hlt
                      have u0 := HU.out.datas.2 i hlt
                      have f0 := below_cell (HB.out.trans (hb.mono HB.out.size)) e0
                      have f1 := below_cell (HB.out.trans (hb.mono HB.out.size)) i0
                      have f2 := below_cell (HB.out.trans (hb.mono HB.out.size)) i1
                      have f3 := below_cell (HB.out.trans (hb.mono HB.out.size)) i2
                      have f4 := below_cell (HB.out.trans (hb.mono HB.out.size)) i3
                      have f5 := below_cell (HB.out.trans (hb.mono HB.out.size)) i4
                      have f6 := below_cell (HB.out.trans (hb.mono HB.out.size)) i5
                      have f7 := below_cell (HB.out.trans (hb.mono HB.out.size)) i6
                      have f8 := below_cell (HB.out.trans (hb.mono HB.out.size)) e8
                      by_cases ht : (m.datas.getD i default).mem = 0
                      · skip
                        have z0 : (strOfNums ((m.datas.take i).flatMap bDat)).size ≤ 1000000000000 := by rw [strOfNums_size]; exact Nat.le_trans (take_flat bDat m.datas i) zD
                        have zp : (strOfNums (bDat (m.datas.getD i default))).size ≤ 1000000000000 := by rw [strOfNums_size]; exact Nat.le_trans (elem_flat bDat m.datas hlt) zD
                        have hstr := str_dat0 (m.datas.getD i default) ht
                        have hnx := str_next bDat m.datas hlt hstr
                        rw [hstr] at zp
                        try simp only [ByteArray.size_append] at zp
                        try simp only [← ByteArray.append_assoc] at hnx
                        have NXT := Lib.hid hnx
                        clear hstr hnx
                        have H1 := Lib.hid (fun (w2 : World) => rmOne_any 0 w2)
                        have HI := Lib.hid (fun (w2 : World) (h : Below w.heap.size w w2) => rmConst_any (m.datas.getD i default).off xn nc xl lc xe ec w2 (hv.below h) hw)
                        have HL := Lib.hid (fun (w2 : World) (_ : Below w.heap.size w w2) => rPutB_any (m.datas.getD i default).b (by omega) w2)
                        clear e0 e8 i0 i1 i2 i3 i4 i5 i6 hv hw u0 v0 v8
                        revert z0 zp NXT f0 f1 f2 f3 f4 f5 f6 f7 f8 ht H1 HI HL
                        generalize strOfNums ((m.datas.take i).flatMap bDat) = S0
                        generalize strOfNums [(0 : Int) % 256] = P1
                        generalize strOfNums (putV [(m.datas.getD i default).off]).1 = P2
                        generalize strB (m.datas.getD i default).b = QM
                        generalize (m.datas.getD i default).mem = xt
                        generalize (m.datas.getD i default).off = c
                        generalize (m.datas.getD i default).b = bb
                        intro f0 f1 f2 f3 f4 f5 f6 f7 f8 ht z0 zp NXT H1 HI HL
                        have n0 : ¬ 9223372036854775807 < S0.size + P1.size := by omega
                        have n1 : ¬ 9223372036854775807 < S0.size + P1.size + P2.size := by omega
                        have m1 : ¬ 9223372036854775807 < ((S0 ++ P1)).size + P2.size := by simp only [ByteArray.size_append]; omega
                        have n2 : ¬ 9223372036854775807 < S0.size + P1.size + P2.size + QM.size := by omega
                        have m2 : ¬ 9223372036854775807 < (((S0 ++ P1) ++ P2)).size + QM.size := by simp only [ByteArray.size_append]; omega
                        have ib : (i : Int) < m.datas.length := by omega
                        subst ht
                        have BQ := Lib.hid (BlkAt.new wr #[.int .i64 0, .int .i64 c.op, .int .i64 c.a, .int .i64 c.b, .int .i64 c.m, .slice xn c.n.length nc, .slice xl c.l.length lc, .slice xe c.e.length ec, .string bb] 52)
                        have hb1 := hb.alloc hb.size (.cells #[.int .i64 0, .int .i64 c.op, .int .i64 c.a, .int .i64 c.b, .int .i64 c.m, .slice xn c.n.length nc, .slice xl c.l.length lc, .slice xe c.e.length ec, .string bb] 52)
                        have r0 := (Below.refl (wr.alloc (.cells #[.int .i64 0, .int .i64 c.op, .int .i64 c.a, .int .i64 c.b, .int .i64 c.m, .slice xn c.n.length nc, .slice xl c.l.length lc, .slice xe c.e.length ec, .string bb] 52)).heap.size (wr.alloc (.cells #[.int .i64 0, .int .i64 c.op, .int .i64 c.a, .int .i64 c.b, .int .i64 c.m, .slice xn c.n.length nc, .slice xl c.l.length lc, .slice xe c.e.length ec, .string bb] 52))).drew
                        have HS := Lib.hid (fun (w3 : World) (h : Below (wr.alloc (.cells #[.int .i64 0, .int .i64 c.op, .int .i64 c.a, .int .i64 c.b, .int .i64 c.m, .slice xn c.n.length nc, .slice xl c.l.length lc, .slice xe c.e.length ec, .string bb] 52)).heap.size (wr.alloc (.cells #[.int .i64 0, .int .i64 c.op, .int .i64 c.a, .int .i64 c.b, .int .i64 c.m, .slice xn c.n.length nc, .slice xl c.l.length lc, .slice xe c.e.length ec, .string bb] 52)) w3) => (show w3.cell? ⟨wr.heap.size, 1, none⟩ = some (.int .i64 c.op) ∧ w3.cell? ⟨wr.heap.size, 2, none⟩ = some (.int .i64 c.a) ∧ w3.cell? ⟨wr.heap.size, 3, none⟩ = some (.int .i64 c.b) ∧ w3.cell? ⟨wr.heap.size, 4, none⟩ = some (.int .i64 c.m) ∧ w3.cell? ⟨wr.heap.size, 5, none⟩ = some (.slice xn c.n.length nc) ∧ w3.cell? ⟨wr.heap.size, 6, none⟩ = some (.slice xl c.l.length lc) ∧ w3.cell? ⟨wr.heap.size, 7, none⟩ = some (.slice xe c.e.length ec) ∧ w3.cell? ⟨wr.heap.size, 8, none⟩ = some (.string bb) from ⟨(BQ.out.below h).cell 1, (BQ.out.below h).cell 2, (BQ.out.below h).cell 3, (BQ.out.below h).cell 4, (BQ.out.below h).cell 5, (BQ.out.below h).cell 6, (BQ.out.below h).cell 7, (BQ.out.below h).cell 8⟩))
                        go_wp2_with fail
                        go_region_held3 (fun w' => w'.cell? ⟨wr.heap.size, 1, none⟩ = some (.int .i64 c.op) ∧ w'.cell? ⟨wr.heap.size, 2, none⟩ = some (.int .i64 c.a) ∧ w'.cell? ⟨wr.heap.size, 3, none⟩ = some (.int .i64 c.b) ∧ w'.cell? ⟨wr.heap.size, 4, none⟩ = some (.int .i64 c.m) ∧ w'.cell? ⟨wr.heap.size, 5, none⟩ = some (.slice xn c.n.length nc) ∧ w'.cell? ⟨wr.heap.size, 6, none⟩ = some (.slice xl c.l.length lc) ∧ w'.cell? ⟨wr.heap.size, 7, none⟩ = some (.slice xe c.e.length ec) ∧ w'.cell? ⟨wr.heap.size, 8, none⟩ = some (.string bb))
                          (first | exact HS.out _ r0 | exact HS.out _ r1 | exact HS.out _ r2 | exact HS.out _ r3)
                          (first
                            | (go_at_call 55; refine (H1.out _).mono ?_; rintro e v1 ⟨rfl, k1⟩; have r1 := bel_step r0 k1; clear k1 H1)
                            | (go_at_call 62; refine (HI.out _ (HB.out.trans ((hb1.trans (r1.mono hb1.size)).mono HB.out.size))).mono ?_; rintro e v2 ⟨rfl, k2⟩; have r2 := bel_step r1 k2; clear k2 HI)
                            | (go_at_call 63; refine (HL.out _ (HB.out.trans ((hb1.trans (r2.mono hb1.size)).mono HB.out.size))).mono ?_; rintro e v3 ⟨rfl, k3⟩; have r3 := bel_step r2 k3; clear k3 HL))
                        all_goals go_wp2_with fail
                        all_goals exact ⟨⟨i + 1, by go_num, by omega, congrArg Value.string NXT.out.symm, (hb1.trans (r3.mono hb1.size))⟩, by simp [intOf]; omega⟩
                      · skip
                        have z0 : (strOfNums ((m.datas.take i).flatMap bDat)).size ≤ 1000000000000 := by rw [strOfNums_size]; exact Nat.le_trans (take_flat bDat m.datas i) zD
                        have zp : (strOfNums (bDat (m.datas.getD i default))).size ≤ 1000000000000 := by rw [strOfNums_size]; exact Nat.le_trans (elem_flat bDat m.datas hlt) zD
                        have hstr := str_dat1 (m.datas.getD i default) ht
                        have hnx := str_next bDat m.datas hlt hstr
                        rw [hstr] at zp
                        try simp only [ByteArray.size_append] at zp
                        try simp only [← ByteArray.append_assoc] at hnx
                        have NXT := Lib.hid hnx
                        clear hstr hnx
                        have H1 := Lib.hid (fun (w2 : World) => rmOne_any 2 w2)
                        have H2 := Lib.hid (fun (w2 : World) => refPutU_any (m.datas.getD i default).mem w2 v0)
                        have HI := Lib.hid (fun (w2 : World) (h : Below w.heap.size w w2) => rmConst_any (m.datas.getD i default).off xn nc xl lc xe ec w2 (hv.below h) hw)
                        have HL := Lib.hid (fun (w2 : World) (_ : Below w.heap.size w w2) => rPutB_any (m.datas.getD i default).b (by omega) w2)
                        clear e0 e8 i0 i1 i2 i3 i4 i5 i6 hv hw u0 v0 v8
                        revert z0 zp NXT f0 f1 f2 f3 f4 f5 f6 f7 f8 ht H1 H2 HI HL
                        generalize strOfNums ((m.datas.take i).flatMap bDat) = S0
                        generalize strOfNums [(2 : Int) % 256] = P1
                        generalize strOfNums (putU (m.datas.getD i default).mem) = P2
                        generalize strOfNums (putV [(m.datas.getD i default).off]).1 = QM
                        generalize strB (m.datas.getD i default).b = P4
                        generalize (m.datas.getD i default).mem = xt
                        generalize (m.datas.getD i default).off = c
                        generalize (m.datas.getD i default).b = bb
                        intro f0 f1 f2 f3 f4 f5 f6 f7 f8 ht z0 zp NXT H1 H2 HI HL
                        have n0 : ¬ 9223372036854775807 < S0.size + P1.size := by omega
                        have n1 : ¬ 9223372036854775807 < S0.size + P1.size + P2.size := by omega
                        have m1 : ¬ 9223372036854775807 < ((S0 ++ P1)).size + P2.size := by simp only [ByteArray.size_append]; omega
                        have n2 : ¬ 9223372036854775807 < S0.size + P1.size + P2.size + QM.size := by omega
                        have m2 : ¬ 9223372036854775807 < (((S0 ++ P1) ++ P2)).size + QM.size := by simp only [ByteArray.size_append]; omega
                        have n3 : ¬ 9223372036854775807 < S0.size + P1.size + P2.size + QM.size + P4.size := by omega
                        have m3 : ¬ 9223372036854775807 < ((((S0 ++ P1) ++ P2) ++ QM)).size + P4.size := by simp only [ByteArray.size_append]; omega
                        have ib : (i : Int) < m.datas.length := by omega
                        have ht1 := eq_no ht
                        clear ht
                        have BQ := Lib.hid (BlkAt.new wr #[.int .i64 xt, .int .i64 c.op, .int .i64 c.a, .int .i64 c.b, .int .i64 c.m, .slice xn c.n.length nc, .slice xl c.l.length lc, .slice xe c.e.length ec, .string bb] 52)
                        have hb1 := hb.alloc hb.size (.cells #[.int .i64 xt, .int .i64 c.op, .int .i64 c.a, .int .i64 c.b, .int .i64 c.m, .slice xn c.n.length nc, .slice xl c.l.length lc, .slice xe c.e.length ec, .string bb] 52)
                        have r0 := (Below.refl (wr.alloc (.cells #[.int .i64 xt, .int .i64 c.op, .int .i64 c.a, .int .i64 c.b, .int .i64 c.m, .slice xn c.n.length nc, .slice xl c.l.length lc, .slice xe c.e.length ec, .string bb] 52)).heap.size (wr.alloc (.cells #[.int .i64 xt, .int .i64 c.op, .int .i64 c.a, .int .i64 c.b, .int .i64 c.m, .slice xn c.n.length nc, .slice xl c.l.length lc, .slice xe c.e.length ec, .string bb] 52))).drew
                        have HS := Lib.hid (fun (w3 : World) (h : Below (wr.alloc (.cells #[.int .i64 xt, .int .i64 c.op, .int .i64 c.a, .int .i64 c.b, .int .i64 c.m, .slice xn c.n.length nc, .slice xl c.l.length lc, .slice xe c.e.length ec, .string bb] 52)).heap.size (wr.alloc (.cells #[.int .i64 xt, .int .i64 c.op, .int .i64 c.a, .int .i64 c.b, .int .i64 c.m, .slice xn c.n.length nc, .slice xl c.l.length lc, .slice xe c.e.length ec, .string bb] 52)) w3) => (show w3.cell? ⟨wr.heap.size, 0, none⟩ = some (.int .i64 xt) ∧ w3.cell? ⟨wr.heap.size, 1, none⟩ = some (.int .i64 c.op) ∧ w3.cell? ⟨wr.heap.size, 2, none⟩ = some (.int .i64 c.a) ∧ w3.cell? ⟨wr.heap.size, 3, none⟩ = some (.int .i64 c.b) ∧ w3.cell? ⟨wr.heap.size, 4, none⟩ = some (.int .i64 c.m) ∧ w3.cell? ⟨wr.heap.size, 5, none⟩ = some (.slice xn c.n.length nc) ∧ w3.cell? ⟨wr.heap.size, 6, none⟩ = some (.slice xl c.l.length lc) ∧ w3.cell? ⟨wr.heap.size, 7, none⟩ = some (.slice xe c.e.length ec) ∧ w3.cell? ⟨wr.heap.size, 8, none⟩ = some (.string bb) from ⟨(BQ.out.below h).cell 0, (BQ.out.below h).cell 1, (BQ.out.below h).cell 2, (BQ.out.below h).cell 3, (BQ.out.below h).cell 4, (BQ.out.below h).cell 5, (BQ.out.below h).cell 6, (BQ.out.below h).cell 7, (BQ.out.below h).cell 8⟩))
                        go_wp2_with fail
                        go_region_held3 (fun w' => w'.cell? ⟨wr.heap.size, 0, none⟩ = some (.int .i64 xt) ∧ w'.cell? ⟨wr.heap.size, 1, none⟩ = some (.int .i64 c.op) ∧ w'.cell? ⟨wr.heap.size, 2, none⟩ = some (.int .i64 c.a) ∧ w'.cell? ⟨wr.heap.size, 3, none⟩ = some (.int .i64 c.b) ∧ w'.cell? ⟨wr.heap.size, 4, none⟩ = some (.int .i64 c.m) ∧ w'.cell? ⟨wr.heap.size, 5, none⟩ = some (.slice xn c.n.length nc) ∧ w'.cell? ⟨wr.heap.size, 6, none⟩ = some (.slice xl c.l.length lc) ∧ w'.cell? ⟨wr.heap.size, 7, none⟩ = some (.slice xe c.e.length ec) ∧ w'.cell? ⟨wr.heap.size, 8, none⟩ = some (.string bb))
                          (first | exact HS.out _ r0 | exact HS.out _ r1 | exact HS.out _ r2 | exact HS.out _ r3 | exact HS.out _ r4)
                          (first
                            | (go_at_call 55; refine (H1.out _).mono ?_; rintro e v1 ⟨rfl, k1⟩; have r1 := bel_step r0 k1; clear k1 H1)
                            | (go_at_call 58; refine (H2.out _).mono ?_; rintro e v2 ⟨rfl, k2⟩; have r2 := bel_step r1 k2; clear k2 H2)
                            | (go_at_call 62; refine (HI.out _ (HB.out.trans ((hb1.trans (r2.mono hb1.size)).mono HB.out.size))).mono ?_; rintro e v3 ⟨rfl, k3⟩; have r3 := bel_step r2 k3; clear k3 HI)
                            | (go_at_call 63; refine (HL.out _ (HB.out.trans ((hb1.trans (r3.mono hb1.size)).mono HB.out.size))).mono ?_; rintro e v4 ⟨rfl, k4⟩; have r4 := bel_step r3 k4; clear k4 HL))
                        all_goals go_wp2_with fail
                        all_goals exact ⟨⟨i + 1, by go_num, by omega, congrArg Value.string NXT.out.symm, (hb1.trans (r4.mono hb1.size))⟩, by simp [intOf]; omega⟩
                    · have hE : i = m.datas.length := by omega
                      subst hE
                      rw [List.take_length]
                      have H1 := Lib.hid (fun (w2 : World) => rmSect_str 6 bGlo m.globals zG HU.out.globals w2)
                      have y1 : (strOfNums (bSect 6 bGlo m.globals)).size ≤ 2000000000000 := by rw [strOfNums_size]; exact sect_size 6 bGlo m.globals zG
                      have H2 := Lib.hid (fun (w2 : World) => rmSect_str 7 bExp m.exports zX HU.out.exports.1 w2)
                      have y2 : (strOfNums (bSect 7 bExp m.exports)).size ≤ 2000000000000 := by rw [strOfNums_size]; exact sect_size 7 bExp m.exports zX
                      have H3 := Lib.hid (fun (w2 : World) => rmSect_str 9 bEle m.elems zE HU.out.elems.1 w2)
                      have y3 : (strOfNums (bSect 9 bEle m.elems)).size ≤ 2000000000000 := by rw [strOfNums_size]; exact sect_size 9 bEle m.elems zE
                      have H4 := Lib.hid (fun (w2 : World) => rmSect_str 10 bCod m.codes zC HU.out.codes w2)
                      have y4 : (strOfNums (bSect 10 bCod m.codes)).size ≤ 2000000000000 := by rw [strOfNums_size]; exact sect_size 10 bCod m.codes zC
                      have H5 := Lib.hid (fun (w2 : World) => rmSect_str 11 bDat m.datas zD HU.out.datas.1 w2)
                      have y5 : (strOfNums (bSect 11 bDat m.datas)).size ≤ 2000000000000 := by rw [strOfNums_size]; exact sect_size 11 bDat m.datas zD
                      have HS := Lib.hid (fun (w3 : World) (h : Below (w.alloc (.cells #[.slice xT m.types.length cT, .slice xI m.imports.length cI, .slice xF m.funcs.length cF, .slice xB m.tables.length cB, .slice xM m.mems.length cM, .slice xG m.globals.length cG, .slice xX m.exports.length cX, .int .i64 m.start, .slice xE m.elems.length cE, .slice xC m.codes.length cC, .slice xD m.datas.length cD] 32)).heap.size (w.alloc (.cells #[.slice xT m.types.length cT, .slice xI m.imports.length cI, .slice xF m.funcs.length cF, .slice xB m.tables.length cB, .slice xM m.mems.length cM, .slice xG m.globals.length cG, .slice xX m.exports.length cX, .int .i64 m.start, .slice xE m.elems.length cE, .slice xC m.codes.length cC, .slice xD m.datas.length cD] 32)) w3) => (show w3.cell? ⟨w.heap.size, 5, none⟩ = some (.slice xG m.globals.length cG) ∧ w3.cell? ⟨w.heap.size, 6, none⟩ = some (.slice xX m.exports.length cX) ∧ w3.cell? ⟨w.heap.size, 8, none⟩ = some (.slice xE m.elems.length cE) ∧ w3.cell? ⟨w.heap.size, 9, none⟩ = some (.slice xC m.codes.length cC) ∧ w3.cell? ⟨w.heap.size, 10, none⟩ = some (.slice xD m.datas.length cD) from ⟨(HC.out w3 h).2.2.2.2.2.1, (HC.out w3 h).2.2.2.2.2.2.1, (HC.out w3 h).2.2.2.2.2.2.2.2.1, (HC.out w3 h).2.2.2.2.2.2.2.2.2.1, (HC.out w3 h).2.2.2.2.2.2.2.2.2.2⟩))
                      have HW : Hid (strOfNums (bTail m) = (((((strOfNums (bSect 6 bGlo m.globals) ++ strOfNums (bSect 7 bExp m.exports)) ++ QM) ++ strOfNums (bSect 9 bEle m.elems)) ++ strOfNums (bSect 10 bCod m.codes)) ++ strOfNums (bSect 11 bDat m.datas))) := Lib.hid (by rw [← HST.out]; unfold bTail; simp only [strOfNums_app])
                      revert HST
                      revert HW H1 y1 H2 y2 H3 y3 H4 y4 H5 y5
                      generalize strOfNums (bSect 6 bGlo m.globals) = P1
                      generalize strOfNums (bSect 7 bExp m.exports) = P2
                      skip
                      generalize strOfNums (bSect 9 bEle m.elems) = P4
                      generalize strOfNums (bSect 10 bCod m.codes) = P5
                      generalize strOfNums (bSect 11 bDat m.datas) = P6
                      generalize strOfNums (m.globals.flatMap bGlo) = A1
                      generalize strOfNums (m.exports.flatMap bExp) = A2
                      generalize strOfNums (m.elems.flatMap bEle) = A3
                      generalize strOfNums (m.codes.flatMap bCod) = A4
                      generalize strOfNums (m.datas.flatMap bDat) = A5
                      intro H1 y1 H2 y2 H3 y3 H4 y4 H5 y5 HW HST
                      have n0 : ¬ 9223372036854775807 < P1.size + P2.size := by omega
                      have n1 : ¬ 9223372036854775807 < P1.size + P2.size + QM.size := by omega
                      have m1 : ¬ 9223372036854775807 < ((P1 ++ P2)).size + QM.size := by simp only [ByteArray.size_append]; omega
                      have n2 : ¬ 9223372036854775807 < P1.size + P2.size + QM.size + P4.size := by omega
                      have m2 : ¬ 9223372036854775807 < (((P1 ++ P2) ++ QM)).size + P4.size := by simp only [ByteArray.size_append]; omega
                      have n3 : ¬ 9223372036854775807 < P1.size + P2.size + QM.size + P4.size + P5.size := by omega
                      have m3 : ¬ 9223372036854775807 < ((((P1 ++ P2) ++ QM) ++ P4)).size + P5.size := by simp only [ByteArray.size_append]; omega
                      have n4 : ¬ 9223372036854775807 < P1.size + P2.size + QM.size + P4.size + P5.size + P6.size := by omega
                      have m4 : ¬ 9223372036854775807 < (((((P1 ++ P2) ++ QM) ++ P4) ++ P5)).size + P6.size := by simp only [ByteArray.size_append]; omega
                      go_wp2_with fail
                      go_region_held3 (fun w' => w'.cell? ⟨w.heap.size, 5, none⟩ = some (.slice xG m.globals.length cG) ∧ w'.cell? ⟨w.heap.size, 6, none⟩ = some (.slice xX m.exports.length cX) ∧ w'.cell? ⟨w.heap.size, 8, none⟩ = some (.slice xE m.elems.length cE) ∧ w'.cell? ⟨w.heap.size, 9, none⟩ = some (.slice xC m.codes.length cC) ∧ w'.cell? ⟨w.heap.size, 10, none⟩ = some (.slice xD m.datas.length cD))
                        (first | exact HS.out _ (hb.drew) | exact HS.out _ q1 | exact HS.out _ q2 | exact HS.out _ q3 | exact HS.out _ q4 | exact HS.out _ q5)
                        (first
                          | (go_at_call 60; refine (H1.out _).mono ?_; rintro e v1 ⟨rfl, k1⟩; have q1 := bel_step (hb.drew) k1; clear k1 H1)
                          | (go_at_call 60; refine (H2.out _).mono ?_; rintro e v2 ⟨rfl, k2⟩; have q2 := bel_step (q1) k2; clear k2 H2)
                          | (go_at_call 60; refine (H3.out _).mono ?_; rintro e v3 ⟨rfl, k3⟩; have q3 := bel_step (q2) k3; clear k3 H3)
                          | (go_at_call 60; refine (H4.out _).mono ?_; rintro e v4 ⟨rfl, k4⟩; have q4 := bel_step (q3) k4; clear k4 H4)
                          | (go_at_call 60; refine (H5.out _).mono ?_; rintro e v5 ⟨rfl, k5⟩; have q5 := bel_step (q4) k5; clear k5 H5))
                      all_goals go_wp2_with fail
                      all_goals go_ret
                      all_goals exact ⟨congrArg (fun s => Ending.returned (.string s)) HW.out.symm, (HB.out.trans (q5.mono HB.out.size))⟩
end Go.Proofs.YtekonefnniaheaaGreat
