/- Texts of the proof of ModulePutsUptoProof, part 23. -/
import Derived.Test.YtekonefnniaheaaGreatModulePutsUptoProofQ17
import Derived.Test.YtekonefnniaheaaGreatModulePutsUptoProofQ22
set_option linter.unusedVariables false
namespace Go.Proofs.YtekonefnniaheaaGreat
open Go.RowKit Go.Deep
open Leb (putU putS)

theorem all_noneG {α : Type} [Inhabited α] {l : List α} {p : α → Bool} {i : Nat} (hi : i < l.length) (h : p (l.getD i default) = false) : l.all p = false := by
  rw [List.all_eq_false]
  refine ⟨l.getD i default, ?_, by rw [h]; decide⟩
  rw [List.getD_eq_getElem?_getD, List.getElem?_eq_getElem hi]
  exact List.getElem_mem _
theorem all_allG {α : Type} [Inhabited α] {l : List α} {p : α → Bool} (h : ∀ i, i < l.length → p (l.getD i default) = true) : l.all p = true := by
  rw [List.all_eq_true]
  intro c hc
  obtain ⟨i, hi, he⟩ := List.getElem_of_mem hc
  have := h i hi
  rw [List.getD_eq_getElem?_getD, List.getElem?_eq_getElem hi] at this
  rw [← he]
  exact this
def oL (x : Lim) : Bool := rmLim x.mn x.mx
def oT (t : FT) : Bool := rmTypes t.p 32 && rmTypes t.r 32
def rFirst (m : Mdl) : Bool := m.types.all oT && (m.imports.all oImp && (m.tables.all oL && (m.mems.all oL && (decide (m.types.length ≤ 1000) && (decide (m.imports.length ≤ 1000) && (decide (m.tables.length ≤ 1000) && (decide (m.mems.length ≤ 1000) && rmInAll m.funcs)))))))
set_option maxRecDepth 100000 in
set_option maxHeartbeats 4000000 in
theorem rmFirst_any (m : Mdl) (xT : Option Addr) (cT : Nat) (xI : Option Addr) (cI : Nat) (xF : Option Addr) (cF : Nat) (xB : Option Addr) (cB : Nat) (xM : Option Addr) (cM : Nat) (xG : Option Addr) (cG : Nat) (xX : Option Addr) (cX : Nat) (xE : Option Addr) (cE : Nat) (xC : Option Addr) (cC : Nat) (xD : Option Addr) (cD : Nat) (w : World) (hx : MdlIn w m xT cT xI cI xF cF xB cB xM cM xG cG xX cX xE cE xC cC xD cD) (hu : MdlUp 1048576 m) :
    Calls Tryz.prog 49 #[.agg #[.slice xT m.types.length cT, .slice xI m.imports.length cI, .slice xF m.funcs.length cF, .slice xB m.tables.length cB, .slice xM m.mems.length cM, .slice xG m.globals.length cG, .slice xX m.exports.length cX, .int .i64 m.start, .slice xE m.elems.length cE, .slice xC m.codes.length cC, .slice xD m.datas.length cD]] w fun e w' => e = .returned (.bool (rFirst m)) ∧ Below w.heap.size w w' := by
  have b1 := BlkAt.new w #[.slice xT m.types.length cT, .slice xI m.imports.length cI, .slice xF m.funcs.length cF, .slice xB m.tables.length cB, .slice xM m.mems.length cM, .slice xG m.globals.length cG, .slice xX m.exports.length cX, .int .i64 m.start, .slice xE m.elems.length cE, .slice xC m.codes.length cC, .slice xD m.datas.length cD] 32
  have HB := Lib.hid ((Below.refl w.heap.size w).alloc (Nat.le_refl _) (.cells #[.slice xT m.types.length cT, .slice xI m.imports.length cI, .slice xF m.funcs.length cF, .slice xB m.tables.length cB, .slice xM m.mems.length cM, .slice xG m.globals.length cG, .slice xX m.exports.length cX, .int .i64 m.start, .slice xE m.elems.length cE, .slice xC m.codes.length cC, .slice xD m.datas.length cD] 32))
  have HC := Lib.hid (fun (w' : World) (h : Below (w.alloc (.cells #[.slice xT m.types.length cT, .slice xI m.imports.length cI, .slice xF m.funcs.length cF, .slice xB m.tables.length cB, .slice xM m.mems.length cM, .slice xG m.globals.length cG, .slice xX m.exports.length cX, .int .i64 m.start, .slice xE m.elems.length cE, .slice xC m.codes.length cC, .slice xD m.datas.length cD] 32)).heap.size (w.alloc (.cells #[.slice xT m.types.length cT, .slice xI m.imports.length cI, .slice xF m.funcs.length cF, .slice xB m.tables.length cB, .slice xM m.mems.length cM, .slice xG m.globals.length cG, .slice xX m.exports.length cX, .int .i64 m.start, .slice xE m.elems.length cE, .slice xC m.codes.length cC, .slice xD m.datas.length cD] 32)) w') => (b1.below h).eleven)
  have q0 := Below.refl (w.alloc (.cells #[.slice xT m.types.length cT, .slice xI m.imports.length cI, .slice xF m.funcs.length cF, .slice xB m.tables.length cB, .slice xM m.mems.length cM, .slice xG m.globals.length cG, .slice xX m.exports.length cX, .int .i64 m.start, .slice xE m.elems.length cE, .slice xC m.codes.length cC, .slice xD m.datas.length cD] 32)).heap.size (w.alloc (.cells #[.slice xT m.types.length cT, .slice xI m.imports.length cI, .slice xF m.funcs.length cF, .slice xB m.tables.length cB, .slice xM m.mems.length cM, .slice xG m.globals.length cG, .slice xX m.exports.length cX, .int .i64 m.start, .slice xE m.elems.length cE, .slice xC m.codes.length cC, .slice xD m.datas.length cD] 32))
  have HX := Lib.hid hx
  have HU := Lib.hid hu
  have tT := hx.hT.top
  have lT := hx.hT.le
  have tI := hx.hI.top
  have lI := hx.hI.le
  have tB := hx.hB.top
  have lB := hx.hB.le
  have tM := hx.hM.top
  have lM := hx.hM.le
  have F1 : Hid (m.types.all oT = false → rFirst m = false) := Lib.hid fun h => by unfold rFirst; rw [h]; rfl
  have F2 : Hid (m.imports.all oImp = false → rFirst m = false) := Lib.hid fun h => by unfold rFirst; rw [h]; simp
  have F3 : Hid (m.tables.all oL = false → rFirst m = false) := Lib.hid fun h => by unfold rFirst; rw [h]; simp
  have F4 : Hid (m.mems.all oL = false → rFirst m = false) := Lib.hid fun h => by unfold rFirst; rw [h]; simp
  have F5 : Hid (m.types.all oT = true → m.imports.all oImp = true → m.tables.all oL = true → m.mems.all oL = true → rFirst m = (decide (m.types.length ≤ 1000) && (decide (m.imports.length ≤ 1000) && (decide (m.tables.length ≤ 1000) && (decide (m.mems.length ≤ 1000) && rmInAll m.funcs))))) := Lib.hid fun h1 h2 h3 h4 => by unfold rFirst; rw [h1, h2, h3, h4]; simp
  revert F1 F2 F3 F4 F5
  generalize rFirst m = R
  intro F1 F2 F3 F4 F5
  clear b1 hx hu
  go_enter Tryz.func49, Tryz.ntmps49
  go_wp2_with fail
  go_loopw [3] (fun iv wr => ∃ i : Nat, iv = .int .i64 i ∧ i ≤ m.types.length ∧ (∀ j, j < i → oT (m.types.getD j default) = true) ∧ Below (w.alloc (.cells #[.slice xT m.types.length cT, .slice xI m.imports.length cI, .slice xF m.funcs.length cF, .slice xB m.tables.length cB, .slice xM m.mems.length cM, .slice xG m.globals.length cG, .slice xX m.exports.length cX, .int .i64 m.start, .slice xE m.elems.length cE, .slice xC m.codes.length cC, .slice xD m.datas.length cD] 32)).heap.size (w.alloc (.cells #[.slice xT m.types.length cT, .slice xI m.imports.length cI, .slice xF m.funcs.length cF, .slice xB m.tables.length cB, .slice xM m.mems.length cM, .slice xG m.globals.length cG, .slice xX m.exports.length cX, .int .i64 m.start, .slice xE m.elems.length cE, .slice xC m.codes.length cC, .slice xD m.datas.length cD] 32)) wr) (fun iv _ => m.types.length - (intOf iv).toNat)
  case atStart => exact ⟨0, rfl, Nat.zero_le _, fun j h => absurd h (Nat.not_lt_zero _), q0⟩
  case round =>
    obtain ⟨i, rfl, hi, hall, hb⟩ := hrel
    have HALL := Lib.hid hall
    clear hall
    have hk := (HC.out _ hb).1
    by_cases hlt : i < m.types.length
    · obtain ⟨bx, ox, rfl, xp, cp, xr, cr, ⟨e0, e1⟩, hp, hr⟩ := HX.out.hT.at hlt
      obtain ⟨u0, u1⟩ := HU.out.types.2 i hlt
      have f0 := below_cell (HB.out.trans (hb.mono HB.out.size)) e0
      have f1 := below_cell (HB.out.trans (hb.mono HB.out.size)) e1
      have E1 := Lib.hid e1
      have HP := Lib.hid (fun (w2 : World) (h : Below w.heap.size w w2) => rmTypes_any (m.types.getD i default).p 32 xp _ cp w2 (hp.lie.below h) rfl u0)
      have HQ := Lib.hid (fun (w2 : World) (h : Below w.heap.size w w2) => rmTypes_any (m.types.getD i default).r 32 xr _ cr w2 (hr.lie.below h) rfl u1)
      have hok : oT (m.types.getD i default) = (rmTypes (m.types.getD i default).p 32 && rmTypes (m.types.getD i default).r 32) := rfl
      clear e0 e1 hp hr
      revert HP HQ hok f0 f1 E1 u0 u1
      generalize rmTypes (m.types.getD i default).p 32 = r1
      generalize rmTypes (m.types.getD i default).r 32 = r2
      generalize (m.types.getD i default).p.length = lp
      generalize (m.types.getD i default).r.length = lr
      intro u0 u1 f0 f1 E1 HP HQ hok
      cases r1 with
      | false =>
        have hno : oT (m.types.getD i default) = false := hok
        clear HQ hok
        go_wp2_with (go_at_call 50; refine (HP.out _ (HB.out.trans (hb.mono HB.out.size))).mono ?_; rintro e w1 ⟨rfl, k1⟩; replace hb := hb.trans (k1.mono hb.size); have hk1 := HC.out _ hb; have hk2 := hk1.1; have g1 := below_cell (HB.out.trans (hb.mono HB.out.size)) E1.out; clear hk1; clear k1 HP)
        go_ret
        exact ⟨congrArg (fun b => Ending.returned (.bool b)) (F1.out (all_noneG (p := oT) hlt hno)).symm, (HB.out.trans (hb.mono HB.out.size))⟩
      | true =>
        cases r2 with
        | false =>
          have hno : oT (m.types.getD i default) = false := hok
          clear hok
          go_wp2_with (first | (go_at_call 50; refine (HP.out _ (HB.out.trans (hb.mono HB.out.size))).mono ?_; rintro e w1 ⟨rfl, k1⟩; replace hb := hb.trans (k1.mono hb.size); have hk1 := HC.out _ hb; have hk2 := hk1.1; have g1 := below_cell (HB.out.trans (hb.mono HB.out.size)) E1.out; clear hk1; clear k1 HP) | (go_at_call 50; refine (HQ.out _ (HB.out.trans (hb.mono HB.out.size))).mono ?_; rintro e w2 ⟨rfl, k2⟩; replace hb := hb.trans (k2.mono hb.size); clear k2 HQ))
          go_ret
          exact ⟨congrArg (fun b => Ending.returned (.bool b)) (F1.out (all_noneG (p := oT) hlt hno)).symm, (HB.out.trans (hb.mono HB.out.size))⟩
        | true =>
          have hyes : oT (m.types.getD i default) = true := hok
          have NXT : Hid (∀ j, j < i + 1 → oT (m.types.getD j default) = true) := Lib.hid fun j hj => by
            rcases Nat.lt_or_ge j i with q | q
            · exact HALL.out j q
            · obtain rfl : j = i := by omega
              exact hyes
          clear hok hyes
          go_wp2_with (first | (go_at_call 50; refine (HP.out _ (HB.out.trans (hb.mono HB.out.size))).mono ?_; rintro e w1 ⟨rfl, k1⟩; replace hb := hb.trans (k1.mono hb.size); have hk1 := HC.out _ hb; have hk2 := hk1.1; have g1 := below_cell (HB.out.trans (hb.mono HB.out.size)) E1.out; clear hk1; clear k1 HP) | (go_at_call 50; refine (HQ.out _ (HB.out.trans (hb.mono HB.out.size))).mono ?_; rintro e w2 ⟨rfl, k2⟩; replace hb := hb.trans (k2.mono hb.size); clear k2 HQ))
          exact ⟨⟨i + 1, by go_num, by omega, NXT.out, hb⟩, by simp [intOf]; omega⟩
    · have A1 := Lib.hid (all_allG (p := oT) (fun j hj => HALL.out j (by omega)))
      go_wp2_with fail
      go_loopw [4] (fun iv wr => ∃ i : Nat, iv = .int .i64 i ∧ i ≤ m.imports.length ∧ (∀ j, j < i → oImp (m.imports.getD j default) = true) ∧ Below (w.alloc (.cells #[.slice xT m.types.length cT, .slice xI m.imports.length cI, .slice xF m.funcs.length cF, .slice xB m.tables.length cB, .slice xM m.mems.length cM, .slice xG m.globals.length cG, .slice xX m.exports.length cX, .int .i64 m.start, .slice xE m.elems.length cE, .slice xC m.codes.length cC, .slice xD m.datas.length cD] 32)).heap.size (w.alloc (.cells #[.slice xT m.types.length cT, .slice xI m.imports.length cI, .slice xF m.funcs.length cF, .slice xB m.tables.length cB, .slice xM m.mems.length cM, .slice xG m.globals.length cG, .slice xX m.exports.length cX, .int .i64 m.start, .slice xE m.elems.length cE, .slice xC m.codes.length cC, .slice xD m.datas.length cD] 32)) wr) (fun iv _ => m.imports.length - (intOf iv).toNat)
      case atStart => exact ⟨0, rfl, Nat.zero_le _, fun j h => absurd h (Nat.not_lt_zero _), hb⟩
      case round =>
        obtain ⟨i, rfl, hi, hall, hb⟩ := hrel
        have HALL := Lib.hid hall
        clear hall
        have hk := (HC.out _ hb).2.1
        by_cases hlt : i < m.imports.length
        · obtain ⟨bx, ox, rfl, ⟨e0, e1, e2, e3, e4, e5, e6⟩, _⟩ := HX.out.hI.at hlt
          obtain ⟨u0, u1⟩ := HU.out.imports.2 i hlt
          have f0 := below_cell (HB.out.trans (hb.mono HB.out.size)) e0
          have f1 := below_cell (HB.out.trans (hb.mono HB.out.size)) e1
          have f2 := below_cell (HB.out.trans (hb.mono HB.out.size)) e2
          have f3 := below_cell (HB.out.trans (hb.mono HB.out.size)) e3
          have f4 := below_cell (HB.out.trans (hb.mono HB.out.size)) e4
          have f5 := below_cell (HB.out.trans (hb.mono HB.out.size)) e5
          have f6 := below_cell (HB.out.trans (hb.mono HB.out.size)) e6
          have HP := Lib.hid (fun (w2 : World) (_ : Below w.heap.size w w2) => rmImp_any (m.imports.getD i default) w2 u0 u1)
          clear e0 e1 e2 e3 e4 e5 e6 u0 u1
          cases hrr : oImp (m.imports.getD i default) with
          | false =>
            rw [hrr] at HP
            have HNO := Lib.hid hrr
            clear hrr
            revert HP f0 f1 f2 f3 f4 f5 f6
            generalize m.imports.getD i default = x
            intro f0 f1 f2 f3 f4 f5 f6 HP
            go_wp2_with (first | (go_at_call 108; refine (HP.out _ (HB.out.trans (hb.mono HB.out.size))).mono ?_; rintro e w1 ⟨rfl, k1⟩; replace hb := hb.trans (k1.mono hb.size); clear k1 HP))
            have hno := HNO.out
            go_ret
            exact ⟨congrArg (fun b => Ending.returned (.bool b)) (F2.out (all_noneG (p := oImp) hlt hno)).symm, (HB.out.trans (hb.mono HB.out.size))⟩
          | true =>
            rw [hrr] at HP
            have hyes := hrr
            have NXT : Hid (∀ j, j < i + 1 → oImp (m.imports.getD j default) = true) := Lib.hid fun j hj => by
              rcases Nat.lt_or_ge j i with q | q
              · exact HALL.out j q
              · obtain rfl : j = i := by omega
                exact hyes
            clear hrr hyes
            revert HP f0 f1 f2 f3 f4 f5 f6
            generalize m.imports.getD i default = x
            intro f0 f1 f2 f3 f4 f5 f6 HP
            go_wp2_with (first | (go_at_call 108; refine (HP.out _ (HB.out.trans (hb.mono HB.out.size))).mono ?_; rintro e w1 ⟨rfl, k1⟩; replace hb := hb.trans (k1.mono hb.size); clear k1 HP))
            exact ⟨⟨i + 1, by go_num, by omega, NXT.out, hb⟩, by simp [intOf]; omega⟩
        · have A2 := Lib.hid (all_allG (p := oImp) (fun j hj => HALL.out j (by omega)))
          go_wp2_with fail
          go_loopw [5] (fun iv wr => ∃ i : Nat, iv = .int .i64 i ∧ i ≤ m.tables.length ∧ (∀ j, j < i → oL (m.tables.getD j default) = true) ∧ Below (w.alloc (.cells #[.slice xT m.types.length cT, .slice xI m.imports.length cI, .slice xF m.funcs.length cF, .slice xB m.tables.length cB, .slice xM m.mems.length cM, .slice xG m.globals.length cG, .slice xX m.exports.length cX, .int .i64 m.start, .slice xE m.elems.length cE, .slice xC m.codes.length cC, .slice xD m.datas.length cD] 32)).heap.size (w.alloc (.cells #[.slice xT m.types.length cT, .slice xI m.imports.length cI, .slice xF m.funcs.length cF, .slice xB m.tables.length cB, .slice xM m.mems.length cM, .slice xG m.globals.length cG, .slice xX m.exports.length cX, .int .i64 m.start, .slice xE m.elems.length cE, .slice xC m.codes.length cC, .slice xD m.datas.length cD] 32)) wr) (fun iv _ => m.tables.length - (intOf iv).toNat)
          case atStart => exact ⟨0, rfl, Nat.zero_le _, fun j h => absurd h (Nat.not_lt_zero _), hb⟩
          case round =>
            obtain ⟨i, rfl, hi, hall, hb⟩ := hrel
            have HALL := Lib.hid hall
            clear hall
            have hk := (HC.out _ hb).2.2.2.1
            by_cases hlt : i < m.tables.length
            · obtain ⟨bx, ox, rfl, ⟨e0, e1⟩, _⟩ := HX.out.hB.at hlt
              have f0 := below_cell (HB.out.trans (hb.mono HB.out.size)) e0
              have f1 := below_cell (HB.out.trans (hb.mono HB.out.size)) e1
              have HP := Lib.hid (fun (w2 : World) (_ : Below w.heap.size w w2) => rmLim_any (m.tables.getD i default).mn (m.tables.getD i default).mx w2)
              rw [show rmLim (m.tables.getD i default).mn (m.tables.getD i default).mx = oL (m.tables.getD i default) from rfl] at HP
              clear e0 e1
              cases hrr : oL (m.tables.getD i default) with
              | false =>
                rw [hrr] at HP
                have HNO := Lib.hid hrr
                clear hrr
                revert HP f0 f1
                generalize m.tables.getD i default = x
                intro f0 f1 HP
                go_wp2_with (first | (go_at_call 109; refine (HP.out _ (HB.out.trans (hb.mono HB.out.size))).mono ?_; rintro e w1 ⟨rfl, k1⟩; replace hb := hb.trans (k1.mono hb.size); clear k1 HP))
                have hno := HNO.out
                go_ret
                exact ⟨congrArg (fun b => Ending.returned (.bool b)) (F3.out (all_noneG (p := oL) hlt hno)).symm, (HB.out.trans (hb.mono HB.out.size))⟩
              | true =>
                rw [hrr] at HP
                have hyes := hrr
                have NXT : Hid (∀ j, j < i + 1 → oL (m.tables.getD j default) = true) := Lib.hid fun j hj => by
                  rcases Nat.lt_or_ge j i with q | q
                  · exact HALL.out j q
                  · obtain rfl : j = i := by omega
                    exact hyes
                clear hrr hyes
                revert HP f0 f1
                generalize m.tables.getD i default = x
                intro f0 f1 HP
                go_wp2_with (first | (go_at_call 109; refine (HP.out _ (HB.out.trans (hb.mono HB.out.size))).mono ?_; rintro e w1 ⟨rfl, k1⟩; replace hb := hb.trans (k1.mono hb.size); clear k1 HP))
                exact ⟨⟨i + 1, by go_num, by omega, NXT.out, hb⟩, by simp [intOf]; omega⟩
            · have A3 := Lib.hid (all_allG (p := oL) (fun j hj => HALL.out j (by omega)))
              go_wp2_with fail
              go_loopw [6] (fun iv wr => ∃ i : Nat, iv = .int .i64 i ∧ i ≤ m.mems.length ∧ (∀ j, j < i → oL (m.mems.getD j default) = true) ∧ Below (w.alloc (.cells #[.slice xT m.types.length cT, .slice xI m.imports.length cI, .slice xF m.funcs.length cF, .slice xB m.tables.length cB, .slice xM m.mems.length cM, .slice xG m.globals.length cG, .slice xX m.exports.length cX, .int .i64 m.start, .slice xE m.elems.length cE, .slice xC m.codes.length cC, .slice xD m.datas.length cD] 32)).heap.size (w.alloc (.cells #[.slice xT m.types.length cT, .slice xI m.imports.length cI, .slice xF m.funcs.length cF, .slice xB m.tables.length cB, .slice xM m.mems.length cM, .slice xG m.globals.length cG, .slice xX m.exports.length cX, .int .i64 m.start, .slice xE m.elems.length cE, .slice xC m.codes.length cC, .slice xD m.datas.length cD] 32)) wr) (fun iv _ => m.mems.length - (intOf iv).toNat)
              case atStart => exact ⟨0, rfl, Nat.zero_le _, fun j h => absurd h (Nat.not_lt_zero _), hb⟩
              case round =>
                obtain ⟨i, rfl, hi, hall, hb⟩ := hrel
                have HALL := Lib.hid hall
                clear hall
                have hk := (HC.out _ hb).2.2.2.2.1
                by_cases hlt : i < m.mems.length
                · obtain ⟨bx, ox, rfl, ⟨e0, e1⟩, _⟩ := HX.out.hM.at hlt
                  have f0 := below_cell (HB.out.trans (hb.mono HB.out.size)) e0
                  have f1 := below_cell (HB.out.trans (hb.mono HB.out.size)) e1
                  have HP := Lib.hid (fun (w2 : World) (_ : Below w.heap.size w w2) => rmLim_any (m.mems.getD i default).mn (m.mems.getD i default).mx w2)
                  rw [show rmLim (m.mems.getD i default).mn (m.mems.getD i default).mx = oL (m.mems.getD i default) from rfl] at HP
                  clear e0 e1
                  cases hrr : oL (m.mems.getD i default) with
                  | false =>
                    rw [hrr] at HP
                    have HNO := Lib.hid hrr
                    clear hrr
                    revert HP f0 f1
                    generalize m.mems.getD i default = x
                    intro f0 f1 HP
                    go_wp2_with (first | (go_at_call 109; refine (HP.out _ (HB.out.trans (hb.mono HB.out.size))).mono ?_; rintro e w1 ⟨rfl, k1⟩; replace hb := hb.trans (k1.mono hb.size); clear k1 HP))
                    have hno := HNO.out
                    go_ret
                    exact ⟨congrArg (fun b => Ending.returned (.bool b)) (F4.out (all_noneG (p := oL) hlt hno)).symm, (HB.out.trans (hb.mono HB.out.size))⟩
                  | true =>
                    rw [hrr] at HP
                    have hyes := hrr
                    have NXT : Hid (∀ j, j < i + 1 → oL (m.mems.getD j default) = true) := Lib.hid fun j hj => by
                      rcases Nat.lt_or_ge j i with q | q
                      · exact HALL.out j q
                      · obtain rfl : j = i := by omega
                        exact hyes
                    clear hrr hyes
                    revert HP f0 f1
                    generalize m.mems.getD i default = x
                    intro f0 f1 HP
                    go_wp2_with (first | (go_at_call 109; refine (HP.out _ (HB.out.trans (hb.mono HB.out.size))).mono ?_; rintro e w1 ⟨rfl, k1⟩; replace hb := hb.trans (k1.mono hb.size); clear k1 HP))
                    exact ⟨⟨i + 1, by go_num, by omega, NXT.out, hb⟩, by simp [intOf]; omega⟩
                · have A4 := Lib.hid (all_allG (p := oL) (fun j hj => HALL.out j (by omega)))
                  have HE := Lib.hid (F5.out A1.out A2.out A3.out A4.out)
                  have zT := (HC.out _ hb).1
                  have zI := (HC.out _ hb).2.1
                  have zB := (HC.out _ hb).2.2.2.1
                  have zM := (HC.out _ hb).2.2.2.2.1
                  have zF := (HC.out _ hb).2.2.1
                  clear hk
                  have HF := Lib.hid (fun (w2 : World) (h : Below w.heap.size w w2) => rmInAll_any m.funcs xF _ cF w2 (HX.out.hF.lie.below h) rfl HU.out.funcs)
                  by_cases qT : m.types.length ≤ 1000
                  case neg =>
                    have hR : R = false := HE.out.trans (by simp [qT])
                    have dT : decide ((m.types.length : Int) ≤ 1000) = false := decide_eq_false (by omega)
                    have HRR := Lib.hid hR
                    clear hR qT
                    go_wp2_with fail
                    go_ret
                    exact ⟨congrArg (fun b => Ending.returned (.bool b)) HRR.out.symm, (HB.out.trans (hb.mono HB.out.size))⟩
                  have pT : (m.types.length : Int) ≤ 1000 := by omega
                  by_cases qI : m.imports.length ≤ 1000
                  case neg =>
                    have hR : R = false := HE.out.trans (by simp [qI])
                    have dI : decide ((m.imports.length : Int) ≤ 1000) = false := decide_eq_false (by omega)
                    have HRR := Lib.hid hR
                    clear hR qI
                    go_wp2_with fail
                    go_ret
                    exact ⟨congrArg (fun b => Ending.returned (.bool b)) HRR.out.symm, (HB.out.trans (hb.mono HB.out.size))⟩
                  have pI : (m.imports.length : Int) ≤ 1000 := by omega
                  by_cases qB : m.tables.length ≤ 1000
                  case neg =>
                    have hR : R = false := HE.out.trans (by simp [qB])
                    have dB : decide ((m.tables.length : Int) ≤ 1000) = false := decide_eq_false (by omega)
                    have HRR := Lib.hid hR
                    clear hR qB
                    go_wp2_with fail
                    go_ret
                    exact ⟨congrArg (fun b => Ending.returned (.bool b)) HRR.out.symm, (HB.out.trans (hb.mono HB.out.size))⟩
                  have pB : (m.tables.length : Int) ≤ 1000 := by omega
                  by_cases qM : m.mems.length ≤ 1000
                  case neg =>
                    have hR : R = false := HE.out.trans (by simp [qM])
                    have dM : decide ((m.mems.length : Int) ≤ 1000) = false := decide_eq_false (by omega)
                    have HRR := Lib.hid hR
                    clear hR qM
                    go_wp2_with fail
                    go_ret
                    exact ⟨congrArg (fun b => Ending.returned (.bool b)) HRR.out.symm, (HB.out.trans (hb.mono HB.out.size))⟩
                  have pM : (m.mems.length : Int) ≤ 1000 := by omega
                  have HRR := Lib.hid (HE.out.trans (show _ = rmInAll m.funcs by simp [qT, qI, qB, qM]))
                  clear qT qI qB qM
                  revert HF HRR
                  generalize rmInAll m.funcs = rf
                  intro HF HRR
                  go_wp2_with (go_at_call 54; refine (HF.out _ (HB.out.trans (hb.mono HB.out.size))).mono ?_; rintro e w7 ⟨rfl, rfl⟩)
                  go_ret
                  exact ⟨congrArg (fun b => Ending.returned (.bool b)) HRR.out.symm, (HB.out.trans (hb.mono HB.out.size))⟩
end Go.Proofs.YtekonefnniaheaaGreat
