/- Texts of the proof of ModulePutsUptoProof, part 25. -/
import Derived.Deep.RegionHeld3
import Derived.Test.YtekonefnniaheaaGreatModulePutsUptoProofQ18
import Derived.Test.YtekonefnniaheaaGreatModulePutsUptoProofQ21
import Derived.Test.YtekonefnniaheaaGreatModulePutsUptoProofQ24
set_option linter.unusedVariables false
namespace Go.Proofs.YtekonefnniaheaaGreat
open Go.RowKit Go.Deep
open Leb (putU putS)

theorem take_flat {α : Type} (b : α → List Int) (l : List α) (i : Nat) : ((l.take i).flatMap b).length ≤ (l.flatMap b).length := by
  conv => rhs; rw [← List.take_append_drop i l]
  rw [List.flatMap_append, List.length_append]
  omega
theorem take_next {α : Type} [Inhabited α] (b : α → List Int) (l : List α) {i : Nat} (hi : i < l.length) : (l.take (i + 1)).flatMap b = (l.take i).flatMap b ++ b (l.getD i default) := by
  rw [List.take_succ_eq_append_getElem hi, List.flatMap_append, List.getD_eq_getElem?_getD, List.getElem?_eq_getElem hi]
  simp
theorem elem_flat {α : Type} [Inhabited α] (b : α → List Int) (l : List α) {i : Nat} (hi : i < l.length) : (b (l.getD i default)).length ≤ (l.flatMap b).length := by
  have h1 := take_flat b l (i + 1)
  rw [take_next b l hi, List.length_append] at h1
  omega
theorem str_next {α : Type} [Inhabited α] (b : α → List Int) (l : List α) {i : Nat} (hi : i < l.length) {P : ByteArray} (h : strOfNums (b (l.getD i default)) = P) : strOfNums ((l.take (i + 1)).flatMap b) = strOfNums ((l.take i).flatMap b) ++ P := by
  rw [take_next b l hi, ← strOfNums_app, h]
theorem rmSect_eq {α : Type} (id : Int) (b : α → List Int) (ts : List α) : rmSect id ts.length (strOfNums (ts.flatMap b)) = strOfNums (bSect id b ts) := by
  unfold rmSect bSect
  by_cases h : ts.length = 0
  · rw [if_pos h, if_pos h]
    rfl
  · rw [if_neg h, if_neg h]
    unfold bList
    rw [strOfNums_app, strOfNums_app, strOfNums_app, strOfNums_size]
def bTabL (x : Lim) : List Int := bTab x.mn x.mx
def bLimL (x : Lim) : List Int := bLim x.mn x.mx
theorem rmSpan_any2 (mn mx : Int) (w : World) (h0 : mn ≤ 9223372036854775807) (h1 : mx ≤ 9223372036854775807) :
    Calls Tryz.prog 59 #[.agg #[.int .i64 mn, .int .i64 mx]] w fun e w' => e = .returned (.string (strOfNums (bLim mn mx))) ∧ Below w.heap.size w w' := rmSpan_any mn mx w h0 h1
theorem str_tab (x : Lim) : strOfNums (bTabL x) = strOfNums [(112 : Int) % 256] ++ strOfNums (bLim x.mn x.mx) := by
  unfold bTabL bTab
  rw [strOfNums_app]
theorem imp_kind {x : Imp} (h : oImp x = true) : 0 ≤ x.kind ∧ x.kind ≤ 3 := by
  unfold oImp at h
  simp only [Bool.and_eq_true] at h
  exact of_decide_eq_true h.1.1.2
theorem rmSect_str {α : Type} (id : Int) (b : α → List Int) (ts : List α) (hz : (ts.flatMap b).length ≤ 1000000000000) (hn : ts.length ≤ 1048576) (w : World) :
    Calls Tryz.prog 60 #[.int .i64 id, .int .i64 ts.length, .string (strOfNums (ts.flatMap b))] w fun e w' => e = .returned (.string (strOfNums (bSect id b ts))) ∧ Below w.heap.size w w' := by
  rw [← rmSect_eq]
  exact rmSect_any id ts.length _ (by rw [strOfNums_size]; omega) hn w
theorem sect_size {α : Type} (id : Int) (b : α → List Int) (ts : List α) (hz : (ts.flatMap b).length ≤ 1000000000000) : (bSect id b ts).length ≤ 2000000000000 := by
  unfold bSect
  split
  · exact Nat.zero_le _
  · unfold bList
    simp only [List.length_append, List.length_cons, List.length_nil]
    have h1 := Leb.putU_length (ts.length : Int)
    have h2 := Leb.putU_length (((putU (ts.length : Int)).length + (ts.flatMap b).length : Nat) : Int)
    omega
theorem str_ft (t : FT) : strOfNums (bFT t) = (strOfNums [96 % 256] ++ strOfNums (rmRow t.p)) ++ strOfNums (rmRow t.r) := by
  have h : ∀ l : List Int, rmRow l = bList bTyp l := fun l => by
    unfold rmRow bList
    congr 1
    induction l with
    | nil => rfl
    | cons x l ih => rw [List.map_cons, List.flatMap_cons, ih]; rfl
  unfold bFT
  rw [strOfNums_app, strOfNums_app, h, h]
set_option maxRecDepth 100000 in
set_option maxHeartbeats 8000000 in
theorem rmHead_any (m : Mdl) (xT : Option Addr) (cT : Nat) (xI : Option Addr) (cI : Nat) (xF : Option Addr) (cF : Nat) (xB : Option Addr) (cB : Nat) (xM : Option Addr) (cM : Nat) (xG : Option Addr) (cG : Nat) (xX : Option Addr) (cX : Nat) (xE : Option Addr) (cE : Nat) (xC : Option Addr) (cC : Nat) (xD : Option Addr) (cD : Nat) (w : World) (hx : MdlIn w m xT cT xI cI xF cF xB cB xM cM xG cG xX cX xE cE xC cC xD cD) (hu : MdlUp 1048576 m) (kI : ∀ i, i < m.imports.length → oImp (m.imports.getD i default) = true) (zT : (m.types.flatMap bFT).length ≤ 1000000000000) (zI : (m.imports.flatMap bImp).length ≤ 1000000000000) (zF : (m.funcs.flatMap putU).length ≤ 1000000000000) (zB : (m.tables.flatMap bTabL).length ≤ 1000000000000) (zM : (m.mems.flatMap bLimL).length ≤ 1000000000000) :
    Calls Tryz.prog 19 #[.agg #[.slice xT m.types.length cT, .slice xI m.imports.length cI, .slice xF m.funcs.length cF, .slice xB m.tables.length cB, .slice xM m.mems.length cM, .slice xG m.globals.length cG, .slice xX m.exports.length cX, .int .i64 m.start, .slice xE m.elems.length cE, .slice xC m.codes.length cC, .slice xD m.datas.length cD]] w fun e w' => e = .returned (.string (strOfNums (bHead m))) ∧ Below w.heap.size w w' := by
  have b1 := BlkAt.new w #[.slice xT m.types.length cT, .slice xI m.imports.length cI, .slice xF m.funcs.length cF, .slice xB m.tables.length cB, .slice xM m.mems.length cM, .slice xG m.globals.length cG, .slice xX m.exports.length cX, .int .i64 m.start, .slice xE m.elems.length cE, .slice xC m.codes.length cC, .slice xD m.datas.length cD] 32
  have HB := Lib.hid ((Below.refl w.heap.size w).alloc (Nat.le_refl _) (.cells #[.slice xT m.types.length cT, .slice xI m.imports.length cI, .slice xF m.funcs.length cF, .slice xB m.tables.length cB, .slice xM m.mems.length cM, .slice xG m.globals.length cG, .slice xX m.exports.length cX, .int .i64 m.start, .slice xE m.elems.length cE, .slice xC m.codes.length cC, .slice xD m.datas.length cD] 32))
  have HC := Lib.hid (fun (w' : World) (h : Below (w.alloc (.cells #[.slice xT m.types.length cT, .slice xI m.imports.length cI, .slice xF m.funcs.length cF, .slice xB m.tables.length cB, .slice xM m.mems.length cM, .slice xG m.globals.length cG, .slice xX m.exports.length cX, .int .i64 m.start, .slice xE m.elems.length cE, .slice xC m.codes.length cC, .slice xD m.datas.length cD] 32)).heap.size (w.alloc (.cells #[.slice xT m.types.length cT, .slice xI m.imports.length cI, .slice xF m.funcs.length cF, .slice xB m.tables.length cB, .slice xM m.mems.length cM, .slice xG m.globals.length cG, .slice xX m.exports.length cX, .int .i64 m.start, .slice xE m.elems.length cE, .slice xC m.codes.length cC, .slice xD m.datas.length cD] 32)) w') => (b1.below h).eleven)
  have q0 := Below.refl (w.alloc (.cells #[.slice xT m.types.length cT, .slice xI m.imports.length cI, .slice xF m.funcs.length cF, .slice xB m.tables.length cB, .slice xM m.mems.length cM, .slice xG m.globals.length cG, .slice xX m.exports.length cX, .int .i64 m.start, .slice xE m.elems.length cE, .slice xC m.codes.length cC, .slice xD m.datas.length cD] 32)).heap.size (w.alloc (.cells #[.slice xT m.types.length cT, .slice xI m.imports.length cI, .slice xF m.funcs.length cF, .slice xB m.tables.length cB, .slice xM m.mems.length cM, .slice xG m.globals.length cG, .slice xX m.exports.length cX, .int .i64 m.start, .slice xE m.elems.length cE, .slice xC m.codes.length cC, .slice xD m.datas.length cD] 32))
  have HX := Lib.hid hx
  have HU := Lib.hid hu
  have hb := q0
  clear b1 q0
  have tT := hx.hT.top
  have lT := hx.hT.le
  have tI := hx.hI.top
  have lI := hx.hI.le
  have tF := hx.hF.top
  have lF := hx.hF.le
  have tB := hx.hB.top
  have lB := hx.hB.le
  have tM := hx.hM.top
  have lM := hx.hM.le
  have KI := Lib.hid kI
  clear kI hx hu
  go_enter Tryz.func19, Tryz.ntmps19
  go_wp2_with fail
  go_loopw [3, 8] (fun sv iv wr => ∃ i : Nat, iv = .int .i64 i ∧ i ≤ m.types.length ∧ sv = .string (strOfNums ((m.types.take i).flatMap bFT)) ∧ Below (w.alloc (.cells #[.slice xT m.types.length cT, .slice xI m.imports.length cI, .slice xF m.funcs.length cF, .slice xB m.tables.length cB, .slice xM m.mems.length cM, .slice xG m.globals.length cG, .slice xX m.exports.length cX, .int .i64 m.start, .slice xE m.elems.length cE, .slice xC m.codes.length cC, .slice xD m.datas.length cD] 32)).heap.size (w.alloc (.cells #[.slice xT m.types.length cT, .slice xI m.imports.length cI, .slice xF m.funcs.length cF, .slice xB m.tables.length cB, .slice xM m.mems.length cM, .slice xG m.globals.length cG, .slice xX m.exports.length cX, .int .i64 m.start, .slice xE m.elems.length cE, .slice xC m.codes.length cC, .slice xD m.datas.length cD] 32)) wr) (fun _ iv _ => m.types.length - (intOf iv).toNat)
  case atStart => exact ⟨0, rfl, Nat.zero_le _, rfl, hb⟩
  case round =>
    clear hb
    obtain ⟨i, rfl, hi, rfl, hb⟩ := hrel
    have hk := (HC.out _ hb).1
    by_cases hlt : i < m.types.length
    · obtain ⟨bx, ox, rfl, xp, cp, xr, cr, ⟨e0, e1⟩, hp, hr⟩ := HX.out.hT.at hlt
      obtain ⟨u0, u1⟩ := HU.out.types.2 i hlt
      have z0 : (strOfNums ((m.types.take i).flatMap bFT)).size ≤ 1000000000000 := by rw [strOfNums_size]; exact Nat.le_trans (take_flat bFT m.types i) zT
      have zp : (strOfNums (bFT (m.types.getD i default))).size ≤ 1000000000000 := by rw [strOfNums_size]; exact Nat.le_trans (elem_flat bFT m.types hlt) zT
      have hstr := str_ft (m.types.getD i default)
      have hnx := str_next bFT m.types hlt hstr
      rw [hstr] at zp
      try simp only [ByteArray.size_append] at zp
      try simp only [← ByteArray.append_assoc] at hnx
      have NXT := Lib.hid hnx
      clear hstr hnx
      have HS := Lib.hid (fun (w3 : World) (h : Below (w.alloc (.cells #[.slice (some ⟨bx, ox, none⟩) m.types.length cT, .slice xI m.imports.length cI, .slice xF m.funcs.length cF, .slice xB m.tables.length cB, .slice xM m.mems.length cM, .slice xG m.globals.length cG, .slice xX m.exports.length cX, .int .i64 m.start, .slice xE m.elems.length cE, .slice xC m.codes.length cC, .slice xD m.datas.length cD] 32)).heap.size (w.alloc (.cells #[.slice (some ⟨bx, ox, none⟩) m.types.length cT, .slice xI m.imports.length cI, .slice xF m.funcs.length cF, .slice xB m.tables.length cB, .slice xM m.mems.length cM, .slice xG m.globals.length cG, .slice xX m.exports.length cX, .int .i64 m.start, .slice xE m.elems.length cE, .slice xC m.codes.length cC, .slice xD m.datas.length cD] 32)) w3) => (show w3.cell? ⟨w.heap.size, 0, none⟩ = some (.slice (some ⟨bx, ox, none⟩) m.types.length cT) ∧ w3.cell? ⟨bx, ox + i * 2, none⟩ = some (.slice xp (m.types.getD i default).p.length cp) ∧ w3.cell? ⟨bx, ox + i * 2 + 1, none⟩ = some (.slice xr (m.types.getD i default).r.length cr) from ⟨(HC.out w3 h).1, below_cell (HB.out.trans (h.mono HB.out.size)) e0, below_cell (HB.out.trans (h.mono HB.out.size)) e1⟩))
      have H1 := Lib.hid (fun (w2 : World) => rmOne_any 96 w2)
      have H2 := Lib.hid (fun (w2 : World) (h : Below w.heap.size w w2) => rmRow_any (m.types.getD i default).p xp _ cp w2 (hp.lie.below h) rfl u0)
      have H3 := Lib.hid (fun (w2 : World) (h : Below w.heap.size w w2) => rmRow_any (m.types.getD i default).r xr _ cr w2 (hr.lie.below h) rfl u1)
      clear e0 e1 hp hr u0 u1
      revert z0 zp NXT HS H1 H2 H3
      generalize strOfNums ((m.types.take i).flatMap bFT) = S0
      generalize strOfNums [(96 : Int) % 256] = P1
      generalize strOfNums (rmRow (m.types.getD i default).p) = P2
      generalize strOfNums (rmRow (m.types.getD i default).r) = P3
      generalize (m.types.getD i default).p.length = lp
      generalize (m.types.getD i default).r.length = lr
      intro z0 zp NXT HS H1 H2 H3
      have n0 : ¬ 9223372036854775807 < S0.size + P1.size := by omega
      have n1 : ¬ 9223372036854775807 < S0.size + P1.size + P2.size := by omega
      have m1 : ¬ 9223372036854775807 < ((S0 ++ P1)).size + P2.size := by simp only [ByteArray.size_append]; omega
      have n2 : ¬ 9223372036854775807 < S0.size + P1.size + P2.size + P3.size := by omega
      have m2 : ¬ 9223372036854775807 < (((S0 ++ P1) ++ P2)).size + P3.size := by simp only [ByteArray.size_append]; omega
      have ib : (i : Int) < m.types.length := by omega
      go_wp2_with fail
      go_region_held3 (fun w' => w'.cell? ⟨w.heap.size, 0, none⟩ = some (.slice (some ⟨bx, ox, none⟩) m.types.length cT) ∧ w'.cell? ⟨bx, ox + i * 2, none⟩ = some (.slice xp lp cp) ∧ w'.cell? ⟨bx, ox + i * 2 + 1, none⟩ = some (.slice xr lr cr))
        (first | exact HS.out _ (hb.drew) | exact HS.out _ q1 | exact HS.out _ q2 | exact HS.out _ q3)
        (first
          | (go_at_call 55; refine (H1.out _).mono ?_; rintro e v1 ⟨rfl, k1⟩; have q1 := bel_step (hb.drew) k1; clear k1 H1)
          | (go_at_call 56; refine (H2.out _ (HB.out.trans ((q1).mono HB.out.size))).mono ?_; rintro e v2 ⟨rfl, k2⟩; have q2 := bel_step (q1) k2; clear k2 H2)
          | (go_at_call 56; refine (H3.out _ (HB.out.trans ((q2).mono HB.out.size))).mono ?_; rintro e v3 ⟨rfl, k3⟩; have q3 := bel_step (q2) k3; clear k3 H3))
      all_goals go_wp2_with fail
      all_goals exact ⟨⟨i + 1, by go_num, by omega, congrArg Value.string NXT.out.symm, q3⟩, by simp [intOf]; omega⟩
    · have hE : i = m.types.length := by omega
      subst hE
      rw [List.take_length]
      go_wp2_with fail
      go_loopw [4, 9] (fun sv iv wr => ∃ i : Nat, iv = .int .i64 i ∧ i ≤ m.imports.length ∧ sv = .string (strOfNums ((m.imports.take i).flatMap bImp)) ∧ Below (w.alloc (.cells #[.slice xT m.types.length cT, .slice xI m.imports.length cI, .slice xF m.funcs.length cF, .slice xB m.tables.length cB, .slice xM m.mems.length cM, .slice xG m.globals.length cG, .slice xX m.exports.length cX, .int .i64 m.start, .slice xE m.elems.length cE, .slice xC m.codes.length cC, .slice xD m.datas.length cD] 32)).heap.size (w.alloc (.cells #[.slice xT m.types.length cT, .slice xI m.imports.length cI, .slice xF m.funcs.length cF, .slice xB m.tables.length cB, .slice xM m.mems.length cM, .slice xG m.globals.length cG, .slice xX m.exports.length cX, .int .i64 m.start, .slice xE m.elems.length cE, .slice xC m.codes.length cC, .slice xD m.datas.length cD] 32)) wr) (fun _ iv _ => m.imports.length - (intOf iv).toNat)
      case atStart => exact ⟨0, rfl, Nat.zero_le _, rfl, hb⟩
      case round =>
        clear hb
        obtain ⟨i, rfl, hi, rfl, hb⟩ := hrel
        have hk := (HC.out _ hb).2.1
        by_cases hlt : i < m.imports.length
        · obtain ⟨bx, ox, rfl, ⟨e0, e1, e2, e3, e4, e5, e6⟩, _, _, v2, v3, v4, v5⟩ := HX.out.hI.at hlt
          obtain ⟨u0, u1⟩ := HU.out.imports.2 i hlt
          have uk := imp_kind (KI.out i hlt)
          have f0 := below_cell (HB.out.trans (hb.mono HB.out.size)) e0
          have f1 := below_cell (HB.out.trans (hb.mono HB.out.size)) e1
          have f2 := below_cell (HB.out.trans (hb.mono HB.out.size)) e2
          have f3 := below_cell (HB.out.trans (hb.mono HB.out.size)) e3
          have f4 := below_cell (HB.out.trans (hb.mono HB.out.size)) e4
          have f5 := below_cell (HB.out.trans (hb.mono HB.out.size)) e5
          have f6 := below_cell (HB.out.trans (hb.mono HB.out.size)) e6
          have z0 : (strOfNums ((m.imports.take i).flatMap bImp)).size ≤ 1000000000000 := by rw [strOfNums_size]; exact Nat.le_trans (take_flat bImp m.imports i) zI
          have zp : (strOfNums (bImp (m.imports.getD i default))).size ≤ 1000000000000 := by rw [strOfNums_size]; exact Nat.le_trans (elem_flat bImp m.imports hlt) zI
          have hstr := (rfl : strOfNums (bImp (m.imports.getD i default)) = _)
          have hnx := str_next bImp m.imports hlt hstr
          rw [hstr] at zp
          try simp only [ByteArray.size_append] at zp
          try simp only [← ByteArray.append_assoc] at hnx
          have NXT := Lib.hid hnx
          clear hstr hnx
          have H1 := Lib.hid (fun (w2 : World) => rmText_any (m.imports.getD i default) w2 u0 u1 v3 v4 v5 uk)
          clear e0 e1 e2 e3 e4 e5 e6 u0 u1 uk v2 v3 v4 v5
          revert z0 zp NXT f0 f1 f2 f3 f4 f5 f6 H1
          generalize strOfNums ((m.imports.take i).flatMap bImp) = S0
          generalize strOfNums (bImp (m.imports.getD i default)) = P1
          generalize m.imports.getD i default = x
          intro f0 f1 f2 f3 f4 f5 f6 z0 zp NXT H1
          have n0 : ¬ 9223372036854775807 < S0.size + P1.size := by omega
          have ib : (i : Int) < m.imports.length := by omega
          go_wp2_with (first
            | (go_at_call 57; refine (H1.out _).mono ?_; rintro e v1 ⟨rfl, k1⟩; have q1 := bel_step (hb) k1; clear k1 H1))
          go_wp2_with fail
          exact ⟨⟨i + 1, by go_num, by omega, congrArg Value.string NXT.out.symm, q1⟩, by simp [intOf]; omega⟩
        · have hE : i = m.imports.length := by omega
          subst hE
          rw [List.take_length]
          go_wp2_with fail
          go_loopw [5, 10] (fun sv iv wr => ∃ i : Nat, iv = .int .i64 i ∧ i ≤ m.funcs.length ∧ sv = .string (strOfNums ((m.funcs.take i).flatMap putU)) ∧ Below (w.alloc (.cells #[.slice xT m.types.length cT, .slice xI m.imports.length cI, .slice xF m.funcs.length cF, .slice xB m.tables.length cB, .slice xM m.mems.length cM, .slice xG m.globals.length cG, .slice xX m.exports.length cX, .int .i64 m.start, .slice xE m.elems.length cE, .slice xC m.codes.length cC, .slice xD m.datas.length cD] 32)).heap.size (w.alloc (.cells #[.slice xT m.types.length cT, .slice xI m.imports.length cI, .slice xF m.funcs.length cF, .slice xB m.tables.length cB, .slice xM m.mems.length cM, .slice xG m.globals.length cG, .slice xX m.exports.length cX, .int .i64 m.start, .slice xE m.elems.length cE, .slice xC m.codes.length cC, .slice xD m.datas.length cD] 32)) wr) (fun _ iv _ => m.funcs.length - (intOf iv).toNat)
          case atStart => exact ⟨0, rfl, Nat.zero_le _, rfl, hb⟩
          case round =>
            clear hb
            obtain ⟨i, rfl, hi, rfl, hb⟩ := hrel
            have hk := (HC.out _ hb).2.2.1
            by_cases hlt : i < m.funcs.length
            · obtain ⟨bx, ox, rfl, hc⟩ := HX.out.hF.lie.resolve_left (by omega)
              have f0 : wr.cell? ⟨bx, ox + i, none⟩ = some (.int .i64 (m.funcs.getD i default)) := below_cell (HB.out.trans (hb.mono HB.out.size)) (hc i hlt)
              have u0 := (HX.out.hF.range i hlt).2
              have z0 : (strOfNums ((m.funcs.take i).flatMap putU)).size ≤ 1000000000000 := by rw [strOfNums_size]; exact Nat.le_trans (take_flat putU m.funcs i) zF
              have zp : (strOfNums (putU (m.funcs.getD i default))).size ≤ 1000000000000 := by rw [strOfNums_size]; exact Nat.le_trans (elem_flat putU m.funcs hlt) zF
              have hstr := (rfl : strOfNums (putU (m.funcs.getD i default)) = _)
              have hnx := str_next putU m.funcs hlt hstr
              rw [hstr] at zp
              try simp only [ByteArray.size_append] at zp
              try simp only [← ByteArray.append_assoc] at hnx
              have NXT := Lib.hid hnx
              clear hstr hnx
              have H1 := Lib.hid (fun (w2 : World) => refPutU_any (m.funcs.getD i default) w2 u0)
              clear hc u0
              revert z0 zp NXT f0 H1
              generalize strOfNums ((m.funcs.take i).flatMap putU) = S0
              generalize strOfNums (putU (m.funcs.getD i default)) = P1
              generalize m.funcs.getD i default = x
              intro f0 z0 zp NXT H1
              have n0 : ¬ 9223372036854775807 < S0.size + P1.size := by omega
              have ib : (i : Int) < m.funcs.length := by omega
              go_wp2_with (first
                | (go_at_call 58; refine (H1.out _).mono ?_; rintro e v1 ⟨rfl, k1⟩; have q1 := bel_step (hb) k1; clear k1 H1))
              go_wp2_with fail
              exact ⟨⟨i + 1, by go_num, by omega, congrArg Value.string NXT.out.symm, q1⟩, by simp [intOf]; omega⟩
            · have hE : i = m.funcs.length := by omega
              subst hE
              rw [List.take_length]
              go_wp2_with fail
              go_loopw [6, 11] (fun sv iv wr => ∃ i : Nat, iv = .int .i64 i ∧ i ≤ m.tables.length ∧ sv = .string (strOfNums ((m.tables.take i).flatMap bTabL)) ∧ Below (w.alloc (.cells #[.slice xT m.types.length cT, .slice xI m.imports.length cI, .slice xF m.funcs.length cF, .slice xB m.tables.length cB, .slice xM m.mems.length cM, .slice xG m.globals.length cG, .slice xX m.exports.length cX, .int .i64 m.start, .slice xE m.elems.length cE, .slice xC m.codes.length cC, .slice xD m.datas.length cD] 32)).heap.size (w.alloc (.cells #[.slice xT m.types.length cT, .slice xI m.imports.length cI, .slice xF m.funcs.length cF, .slice xB m.tables.length cB, .slice xM m.mems.length cM, .slice xG m.globals.length cG, .slice xX m.exports.length cX, .int .i64 m.start, .slice xE m.elems.length cE, .slice xC m.codes.length cC, .slice xD m.datas.length cD] 32)) wr) (fun _ iv _ => m.tables.length - (intOf iv).toNat)
              case atStart => exact ⟨0, rfl, Nat.zero_le _, rfl, hb⟩
              case round =>
                clear hb
                obtain ⟨i, rfl, hi, rfl, hb⟩ := hrel
                have hk := (HC.out _ hb).2.2.2.1
                by_cases hlt : i < m.tables.length
                · obtain ⟨bx, ox, rfl, ⟨e0, e1⟩, v0, v1⟩ := HX.out.hB.at hlt
                  have z0 : (strOfNums ((m.tables.take i).flatMap bTabL)).size ≤ 1000000000000 := by rw [strOfNums_size]; exact Nat.le_trans (take_flat bTabL m.tables i) zB
                  have zp : (strOfNums (bTabL (m.tables.getD i default))).size ≤ 1000000000000 := by rw [strOfNums_size]; exact Nat.le_trans (elem_flat bTabL m.tables hlt) zB
                  have hstr := str_tab (m.tables.getD i default)
                  have hnx := str_next bTabL m.tables hlt hstr
                  rw [hstr] at zp
                  try simp only [ByteArray.size_append] at zp
                  try simp only [← ByteArray.append_assoc] at hnx
                  have NXT := Lib.hid hnx
                  clear hstr hnx
                  have HS := Lib.hid (fun (w3 : World) (h : Below (w.alloc (.cells #[.slice xT m.types.length cT, .slice xI m.imports.length cI, .slice xF m.funcs.length cF, .slice (some ⟨bx, ox, none⟩) m.tables.length cB, .slice xM m.mems.length cM, .slice xG m.globals.length cG, .slice xX m.exports.length cX, .int .i64 m.start, .slice xE m.elems.length cE, .slice xC m.codes.length cC, .slice xD m.datas.length cD] 32)).heap.size (w.alloc (.cells #[.slice xT m.types.length cT, .slice xI m.imports.length cI, .slice xF m.funcs.length cF, .slice (some ⟨bx, ox, none⟩) m.tables.length cB, .slice xM m.mems.length cM, .slice xG m.globals.length cG, .slice xX m.exports.length cX, .int .i64 m.start, .slice xE m.elems.length cE, .slice xC m.codes.length cC, .slice xD m.datas.length cD] 32)) w3) => (show w3.cell? ⟨w.heap.size, 3, none⟩ = some (.slice (some ⟨bx, ox, none⟩) m.tables.length cB) ∧ w3.cell? ⟨bx, ox + i * 2, none⟩ = some (.int .i64 (m.tables.getD i default).mn) ∧ w3.cell? ⟨bx, ox + i * 2 + 1, none⟩ = some (.int .i64 (m.tables.getD i default).mx) from ⟨(HC.out w3 h).2.2.2.1, below_cell (HB.out.trans (h.mono HB.out.size)) e0, below_cell (HB.out.trans (h.mono HB.out.size)) e1⟩))
                  have H1 := Lib.hid (fun (w2 : World) => rmOne_any 112 w2)
                  have H2 := Lib.hid (fun (w2 : World) => rmSpan_any2 (m.tables.getD i default).mn (m.tables.getD i default).mx w2 v0 v1)
                  clear e0 e1 v0 v1
                  revert z0 zp NXT HS H1 H2
                  generalize strOfNums ((m.tables.take i).flatMap bTabL) = S0
                  generalize strOfNums [(112 : Int) % 256] = P1
                  generalize strOfNums (bLim (m.tables.getD i default).mn (m.tables.getD i default).mx) = P2
                  generalize (m.tables.getD i default).mn = xmn
                  generalize (m.tables.getD i default).mx = xmx
                  intro z0 zp NXT HS H1 H2
                  have n0 : ¬ 9223372036854775807 < S0.size + P1.size := by omega
                  have n1 : ¬ 9223372036854775807 < S0.size + P1.size + P2.size := by omega
                  have m1 : ¬ 9223372036854775807 < ((S0 ++ P1)).size + P2.size := by simp only [ByteArray.size_append]; omega
                  have ib : (i : Int) < m.tables.length := by omega
                  go_wp2_with fail
                  go_region_held3 (fun w' => w'.cell? ⟨w.heap.size, 3, none⟩ = some (.slice (some ⟨bx, ox, none⟩) m.tables.length cB) ∧ w'.cell? ⟨bx, ox + i * 2, none⟩ = some (.int .i64 xmn) ∧ w'.cell? ⟨bx, ox + i * 2 + 1, none⟩ = some (.int .i64 xmx))
                    (first | exact HS.out _ (hb.drew) | exact HS.out _ q1 | exact HS.out _ q2)
                    (first
                      | (go_at_call 55; refine (H1.out _).mono ?_; rintro e v1 ⟨rfl, k1⟩; have q1 := bel_step (hb.drew) k1; clear k1 H1)
                      | (go_at_call 59; refine (H2.out _).mono ?_; rintro e v2 ⟨rfl, k2⟩; have q2 := bel_step (q1) k2; clear k2 H2))
                  all_goals go_wp2_with fail
                  all_goals exact ⟨⟨i + 1, by go_num, by omega, congrArg Value.string NXT.out.symm, q2⟩, by simp [intOf]; omega⟩
                · have hE : i = m.tables.length := by omega
                  subst hE
                  rw [List.take_length]
                  go_wp2_with fail
                  go_loopw [7, 12] (fun sv iv wr => ∃ i : Nat, iv = .int .i64 i ∧ i ≤ m.mems.length ∧ sv = .string (strOfNums ((m.mems.take i).flatMap bLimL)) ∧ Below (w.alloc (.cells #[.slice xT m.types.length cT, .slice xI m.imports.length cI, .slice xF m.funcs.length cF, .slice xB m.tables.length cB, .slice xM m.mems.length cM, .slice xG m.globals.length cG, .slice xX m.exports.length cX, .int .i64 m.start, .slice xE m.elems.length cE, .slice xC m.codes.length cC, .slice xD m.datas.length cD] 32)).heap.size (w.alloc (.cells #[.slice xT m.types.length cT, .slice xI m.imports.length cI, .slice xF m.funcs.length cF, .slice xB m.tables.length cB, .slice xM m.mems.length cM, .slice xG m.globals.length cG, .slice xX m.exports.length cX, .int .i64 m.start, .slice xE m.elems.length cE, .slice xC m.codes.length cC, .slice xD m.datas.length cD] 32)) wr) (fun _ iv _ => m.mems.length - (intOf iv).toNat)
                  case atStart => exact ⟨0, rfl, Nat.zero_le _, rfl, hb⟩
                  case round =>
                    clear hb
                    obtain ⟨i, rfl, hi, rfl, hb⟩ := hrel
                    have hk := (HC.out _ hb).2.2.2.2.1
                    by_cases hlt : i < m.mems.length
                    · obtain ⟨bx, ox, rfl, ⟨e0, e1⟩, v0, v1⟩ := HX.out.hM.at hlt
                      have f0 := below_cell (HB.out.trans (hb.mono HB.out.size)) e0
                      have f1 := below_cell (HB.out.trans (hb.mono HB.out.size)) e1
                      have z0 : (strOfNums ((m.mems.take i).flatMap bLimL)).size ≤ 1000000000000 := by rw [strOfNums_size]; exact Nat.le_trans (take_flat bLimL m.mems i) zM
                      have zp : (strOfNums (bLimL (m.mems.getD i default))).size ≤ 1000000000000 := by rw [strOfNums_size]; exact Nat.le_trans (elem_flat bLimL m.mems hlt) zM
                      have hstr := (show strOfNums (bLimL (m.mems.getD i default)) = strOfNums (bLim (m.mems.getD i default).mn (m.mems.getD i default).mx) from rfl)
                      have hnx := str_next bLimL m.mems hlt hstr
                      rw [hstr] at zp
                      try simp only [ByteArray.size_append] at zp
                      try simp only [← ByteArray.append_assoc] at hnx
                      have NXT := Lib.hid hnx
                      clear hstr hnx
                      have H1 := Lib.hid (fun (w2 : World) => rmSpan_any2 (m.mems.getD i default).mn (m.mems.getD i default).mx w2 v0 v1)
                      clear e0 e1 v0 v1
                      revert z0 zp NXT f0 f1 H1
                      generalize strOfNums ((m.mems.take i).flatMap bLimL) = S0
                      generalize strOfNums (bLim (m.mems.getD i default).mn (m.mems.getD i default).mx) = P1
                      generalize (m.mems.getD i default).mn = xmn
                      generalize (m.mems.getD i default).mx = xmx
                      intro f0 f1 z0 zp NXT H1
                      have n0 : ¬ 9223372036854775807 < S0.size + P1.size := by omega
                      have ib : (i : Int) < m.mems.length := by omega
                      go_wp2_with (first
                        | (go_at_call 59; refine (H1.out _).mono ?_; rintro e v1 ⟨rfl, k1⟩; have q1 := bel_step (hb) k1; clear k1 H1))
                      go_wp2_with fail
                      exact ⟨⟨i + 1, by go_num, by omega, congrArg Value.string NXT.out.symm, q1⟩, by simp [intOf]; omega⟩
                    · have hE : i = m.mems.length := by omega
                      subst hE
                      rw [List.take_length]
                      have H1 := Lib.hid (fun (w2 : World) => rmSect_str 1 bFT m.types zT HU.out.types.1 w2)
                      have y1 : (strOfNums (bSect 1 bFT m.types)).size ≤ 2000000000000 := by rw [strOfNums_size]; exact sect_size 1 bFT m.types zT
                      have H2 := Lib.hid (fun (w2 : World) => rmSect_str 2 bImp m.imports zI HU.out.imports.1 w2)
                      have y2 : (strOfNums (bSect 2 bImp m.imports)).size ≤ 2000000000000 := by rw [strOfNums_size]; exact sect_size 2 bImp m.imports zI
                      have H3 := Lib.hid (fun (w2 : World) => rmSect_str 3 putU m.funcs zF HU.out.funcs w2)
                      have y3 : (strOfNums (bSect 3 putU m.funcs)).size ≤ 2000000000000 := by rw [strOfNums_size]; exact sect_size 3 putU m.funcs zF
                      have H4 := Lib.hid (fun (w2 : World) => rmSect_str 4 bTabL m.tables zB HU.out.tables w2)
                      have y4 : (strOfNums (bSect 4 bTabL m.tables)).size ≤ 2000000000000 := by rw [strOfNums_size]; exact sect_size 4 bTabL m.tables zB
                      have H5 := Lib.hid (fun (w2 : World) => rmSect_str 5 bLimL m.mems zM HU.out.mems w2)
                      have y5 : (strOfNums (bSect 5 bLimL m.mems)).size ≤ 2000000000000 := by rw [strOfNums_size]; exact sect_size 5 bLimL m.mems zM
                      have HS := Lib.hid (fun (w3 : World) (h : Below (w.alloc (.cells #[.slice xT m.types.length cT, .slice xI m.imports.length cI, .slice xF m.funcs.length cF, .slice xB m.tables.length cB, .slice xM m.mems.length cM, .slice xG m.globals.length cG, .slice xX m.exports.length cX, .int .i64 m.start, .slice xE m.elems.length cE, .slice xC m.codes.length cC, .slice xD m.datas.length cD] 32)).heap.size (w.alloc (.cells #[.slice xT m.types.length cT, .slice xI m.imports.length cI, .slice xF m.funcs.length cF, .slice xB m.tables.length cB, .slice xM m.mems.length cM, .slice xG m.globals.length cG, .slice xX m.exports.length cX, .int .i64 m.start, .slice xE m.elems.length cE, .slice xC m.codes.length cC, .slice xD m.datas.length cD] 32)) w3) => (show w3.cell? ⟨w.heap.size, 0, none⟩ = some (.slice xT m.types.length cT) ∧ w3.cell? ⟨w.heap.size, 1, none⟩ = some (.slice xI m.imports.length cI) ∧ w3.cell? ⟨w.heap.size, 2, none⟩ = some (.slice xF m.funcs.length cF) ∧ w3.cell? ⟨w.heap.size, 3, none⟩ = some (.slice xB m.tables.length cB) ∧ w3.cell? ⟨w.heap.size, 4, none⟩ = some (.slice xM m.mems.length cM) from ⟨(HC.out w3 h).1, (HC.out w3 h).2.1, (HC.out w3 h).2.2.1, (HC.out w3 h).2.2.2.1, (HC.out w3 h).2.2.2.2.1⟩))
                      have HW : Hid (strOfNums (bHead m) = ((((strOfNums (bSect 1 bFT m.types) ++ strOfNums (bSect 2 bImp m.imports)) ++ strOfNums (bSect 3 putU m.funcs)) ++ strOfNums (bSect 4 bTabL m.tables)) ++ strOfNums (bSect 5 bLimL m.mems))) := Lib.hid (by unfold bHead; simp only [strOfNums_app]; rfl)
                      revert HW H1 y1 H2 y2 H3 y3 H4 y4 H5 y5
                      generalize strOfNums (bSect 1 bFT m.types) = P1
                      generalize strOfNums (bSect 2 bImp m.imports) = P2
                      generalize strOfNums (bSect 3 putU m.funcs) = P3
                      generalize strOfNums (bSect 4 bTabL m.tables) = P4
                      generalize strOfNums (bSect 5 bLimL m.mems) = P5
                      generalize strOfNums (m.types.flatMap bFT) = A1
                      generalize strOfNums (m.imports.flatMap bImp) = A2
                      generalize strOfNums (m.funcs.flatMap putU) = A3
                      generalize strOfNums (m.tables.flatMap bTabL) = A4
                      generalize strOfNums (m.mems.flatMap bLimL) = A5
                      intro H1 y1 H2 y2 H3 y3 H4 y4 H5 y5 HW
                      have n0 : ¬ 9223372036854775807 < P1.size + P2.size := by omega
                      have n1 : ¬ 9223372036854775807 < P1.size + P2.size + P3.size := by omega
                      have m1 : ¬ 9223372036854775807 < ((P1 ++ P2)).size + P3.size := by simp only [ByteArray.size_append]; omega
                      have n2 : ¬ 9223372036854775807 < P1.size + P2.size + P3.size + P4.size := by omega
                      have m2 : ¬ 9223372036854775807 < (((P1 ++ P2) ++ P3)).size + P4.size := by simp only [ByteArray.size_append]; omega
                      have n3 : ¬ 9223372036854775807 < P1.size + P2.size + P3.size + P4.size + P5.size := by omega
                      have m3 : ¬ 9223372036854775807 < ((((P1 ++ P2) ++ P3) ++ P4)).size + P5.size := by simp only [ByteArray.size_append]; omega
                      go_wp2_with fail
                      go_region_held3 (fun w' => w'.cell? ⟨w.heap.size, 0, none⟩ = some (.slice xT m.types.length cT) ∧ w'.cell? ⟨w.heap.size, 1, none⟩ = some (.slice xI m.imports.length cI) ∧ w'.cell? ⟨w.heap.size, 2, none⟩ = some (.slice xF m.funcs.length cF) ∧ w'.cell? ⟨w.heap.size, 3, none⟩ = some (.slice xB m.tables.length cB) ∧ w'.cell? ⟨w.heap.size, 4, none⟩ = some (.slice xM m.mems.length cM))
                        (first | exact HS.out _ (hb.drew) | exact HS.out _ q1 | exact HS.out _ q2 | exact HS.out _ q3 | exact HS.out _ q4 | exact HS.out _ q5)
                        (first
                          | (go_at_call 60; refine (H1.out _).mono ?_; rintro e v1 ⟨rfl, k1⟩; have q1 := bel_step (hb.drew) k1; clear k1 H1)
                          | (go_at_call 60; refine (H2.out _).mono ?_; rintro e v2 ⟨rfl, k2⟩; have q2 := bel_step (q1) k2; clear k2 H2)
                          | (go_at_call 60; refine (H3.out _).mono ?_; rintro e v3 ⟨rfl, k3⟩; have q3 := bel_step (q2) k3; clear k3 H3)
                          | (go_at_call 60; refine (H4.out _).mono ?_; rintro e v4 ⟨rfl, k4⟩; have q4 := bel_step (q3) k4; clear k4 H4)
                          | (go_at_call 60; refine (H5.out _).mono ?_; rintro e v5 ⟨rfl, k5⟩; have q5 := bel_step (q4) k5; clear k5 H5))
                      all_goals go_wp2_with fail
                      all_goals go_ret
                      all_goals exact ⟨congrArg (fun s => Ending.returned (.string s)) HW.out.symm, (HB.out.trans (q5.mono HB.out.size))⟩
end Go.Proofs.YtekonefnniaheaaGreat
set_option linter.unusedVariables false
namespace Go.Proofs.YtekonefnniaheaaGreat
open Go.RowKit Go.Deep
open Leb (putU putS)

theorem rmCode_eq (ls : List Ins) : rmCode ls = oIns ls := by
  have h := cntL_ok 0 0 ls (by decide)
  rw [show ((0 : Nat) : Int) = 0 from rfl] at h
  unfold rmCode oIns putV
  rw [h]
  unfold cR cP
  by_cases q : okL 0 ls = true ∧ 0 + sizL ls ≤ 8192
  · rw [if_pos q, if_pos q, if_pos rfl, decide_eq_true (Int.natCast_nonneg _)]
    rfl
  · rw [if_neg q, if_neg q, if_neg (by decide)]
    rfl
theorem rmTypes_list (l : List Int) (most : Int) : rmTypes l most = oList most oTyp l := by
  unfold rmTypes oList oTyp
  rw [Bool.and_comm]
theorem oT_eq (t : FT) : oT t = oFT t := by
  unfold oT oFT
  rw [rmTypes_list, rmTypes_list]
theorem oL_eq (x : Lim) : oL x = oLim x.mn x.mx := rmLim_eq _ _
theorem oGl_eq (x : Glo) : oGl x = oGlo x := by
  unfold oGl oGlo oTyp
  rw [rmCode_eq]
theorem rmIn_eq (n : Int) : rmIn n = oIdx n := rfl
theorem where_eq (n : Int) : rmIn n = oWhere n := by
  unfold oWhere
  by_cases h : n = 0
  · subst h
    rfl
  · rw [if_neg h]
    rfl
theorem oEx_eq (x : Exp) : oEx x = oExp x := by
  unfold oEx oExp oKind
  rw [rmIn_eq, Bool.eq_iff_iff]
  simp only [Bool.and_eq_true, Bool.not_eq_true', decide_eq_false_iff_not, decide_eq_true_iff]
  constructor
  · rintro ⟨a, b, c, d⟩
    exact ⟨⟨a, by omega, by omega⟩, d⟩
  · rintro ⟨⟨a, b, c⟩, d⟩
    exact ⟨a, by omega, by omega, d⟩
theorem inAll_eq (l : List Int) : rmInAll l = oList 1000 oIdx l := by
  unfold rmInAll oList
  rw [Bool.and_comm, show rmIn = oIdx from rfl]
  by_cases h : l.length ≤ 1000
  · rw [decide_eq_true h, decide_eq_true (by omega)]
  · rw [decide_eq_false h, decide_eq_false (by omega)]
theorem oEl_eq (x : Ele) : oEl x = oEle x := by
  unfold oEl oEle
  rw [where_eq, rmCode_eq, inAll_eq, Bool.and_assoc]
theorem addRow_all (rs : List (Int × Int)) (t : Int) : (addRow rs t).all oRow = (rs.all oRow && oTyp t) := by
  unfold addRow
  cases hq : rs.getLast? with
  | none =>
    rw [List.getLast?_eq_none_iff.1 hq]
    simp [oRow]
  | some q =>
    simp only
    split
    · rename_i h
      have hr : rs = rs.dropLast ++ [q] := by
        have hne : rs ≠ [] := fun h0 => by rw [h0] at hq; cases hq
        have := List.dropLast_concat_getLast hne
        rw [List.getLast?_eq_some_getLast hne] at hq
        injection hq with hq
        rw [hq] at this
        exact this.symm
      conv => rhs; rw [hr]
      simp only [List.all_append, List.all_cons, List.all_nil, Bool.and_true]
      unfold oRow
      simp only
      rw [← h, Bool.and_assoc, Bool.and_self]
    · simp [oRow]
theorem foldRow_all : ∀ (ts : List Int) (rs : List (Int × Int)), (ts.foldl addRow rs).all oRow = (rs.all oRow && ts.all oTyp) := by
  intro ts
  induction ts with
  | nil => intro rs; simp
  | cons t ts ih =>
    intro rs
    rw [List.foldl_cons, ih, addRow_all, List.all_cons, Bool.and_assoc]
theorem oCo_eq (x : Cod) : oCo x = oCod x := by
  unfold oCo oCod
  rw [rmCode_eq, rmTypes_list]
  unfold oList
  have h1 : (rowsL x.locals).all oRow = x.locals.all oTyp := by
    unfold rowsL
    rw [foldRow_all]
    simp
  rw [h1]
  have h2 := rows_len x.locals x.locals.length (Nat.le_refl _)
  rw [List.take_length] at h2
  by_cases h : (x.locals.length : Int) ≤ 256
  · rw [decide_eq_true h, decide_eq_true (by omega), Bool.true_and, Bool.true_and]
  · rw [decide_eq_false h, Bool.false_and, Bool.false_and, Bool.false_and]
theorem oDa_eq (x : Dat) : oDa x = oDat x := by
  unfold oDa oDat
  rw [where_eq, rmCode_eq]
theorem oSect_iff {α : Type} (ok : α → Bool) (ts : List α) : oSect ok ts = true ↔ ts.length ≤ 1000 ∧ ts.all ok = true := by
  unfold oSect
  by_cases h : ts.length = 0
  · rw [if_pos h, List.eq_nil_of_length_eq_zero h]
    simp
  · rw [if_neg h]
    unfold oList
    rw [Bool.and_eq_true, decide_eq_true_iff]
    constructor
    · rintro ⟨a, b⟩
      exact ⟨by omega, b⟩
    · rintro ⟨a, b⟩
      exact ⟨by omega, b⟩
theorem oStart_iff (n : Int) : oStart n = true ↔ 0 ≤ n ∧ n ≤ 4294967296 := by
  unfold oStart oIdx
  rw [Bool.and_eq_true, decide_eq_true_iff]
  by_cases h : 0 < n
  · rw [if_pos h, decide_eq_true_iff]
    omega
  · rw [if_neg h]
    simp
    omega
/-- What the reference lets be laid, said at length. -/
structure MayBe (m : Mdl) : Prop where
  t : m.types.length ≤ 1000 ∧ m.types.all oFT = true
  i : m.imports.length ≤ 1000 ∧ m.imports.all oImp = true
  f : m.funcs.length ≤ 1000 ∧ m.funcs.all oIdx = true
  b : m.tables.length ≤ 1000 ∧ m.tables.all (fun x : Lim => oLim x.mn x.mx) = true
  mm : m.mems.length ≤ 1000 ∧ m.mems.all (fun x : Lim => oLim x.mn x.mx) = true
  g : m.globals.length ≤ 1000 ∧ m.globals.all oGlo = true
  x : m.exports.length ≤ 1000 ∧ m.exports.all oExp = true
  s : 0 ≤ m.start ∧ m.start ≤ 4294967296
  e : m.elems.length ≤ 1000 ∧ m.elems.all oEle = true
  c : m.codes.length ≤ 1000 ∧ m.codes.all oCod = true
  d : m.datas.length ≤ 1000 ∧ m.datas.all oDat = true
  fc : m.codes.length = m.funcs.length
theorem mayBe_oMod (m : Mdl) : oMod m = true ↔ MayBe m := by
  unfold oMod
  simp only [Bool.and_eq_true, oSect_iff, oStart_iff, beq_iff_eq]
  constructor
  · rintro ⟨fc, ⟨⟨⟨⟨t, i⟩, f⟩, b⟩, mm⟩, ⟨⟨⟨⟨g, x⟩, s⟩, e⟩, c⟩, d⟩
    exact ⟨t, i, f, b, mm, g, x, s, e, c, d, by omega⟩
  · rintro ⟨t, i, f, b, mm, g, x, s, e, c, d, fc⟩
    exact ⟨by omega, ⟨⟨⟨⟨t, i⟩, f⟩, b⟩, mm⟩, ⟨⟨⟨⟨g, x⟩, s⟩, e⟩, c⟩, d⟩
theorem mayBe_rMay (m : Mdl) : rMay m = true ↔ MayBe m := by
  have e1 : oT = oFT := funext oT_eq
  have e2 : oL = fun x : Lim => oLim x.mn x.mx := funext oL_eq
  have e3 : oGl = oGlo := funext oGl_eq
  have e4 : oEx = oExp := funext oEx_eq
  have e5 : oEl = oEle := funext oEl_eq
  have e6 : oCo = oCod := funext oCo_eq
  have e7 : oDa = oDat := funext oDa_eq
  unfold rMay rFirst
  rw [e1, e2, e3, e4, e5, e6, e7, inAll_eq]
  unfold oList
  simp only [Bool.and_eq_true, decide_eq_true_iff, Bool.not_eq_true', decide_eq_false_iff_not]
  constructor
  · rintro ⟨⟨t, i, b, mm, lt, li, lb, lm, lf, f⟩, fc, s1, s2, lg, lx, le, ld, g, x, e, c, d⟩
    exact ⟨⟨lt, t⟩, ⟨li, i⟩, ⟨by omega, f⟩, ⟨lb, b⟩, ⟨lm, mm⟩, ⟨lg, g⟩, ⟨lx, x⟩, ⟨by omega, by omega⟩, ⟨le, e⟩, ⟨by omega, c⟩, ⟨ld, d⟩, by omega⟩
  · rintro ⟨t, i, f, b, mm, g, x, s, e, c, d, fc⟩
    exact ⟨⟨t.2, i.2, b.2, mm.2, t.1, i.1, b.1, mm.1, by have := f.1; omega, f.2⟩, by omega, by have := s.1; omega, by have := s.2; omega, g.1, x.1, e.1, d.1, g.2, x.2, e.2, c.2, d.2⟩
theorem rMay_eq (m : Mdl) : rMay m = oMod m := by
  rw [Bool.eq_iff_iff, mayBe_rMay, mayBe_oMod]
/-- So long are a list's bytes at most. -/
theorem flat_bound {α : Type} [Inhabited α] (b : α → List Int) (l : List α) (hl : l.length ≤ 1000) (K : Nat) (hK : K ≤ 1000000000) (h : ∀ i, i < l.length → (b (l.getD i default)).length ≤ K) : (l.flatMap b).length ≤ 1000000000000 := by
  have : ∀ j, j ≤ l.length → ((l.take j).flatMap b).length ≤ j * K := by
    intro j
    induction j with
    | zero => intro _; simp
    | succ j ih =>
      intro hj
      rw [take_next b l (by omega), List.length_append, Nat.succ_mul]
      have := ih (by omega)
      have := h j (by omega)
      omega
  have h1 := this l.length (Nat.le_refl _)
  rw [List.take_length] at h1
  have h2 : l.length * K ≤ 1000 * 1000000000 := Nat.mul_le_mul hl hK
  omega
theorem ins_len (ls : List Ins) : (putV ls).1.length ≤ 100000000 := by
  unfold putV
  split
  · rename_i h
    obtain ⟨h1, h2⟩ := cP_yes h
    have := putL_len 0 ls h1
    simp only [List.length_append, List.length_cons, List.length_nil]
    omega
  · exact Nat.zero_le _
theorem all_at {α : Type} [Inhabited α] {l : List α} {p : α → Bool} (h : l.all p = true) {i : Nat} (hi : i < l.length) : p (l.getD i default) = true := by
  rw [List.all_eq_true] at h
  refine h _ ?_
  rw [List.getD_eq_getElem?_getD, List.getElem?_eq_getElem hi]
  exact List.getElem_mem _
theorem bytes_each {α : Type} (b : α → List Int) (l : List α) (K : Nat) (h : ∀ x, (b x).length ≤ K) : (l.flatMap b).length ≤ l.length * K := by
  induction l with
  | nil => simp
  | cons x l ih =>
    rw [List.flatMap_cons, List.length_append, List.length_cons, Nat.succ_mul]
    have := h x
    omega
end Go.Proofs.YtekonefnniaheaaGreat
