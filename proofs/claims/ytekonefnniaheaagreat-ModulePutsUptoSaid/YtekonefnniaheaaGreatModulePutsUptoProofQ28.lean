/- Texts of the proof of ModulePutsUptoProof, part 28. -/
import Derived.Test.YtekonefnniaheaaGreatRows
import Derived.Test.YtekonefnniaheaaGreatModulePutsUptoProofQ15
import Derived.Test.YtekonefnniaheaaGreatModulePutsUptoProofQ18
import Derived.Test.YtekonefnniaheaaGreatModulePutsUptoProofQ25
import Derived.Test.YtekonefnniaheaaGreatModulePutsUptoProofQ27
set_option linter.unusedVariables false
set_option linter.unusedVariables false
namespace Go.Proofs.YtekonefnniaheaaGreat
open Go.RowKit Go.Deep
open Leb (putU putS)

theorem len_pu (n : Int) : (putU n).length ≤ 10 := Leb.putU_length n
theorem len_str (s : ByteArray) : (bStr s).length ≤ 10 + s.size := by
  unfold bStr
  rw [List.length_append, bl_length]
  have := len_pu (s.size : Int)
  omega
theorem len_list {α : Type} (b : α → List Int) (l : List α) (K : Nat) (h : ∀ x, (b x).length ≤ K) : (bList b l).length ≤ 10 + l.length * K := by
  unfold bList
  rw [List.length_append]
  have := len_pu (l.length : Int)
  have := bytes_each b l K h
  omega
theorem len_typ (c : Int) : (bTyp c).length ≤ 1 := Nat.le_refl _
theorem len_bIns (ls : List Ins) : (bIns ls).length ≤ 100000000 := ins_len ls
/-- So long may a module's parts be. -/
structure Parts (m : Mdl) : Prop where
  zT : (m.types.flatMap bFT).length ≤ 1000000000000
  zI : (m.imports.flatMap bImp).length ≤ 1000000000000
  zF : (m.funcs.flatMap putU).length ≤ 1000000000000
  zB : (m.tables.flatMap bTabL).length ≤ 1000000000000
  zM : (m.mems.flatMap bLimL).length ≤ 1000000000000
  zG : (m.globals.flatMap bGlo).length ≤ 1000000000000
  zX : (m.exports.flatMap bExp).length ≤ 1000000000000
  zE : (m.elems.flatMap bEle).length ≤ 1000000000000
  zC : (m.codes.flatMap bCod).length ≤ 1000000000000
  zD : (m.datas.flatMap bDat).length ≤ 1000000000000
theorem oList_le {α : Type} {most : Int} {ok : α → Bool} {l : List α} (h : oList most ok l = true) : (l.length : Int) ≤ most := by
  unfold oList at h
  rw [Bool.and_eq_true, decide_eq_true_iff] at h
  exact h.1
theorem parts_of {m : Mdl} (h : MayBe m) (hu : MdlUp 1048576 m) : Parts m := by
  refine ⟨?_, ?_, ?_, ?_, ?_, ?_, ?_, ?_, ?_, ?_⟩
  · refine flat_bound bFT m.types h.t.1 1000 (by decide) fun i hi => ?_
    have ho := all_at h.t.2 hi
    unfold oFT at ho
    rw [Bool.and_eq_true] at ho
    have h1 := oList_le ho.1
    have h2 := oList_le ho.2
    have h3 := len_list bTyp (m.types.getD i default).p 1 len_typ
    have h4 := len_list bTyp (m.types.getD i default).r 1 len_typ
    unfold bFT
    simp only [List.length_append, List.length_cons, List.length_nil]
    omega
  · refine flat_bound bImp m.imports h.i.1 10000000 (by decide) fun i hi => ?_
    obtain ⟨u0, u1⟩ := hu.imports.2 i hi
    have h1 := len_str (m.imports.getD i default).mod
    have h2 := len_str (m.imports.getD i default).name
    have h3 : (bImpK (m.imports.getD i default)).length ≤ 100 := by
      unfold bImpK
      have p1 := len_pu (m.imports.getD i default).t
      have p2 := bLim_len (m.imports.getD i default).mn (m.imports.getD i default).mx
      split
      · omega
      · split
        · unfold bTab
          rw [List.length_append]
          simp only [List.length_cons, List.length_nil]
          omega
        · split
          · omega
          · split
            · unfold bTyp bYes
              simp
            · simp
    unfold bImp
    simp only [List.length_append, List.length_cons, List.length_nil]
    omega
  · exact flat_bound putU m.funcs h.f.1 10 (by decide) fun i hi => len_pu _
  · refine flat_bound bTabL m.tables h.b.1 100 (by decide) fun i hi => ?_
    have p2 := bLim_len (m.tables.getD i default).mn (m.tables.getD i default).mx
    unfold bTabL bTab
    rw [List.length_append]
    simp only [List.length_cons, List.length_nil]
    omega
  · refine flat_bound bLimL m.mems h.mm.1 100 (by decide) fun i hi => ?_
    have p2 := bLim_len (m.mems.getD i default).mn (m.mems.getD i default).mx
    exact Nat.le_trans p2 (by decide)
  · refine flat_bound bGlo m.globals h.g.1 200000000 (by decide) fun i hi => ?_
    have p2 := len_bIns [(m.globals.getD i default).init]
    unfold bGlo bTyp bYes
    simp only [List.length_append, List.length_cons, List.length_nil]
    omega
  · refine flat_bound bExp m.exports h.x.1 10000000 (by decide) fun i hi => ?_
    have u0 := hu.exports.2 i hi
    have p1 := len_str (m.exports.getD i default).name
    have p2 := len_pu (m.exports.getD i default).i
    unfold bExp
    simp only [List.length_append, List.length_cons, List.length_nil]
    omega
  · refine flat_bound bEle m.elems h.e.1 200000000 (by decide) fun i hi => ?_
    have ho := all_at h.e.2 hi
    unfold oEle at ho
    rw [Bool.and_eq_true] at ho
    have h1 := oList_le ho.2
    have h2 := len_list putU (m.elems.getD i default).f 10 len_pu
    have p2 := len_bIns [(m.elems.getD i default).off]
    have p3 : (bWhere (m.elems.getD i default).table).length ≤ 20 := by
      unfold bWhere
      have := len_pu (m.elems.getD i default).table
      split
      · simp
      · simp only [List.length_append, List.length_cons, List.length_nil]; omega
    unfold bEle
    split
    · simp only [List.length_append]; omega
    · simp only [List.length_append, List.length_cons, List.length_nil]; omega
  · refine flat_bound bCod m.codes h.c.1 200000000 (by decide) fun i hi => ?_
    have ho := all_at h.c.2 hi
    unfold oCod at ho
    rw [Bool.and_eq_true, decide_eq_true_iff] at ho
    have h1 := rows_len (m.codes.getD i default).locals _ (Nat.le_refl _)
    rw [List.take_length] at h1
    have h2 := rmRows_len (rowsL (m.codes.getD i default).locals)
    unfold rmRows at h2
    have p2 := len_bIns (m.codes.getD i default).l
    have p3 := len_pu ((rowsL (m.codes.getD i default).locals).length : Int)
    have p4 := len_pu ((bCodIn (m.codes.getD i default)).length : Int)
    have p5 : (bCodIn (m.codes.getD i default)).length ≤ 110000000 := by
      unfold bCodIn bList
      simp only [List.length_append]
      have := ho.1
      omega
    unfold bCod
    rw [List.length_append]
    omega
  · refine flat_bound bDat m.datas h.d.1 200000000 (by decide) fun i hi => ?_
    have u0 := hu.datas.2 i hi
    have p1 := len_str (m.datas.getD i default).b
    have p2 := len_bIns [(m.datas.getD i default).off]
    have p3 : (bWhere (m.datas.getD i default).mem).length ≤ 20 := by
      unfold bWhere
      have := len_pu (m.datas.getD i default).mem
      split
      · simp
      · simp only [List.length_append, List.length_cons, List.length_nil]; omega
    unfold bDat
    simp only [List.length_append]
    omega
theorem head_size {m : Mdl} (h : Parts m) : (bHead m).length ≤ 10000000000000 := by
  have h1 := sect_size 1 bFT m.types h.zT
  have h2 := sect_size 2 bImp m.imports h.zI
  have h3 := sect_size 3 putU m.funcs h.zF
  have h4 := sect_size 4 bTabL m.tables h.zB
  have h5 := sect_size 5 bLimL m.mems h.zM
  unfold bHead
  simp only [List.length_append]
  replace h4 : (bSect 4 (fun x : Lim => bTab x.mn x.mx) m.tables).length ≤ 2000000000000 := h4
  replace h5 : (bSect 5 (fun x : Lim => bLim x.mn x.mx) m.mems).length ≤ 2000000000000 := h5
  omega
theorem tail_size {m : Mdl} (h : Parts m) : (bTail m).length ≤ 10000000001000 := by
  have h1 := sect_size 6 bGlo m.globals h.zG
  have h2 := sect_size 7 bExp m.exports h.zX
  have h3 := sect_size 9 bEle m.elems h.zE
  have h4 := sect_size 10 bCod m.codes h.zC
  have h5 := sect_size 11 bDat m.datas h.zD
  have h6 : (bStart m.start).length ≤ 100 := by
    unfold bStart
    have p1 := len_pu (m.start - 1)
    have p2 := len_pu ((putU (m.start - 1)).length : Int)
    split
    · simp only [List.length_append, List.length_cons, List.length_nil]; omega
    · simp
  unfold bTail
  simp only [List.length_append]
  omega
theorem rmTail_any (m : Mdl) (xT : Option Addr) (cT : Nat) (xI : Option Addr) (cI : Nat) (xF : Option Addr) (cF : Nat) (xB : Option Addr) (cB : Nat) (xM : Option Addr) (cM : Nat) (xG : Option Addr) (cG : Nat) (xX : Option Addr) (cX : Nat) (xE : Option Addr) (cE : Nat) (xC : Option Addr) (cC : Nat) (xD : Option Addr) (cD : Nat) (w : World) (hx : MdlIn w m xT cT xI cI xF cF xB cB xM cM xG cG xX cX xE cE xC cC xD cD) (hu : MdlUp 1048576 m) (h : MayBe m) (hp : Parts m) :
    Calls Tryz.prog 20 #[.agg #[.slice xT m.types.length cT, .slice xI m.imports.length cI, .slice xF m.funcs.length cF, .slice xB m.tables.length cB, .slice xM m.mems.length cM, .slice xG m.globals.length cG, .slice xX m.exports.length cX, .int .i64 m.start, .slice xE m.elems.length cE, .slice xC m.codes.length cC, .slice xD m.datas.length cD]] w fun e w' => e = .returned (.string (strOfNums (bTail m))) ∧ Below w.heap.size w w' := by
  have kE : ∀ i, i < m.elems.length → (m.elems.getD i default).f.length ≤ 1000 := fun i hi => by
    have ho := all_at h.e.2 hi
    unfold oEle at ho
    rw [Bool.and_eq_true] at ho
    have h1 := oList_le ho.2
    omega
  have kC : ∀ i, i < m.codes.length → (m.codes.getD i default).locals.length ≤ 256 := fun i hi => by
    have ho := all_at h.c.2 hi
    unfold oCod at ho
    rw [Bool.and_eq_true, decide_eq_true_iff] at ho
    have := ho.1
    omega
  by_cases hs : 0 < m.start
  · exact rmTail_pos m xT cT xI cI xF cF xB cB xM cM xG cG xX cX xE cE xC cC xD cD w hx hu kE kC hp.zG hp.zX hp.zE hp.zC hp.zD hs h.s.2
  · exact rmTail_zero m xT cT xI cI xF cF xB cB xM cM xG cG xX cX xE cE xC cC xD cD w hx hu kE kC hp.zG hp.zX hp.zE hp.zC hp.zD (by omega) h.s.2
set_option maxRecDepth 100000 in
set_option maxHeartbeats 4000000 in
theorem rmPut_no (m : Mdl) (xT : Option Addr) (cT : Nat) (xI : Option Addr) (cI : Nat) (xF : Option Addr) (cF : Nat) (xB : Option Addr) (cB : Nat) (xM : Option Addr) (cM : Nat) (xG : Option Addr) (cG : Nat) (xX : Option Addr) (cX : Nat) (xE : Option Addr) (cE : Nat) (xC : Option Addr) (cC : Nat) (xD : Option Addr) (cD : Nat) (w : World) (hx : MdlIn w m xT cT xI cI xF cF xB cB xM cM xG cG xX cX xE cE xC cC xD cD) (hu : MdlUp 1048576 m) (ho : oMod m = false) :
    Calls Tryz.prog 11 #[.agg #[.slice xT m.types.length cT, .slice xI m.imports.length cI, .slice xF m.funcs.length cF, .slice xB m.tables.length cB, .slice xM m.mems.length cM, .slice xG m.globals.length cG, .slice xX m.exports.length cX, .int .i64 m.start, .slice xE m.elems.length cE, .slice xC m.codes.length cC, .slice xD m.datas.length cD]] w fun e w' => e = .returned (.tuple #[.string ⟨#[]⟩, .int .i64 1]) ∧ Below w.heap.size w w' := by
  have b1 := BlkAt.new w #[.slice xT m.types.length cT, .slice xI m.imports.length cI, .slice xF m.funcs.length cF, .slice xB m.tables.length cB, .slice xM m.mems.length cM, .slice xG m.globals.length cG, .slice xX m.exports.length cX, .int .i64 m.start, .slice xE m.elems.length cE, .slice xC m.codes.length cC, .slice xD m.datas.length cD] 32
  have HB := Lib.hid ((Below.refl w.heap.size w).alloc (Nat.le_refl _) (.cells #[.slice xT m.types.length cT, .slice xI m.imports.length cI, .slice xF m.funcs.length cF, .slice xB m.tables.length cB, .slice xM m.mems.length cM, .slice xG m.globals.length cG, .slice xX m.exports.length cX, .int .i64 m.start, .slice xE m.elems.length cE, .slice xC m.codes.length cC, .slice xD m.datas.length cD] 32))
  have HC := Lib.hid (fun (w' : World) (h : Below (w.alloc (.cells #[.slice xT m.types.length cT, .slice xI m.imports.length cI, .slice xF m.funcs.length cF, .slice xB m.tables.length cB, .slice xM m.mems.length cM, .slice xG m.globals.length cG, .slice xX m.exports.length cX, .int .i64 m.start, .slice xE m.elems.length cE, .slice xC m.codes.length cC, .slice xD m.datas.length cD] 32)).heap.size (w.alloc (.cells #[.slice xT m.types.length cT, .slice xI m.imports.length cI, .slice xF m.funcs.length cF, .slice xB m.tables.length cB, .slice xM m.mems.length cM, .slice xG m.globals.length cG, .slice xX m.exports.length cX, .int .i64 m.start, .slice xE m.elems.length cE, .slice xC m.codes.length cC, .slice xD m.datas.length cD] 32)) w') => (b1.below h).eleven)
  have q0 := Below.refl (w.alloc (.cells #[.slice xT m.types.length cT, .slice xI m.imports.length cI, .slice xF m.funcs.length cF, .slice xB m.tables.length cB, .slice xM m.mems.length cM, .slice xG m.globals.length cG, .slice xX m.exports.length cX, .int .i64 m.start, .slice xE m.elems.length cE, .slice xC m.codes.length cC, .slice xD m.datas.length cD] 32)).heap.size (w.alloc (.cells #[.slice xT m.types.length cT, .slice xI m.imports.length cI, .slice xF m.funcs.length cF, .slice xB m.tables.length cB, .slice xM m.mems.length cM, .slice xG m.globals.length cG, .slice xX m.exports.length cX, .int .i64 m.start, .slice xE m.elems.length cE, .slice xC m.codes.length cC, .slice xD m.datas.length cD] 32))
  have HM := Lib.hid (fun (w2 : World) (h : Below w.heap.size w w2) => rmMay_any m xT cT xI cI xF cF xB cB xM cM xG cG xX cX xE cE xC cC xD cD w2 (hx.below h) hu)
  rw [rMay_eq, ho] at HM
  obtain ⟨g0, g1, g2, g3, g4, g5, g6, g7, g8, g9, g10⟩ := HC.out _ q0
  clear b1 hx hu ho
  go_enter Tryz.func11, Tryz.ntmps11
  go_wp2_with (go_at_call 17; refine (HM.out _ (HB.out.trans (q0.mono HB.out.size))).mono ?_; rintro e w1 ⟨rfl, k1⟩; have hb := q0.trans (k1.mono q0.size); obtain ⟨d0, d1, d2, d3, d4, d5, d6, d7, d8, d9, d10⟩ := HC.out _ hb; clear k1 HM)
  go_ret2
  exact ⟨rfl, (HB.out.trans (hb.mono HB.out.size))⟩
set_option maxRecDepth 100000 in
set_option maxHeartbeats 4000000 in
theorem rmPut_full (m : Mdl) (xT : Option Addr) (cT : Nat) (xI : Option Addr) (cI : Nat) (xF : Option Addr) (cF : Nat) (xB : Option Addr) (cB : Nat) (xM : Option Addr) (cM : Nat) (xG : Option Addr) (cG : Nat) (xX : Option Addr) (cX : Nat) (xE : Option Addr) (cE : Nat) (xC : Option Addr) (cC : Nat) (xD : Option Addr) (cD : Nat) (w : World) (hx : MdlIn w m xT cT xI cI xF cF xB cB xM cM xG cG xX cX xE cE xC cC xD cD) (hu : MdlUp 1048576 m) (ho : oMod m = true) (hl : 65536 < (bMod m).length) :
    Calls Tryz.prog 11 #[.agg #[.slice xT m.types.length cT, .slice xI m.imports.length cI, .slice xF m.funcs.length cF, .slice xB m.tables.length cB, .slice xM m.mems.length cM, .slice xG m.globals.length cG, .slice xX m.exports.length cX, .int .i64 m.start, .slice xE m.elems.length cE, .slice xC m.codes.length cC, .slice xD m.datas.length cD]] w fun e w' => e = .returned (.tuple #[.string ⟨#[]⟩, .int .i64 14]) ∧ Below w.heap.size w w' := by
  have b1 := BlkAt.new w #[.slice xT m.types.length cT, .slice xI m.imports.length cI, .slice xF m.funcs.length cF, .slice xB m.tables.length cB, .slice xM m.mems.length cM, .slice xG m.globals.length cG, .slice xX m.exports.length cX, .int .i64 m.start, .slice xE m.elems.length cE, .slice xC m.codes.length cC, .slice xD m.datas.length cD] 32
  have HB := Lib.hid ((Below.refl w.heap.size w).alloc (Nat.le_refl _) (.cells #[.slice xT m.types.length cT, .slice xI m.imports.length cI, .slice xF m.funcs.length cF, .slice xB m.tables.length cB, .slice xM m.mems.length cM, .slice xG m.globals.length cG, .slice xX m.exports.length cX, .int .i64 m.start, .slice xE m.elems.length cE, .slice xC m.codes.length cC, .slice xD m.datas.length cD] 32))
  have HC := Lib.hid (fun (w' : World) (h : Below (w.alloc (.cells #[.slice xT m.types.length cT, .slice xI m.imports.length cI, .slice xF m.funcs.length cF, .slice xB m.tables.length cB, .slice xM m.mems.length cM, .slice xG m.globals.length cG, .slice xX m.exports.length cX, .int .i64 m.start, .slice xE m.elems.length cE, .slice xC m.codes.length cC, .slice xD m.datas.length cD] 32)).heap.size (w.alloc (.cells #[.slice xT m.types.length cT, .slice xI m.imports.length cI, .slice xF m.funcs.length cF, .slice xB m.tables.length cB, .slice xM m.mems.length cM, .slice xG m.globals.length cG, .slice xX m.exports.length cX, .int .i64 m.start, .slice xE m.elems.length cE, .slice xC m.codes.length cC, .slice xD m.datas.length cD] 32)) w') => (b1.below h).eleven)
  have q0 := Below.refl (w.alloc (.cells #[.slice xT m.types.length cT, .slice xI m.imports.length cI, .slice xF m.funcs.length cF, .slice xB m.tables.length cB, .slice xM m.mems.length cM, .slice xG m.globals.length cG, .slice xX m.exports.length cX, .int .i64 m.start, .slice xE m.elems.length cE, .slice xC m.codes.length cC, .slice xD m.datas.length cD] 32)).heap.size (w.alloc (.cells #[.slice xT m.types.length cT, .slice xI m.imports.length cI, .slice xF m.funcs.length cF, .slice xB m.tables.length cB, .slice xM m.mems.length cM, .slice xG m.globals.length cG, .slice xX m.exports.length cX, .int .i64 m.start, .slice xE m.elems.length cE, .slice xC m.codes.length cC, .slice xD m.datas.length cD] 32))
  have hM := (mayBe_oMod m).1 ho
  have hP := parts_of hM hu
  have HM := Lib.hid (fun (w2 : World) (h : Below w.heap.size w w2) => rmMay_any m xT cT xI cI xF cF xB cB xM cM xG cG xX cX xE cE xC cC xD cD w2 (hx.below h) hu)
  rw [rMay_eq, ho] at HM
  have H0 := Lib.hid refHead_any
  have H1 := Lib.hid (fun (w2 : World) (h : Below w.heap.size w w2) => rmHead_any m xT cT xI cI xF cF xB cB xM cM xG cG xX cX xE cE xC cC xD cD w2 (hx.below h) hu (fun i hi => all_at hM.i.2 hi) hP.zT hP.zI hP.zF hP.zB hP.zM)
  have H2 := Lib.hid (fun (w2 : World) (h : Below w.heap.size w w2) => rmTail_any m xT cT xI cI xF cF xB cB xM cM xG cG xX cX xE cE xC cC xD cD w2 (hx.below h) hu hM hP)
  have HE : Hid ((strOfNums headB ++ strOfNums (bHead m)) ++ strOfNums (bTail m) = strOfNums (bMod m)) := Lib.hid (by unfold bMod; rw [strOfNums_app, strOfNums_app, List.append_assoc])
  have y0 : (strOfNums headB).size = 8 := by rw [strOfNums_size]; rfl
  have y1 : (strOfNums (bHead m)).size ≤ 10000000000000 := by rw [strOfNums_size]; exact head_size hP
  have y2 : (strOfNums (bTail m)).size ≤ 10000000001000 := by rw [strOfNums_size]; exact tail_size hP
  have y3 : (strOfNums headB).size + (strOfNums (bHead m)).size + (strOfNums (bTail m)).size = (bMod m).length := by
    have := congrArg ByteArray.size HE.out
    rw [ByteArray.size_append, ByteArray.size_append, strOfNums_size (bMod m)] at this
    exact this
  have HS := Lib.hid (fun (w3 : World) (h : Below (w.alloc (.cells #[.slice xT m.types.length cT, .slice xI m.imports.length cI, .slice xF m.funcs.length cF, .slice xB m.tables.length cB, .slice xM m.mems.length cM, .slice xG m.globals.length cG, .slice xX m.exports.length cX, .int .i64 m.start, .slice xE m.elems.length cE, .slice xC m.codes.length cC, .slice xD m.datas.length cD] 32)).heap.size (w.alloc (.cells #[.slice xT m.types.length cT, .slice xI m.imports.length cI, .slice xF m.funcs.length cF, .slice xB m.tables.length cB, .slice xM m.mems.length cM, .slice xG m.globals.length cG, .slice xX m.exports.length cX, .int .i64 m.start, .slice xE m.elems.length cE, .slice xC m.codes.length cC, .slice xD m.datas.length cD] 32)) w3) => (show w3.cell? ⟨w.heap.size, 0, none⟩ = some (.slice xT m.types.length cT) ∧ w3.cell? ⟨w.heap.size, 1, none⟩ = some (.slice xI m.imports.length cI) ∧ w3.cell? ⟨w.heap.size, 2, none⟩ = some (.slice xF m.funcs.length cF) ∧ w3.cell? ⟨w.heap.size, 3, none⟩ = some (.slice xB m.tables.length cB) ∧ w3.cell? ⟨w.heap.size, 4, none⟩ = some (.slice xM m.mems.length cM) ∧ w3.cell? ⟨w.heap.size, 5, none⟩ = some (.slice xG m.globals.length cG) ∧ w3.cell? ⟨w.heap.size, 6, none⟩ = some (.slice xX m.exports.length cX) ∧ w3.cell? ⟨w.heap.size, 7, none⟩ = some (.int .i64 m.start) ∧ w3.cell? ⟨w.heap.size, 8, none⟩ = some (.slice xE m.elems.length cE) ∧ w3.cell? ⟨w.heap.size, 9, none⟩ = some (.slice xC m.codes.length cC) ∧ w3.cell? ⟨w.heap.size, 10, none⟩ = some (.slice xD m.datas.length cD) from HC.out w3 h))
  obtain ⟨g0, g1, g2, g3, g4, g5, g6, g7, g8, g9, g10⟩ := HC.out _ q0
  clear b1 hx hu ho hM hP
  revert H0 H1 H2 HE y0 y1 y2 y3
  generalize strOfNums headB = P0
  generalize strOfNums (bHead m) = P1
  generalize strOfNums (bTail m) = P2
  generalize (bMod m).length = n at hl ⊢
  intro H0 H1 H2 HE y0 y1 y2 y3
  have t1 : (65536 : Int) < (P0.size : Int) + P1.size + P2.size := by omega
  have t2 : (65536 : Int) < ((P0.size + P1.size + P2.size : Nat) : Int) := by omega
  have n0 : ¬ 9223372036854775807 < P0.size + P1.size := by omega
  have n1 : ¬ 9223372036854775807 < P0.size + P1.size + P2.size := by omega
  have m1 : ¬ 9223372036854775807 < (P0 ++ P1).size + P2.size := by rw [ByteArray.size_append]; omega
  clear y0 y1 y2 y3 hl
  go_enter Tryz.func11, Tryz.ntmps11
  go_wp2_with (go_at_call 17; refine (HM.out _ (HB.out.trans (q0.mono HB.out.size))).mono ?_; rintro e w1 ⟨rfl, k1⟩; have hb := q0.trans (k1.mono q0.size); obtain ⟨d0, d1, d2, d3, d4, d5, d6, d7, d8, d9, d10⟩ := HC.out _ hb; clear k1 HM)
  go_region_held3 (fun w' => w'.cell? ⟨w.heap.size, 0, none⟩ = some (.slice xT m.types.length cT) ∧ w'.cell? ⟨w.heap.size, 1, none⟩ = some (.slice xI m.imports.length cI) ∧ w'.cell? ⟨w.heap.size, 2, none⟩ = some (.slice xF m.funcs.length cF) ∧ w'.cell? ⟨w.heap.size, 3, none⟩ = some (.slice xB m.tables.length cB) ∧ w'.cell? ⟨w.heap.size, 4, none⟩ = some (.slice xM m.mems.length cM) ∧ w'.cell? ⟨w.heap.size, 5, none⟩ = some (.slice xG m.globals.length cG) ∧ w'.cell? ⟨w.heap.size, 6, none⟩ = some (.slice xX m.exports.length cX) ∧ w'.cell? ⟨w.heap.size, 7, none⟩ = some (.int .i64 m.start) ∧ w'.cell? ⟨w.heap.size, 8, none⟩ = some (.slice xE m.elems.length cE) ∧ w'.cell? ⟨w.heap.size, 9, none⟩ = some (.slice xC m.codes.length cC) ∧ w'.cell? ⟨w.heap.size, 10, none⟩ = some (.slice xD m.datas.length cD))
    (first | exact HS.out _ (hb.drew) | exact HS.out _ r1 | exact HS.out _ r2)
    (first
      | (go_at_call 18; refine (H0.out _).mono ?_; rintro e w9 ⟨rfl, rfl⟩; clear H0)
      | (go_at_call 19; refine (H1.out _ (HB.out.trans ((hb.drew).mono HB.out.size))).mono ?_; rintro e v1 ⟨rfl, k1⟩; have r1 := bel_step (hb.drew) k1; clear k1 H1)
      | (go_at_call 20; refine (H2.out _ (HB.out.trans (r1.mono HB.out.size))).mono ?_; rintro e v2 ⟨rfl, k2⟩; have r2 := bel_step r1 k2; clear k2 H2))
  all_goals go_wp2_with fail
  all_goals go_ret2
  all_goals exact ⟨rfl, (HB.out.trans (r2.mono HB.out.size))⟩
set_option maxRecDepth 100000 in
set_option maxHeartbeats 4000000 in
theorem rmPut_yes (m : Mdl) (xT : Option Addr) (cT : Nat) (xI : Option Addr) (cI : Nat) (xF : Option Addr) (cF : Nat) (xB : Option Addr) (cB : Nat) (xM : Option Addr) (cM : Nat) (xG : Option Addr) (cG : Nat) (xX : Option Addr) (cX : Nat) (xE : Option Addr) (cE : Nat) (xC : Option Addr) (cC : Nat) (xD : Option Addr) (cD : Nat) (w : World) (hx : MdlIn w m xT cT xI cI xF cF xB cB xM cM xG cG xX cX xE cE xC cC xD cD) (hu : MdlUp 1048576 m) (ho : oMod m = true) (hl : ¬ 65536 < (bMod m).length) :
    Calls Tryz.prog 11 #[.agg #[.slice xT m.types.length cT, .slice xI m.imports.length cI, .slice xF m.funcs.length cF, .slice xB m.tables.length cB, .slice xM m.mems.length cM, .slice xG m.globals.length cG, .slice xX m.exports.length cX, .int .i64 m.start, .slice xE m.elems.length cE, .slice xC m.codes.length cC, .slice xD m.datas.length cD]] w fun e w' => e = .returned (.tuple #[.string (strOfNums (bMod m)), .int .i64 0]) ∧ Below w.heap.size w w' := by
  have b1 := BlkAt.new w #[.slice xT m.types.length cT, .slice xI m.imports.length cI, .slice xF m.funcs.length cF, .slice xB m.tables.length cB, .slice xM m.mems.length cM, .slice xG m.globals.length cG, .slice xX m.exports.length cX, .int .i64 m.start, .slice xE m.elems.length cE, .slice xC m.codes.length cC, .slice xD m.datas.length cD] 32
  have HB := Lib.hid ((Below.refl w.heap.size w).alloc (Nat.le_refl _) (.cells #[.slice xT m.types.length cT, .slice xI m.imports.length cI, .slice xF m.funcs.length cF, .slice xB m.tables.length cB, .slice xM m.mems.length cM, .slice xG m.globals.length cG, .slice xX m.exports.length cX, .int .i64 m.start, .slice xE m.elems.length cE, .slice xC m.codes.length cC, .slice xD m.datas.length cD] 32))
  have HC := Lib.hid (fun (w' : World) (h : Below (w.alloc (.cells #[.slice xT m.types.length cT, .slice xI m.imports.length cI, .slice xF m.funcs.length cF, .slice xB m.tables.length cB, .slice xM m.mems.length cM, .slice xG m.globals.length cG, .slice xX m.exports.length cX, .int .i64 m.start, .slice xE m.elems.length cE, .slice xC m.codes.length cC, .slice xD m.datas.length cD] 32)).heap.size (w.alloc (.cells #[.slice xT m.types.length cT, .slice xI m.imports.length cI, .slice xF m.funcs.length cF, .slice xB m.tables.length cB, .slice xM m.mems.length cM, .slice xG m.globals.length cG, .slice xX m.exports.length cX, .int .i64 m.start, .slice xE m.elems.length cE, .slice xC m.codes.length cC, .slice xD m.datas.length cD] 32)) w') => (b1.below h).eleven)
  have q0 := Below.refl (w.alloc (.cells #[.slice xT m.types.length cT, .slice xI m.imports.length cI, .slice xF m.funcs.length cF, .slice xB m.tables.length cB, .slice xM m.mems.length cM, .slice xG m.globals.length cG, .slice xX m.exports.length cX, .int .i64 m.start, .slice xE m.elems.length cE, .slice xC m.codes.length cC, .slice xD m.datas.length cD] 32)).heap.size (w.alloc (.cells #[.slice xT m.types.length cT, .slice xI m.imports.length cI, .slice xF m.funcs.length cF, .slice xB m.tables.length cB, .slice xM m.mems.length cM, .slice xG m.globals.length cG, .slice xX m.exports.length cX, .int .i64 m.start, .slice xE m.elems.length cE, .slice xC m.codes.length cC, .slice xD m.datas.length cD] 32))
  have hM := (mayBe_oMod m).1 ho
  have hP := parts_of hM hu
  have HM := Lib.hid (fun (w2 : World) (h : Below w.heap.size w w2) => rmMay_any m xT cT xI cI xF cF xB cB xM cM xG cG xX cX xE cE xC cC xD cD w2 (hx.below h) hu)
  rw [rMay_eq, ho] at HM
  have H0 := Lib.hid refHead_any
  have H1 := Lib.hid (fun (w2 : World) (h : Below w.heap.size w w2) => rmHead_any m xT cT xI cI xF cF xB cB xM cM xG cG xX cX xE cE xC cC xD cD w2 (hx.below h) hu (fun i hi => all_at hM.i.2 hi) hP.zT hP.zI hP.zF hP.zB hP.zM)
  have H2 := Lib.hid (fun (w2 : World) (h : Below w.heap.size w w2) => rmTail_any m xT cT xI cI xF cF xB cB xM cM xG cG xX cX xE cE xC cC xD cD w2 (hx.below h) hu hM hP)
  have HE : Hid ((strOfNums headB ++ strOfNums (bHead m)) ++ strOfNums (bTail m) = strOfNums (bMod m)) := Lib.hid (by unfold bMod; rw [strOfNums_app, strOfNums_app, List.append_assoc])
  have y0 : (strOfNums headB).size = 8 := by rw [strOfNums_size]; rfl
  have y1 : (strOfNums (bHead m)).size ≤ 10000000000000 := by rw [strOfNums_size]; exact head_size hP
  have y2 : (strOfNums (bTail m)).size ≤ 10000000001000 := by rw [strOfNums_size]; exact tail_size hP
  have y3 : (strOfNums headB).size + (strOfNums (bHead m)).size + (strOfNums (bTail m)).size = (bMod m).length := by
    have := congrArg ByteArray.size HE.out
    rw [ByteArray.size_append, ByteArray.size_append, strOfNums_size (bMod m)] at this
    exact this
  have HS := Lib.hid (fun (w3 : World) (h : Below (w.alloc (.cells #[.slice xT m.types.length cT, .slice xI m.imports.length cI, .slice xF m.funcs.length cF, .slice xB m.tables.length cB, .slice xM m.mems.length cM, .slice xG m.globals.length cG, .slice xX m.exports.length cX, .int .i64 m.start, .slice xE m.elems.length cE, .slice xC m.codes.length cC, .slice xD m.datas.length cD] 32)).heap.size (w.alloc (.cells #[.slice xT m.types.length cT, .slice xI m.imports.length cI, .slice xF m.funcs.length cF, .slice xB m.tables.length cB, .slice xM m.mems.length cM, .slice xG m.globals.length cG, .slice xX m.exports.length cX, .int .i64 m.start, .slice xE m.elems.length cE, .slice xC m.codes.length cC, .slice xD m.datas.length cD] 32)) w3) => (show w3.cell? ⟨w.heap.size, 0, none⟩ = some (.slice xT m.types.length cT) ∧ w3.cell? ⟨w.heap.size, 1, none⟩ = some (.slice xI m.imports.length cI) ∧ w3.cell? ⟨w.heap.size, 2, none⟩ = some (.slice xF m.funcs.length cF) ∧ w3.cell? ⟨w.heap.size, 3, none⟩ = some (.slice xB m.tables.length cB) ∧ w3.cell? ⟨w.heap.size, 4, none⟩ = some (.slice xM m.mems.length cM) ∧ w3.cell? ⟨w.heap.size, 5, none⟩ = some (.slice xG m.globals.length cG) ∧ w3.cell? ⟨w.heap.size, 6, none⟩ = some (.slice xX m.exports.length cX) ∧ w3.cell? ⟨w.heap.size, 7, none⟩ = some (.int .i64 m.start) ∧ w3.cell? ⟨w.heap.size, 8, none⟩ = some (.slice xE m.elems.length cE) ∧ w3.cell? ⟨w.heap.size, 9, none⟩ = some (.slice xC m.codes.length cC) ∧ w3.cell? ⟨w.heap.size, 10, none⟩ = some (.slice xD m.datas.length cD) from HC.out w3 h))
  obtain ⟨g0, g1, g2, g3, g4, g5, g6, g7, g8, g9, g10⟩ := HC.out _ q0
  clear b1 hx hu ho hM hP
  revert H0 H1 H2 HE y0 y1 y2 y3
  generalize strOfNums headB = P0
  generalize strOfNums (bHead m) = P1
  generalize strOfNums (bTail m) = P2
  generalize (bMod m).length = n at hl ⊢
  intro H0 H1 H2 HE y0 y1 y2 y3
  have t1 : ¬ (65536 : Int) < (P0.size : Int) + P1.size + P2.size := by omega
  have t2 : ¬ (65536 : Int) < ((P0.size + P1.size + P2.size : Nat) : Int) := by omega
  have n0 : ¬ 9223372036854775807 < P0.size + P1.size := by omega
  have n1 : ¬ 9223372036854775807 < P0.size + P1.size + P2.size := by omega
  have m1 : ¬ 9223372036854775807 < (P0 ++ P1).size + P2.size := by rw [ByteArray.size_append]; omega
  clear y0 y1 y2 y3 hl
  go_enter Tryz.func11, Tryz.ntmps11
  go_wp2_with (go_at_call 17; refine (HM.out _ (HB.out.trans (q0.mono HB.out.size))).mono ?_; rintro e w1 ⟨rfl, k1⟩; have hb := q0.trans (k1.mono q0.size); obtain ⟨d0, d1, d2, d3, d4, d5, d6, d7, d8, d9, d10⟩ := HC.out _ hb; clear k1 HM)
  go_region_held3 (fun w' => w'.cell? ⟨w.heap.size, 0, none⟩ = some (.slice xT m.types.length cT) ∧ w'.cell? ⟨w.heap.size, 1, none⟩ = some (.slice xI m.imports.length cI) ∧ w'.cell? ⟨w.heap.size, 2, none⟩ = some (.slice xF m.funcs.length cF) ∧ w'.cell? ⟨w.heap.size, 3, none⟩ = some (.slice xB m.tables.length cB) ∧ w'.cell? ⟨w.heap.size, 4, none⟩ = some (.slice xM m.mems.length cM) ∧ w'.cell? ⟨w.heap.size, 5, none⟩ = some (.slice xG m.globals.length cG) ∧ w'.cell? ⟨w.heap.size, 6, none⟩ = some (.slice xX m.exports.length cX) ∧ w'.cell? ⟨w.heap.size, 7, none⟩ = some (.int .i64 m.start) ∧ w'.cell? ⟨w.heap.size, 8, none⟩ = some (.slice xE m.elems.length cE) ∧ w'.cell? ⟨w.heap.size, 9, none⟩ = some (.slice xC m.codes.length cC) ∧ w'.cell? ⟨w.heap.size, 10, none⟩ = some (.slice xD m.datas.length cD))
    (first | exact HS.out _ (hb.drew) | exact HS.out _ r1 | exact HS.out _ r2)
    (first
      | (go_at_call 18; refine (H0.out _).mono ?_; rintro e w9 ⟨rfl, rfl⟩; clear H0)
      | (go_at_call 19; refine (H1.out _ (HB.out.trans ((hb.drew).mono HB.out.size))).mono ?_; rintro e v1 ⟨rfl, k1⟩; have r1 := bel_step (hb.drew) k1; clear k1 H1)
      | (go_at_call 20; refine (H2.out _ (HB.out.trans (r1.mono HB.out.size))).mono ?_; rintro e v2 ⟨rfl, k2⟩; have r2 := bel_step r1 k2; clear k2 H2))
  all_goals go_wp2_with fail
  all_goals go_ret2
  all_goals exact ⟨congrArg (fun s => Ending.returned (.tuple #[.string s, .int .i64 0])) HE.out, (HB.out.trans (r2.mono HB.out.size))⟩
theorem rmPut_any (m : Mdl) (xT : Option Addr) (cT : Nat) (xI : Option Addr) (cI : Nat) (xF : Option Addr) (cF : Nat) (xB : Option Addr) (cB : Nat) (xM : Option Addr) (cM : Nat) (xG : Option Addr) (cG : Nat) (xX : Option Addr) (cX : Nat) (xE : Option Addr) (cE : Nat) (xC : Option Addr) (cC : Nat) (xD : Option Addr) (cD : Nat) (w : World) (hx : MdlIn w m xT cT xI cI xF cF xB cB xM cM xG cG xX cX xE cE xC cC xD cD) (hu : MdlUp 1048576 m) :
    Calls Tryz.prog 11 #[.agg #[.slice xT m.types.length cT, .slice xI m.imports.length cI, .slice xF m.funcs.length cF, .slice xB m.tables.length cB, .slice xM m.mems.length cM, .slice xG m.globals.length cG, .slice xX m.exports.length cX, .int .i64 m.start, .slice xE m.elems.length cE, .slice xC m.codes.length cC, .slice xD m.datas.length cD]] w fun e w' => e = .returned (.tuple #[.string (strOfNums (layV m).1), .int .i64 (layV m).2]) ∧ Below w.heap.size w w' := by
  rw [layV_eq]
  by_cases ho : oMod m = true
  · rw [if_pos ho]
    by_cases hl : 65536 < (bMod m).length
    · rw [if_pos hl]
      exact rmPut_full m xT cT xI cI xF cF xB cB xM cM xG cG xX cX xE cE xC cC xD cD w hx hu ho hl
    · rw [if_neg hl]
      exact rmPut_yes m xT cT xI cI xF cF xB cB xM cM xG cG xX cX xE cE xC cC xD cD w hx hu ho hl
  · rw [if_neg ho]
    exact rmPut_no m xT cT xI cI xF cF xB cB xM cM xG cG xX cX xE cE xC cC xD cD w hx hu (not_true ho)
end Go.Proofs.YtekonefnniaheaaGreat
set_option linter.unusedVariables false
namespace Go.Proofs.YtekonefnniaheaaGreat
open Go.RowKit Go.Deep

set_option maxRecDepth 100000 in
set_option maxHeartbeats 4000000 in
theorem ModulePuts_walk (m : Mdl) (xT : Option Addr) (cT : Nat) (xI : Option Addr) (cI : Nat) (xF : Option Addr) (cF : Nat) (xB : Option Addr) (cB : Nat) (xM : Option Addr) (cM : Nat) (xG : Option Addr) (cG : Nat) (xX : Option Addr) (cX : Nat) (xE : Option Addr) (cE : Nat) (xC : Option Addr) (cC : Nat) (xD : Option Addr) (cD : Nat) (w : World) (hx : MdlIn w m xT cT xI cI xF cF xB cB xM cM xG cG xX cX xE cE xC cC xD cD) (hu : MdlUp 1048576 m) (hst : -9223372036854775808 ≤ m.start ∧ m.start ≤ 9223372036854775807) :
    Calls Tryz.prog 3 #[.agg #[.slice xT m.types.length cT, .slice xI m.imports.length cI, .slice xF m.funcs.length cF, .slice xB m.tables.length cB, .slice xM m.mems.length cM, .slice xG m.globals.length cG, .slice xX m.exports.length cX, .int .i64 m.start, .slice xE m.elems.length cE, .slice xC m.codes.length cC, .slice xD m.datas.length cD]] w fun e w' => e = .returned (.bool true) ∧ Below w.heap.size w w' := by
  have b1 := BlkAt.new w #[.slice xT m.types.length cT, .slice xI m.imports.length cI, .slice xF m.funcs.length cF, .slice xB m.tables.length cB, .slice xM m.mems.length cM, .slice xG m.globals.length cG, .slice xX m.exports.length cX, .int .i64 m.start, .slice xE m.elems.length cE, .slice xC m.codes.length cC, .slice xD m.datas.length cD] 32
  have HB := Lib.hid ((Below.refl w.heap.size w).alloc (Nat.le_refl _) (.cells #[.slice xT m.types.length cT, .slice xI m.imports.length cI, .slice xF m.funcs.length cF, .slice xB m.tables.length cB, .slice xM m.mems.length cM, .slice xG m.globals.length cG, .slice xX m.exports.length cX, .int .i64 m.start, .slice xE m.elems.length cE, .slice xC m.codes.length cC, .slice xD m.datas.length cD] 32))
  have HC := Lib.hid (fun (w' : World) (h : Below (w.alloc (.cells #[.slice xT m.types.length cT, .slice xI m.imports.length cI, .slice xF m.funcs.length cF, .slice xB m.tables.length cB, .slice xM m.mems.length cM, .slice xG m.globals.length cG, .slice xX m.exports.length cX, .int .i64 m.start, .slice xE m.elems.length cE, .slice xC m.codes.length cC, .slice xD m.datas.length cD] 32)).heap.size (w.alloc (.cells #[.slice xT m.types.length cT, .slice xI m.imports.length cI, .slice xF m.funcs.length cF, .slice xB m.tables.length cB, .slice xM m.mems.length cM, .slice xG m.globals.length cG, .slice xX m.exports.length cX, .int .i64 m.start, .slice xE m.elems.length cE, .slice xC m.codes.length cC, .slice xD m.datas.length cD] 32)) w') => (b1.below h).eleven)
  have q0 := Below.refl (w.alloc (.cells #[.slice xT m.types.length cT, .slice xI m.imports.length cI, .slice xF m.funcs.length cF, .slice xB m.tables.length cB, .slice xM m.mems.length cM, .slice xG m.globals.length cG, .slice xX m.exports.length cX, .int .i64 m.start, .slice xE m.elems.length cE, .slice xC m.codes.length cC, .slice xD m.datas.length cD] 32)).heap.size (w.alloc (.cells #[.slice xT m.types.length cT, .slice xI m.imports.length cI, .slice xF m.funcs.length cF, .slice xB m.tables.length cB, .slice xM m.mems.length cM, .slice xG m.globals.length cG, .slice xX m.exports.length cX, .int .i64 m.start, .slice xE m.elems.length cE, .slice xC m.codes.length cC, .slice xD m.datas.length cD] 32))
  have HA := Lib.hid awake6z_any
  have HL := Lib.hid (fun (w2 : World) (h : Below w.heap.size w w2) => Light_any m xT cT xI cI xF cF xB cB xM cM xG cG xX cX xE cE xC cC xD cD w2 (hx.below h))
  have HP := Lib.hid (fun (w2 : World) (h : Below w.heap.size w w2) => PutM_any m xT cT xI cI xF cF xB cB xM cM xG cG xX cX xE cE xC cC xD cD w2 (hx.below h))
  have HR := Lib.hid (fun (w2 : World) (h : Below w.heap.size w w2) => rmPut_any m xT cT xI cI xF cF xB cB xM cM xG cG xX cX xE cE xC cC xD cD w2 (hx.below h) hu)
  revert HP HR
  generalize (layV m).2 = le
  generalize strOfNums (layV m).1 = ls
  intro HP HR
  obtain ⟨g0, g1, g2, g3, g4, g5, g6, g7, g8, g9, g10⟩ := HC.out _ q0
  clear b1 hx hu hst
  go_enter Tryz.func3, Tryz.ntmps3
  go_wp2_with (first
    | (go_at_call 8; refine (HL.out _ (HB.out.trans (q0.mono HB.out.size))).mono ?_; rintro e w1 ⟨⟨bl, rfl⟩, k1⟩; have hb1 := q0.trans (k1.mono q0.size); obtain ⟨h0, h1, h2, h3, h4, h5, h6, h7, h8, h9, h10⟩ := HC.out _ hb1; clear HL k1 g0 g1 g2 g3 g4 g5 g6 g7 g8 g9 g10; cases bl)
    | (go_at_call 10; refine (HP.out _ (HB.out.trans (hb1.mono HB.out.size))).mono ?_; rintro e w2 ⟨rfl, k2⟩; have hb2 := hb1.trans (k2.mono hb1.size); obtain ⟨j0, j1, j2, j3, j4, j5, j6, j7, j8, j9, j10⟩ := HC.out _ hb2; clear HP k2 hb1 h0 h1 h2 h3 h4 h5 h6 h7 h8 h9 h10)
    | (go_at_call 11; refine (HR.out _ (HB.out.trans (hb2.mono HB.out.size))).mono ?_; rintro e w3 ⟨rfl, k3⟩; have hb3 := hb2.trans (k3.mono hb2.size); clear HR k3 hb2)
    | (go_at_call 9; refine (HA.out _).mono ?_; rintro e w4 ⟨rfl, k4⟩; have hb4 := hb1.trans (k4.mono hb1.size); clear k4)
    | (go_at_call 9; refine (HA.out _).mono ?_; rintro e w4 ⟨rfl, k4⟩; have hb4 := hb3.trans (k4.mono hb3.size); clear k4))
  all_goals
    go_ret
    exact ⟨rfl, HB.out.trans (hb4.mono HB.out.size)⟩
end Go.Proofs.YtekonefnniaheaaGreat
set_option linter.unusedVariables false
namespace Go.Proofs.YtekonefnniaheaaGreat
open Go.RowKit Go.Deep

theorem bulk_one {H : Type} (d : DataW H) : 1 ≤ Rows.uptoBulk d := by
  cases d with
  | lit l => cases l <;> simp [Rows.uptoBulk]
  | _ => simp [Rows.uptoBulk]
theorem bulk_part {H : Type} {d : DataW H} {l : List (DataW H)} (h : d ∈ l) : Rows.uptoBulk d ≤ Rows.uptoBulkAll l := by
  induction l with
  | nil => cases h
  | cons x r ih =>
    rw [Rows.uptoBulkAll]
    rcases List.mem_cons.1 h with rfl | e
    · exact Nat.le_add_right _ _
    · exact Nat.le_trans (ih e) (Nat.le_add_left _ _)
theorem bulk_len {H : Type} (l : List (DataW H)) : l.length ≤ Rows.uptoBulkAll l := by
  induction l with
  | nil => exact Nat.zero_le _
  | cons x r ih =>
    have := bulk_one x
    rw [Rows.uptoBulkAll, List.length_cons]
    omega
theorem meas_bulk {H : Type} : Meas (H := H) Rows.uptoBulk := by
  refine ⟨fun es sp d h => ?_, fun ps d h => ?_, fun es sp => ?_, fun b => ?_⟩
  · have := bulk_part h
    rw [Rows.uptoBulk]
    omega
  · have := bulk_part h
    rw [Rows.uptoBulk]
    omega
  · have := bulk_len es
    rw [Rows.uptoBulk]
    omega
  · rw [Rows.uptoBulk]
    omega
theorem bulk_in {H : Type} {l : List (DataW H)} {d : DataW H} (hk : Rows.uptoSmall H l = true) (h : d ∈ l) : Rows.uptoBulk d ≤ 1048576 :=
  Nat.le_trans (bulk_part h) (of_decide_eq_true hk)
end Go.Proofs.YtekonefnniaheaaGreat
