/- Texts of the proof of ModulePutsUptoProof, part 15. -/
import Derived.Lib.SmallJoins
import Derived.Test.YtekonefnniaheaaGreatModulePutsUptoProofQ3
import Derived.Test.YtekonefnniaheaaGreatModulePutsUptoProofQ6
import Derived.Test.YtekonefnniaheaaGreatModulePutsUptoProofQ7
import Derived.Test.YtekonefnniaheaaGreatModulePutsUptoProofQ14
namespace Go.Proofs.YtekonefnniaheaaGreat
open Go.RowKit Go.Deep
open Leb (putU putS)

structure Mdl where
  types : List FT
  imports : List Imp
  funcs : List Int
  tables : List Lim
  mems : List Lim
  globals : List Glo
  exports : List Exp
  start : Int
  elems : List Ele
  codes : List Cod
  datas : List Dat
def headB : List Int := [0, 97, 115, 109, 1, 0, 0, 0]
theorem headS : strOfNums headB = ⟨#[0, 97, 115, 109, 1, 0, 0, 0]⟩ := by rfl
/-- All sections. -/
def modP (m : Mdl) (s : Lay) : Lay :=
  let s := needP (putP s headB) ((m.codes.length : Int) == (m.funcs.length : Int))
  let s := sectP 1 ftP s m.types
  let s := sectP 2 impP s m.imports
  let s := sectP 3 indexP s m.funcs
  let s := sectP 4 tabP s m.tables
  let s := sectP 5 limP s m.mems
  let s := sectP 6 gloP s m.globals
  let s := sectP 7 expP s m.exports
  let s := startP s m.start
  let s := sectP 9 eleP s m.elems
  let s := sectP 10 codP s m.codes
  let s := sectP 11 datP s m.datas
  s
/-- A module, as it lies. -/
structure MdlIn (W0 : World) (m : Mdl) (xT : Option Addr) (cT : Nat) (xI : Option Addr) (cI : Nat) (xF : Option Addr) (cF : Nat) (xB : Option Addr) (cB : Nat) (xM : Option Addr) (cM : Nat) (xG : Option Addr) (cG : Nat) (xX : Option Addr) (cX : Nat) (xE : Option Addr) (cE : Nat) (xC : Option Addr) (cC : Nat) (xD : Option Addr) (cD : Nat) : Prop where
  hT : RowsIn 2 ftE W0 xT m.types.length cT m.types
  hI : RowsIn 7 impE W0 xI m.imports.length cI m.imports
  hF : IntsIn W0 xF m.funcs.length cF m.funcs
  hB : RowsIn 2 limE W0 xB m.tables.length cB m.tables
  hM : RowsIn 2 limE W0 xM m.mems.length cM m.mems
  hG : RowsIn 9 gloE W0 xG m.globals.length cG m.globals
  hX : RowsIn 3 expE W0 xX m.exports.length cX m.exports
  hE : RowsIn 9 eleE W0 xE m.elems.length cE m.elems
  hC : RowsIn 2 codE W0 xC m.codes.length cC m.codes
  hD : RowsIn 9 datE W0 xD m.datas.length cD m.datas
  hS : m.start ≤ 9223372036854775807
theorem BlkAt.eleven {w : World} {b : Nat} {c0 c1 c2 c3 c4 c5 c6 c7 c8 c9 c10 : Value} {T : TypeId} (h : BlkAt w b #[c0, c1, c2, c3, c4, c5, c6, c7, c8, c9, c10] T) :
    w.cell? ⟨b, 0, none⟩ = some c0 ∧ w.cell? ⟨b, 1, none⟩ = some c1 ∧ w.cell? ⟨b, 2, none⟩ = some c2 ∧ w.cell? ⟨b, 3, none⟩ = some c3 ∧ w.cell? ⟨b, 4, none⟩ = some c4 ∧ w.cell? ⟨b, 5, none⟩ = some c5 ∧ w.cell? ⟨b, 6, none⟩ = some c6 ∧ w.cell? ⟨b, 7, none⟩ = some c7 ∧ w.cell? ⟨b, 8, none⟩ = some c8 ∧ w.cell? ⟨b, 9, none⟩ = some c9 ∧ w.cell? ⟨b, 10, none⟩ = some c10 :=
  ⟨h.cell 0, h.cell 1, h.cell 2, h.cell 3, h.cell 4, h.cell 5, h.cell 6, h.cell 7, h.cell 8, h.cell 9, h.cell 10⟩

set_option maxRecDepth 100000 in
set_option maxHeartbeats 8000000 in
theorem lyModule_any (W0 : World) (l : Nat) (s : Lay) (v : Value) (m : Mdl) (xT : Option Addr) (cT : Nat) (xI : Option Addr) (cI : Nat) (xF : Option Addr) (cF : Nat) (xB : Option Addr) (cB : Nat) (xM : Option Addr) (cM : Nat) (xG : Option Addr) (cG : Nat) (xX : Option Addr) (cX : Nat) (xE : Option Addr) (cE : Nat) (xC : Option Addr) (cC : Nat) (xD : Option Addr) (cD : Nat) (w : World) (h : LyAt W0 l s v w) (hin : MdlIn W0 m xT cT xI cI xF cF xB cB xM cM xG cG xX cX xE cE xC cC xD cD) :
    Calls Tryz.prog 16 #[.pointer (some ⟨l, 0, none⟩), .agg #[.slice xT m.types.length cT, .slice xI m.imports.length cI, .slice xF m.funcs.length cF, .slice xB m.tables.length cB, .slice xM m.mems.length cM, .slice xG m.globals.length cG, .slice xX m.exports.length cX, .int .i64 m.start, .slice xE m.elems.length cE, .slice xC m.codes.length cC, .slice xD m.datas.length cD]] w fun e w' => Does W0 l (modP m s) w e w' := by
  have st0 := h.alloc (.cells #[.slice xT m.types.length cT, .slice xI m.imports.length cI, .slice xF m.funcs.length cF, .slice xB m.tables.length cB, .slice xM m.mems.length cM, .slice xG m.globals.length cG, .slice xX m.exports.length cX, .int .i64 m.start, .slice xE m.elems.length cE, .slice xC m.codes.length cC, .slice xD m.datas.length cD] 32)
  have kp0 := h.alloc_keep (.cells #[.slice xT m.types.length cT, .slice xI m.imports.length cI, .slice xF m.funcs.length cF, .slice xB m.tables.length cB, .slice xM m.mems.length cM, .slice xG m.globals.length cG, .slice xX m.exports.length cX, .int .i64 m.start, .slice xE m.elems.length cE, .slice xC m.codes.length cC, .slice xD m.datas.length cD] 32)
  have bx0 := h.own #[.slice xT m.types.length cT, .slice xI m.imports.length cI, .slice xF m.funcs.length cF, .slice xB m.tables.length cB, .slice xM m.mems.length cM, .slice xG m.globals.length cG, .slice xX m.exports.length cX, .int .i64 m.start, .slice xE m.elems.length cE, .slice xC m.codes.length cC, .slice xD m.datas.length cD] 32
  obtain ⟨bxc0_0, bxc0_1, bxc0_2, bxc0_3, bxc0_4, bxc0_5, bxc0_6, bxc0_7, bxc0_8, bxc0_9, bxc0_10⟩ := bx0.blk.eleven
  have HIN := Lib.hid hin
  have HPUT : Hid (∀ w v, LyAt W0 l s v w → Calls Tryz.prog 27 #[.pointer (some ⟨l, 0, none⟩), .string ⟨#[0, 97, 115, 109, 1, 0, 0, 0]⟩] w fun e w' => Does W0 l (putP s headB) w e w') := Lib.hid fun w v h => by
    have := lyPut_nums W0 l s v headB w h (by decide)
    rwa [headS] at this
  clear h hin
  unfold modP
  go_enter Tryz.func16, Tryz.ntmps16
  go_wp2_with (first
    | (go_at_call 27; refine (HPUT.out _ _ st0).mono ?_; rintro e w1 ⟨rfl, ⟨v1, st1⟩, kk1⟩; have kp1 := kp0.trans kk1; have bx1 := bx0.keep kk1; obtain ⟨bxc1_0, bxc1_1, bxc1_2, bxc1_3, bxc1_4, bxc1_5, bxc1_6, bxc1_7, bxc1_8, bxc1_9, bxc1_10⟩ := bx1.blk.eleven; clear st0 kp0)
    | (go_at_call 28; refine (lyNeed_any W0 l _ _ ((m.codes.length : Int) == (m.funcs.length : Int)) _ st1).mono ?_; rintro e w2 ⟨rfl, ⟨v2, st2⟩, kk2⟩; have kp2 := kp1.trans kk2; have bx2 := bx1.keep kk2; obtain ⟨bxc2_0, bxc2_1, bxc2_2, bxc2_3, bxc2_4, bxc2_5, bxc2_6, bxc2_7, bxc2_8, bxc2_9, bxc2_10⟩ := bx2.blk.eleven; clear st1 kp1)
    | (go_at_call 29; refine (lySect_fts W0 l _ _ 1 xT m.types.length cT m.types _ st2 HIN.out.hT).mono ?_; rintro e w3 ⟨rfl, ⟨v3, st3⟩, kk3⟩; have kp3 := kp2.trans kk3; have bx3 := bx2.keep kk3; obtain ⟨bxc3_0, bxc3_1, bxc3_2, bxc3_3, bxc3_4, bxc3_5, bxc3_6, bxc3_7, bxc3_8, bxc3_9, bxc3_10⟩ := bx3.blk.eleven; clear st2 kp2)
    | (go_at_call 31; refine (lySect_imps W0 l _ _ 2 xI m.imports.length cI m.imports _ st3 HIN.out.hI).mono ?_; rintro e w4 ⟨rfl, ⟨v4, st4⟩, kk4⟩; have kp4 := kp3.trans kk4; have bx4 := bx3.keep kk4; obtain ⟨bxc4_0, bxc4_1, bxc4_2, bxc4_3, bxc4_4, bxc4_5, bxc4_6, bxc4_7, bxc4_8, bxc4_9, bxc4_10⟩ := bx4.blk.eleven; clear st3 kp3)
    | (go_at_call 33; refine (lySect_ints_index W0 l _ _ 3 xF m.funcs.length cF m.funcs _ st4 HIN.out.hF).mono ?_; rintro e w5 ⟨rfl, ⟨v5, st5⟩, kk5⟩; have kp5 := kp4.trans kk5; have bx5 := bx4.keep kk5; obtain ⟨bxc5_0, bxc5_1, bxc5_2, bxc5_3, bxc5_4, bxc5_5, bxc5_6, bxc5_7, bxc5_8, bxc5_9, bxc5_10⟩ := bx5.blk.eleven; clear st4 kp4)
    | (go_at_call 35; refine (lySect_lims_table W0 l _ _ 4 xB m.tables.length cB m.tables _ st5 HIN.out.hB).mono ?_; rintro e w6 ⟨rfl, ⟨v6, st6⟩, kk6⟩; have kp6 := kp5.trans kk6; have bx6 := bx5.keep kk6; obtain ⟨bxc6_0, bxc6_1, bxc6_2, bxc6_3, bxc6_4, bxc6_5, bxc6_6, bxc6_7, bxc6_8, bxc6_9, bxc6_10⟩ := bx6.blk.eleven; clear st5 kp5)
    | (go_at_call 35; refine (lySect_lims_limits W0 l _ _ 5 xM m.mems.length cM m.mems _ st6 HIN.out.hM).mono ?_; rintro e w7 ⟨rfl, ⟨v7, st7⟩, kk7⟩; have kp7 := kp6.trans kk7; have bx7 := bx6.keep kk7; obtain ⟨bxc7_0, bxc7_1, bxc7_2, bxc7_3, bxc7_4, bxc7_5, bxc7_6, bxc7_7, bxc7_8, bxc7_9, bxc7_10⟩ := bx7.blk.eleven; clear st6 kp6)
    | (go_at_call 38; refine (lySect_glos W0 l _ _ 6 xG m.globals.length cG m.globals _ st7 HIN.out.hG).mono ?_; rintro e w8 ⟨rfl, ⟨v8, st8⟩, kk8⟩; have kp8 := kp7.trans kk8; have bx8 := bx7.keep kk8; obtain ⟨bxc8_0, bxc8_1, bxc8_2, bxc8_3, bxc8_4, bxc8_5, bxc8_6, bxc8_7, bxc8_8, bxc8_9, bxc8_10⟩ := bx8.blk.eleven; clear st7 kp7)
    | (go_at_call 40; refine (lySect_exps W0 l _ _ 7 xX m.exports.length cX m.exports _ st8 HIN.out.hX).mono ?_; rintro e w9 ⟨rfl, ⟨v9, st9⟩, kk9⟩; have kp9 := kp8.trans kk9; have bx9 := bx8.keep kk9; obtain ⟨bxc9_0, bxc9_1, bxc9_2, bxc9_3, bxc9_4, bxc9_5, bxc9_6, bxc9_7, bxc9_8, bxc9_9, bxc9_10⟩ := bx9.blk.eleven; clear st8 kp8)
    | (go_at_call 42; refine (lyStart_any W0 l _ _ m.start _ st9 HIN.out.hS).mono ?_; rintro e w10 ⟨rfl, ⟨v10, st10⟩, kk10⟩; have kp10 := kp9.trans kk10; have bx10 := bx9.keep kk10; obtain ⟨bxc10_0, bxc10_1, bxc10_2, bxc10_3, bxc10_4, bxc10_5, bxc10_6, bxc10_7, bxc10_8, bxc10_9, bxc10_10⟩ := bx10.blk.eleven; clear st9 kp9)
    | (go_at_call 43; refine (lySect_eles W0 l _ _ 9 xE m.elems.length cE m.elems _ st10 HIN.out.hE).mono ?_; rintro e w11 ⟨rfl, ⟨v11, st11⟩, kk11⟩; have kp11 := kp10.trans kk11; have bx11 := bx10.keep kk11; obtain ⟨bxc11_0, bxc11_1, bxc11_2, bxc11_3, bxc11_4, bxc11_5, bxc11_6, bxc11_7, bxc11_8, bxc11_9, bxc11_10⟩ := bx11.blk.eleven; clear st10 kp10)
    | (go_at_call 45; refine (lySect_cods W0 l _ _ 10 xC m.codes.length cC m.codes _ st11 HIN.out.hC).mono ?_; rintro e w12 ⟨rfl, ⟨v12, st12⟩, kk12⟩; have kp12 := kp11.trans kk12; have bx12 := bx11.keep kk12; obtain ⟨bxc12_0, bxc12_1, bxc12_2, bxc12_3, bxc12_4, bxc12_5, bxc12_6, bxc12_7, bxc12_8, bxc12_9, bxc12_10⟩ := bx12.blk.eleven; clear st11 kp11)
    | (go_at_call 47; refine (lySect_dats W0 l _ _ 11 xD m.datas.length cD m.datas _ st12 HIN.out.hD).mono ?_; rintro e w13 ⟨rfl, ⟨v13, st13⟩, kk13⟩; have kp13 := kp12.trans kk13; have bx13 := bx12.keep kk13; obtain ⟨bxc13_0, bxc13_1, bxc13_2, bxc13_3, bxc13_4, bxc13_5, bxc13_6, bxc13_7, bxc13_8, bxc13_9, bxc13_10⟩ := bx13.blk.eleven; clear st12 kp12))
  first | exact bodyPost_void rfl rfl ⟨rfl, ⟨_, st13⟩, kp13⟩ | exact bodyPost_voidr rfl rfl ⟨rfl, ⟨_, st13⟩, kp13⟩
/-- What laying a module comes to. -/
def layV (m : Mdl) : List Int × Int := if (modP m ⟨[], false, false⟩).no = true then ([], 1) else if (modP m ⟨[], false, false⟩).full = true then ([], 14) else ((modP m ⟨[], false, false⟩).xs, 0)
set_option maxRecDepth 100000 in
set_option maxHeartbeats 4000000 in
theorem PutM_any (m : Mdl) (xT : Option Addr) (cT : Nat) (xI : Option Addr) (cI : Nat) (xF : Option Addr) (cF : Nat) (xB : Option Addr) (cB : Nat) (xM : Option Addr) (cM : Nat) (xG : Option Addr) (cG : Nat) (xX : Option Addr) (cX : Nat) (xE : Option Addr) (cE : Nat) (xC : Option Addr) (cC : Nat) (xD : Option Addr) (cD : Nat) (w : World) (hin : MdlIn w m xT cT xI cI xF cF xB cB xM cM xG cG xX cX xE cE xC cC xD cD) :
    Calls Tryz.prog 10 #[.agg #[.slice xT m.types.length cT, .slice xI m.imports.length cI, .slice xF m.funcs.length cF, .slice xB m.tables.length cB, .slice xM m.mems.length cM, .slice xG m.globals.length cG, .slice xX m.exports.length cX, .int .i64 m.start, .slice xE m.elems.length cE, .slice xC m.codes.length cC, .slice xD m.datas.length cD]] w fun e w' => e = .returned (.tuple #[.string (strOfNums (layV m).1), .int .i64 (layV m).2]) ∧ Below w.heap.size w w' := by
  have hb1 : Below w.heap.size w (w.alloc (.cells #[.slice xT m.types.length cT, .slice xI m.imports.length cI, .slice xF m.funcs.length cF, .slice xB m.tables.length cB, .slice xM m.mems.length cM, .slice xG m.globals.length cG, .slice xX m.exports.length cX, .int .i64 m.start, .slice xE m.elems.length cE, .slice xC m.codes.length cC, .slice xD m.datas.length cD] 32)) := (Below.refl _ _).alloc (Nat.le_refl _) _
  have hsz : (w.alloc (.cells #[.slice xT m.types.length cT, .slice xI m.imports.length cI, .slice xF m.funcs.length cF, .slice xB m.tables.length cB, .slice xM m.mems.length cM, .slice xG m.globals.length cG, .slice xX m.exports.length cX, .int .i64 m.start, .slice xE m.elems.length cE, .slice xC m.codes.length cC, .slice xD m.datas.length cD] 32)).heap.size = w.heap.size + 1 := by simp
  obtain ⟨c0, c1, c2, c3, c4, c5, c6, c7, c8, c9, c10⟩ := ((BlkAt.new w #[.slice xT m.types.length cT, .slice xI m.imports.length cI, .slice xF m.funcs.length cF, .slice xB m.tables.length cB, .slice xM m.mems.length cM, .slice xG m.globals.length cG, .slice xX m.exports.length cX, .int .i64 m.start, .slice xE m.elems.length cE, .slice xC m.codes.length cC, .slice xD m.datas.length cD] 32).below ((Below.refl _ _).alloc (Nat.le_refl _) (.cells #[.slice none 0 0, .bool false, .bool false] 59))).eleven
  have st0 : LyAt w (w.heap.size + 1) ⟨[], false, false⟩ (.slice none 0 0) ((w.alloc (.cells #[.slice xT m.types.length cT, .slice xI m.imports.length cI, .slice xF m.funcs.length cF, .slice xB m.tables.length cB, .slice xM m.mems.length cM, .slice xG m.globals.length cG, .slice xX m.exports.length cX, .int .i64 m.start, .slice xE m.elems.length cE, .slice xC m.codes.length cC, .slice xD m.datas.length cD] 32)).alloc (.cells #[.slice none 0 0, .bool false, .bool false] 59)) :=
    ⟨Nat.le_succ _, hb1.alloc (by omega) _, hsz ▸ BlkAt.new (w.alloc (.cells #[.slice xT m.types.length cT, .slice xI m.imports.length cI, .slice xF m.funcs.length cF, .slice xB m.tables.length cB, .slice xM m.mems.length cM, .slice xG m.globals.length cG, .slice xX m.exports.length cX, .int .i64 m.start, .slice xE m.elems.length cE, .slice xC m.codes.length cC, .slice xD m.datas.length cD] 32)) #[.slice none 0 0, .bool false, .bool false] 59, World.ownsRow_nil _ _ _ _, fun q => (by cases q), Nat.zero_le _, fun z hz => (by cases hz)⟩
  have HIN := Lib.hid hin
  unfold layV
  obtain ⟨sf, hsf⟩ : ∃ sf, modP m ⟨[], false, false⟩ = sf := ⟨_, rfl⟩
  have HM : Hid (∀ w', LyAt w (w.heap.size + 1) ⟨[], false, false⟩ (.slice none 0 0) w' → Calls Tryz.prog 16 #[.pointer (some ⟨w.heap.size + 1, 0, none⟩), .agg #[.slice xT m.types.length cT, .slice xI m.imports.length cI, .slice xF m.funcs.length cF, .slice xB m.tables.length cB, .slice xM m.mems.length cM, .slice xG m.globals.length cG, .slice xX m.exports.length cX, .int .i64 m.start, .slice xE m.elems.length cE, .slice xC m.codes.length cC, .slice xD m.datas.length cD]] w' fun e w2 => Does w (w.heap.size + 1) sf w' e w2) := Lib.hid fun w' h' => by
    have := lyModule_any w (w.heap.size + 1) ⟨[], false, false⟩ (.slice none 0 0) m xT cT xI cI xF cF xB cB xM cM xG cG xX cX xE cE xC cC xD cD w' h' HIN.out
    rw [hsf] at this
    exact this
  rw [hsf]
  clear hin hsf hb1 hsz
  obtain ⟨xs, no, full⟩ := sf
  cases no with
  | true =>
    rw [if_pos rfl]
    go_enter Tryz.func10, Tryz.ntmps10
    go_wp2_with (go_at_call 16; refine (HM.out _ st0).mono ?_; rintro e w1 ⟨rfl, ⟨v1, st1⟩, kk1⟩; obtain ⟨⟨d0, d1, d2⟩, _⟩ := st1.three; have hbf := st1.below)
    go_ret2
    exact ⟨rfl, hbf⟩
  | false =>
    rw [if_neg (by show ¬ false = true; decide)]
    cases full with
    | true =>
      rw [if_pos rfl]
      go_enter Tryz.func10, Tryz.ntmps10
      go_wp2_with (go_at_call 16; refine (HM.out _ st0).mono ?_; rintro e w1 ⟨rfl, ⟨v1, st1⟩, kk1⟩; obtain ⟨⟨d0, d1, d2⟩, _⟩ := st1.three; have hbf := st1.below)
      go_ret2
      exact ⟨rfl, hbf⟩
    | false =>
      rw [if_neg (by show ¬ false = true; decide)]
      go_enter Tryz.func10, Tryz.ntmps10
      go_wp2_with (go_at_call 16; refine (HM.out _ st0).mono ?_; rintro e w1 ⟨rfl, ⟨v1, st1⟩, kk1⟩; obtain ⟨a1, cap1, hv1⟩ := bytes_slice st1.bytes; subst hv1; obtain ⟨⟨d0, d1, d2⟩, _⟩ := st1.three; have hbf := st1.below; have hcv := bytes_conv st1.bytes)
      go_ret2
      exact ⟨rfl, hbf⟩
end Go.Proofs.YtekonefnniaheaaGreat
namespace Go.Proofs.YtekonefnniaheaaGreat
open Go.Joins Go.ChangeShapes Go.WideShapes Go.RowKit Go.Deep

theorem wf_row {f : Nat → Ins} : ∀ {n : Nat}, (∀ i, i < n → wfI (f i)) → wfL ((List.range n).map f) := by
  intro n h
  have key : ∀ l : List Nat, (∀ i ∈ l, wfI (f i)) → wfL (l.map f) := by
    intro l
    induction l with
    | nil => intro _; rw [List.map_nil, wfL]; trivial
    | cons a l ih => intro h; rw [List.map_cons, wfL]; exact ⟨h a (by simp), ih fun i hi => h i (by simp [hi])⟩
  exact key _ fun i hi => h i (List.mem_range.1 hi)
section
variable {H : Type} {enc : TypeId × Value → H} {w : World} {base : Nat} {spare : Nat → Bool} {held : Bool}
set_option maxRecDepth 100000 in
theorem ins_wf (N : Nat) : ∀ {fuel : Nat} {a : Option Addr} {len cap : Nat} {x : DataW H × List MemPlace}, SizeOf.sizeOf x.1 < N → DataW.trod enc Tryz.prog w base spare held fuel 48 [.slice a len cap] = some x → ∃ l, InsIn w a len cap l ∧ wfL l := by
  induction N with
  | zero => exact fun h => absurd h (by omega)
  | succ N ih =>
    intro fuel a len cap x hN h
    rcases open_slice Tryz.underlying48 h with ⟨hcs, _⟩ | ⟨ad, l, c, m, n, D, Pl, hcs, _, hl, hm, hmm, hx, hi⟩
    · simp only [List.cons.injEq, Value.slice.injEq, and_true] at hcs
      obtain ⟨rfl, rfl, rfl⟩ := hcs
      exact ⟨[], ⟨rfl, Nat.le_refl _, by omega, by unfold LiesL; trivial⟩, by rw [wfL]; trivial⟩
    · simp only [List.cons.injEq, Value.slice.injEq, and_true] at hcs
      obtain ⟨rfl, rfl, rfl⟩ := hcs
      have hlm : len ≤ m := by rw [hmm]; split <;> omega
      unfold maxLen at hm
      have hsz : ∀ i, i < len → SizeOf.sizeOf (D i) < N := fun i hil => by
        have hx1 : x.1 = .slice ((List.range len).map D) ((List.range (m - len)).map fun j => D (len + j)) := by rw [hx]
        rw [hx1] at hN
        have hmem : D i ∈ (List.range len).map D := List.mem_map.2 ⟨i, List.mem_range.2 hil, rfl⟩
        have h1 := List.sizeOf_lt_of_mem hmem
        simp only [DataW.slice.sizeOf_spec] at hN
        omega
      have key : ∀ i, i < len → ∃ j : Ins, wfI j ∧ ∀ b off, ad = ⟨b, off, none⟩ → LiesI w b (off + i * 7) j := fun i hil => by
        obtain ⟨cs', h1, h2⟩ := hi i (by omega)
        rw [cells_ins] at h1
        obtain ⟨_, _, hc⟩ := World.cells?_some h1
        obtain ⟨xs, n', _, hxx, _, hl7, hf⟩ := DataW.trod_struct Tryz.underlying50 h2
        have h7 : xs.length = 7 := hl7
        have hag : D i = .agg (xs.map (·.1)) := congrArg Prod.fst hxx
        have hszi := hsz i hil
        rw [hag] at hszi
        simp only [DataW.agg.sizeOf_spec] at hszi
        have hsub : ∀ j (hj : j < xs.length), SizeOf.sizeOf (xs[j]).1 < N := fun j hj => by
          have hmem : (xs[j]).1 ∈ xs.map (·.1) := List.mem_map.2 ⟨xs[j], List.getElem_mem hj, rfl⟩
          have := List.sizeOf_lt_of_mem hmem
          omega
        have f0 : DataW.trod enc Tryz.prog w base spare held n' 3 ((cs'.drop 0).take (Tryz.prog.cellsOf 3)) = xs[0]? := hf 0 _ rfl
        have f1 : DataW.trod enc Tryz.prog w base spare held n' 3 ((cs'.drop 1).take (Tryz.prog.cellsOf 3)) = xs[1]? := hf 1 _ rfl
        have f2 : DataW.trod enc Tryz.prog w base spare held n' 3 ((cs'.drop 2).take (Tryz.prog.cellsOf 3)) = xs[2]? := hf 2 _ rfl
        have f3 : DataW.trod enc Tryz.prog w base spare held n' 3 ((cs'.drop 3).take (Tryz.prog.cellsOf 3)) = xs[3]? := hf 3 _ rfl
        have f4 : DataW.trod enc Tryz.prog w base spare held n' 24 ((cs'.drop 4).take (Tryz.prog.cellsOf 24)) = xs[4]? := hf 4 _ rfl
        have f5 : DataW.trod enc Tryz.prog w base spare held n' 48 ((cs'.drop 5).take (Tryz.prog.cellsOf 48)) = xs[5]? := hf 5 _ rfl
        have f6 : DataW.trod enc Tryz.prog w base spare held n' 48 ((cs'.drop 6).take (Tryz.prog.cellsOf 48)) = xs[6]? := hf 6 _ rfl
        rw [cells_ins_int] at f0 f1 f2 f3
        rw [cells_ins_ints] at f4
        rw [cells_ins_l] at f5 f6
        rw [List.getElem?_eq_getElem (by omega)] at f0 f1 f2 f3 f4 f5 f6
        obtain ⟨z0, g0, _, _⟩ := DataW.trod_int Tryz.underlying3 f0
        obtain ⟨z1, g1, _, wf1⟩ := DataW.trod_int Tryz.underlying3 f1
        obtain ⟨z2, g2, _, _⟩ := DataW.trod_int Tryz.underlying3 f2
        obtain ⟨z3, g3, _, _⟩ := DataW.trod_int Tryz.underlying3 f3
        obtain ⟨a4, l4, c4, g4⟩ := slice_of Tryz.underlying24 f4
        obtain ⟨a5, l5, c5, g5⟩ := slice_of Tryz.underlying48 f5
        obtain ⟨a6, l6, c6, g6⟩ := slice_of Tryz.underlying48 f6
        rw [g4] at f4
        rw [g5] at f5
        rw [g6] at f6
        obtain ⟨ns, rfl, v4, k4, t4⟩ := ints_of f4
        obtain ⟨ls, ⟨e5, k5, t5, v5⟩, wf5⟩ := ih (hsub 5 (by omega)) f5
        obtain ⟨es, ⟨e6, k6, t6, v6⟩, wf6⟩ := ih (hsub 6 (by omega)) f6
        subst e5 e6
        refine ⟨.mk z0 z1 z2 z3 ns ls es, by rw [wfI]; exact ⟨i64_of_wf wf1, wf5, wf6⟩, fun b off hb => ?_⟩
        subst hb
        have hadd : ∀ i, (⟨b, off, none⟩ : Addr).add i = ⟨b, off + i, none⟩ := fun i => by unfold Addr.add; split <;> simp_all
        have cell : ∀ j v, j < 7 → cs'[j]? = some v → w.cell? ⟨b, off + i * 7 + j, none⟩ = some v := fun j v hj hv => by
          have := hc j hj
          rw [add_add, hadd, hv] at this
          rw [Nat.add_assoc]
          exact this
        unfold LiesI
        exact ⟨cell 0 _ (by decide) (ins_one_of g0), cell 1 _ (by decide) (ins_one_of g1), cell 2 _ (by decide) (ins_one_of g2), cell 3 _ (by decide) (ins_one_of g3),
          ⟨a4, c4, cell 4 _ (by decide) (ins_one_of g4), v4, k4, t4⟩, ⟨a5, c5, cell 5 _ (by decide) (ins_one_of g5), v5, k5, t5⟩, ⟨a6, c6, cell 6 _ (by decide) (ins_one_of g6), v6, k6, t6⟩⟩
      obtain ⟨f, hf⟩ := choose_lt key
      refine ⟨(List.range len).map f, ⟨by simp, hl, by omega, ?_⟩, wf_row fun i hi => (hf i hi).1⟩
      by_cases h0 : len = 0
      · subst h0
        show LiesL w _ []
        unfold LiesL
        trivial
      · obtain ⟨b, off, spot⟩ := ad
        obtain ⟨cs', h1, _⟩ := hi 0 (by omega)
        rw [cells_ins] at h1
        obtain ⟨_, hlc, hc⟩ := World.cells?_some h1
        have hc0 := hc 0 (by decide)
        rw [List.getElem?_eq_getElem (by omega)] at hc0
        have hspot : spot = none := by simpa [Addr.add] using World.cell?_spot hc0
        subst hspot
        refine LiesL.of fun i hi2 => ?_
        rw [List.length_map, List.length_range] at hi2
        have e : ((List.range len).map f).getD i default = f i := by
          rw [List.getD_eq_getElem?_getD, List.getElem?_map, List.getElem?_range hi2]
          rfl
        rw [e]
        exact (hf i hi2).2 b off rfl
end
end Go.Proofs.YtekonefnniaheaaGreat
namespace Go.Proofs.YtekonefnniaheaaGreat
open Go.Joins Go.ChangeShapes Go.WideShapes Go.RowKit Go.Deep

/-- A measure of data that counts each part at least once. -/
structure Meas {H : Type} (size : DataW H → Nat) : Prop where
  sl : ∀ es sp d, d ∈ es → size d ≤ size (.slice es sp)
  ag : ∀ ps d, d ∈ ps → size d ≤ size (.agg ps)
  len : ∀ es sp, es.length ≤ size (.slice es sp)
  str : ∀ b, b.length ≤ size (.lit (.string b))
/-- These cells lie from a place on. -/
def CellsAt (w : World) (b o : Nat) (cs : List Value) : Prop := ∀ j v, cs[j]? = some v → w.cell? ⟨b, o + j, none⟩ = some v
section
variable {H : Type} {enc : TypeId × Value → H} {w : World} {base : Nat} {spare : Nat → Bool} {held : Bool}
theorem rows_of {α : Type} [Inhabited α] {sz : Nat} {one : World → Nat → Nat → α → Prop} {side : α → Prop} {size : DataW H → Nat} {K : Nat} (hM : Meas size) {tS tE : TypeId} (hu : Tryz.prog.underlying tS = some (.slice tE)) (hc : Tryz.prog.cellsOf tE = sz) (hpos : 0 < sz)
    (hone : ∀ {fuel : Nat} {cs : List Value} {y : DataW H × List MemPlace}, DataW.trod enc Tryz.prog w base spare held fuel tE cs = some y → size y.1 ≤ K → ∃ t : α, side t ∧ ∀ b o, CellsAt w b o cs → one w b o t)
    {fuel : Nat} {a : Option Addr} {len cap : Nat} {x : DataW H × List MemPlace} (h : DataW.trod enc Tryz.prog w base spare held fuel tS [.slice a len cap] = some x) (hx : size x.1 ≤ K) :
    ∃ ts : List α, RowsIn sz one w a len cap ts ∧ ts.length ≤ K ∧ ∀ i, i < ts.length → side (ts.getD i default) := by
  rcases open_slice hu h with ⟨hcs, _⟩ | ⟨ad, l, c, m, n, D, Pl, hcs, _, hl, hm, hmm, hxx, hi⟩
  · simp only [List.cons.injEq, Value.slice.injEq, and_true] at hcs
    obtain ⟨rfl, rfl, rfl⟩ := hcs
    exact ⟨[], ⟨rfl, Nat.le_refl _, by decide, .inl rfl⟩, Nat.zero_le _, fun i hi => absurd hi (by simp)⟩
  · simp only [List.cons.injEq, Value.slice.injEq, and_true] at hcs
    obtain ⟨rfl, rfl, rfl⟩ := hcs
    have hlm : len ≤ m := by rw [hmm]; split <;> omega
    unfold maxLen at hm
    rw [hxx] at hx
    replace hx : size (.slice ((List.range len).map D) ((List.range (m - len)).map fun j => D (len + j))) ≤ K := hx
    have hlk : len ≤ K := by
      have := hM.len ((List.range len).map D) ((List.range (m - len)).map fun j => D (len + j))
      rw [List.length_map, List.length_range] at this
      omega
    have key : ∀ i, i < len → ∃ t : α, side t ∧ ∀ b off, ad = ⟨b, off, none⟩ → one w b (off + i * sz) t := fun i hil => by
      obtain ⟨cs', h1, h2⟩ := hi i (by omega)
      rw [hc] at h1
      obtain ⟨_, _, hcc⟩ := World.cells?_some h1
      have hsd : size (D i) ≤ K := Nat.le_trans (hM.sl _ _ _ (List.mem_map.2 ⟨i, List.mem_range.2 hil, rfl⟩)) hx
      obtain ⟨t, ht, hb⟩ := hone h2 hsd
      refine ⟨t, ht, fun b off hbo => hb b _ fun j v hj => ?_⟩
      subst hbo
      have hadd : ∀ i, (⟨b, off, none⟩ : Addr).add i = ⟨b, off + i, none⟩ := fun i => by unfold Addr.add; split <;> simp_all
      have hjs : j < sz := by
        obtain ⟨_, hlen, _⟩ := World.cells?_some h1
        have := (List.getElem?_eq_some_iff.1 hj).1
        omega
      have := hcc j hjs
      rw [add_add, hadd, hj] at this
      rw [Nat.add_assoc]
      exact this
    obtain ⟨f, hf⟩ := choose_lt key
    have e : ∀ i, i < len → ((List.range len).map f).getD i default = f i := fun i hi2 => by
      rw [List.getD_eq_getElem?_getD, List.getElem?_map, List.getElem?_range hi2]
      rfl
    refine ⟨(List.range len).map f, ⟨by simp, hl, by omega, ?_⟩, by simp; omega, fun i hi2 => ?_⟩
    · by_cases h0 : len = 0
      · exact .inl h0
      · right
        obtain ⟨b, off, spot⟩ := ad
        obtain ⟨cs', h1, _⟩ := hi 0 (by omega)
        rw [hc] at h1
        obtain ⟨_, hlc, hcc⟩ := World.cells?_some h1
        have hc0 := hcc 0 hpos
        rw [List.getElem?_eq_getElem (by omega)] at hc0
        have hspot : spot = none := by simpa [Addr.add] using World.cell?_spot hc0
        subst hspot
        refine ⟨b, off, rfl, fun i hi2 => ?_⟩
        rw [List.length_map, List.length_range] at hi2
        rw [e i hi2]
        exact (hf i hi2).2 b off rfl
    · rw [List.length_map, List.length_range] at hi2
      rw [e i hi2]
      exact (hf i hi2).1
theorem intsIn_of {size : DataW H → Nat} {K : Nat} (hM : Meas size) {fuel : Nat} {a : Option Addr} {len cap : Nat} {x : DataW H × List MemPlace} (h : DataW.trod enc Tryz.prog w base spare held fuel 24 [.slice a len cap] = some x) (hx : size x.1 ≤ K) :
    ∃ zs : List Int, IntsIn w a len cap zs ∧ zs.length ≤ K := by
  obtain ⟨zs, hr, hl, hs⟩ := rows_of (α := Int) (sz := 1) (one := fun w b o z => w.cell? ⟨b, o, none⟩ = some (.int .i64 z)) (side := fun z => -9223372036854775808 ≤ z ∧ z ≤ 9223372036854775807) hM Tryz.underlying24 cells_ins_int (by decide) (fun {fuel cs y} hy _ => by
    obtain ⟨z, hz, _, hwf⟩ := DataW.trod_int Tryz.underlying3 hy
    subst hz
    exact ⟨z, i64_of_wf hwf, fun b o hc => hc 0 _ rfl⟩) h hx
  refine ⟨zs, ⟨hr.eq, hr.le, hr.top, ?_, fun i hi => hs i hi⟩, hl⟩
  rcases hr.lie with h0 | ⟨b, off, ha, hcell⟩
  · exact .inl h0
  · refine .inr ⟨b, off, ha, fun i hi => ?_⟩
    have := hcell i (by rw [← hr.eq]; exact hi)
    rwa [Nat.mul_one] at this
end
end Go.Proofs.YtekonefnniaheaaGreat
namespace Go.Proofs.YtekonefnniaheaaGreat
open Go.Joins Go.ChangeShapes Go.WideShapes Go.RowKit Go.Deep

theorem CellsAt.sub {w : World} {b o : Nat} {cs : List Value} (h : CellsAt w b o cs) (k n : Nat) : CellsAt w b (o + k) ((cs.drop k).take n) := by
  intro j v hj
  rw [List.getElem?_take] at hj
  split at hj
  · rw [List.getElem?_drop] at hj
    rw [Nat.add_assoc]
    exact h _ _ hj
  · cases hj
theorem CellsAt.one {w : World} {b o : Nat} {cs : List Value} {v : Value} (h : CellsAt w b o cs) (hc : cs = [v]) : w.cell? ⟨b, o, none⟩ = some v := h 0 v (by rw [hc]; rfl)
theorem cells_str : Tryz.prog.cellsOf 9 = 1 := by kernel_rfl
theorem cells_bool : Tryz.prog.cellsOf 4 = 1 := by kernel_rfl
theorem cells_limits : Tryz.prog.cellsOf 83 = 2 := by kernel_rfl
section
variable {H : Type} {enc : TypeId × Value → H} {w : World} {base : Nat} {spare : Nat → Bool} {held : Bool}

set_option maxRecDepth 100000 in
theorem insVal_of {fuel : Nat} {cs : List Value} {y : DataW H × List MemPlace} (h : DataW.trod enc Tryz.prog w base spare held fuel 50 cs = some y) :
    ∃ c xn nc xl lc xe ec, InsV w c xn nc xl lc xe ec ∧ wfI c ∧ ∀ b o, CellsAt w b o cs → insC w b o c xn nc xl lc xe ec := by
  obtain ⟨xs, n', _, hxx, _, hl, hf⟩ := DataW.trod_struct Tryz.underlying50 h
  have hln : xs.length = 7 := hl
  have f0 : DataW.trod enc Tryz.prog w base spare held n' 3 ((cs.drop 0).take (Tryz.prog.cellsOf 3)) = xs[0]? := hf 0 _ rfl
  have f1 : DataW.trod enc Tryz.prog w base spare held n' 3 ((cs.drop 1).take (Tryz.prog.cellsOf 3)) = xs[1]? := hf 1 _ rfl
  have f2 : DataW.trod enc Tryz.prog w base spare held n' 3 ((cs.drop 2).take (Tryz.prog.cellsOf 3)) = xs[2]? := hf 2 _ rfl
  have f3 : DataW.trod enc Tryz.prog w base spare held n' 3 ((cs.drop 3).take (Tryz.prog.cellsOf 3)) = xs[3]? := hf 3 _ rfl
  have f4 : DataW.trod enc Tryz.prog w base spare held n' 24 ((cs.drop 4).take (Tryz.prog.cellsOf 24)) = xs[4]? := hf 4 _ rfl
  have f5 : DataW.trod enc Tryz.prog w base spare held n' 48 ((cs.drop 5).take (Tryz.prog.cellsOf 48)) = xs[5]? := hf 5 _ rfl
  have f6 : DataW.trod enc Tryz.prog w base spare held n' 48 ((cs.drop 6).take (Tryz.prog.cellsOf 48)) = xs[6]? := hf 6 _ rfl
  rw [cells_ins_int] at f0 f1 f2 f3
  rw [cells_ins_ints] at f4
  rw [cells_ins_l] at f5 f6
  rw [List.getElem?_eq_getElem (by omega)] at f0 f1 f2 f3 f4 f5 f6
  obtain ⟨z0, g0, _, _⟩ := DataW.trod_int Tryz.underlying3 f0
  obtain ⟨z1, g1, _, wf1⟩ := DataW.trod_int Tryz.underlying3 f1
  obtain ⟨z2, g2, _, _⟩ := DataW.trod_int Tryz.underlying3 f2
  obtain ⟨z3, g3, _, _⟩ := DataW.trod_int Tryz.underlying3 f3
  obtain ⟨a4, l4, c4, g4⟩ := slice_of Tryz.underlying24 f4
  obtain ⟨a5, l5, c5, g5⟩ := slice_of Tryz.underlying48 f5
  obtain ⟨a6, l6, c6, g6⟩ := slice_of Tryz.underlying48 f6
  rw [g4] at f4
  rw [g5] at f5
  rw [g6] at f6
  obtain ⟨ns, rfl, v4, k4, t4⟩ := ints_of f4
  obtain ⟨ls, h5, wf5⟩ := ins_wf _ (Nat.lt_succ_self _) f5
  obtain ⟨es, h6, wf6⟩ := ins_wf _ (Nat.lt_succ_self _) f6
  have e5 := h5.eq
  have e6 := h6.eq
  subst e5 e6
  exact ⟨.mk z0 z1 z2 z3 ns ls es, a4, c4, a5, c5, a6, c6, ⟨v4, ⟨k4, t4⟩, h5, h6⟩, by rw [wfI]; exact ⟨i64_of_wf wf1, wf5, wf6⟩, fun b o hc =>
    ⟨(hc.sub 0 1).one g0, (hc.sub 1 1).one g1, (hc.sub 2 1).one g2, (hc.sub 3 1).one g3, (hc.sub 4 1).one g4, (hc.sub 5 1).one g5, (hc.sub 6 1).one g6⟩⟩
set_option maxRecDepth 100000 in
theorem limits_of {size : DataW H → Nat} {K : Nat} (hM : Meas size) {fuel : Nat} {cs : List Value} {y : DataW H × List MemPlace} (h : DataW.trod enc Tryz.prog w base spare held fuel 83 cs = some y) (hy : size y.1 ≤ K) :
    ∃ t : Lim, True ∧ ∀ b o, CellsAt w b o cs → limE w b o t := by
  obtain ⟨xs, n', _, hxx, _, hl, hf⟩ := DataW.trod_struct Tryz.underlying83 h
  have hln : xs.length = 2 := hl
  have hag : y.1 = .agg (xs.map (·.1)) := congrArg Prod.fst hxx
  rw [hag] at hy
  have hsub : ∀ j (hj : j < xs.length), size (xs[j]).1 ≤ K := fun j hj => Nat.le_trans (hM.ag _ _ (List.mem_map.2 ⟨xs[j], List.getElem_mem hj, rfl⟩)) hy
  have f0 : DataW.trod enc Tryz.prog w base spare held n' 3 ((cs.drop 0).take (Tryz.prog.cellsOf 3)) = xs[0]? := hf 0 _ rfl
  rw [cells_ins_int, List.getElem?_eq_getElem (by omega)] at f0
  obtain ⟨z0, g0, _, wf0⟩ := DataW.trod_int Tryz.underlying3 f0
  have f1 : DataW.trod enc Tryz.prog w base spare held n' 3 ((cs.drop 1).take (Tryz.prog.cellsOf 3)) = xs[1]? := hf 1 _ rfl
  rw [cells_ins_int, List.getElem?_eq_getElem (by omega)] at f1
  obtain ⟨z1, g1, _, wf1⟩ := DataW.trod_int Tryz.underlying3 f1
  exact ⟨⟨z0, z1⟩, trivial, fun b o hc => ⟨⟨(hc.sub 0 1).one g0, (hc.sub 1 1).one g1⟩, (i64_of_wf wf0).2, (i64_of_wf wf1).2⟩⟩
set_option maxRecDepth 100000 in
theorem ft_of {size : DataW H → Nat} {K : Nat} (hM : Meas size) {fuel : Nat} {cs : List Value} {y : DataW H × List MemPlace} (h : DataW.trod enc Tryz.prog w base spare held fuel 54 cs = some y) (hy : size y.1 ≤ K) :
    ∃ t : FT, (t.p.length ≤ K ∧ t.r.length ≤ K) ∧ ∀ b o, CellsAt w b o cs → ftE w b o t := by
  obtain ⟨xs, n', _, hxx, _, hl, hf⟩ := DataW.trod_struct Tryz.underlying54 h
  have hln : xs.length = 2 := hl
  have hag : y.1 = .agg (xs.map (·.1)) := congrArg Prod.fst hxx
  rw [hag] at hy
  have hsub : ∀ j (hj : j < xs.length), size (xs[j]).1 ≤ K := fun j hj => Nat.le_trans (hM.ag _ _ (List.mem_map.2 ⟨xs[j], List.getElem_mem hj, rfl⟩)) hy
  have f0 : DataW.trod enc Tryz.prog w base spare held n' 24 ((cs.drop 0).take (Tryz.prog.cellsOf 24)) = xs[0]? := hf 0 _ rfl
  rw [cells_ins_ints, List.getElem?_eq_getElem (by omega)] at f0
  obtain ⟨a0, l0, c0, g0⟩ := slice_of Tryz.underlying24 f0
  rw [g0] at f0
  obtain ⟨z0, hi0, b0⟩ := intsIn_of hM f0 (hsub 0 (by omega))
  have e0 := hi0.eq
  subst e0
  have f1 : DataW.trod enc Tryz.prog w base spare held n' 24 ((cs.drop 1).take (Tryz.prog.cellsOf 24)) = xs[1]? := hf 1 _ rfl
  rw [cells_ins_ints, List.getElem?_eq_getElem (by omega)] at f1
  obtain ⟨a1, l1, c1, g1⟩ := slice_of Tryz.underlying24 f1
  rw [g1] at f1
  obtain ⟨z1, hi1, b1⟩ := intsIn_of hM f1 (hsub 1 (by omega))
  have e1 := hi1.eq
  subst e1
  exact ⟨⟨z0, z1⟩, ⟨b0, b1⟩, fun b o hc => ⟨a0, c0, a1, c1, ⟨(hc.sub 0 1).one g0, (hc.sub 1 1).one g1⟩, hi0, hi1⟩⟩
set_option maxRecDepth 100000 in
theorem imp_of {size : DataW H → Nat} {K : Nat} (hM : Meas size) {fuel : Nat} {cs : List Value} {y : DataW H × List MemPlace} (h : DataW.trod enc Tryz.prog w base spare held fuel 85 cs = some y) (hy : size y.1 ≤ K) :
    ∃ t : Imp, (t.mod.size ≤ K ∧ t.name.size ≤ K) ∧ ∀ b o, CellsAt w b o cs → impE w b o t := by
  obtain ⟨xs, n', _, hxx, _, hl, hf⟩ := DataW.trod_struct Tryz.underlying85 h
  have hln : xs.length = 6 := hl
  have hag : y.1 = .agg (xs.map (·.1)) := congrArg Prod.fst hxx
  rw [hag] at hy
  have hsub : ∀ j (hj : j < xs.length), size (xs[j]).1 ≤ K := fun j hj => Nat.le_trans (hM.ag _ _ (List.mem_map.2 ⟨xs[j], List.getElem_mem hj, rfl⟩)) hy
  have f0 : DataW.trod enc Tryz.prog w base spare held n' 9 ((cs.drop 0).take (Tryz.prog.cellsOf 9)) = xs[0]? := hf 0 _ rfl
  rw [cells_str, List.getElem?_eq_getElem (by omega)] at f0
  obtain ⟨z0, g0, d0, wf0⟩ := DataW.trod_string Tryz.underlying9 f0
  have b0 : z0.size ≤ K := by
    have h1 := hsub 0 (by omega)
    rw [d0] at h1
    have h2 := hM.str z0.data.toList
    have h3 : z0.data.toList.length = z0.size := Array.length_toList
    exact Nat.le_trans (Nat.le_of_eq h3.symm) (Nat.le_trans h2 h1)
  have f1 : DataW.trod enc Tryz.prog w base spare held n' 9 ((cs.drop 1).take (Tryz.prog.cellsOf 9)) = xs[1]? := hf 1 _ rfl
  rw [cells_str, List.getElem?_eq_getElem (by omega)] at f1
  obtain ⟨z1, g1, d1, wf1⟩ := DataW.trod_string Tryz.underlying9 f1
  have b1 : z1.size ≤ K := by
    have h1 := hsub 1 (by omega)
    rw [d1] at h1
    have h2 := hM.str z1.data.toList
    have h3 : z1.data.toList.length = z1.size := Array.length_toList
    exact Nat.le_trans (Nat.le_of_eq h3.symm) (Nat.le_trans h2 h1)
  have f2 : DataW.trod enc Tryz.prog w base spare held n' 3 ((cs.drop 2).take (Tryz.prog.cellsOf 3)) = xs[2]? := hf 2 _ rfl
  rw [cells_ins_int, List.getElem?_eq_getElem (by omega)] at f2
  obtain ⟨z2, g2, _, wf2⟩ := DataW.trod_int Tryz.underlying3 f2
  have f3 : DataW.trod enc Tryz.prog w base spare held n' 3 ((cs.drop 3).take (Tryz.prog.cellsOf 3)) = xs[3]? := hf 3 _ rfl
  rw [cells_ins_int, List.getElem?_eq_getElem (by omega)] at f3
  obtain ⟨z3, g3, _, wf3⟩ := DataW.trod_int Tryz.underlying3 f3
  have f4 : DataW.trod enc Tryz.prog w base spare held n' 4 ((cs.drop 4).take (Tryz.prog.cellsOf 4)) = xs[4]? := hf 4 _ rfl
  rw [cells_bool, List.getElem?_eq_getElem (by omega)] at f4
  obtain ⟨z4, g4, _⟩ := DataW.trod_bool Tryz.underlying4 f4
  have f5 : DataW.trod enc Tryz.prog w base spare held n' 83 ((cs.drop 5).take (Tryz.prog.cellsOf 83)) = xs[5]? := hf 5 _ rfl
  rw [cells_limits, List.getElem?_eq_getElem (by omega)] at f5
  obtain ⟨z5, s5, g5⟩ := limits_of hM f5 (hsub 5 (by omega))
  refine ⟨⟨z0, z1, z2, z3, z4, z5.mn, z5.mx⟩, ⟨b0, b1⟩, fun b o hc => ?_⟩
  obtain ⟨⟨q0, q1⟩, r0, r1⟩ := g5 b (o + 5) (hc.sub 5 2)
  exact ⟨⟨(hc.sub 0 1).one g0, (hc.sub 1 1).one g1, (hc.sub 2 1).one g2, (hc.sub 3 1).one g3, (hc.sub 4 1).one g4, q0, q1⟩, wf0, wf1, (i64_of_wf wf2).2, (i64_of_wf wf3).2, r0, r1⟩
set_option maxRecDepth 100000 in
theorem exp_of {size : DataW H → Nat} {K : Nat} (hM : Meas size) {fuel : Nat} {cs : List Value} {y : DataW H × List MemPlace} (h : DataW.trod enc Tryz.prog w base spare held fuel 95 cs = some y) (hy : size y.1 ≤ K) :
    ∃ t : Exp, t.name.size ≤ K ∧ ∀ b o, CellsAt w b o cs → expE w b o t := by
  obtain ⟨xs, n', _, hxx, _, hl, hf⟩ := DataW.trod_struct Tryz.underlying95 h
  have hln : xs.length = 3 := hl
  have hag : y.1 = .agg (xs.map (·.1)) := congrArg Prod.fst hxx
  rw [hag] at hy
  have hsub : ∀ j (hj : j < xs.length), size (xs[j]).1 ≤ K := fun j hj => Nat.le_trans (hM.ag _ _ (List.mem_map.2 ⟨xs[j], List.getElem_mem hj, rfl⟩)) hy
  have f0 : DataW.trod enc Tryz.prog w base spare held n' 9 ((cs.drop 0).take (Tryz.prog.cellsOf 9)) = xs[0]? := hf 0 _ rfl
  rw [cells_str, List.getElem?_eq_getElem (by omega)] at f0
  obtain ⟨z0, g0, d0, wf0⟩ := DataW.trod_string Tryz.underlying9 f0
  have b0 : z0.size ≤ K := by
    have h1 := hsub 0 (by omega)
    rw [d0] at h1
    have h2 := hM.str z0.data.toList
    have h3 : z0.data.toList.length = z0.size := Array.length_toList
    exact Nat.le_trans (Nat.le_of_eq h3.symm) (Nat.le_trans h2 h1)
  have f1 : DataW.trod enc Tryz.prog w base spare held n' 3 ((cs.drop 1).take (Tryz.prog.cellsOf 3)) = xs[1]? := hf 1 _ rfl
  rw [cells_ins_int, List.getElem?_eq_getElem (by omega)] at f1
  obtain ⟨z1, g1, _, wf1⟩ := DataW.trod_int Tryz.underlying3 f1
  have f2 : DataW.trod enc Tryz.prog w base spare held n' 3 ((cs.drop 2).take (Tryz.prog.cellsOf 3)) = xs[2]? := hf 2 _ rfl
  rw [cells_ins_int, List.getElem?_eq_getElem (by omega)] at f2
  obtain ⟨z2, g2, _, wf2⟩ := DataW.trod_int Tryz.underlying3 f2
  exact ⟨⟨z0, z1, z2⟩, b0, fun b o hc => ⟨⟨(hc.sub 0 1).one g0, (hc.sub 1 1).one g1, (hc.sub 2 1).one g2⟩, wf0, (i64_of_wf wf1).2, (i64_of_wf wf2).2⟩⟩
set_option maxRecDepth 100000 in
theorem glo_of {size : DataW H → Nat} {K : Nat} (hM : Meas size) {fuel : Nat} {cs : List Value} {y : DataW H × List MemPlace} (h : DataW.trod enc Tryz.prog w base spare held fuel 68 cs = some y) (hy : size y.1 ≤ K) :
    ∃ t : Glo, True ∧ ∀ b o, CellsAt w b o cs → gloE w b o t := by
  obtain ⟨xs, n', _, hxx, _, hl, hf⟩ := DataW.trod_struct Tryz.underlying68 h
  have hln : xs.length = 3 := hl
  have hag : y.1 = .agg (xs.map (·.1)) := congrArg Prod.fst hxx
  rw [hag] at hy
  have hsub : ∀ j (hj : j < xs.length), size (xs[j]).1 ≤ K := fun j hj => Nat.le_trans (hM.ag _ _ (List.mem_map.2 ⟨xs[j], List.getElem_mem hj, rfl⟩)) hy
  have f0 : DataW.trod enc Tryz.prog w base spare held n' 3 ((cs.drop 0).take (Tryz.prog.cellsOf 3)) = xs[0]? := hf 0 _ rfl
  rw [cells_ins_int, List.getElem?_eq_getElem (by omega)] at f0
  obtain ⟨z0, g0, _, wf0⟩ := DataW.trod_int Tryz.underlying3 f0
  have f1 : DataW.trod enc Tryz.prog w base spare held n' 4 ((cs.drop 1).take (Tryz.prog.cellsOf 4)) = xs[1]? := hf 1 _ rfl
  rw [cells_bool, List.getElem?_eq_getElem (by omega)] at f1
  obtain ⟨z1, g1, _⟩ := DataW.trod_bool Tryz.underlying4 f1
  have f2 : DataW.trod enc Tryz.prog w base spare held n' 50 ((cs.drop 2).take (Tryz.prog.cellsOf 50)) = xs[2]? := hf 2 _ rfl
  rw [cells_ins, List.getElem?_eq_getElem (by omega)] at f2
  obtain ⟨z2, xn, nc, xl, lc, xe, ec, iv2, wf2, g2⟩ := insVal_of f2
  exact ⟨⟨z0, z1, z2⟩, trivial, fun b o hc => ⟨xn, nc, xl, lc, xe, ec, ⟨(hc.sub 0 1).one g0, (hc.sub 1 1).one g1⟩, g2 b (o + 2) (hc.sub 2 7), iv2, wf2⟩⟩
set_option maxRecDepth 100000 in
theorem ele_of {size : DataW H → Nat} {K : Nat} (hM : Meas size) {fuel : Nat} {cs : List Value} {y : DataW H × List MemPlace} (h : DataW.trod enc Tryz.prog w base spare held fuel 71 cs = some y) (hy : size y.1 ≤ K) :
    ∃ t : Ele, t.f.length ≤ K ∧ ∀ b o, CellsAt w b o cs → eleE w b o t := by
  obtain ⟨xs, n', _, hxx, _, hl, hf⟩ := DataW.trod_struct Tryz.underlying71 h
  have hln : xs.length = 3 := hl
  have hag : y.1 = .agg (xs.map (·.1)) := congrArg Prod.fst hxx
  rw [hag] at hy
  have hsub : ∀ j (hj : j < xs.length), size (xs[j]).1 ≤ K := fun j hj => Nat.le_trans (hM.ag _ _ (List.mem_map.2 ⟨xs[j], List.getElem_mem hj, rfl⟩)) hy
  have f0 : DataW.trod enc Tryz.prog w base spare held n' 3 ((cs.drop 0).take (Tryz.prog.cellsOf 3)) = xs[0]? := hf 0 _ rfl
  rw [cells_ins_int, List.getElem?_eq_getElem (by omega)] at f0
  obtain ⟨z0, g0, _, wf0⟩ := DataW.trod_int Tryz.underlying3 f0
  have f1 : DataW.trod enc Tryz.prog w base spare held n' 50 ((cs.drop 1).take (Tryz.prog.cellsOf 50)) = xs[1]? := hf 1 _ rfl
  rw [cells_ins, List.getElem?_eq_getElem (by omega)] at f1
  obtain ⟨z1, xn, nc, xl, lc, xe, ec, iv1, wf1, g1⟩ := insVal_of f1
  have f2 : DataW.trod enc Tryz.prog w base spare held n' 24 ((cs.drop 8).take (Tryz.prog.cellsOf 24)) = xs[2]? := hf 2 _ rfl
  rw [cells_ins_ints, List.getElem?_eq_getElem (by omega)] at f2
  obtain ⟨a2, l2, c2, g2⟩ := slice_of Tryz.underlying24 f2
  rw [g2] at f2
  obtain ⟨z2, hi2, b2⟩ := intsIn_of hM f2 (hsub 2 (by omega))
  have e2 := hi2.eq
  subst e2
  exact ⟨⟨z0, z1, z2⟩, b2, fun b o hc => ⟨xn, nc, xl, lc, xe, ec, a2, c2, ⟨(hc.sub 0 1).one g0, (hc.sub 8 1).one g2⟩, g1 b (o + 1) (hc.sub 1 7), iv1, wf1, hi2, (i64_of_wf wf0).2⟩⟩
set_option maxRecDepth 100000 in
theorem cod_of {size : DataW H → Nat} {K : Nat} (hM : Meas size) {fuel : Nat} {cs : List Value} {y : DataW H × List MemPlace} (h : DataW.trod enc Tryz.prog w base spare held fuel 73 cs = some y) (hy : size y.1 ≤ K) :
    ∃ t : Cod, True ∧ ∀ b o, K ≤ 1048576 → CellsAt w b o cs → codE w b o t := by
  obtain ⟨xs, n', _, hxx, _, hl, hf⟩ := DataW.trod_struct Tryz.underlying73 h
  have hln : xs.length = 2 := hl
  have hag : y.1 = .agg (xs.map (·.1)) := congrArg Prod.fst hxx
  rw [hag] at hy
  have hsub : ∀ j (hj : j < xs.length), size (xs[j]).1 ≤ K := fun j hj => Nat.le_trans (hM.ag _ _ (List.mem_map.2 ⟨xs[j], List.getElem_mem hj, rfl⟩)) hy
  have f0 : DataW.trod enc Tryz.prog w base spare held n' 24 ((cs.drop 0).take (Tryz.prog.cellsOf 24)) = xs[0]? := hf 0 _ rfl
  rw [cells_ins_ints, List.getElem?_eq_getElem (by omega)] at f0
  obtain ⟨a0, l0, c0, g0⟩ := slice_of Tryz.underlying24 f0
  rw [g0] at f0
  obtain ⟨z0, hi0, b0⟩ := intsIn_of hM f0 (hsub 0 (by omega))
  have e0 := hi0.eq
  subst e0
  have f1 : DataW.trod enc Tryz.prog w base spare held n' 48 ((cs.drop 1).take (Tryz.prog.cellsOf 48)) = xs[1]? := hf 1 _ rfl
  rw [cells_ins_l, List.getElem?_eq_getElem (by omega)] at f1
  obtain ⟨a1, l1, c1, g1⟩ := slice_of Tryz.underlying48 f1
  rw [g1] at f1
  obtain ⟨z1, hi1, wf1⟩ := ins_wf _ (Nat.lt_succ_self _) f1
  have e1 := hi1.eq
  subst e1
  exact ⟨⟨z0, z1⟩, trivial, fun b o hK hc => ⟨a0, c0, a1, c1, ⟨(hc.sub 0 1).one g0, (hc.sub 1 1).one g1⟩, hi0, hi1, wf1, Nat.le_trans b0 hK⟩⟩
set_option maxRecDepth 100000 in
theorem dat_of {size : DataW H → Nat} {K : Nat} (hM : Meas size) {fuel : Nat} {cs : List Value} {y : DataW H × List MemPlace} (h : DataW.trod enc Tryz.prog w base spare held fuel 52 cs = some y) (hy : size y.1 ≤ K) :
    ∃ t : Dat, t.b.size ≤ K ∧ ∀ b o, CellsAt w b o cs → datE w b o t := by
  obtain ⟨xs, n', _, hxx, _, hl, hf⟩ := DataW.trod_struct Tryz.underlying52 h
  have hln : xs.length = 3 := hl
  have hag : y.1 = .agg (xs.map (·.1)) := congrArg Prod.fst hxx
  rw [hag] at hy
  have hsub : ∀ j (hj : j < xs.length), size (xs[j]).1 ≤ K := fun j hj => Nat.le_trans (hM.ag _ _ (List.mem_map.2 ⟨xs[j], List.getElem_mem hj, rfl⟩)) hy
  have f0 : DataW.trod enc Tryz.prog w base spare held n' 3 ((cs.drop 0).take (Tryz.prog.cellsOf 3)) = xs[0]? := hf 0 _ rfl
  rw [cells_ins_int, List.getElem?_eq_getElem (by omega)] at f0
  obtain ⟨z0, g0, _, wf0⟩ := DataW.trod_int Tryz.underlying3 f0
  have f1 : DataW.trod enc Tryz.prog w base spare held n' 50 ((cs.drop 1).take (Tryz.prog.cellsOf 50)) = xs[1]? := hf 1 _ rfl
  rw [cells_ins, List.getElem?_eq_getElem (by omega)] at f1
  obtain ⟨z1, xn, nc, xl, lc, xe, ec, iv1, wf1, g1⟩ := insVal_of f1
  have f2 : DataW.trod enc Tryz.prog w base spare held n' 9 ((cs.drop 8).take (Tryz.prog.cellsOf 9)) = xs[2]? := hf 2 _ rfl
  rw [cells_str, List.getElem?_eq_getElem (by omega)] at f2
  obtain ⟨z2, g2, d2, wf2⟩ := DataW.trod_string Tryz.underlying9 f2
  have b2 : z2.size ≤ K := by
    have h1 := hsub 2 (by omega)
    rw [d2] at h1
    have h2 := hM.str z2.data.toList
    have h3 : z2.data.toList.length = z2.size := Array.length_toList
    exact Nat.le_trans (Nat.le_of_eq h3.symm) (Nat.le_trans h2 h1)
  exact ⟨⟨z0, z1, z2⟩, b2, fun b o hc => ⟨xn, nc, xl, lc, xe, ec, ⟨(hc.sub 0 1).one g0, (hc.sub 8 1).one g2⟩, g1 b (o + 1) (hc.sub 1 7), iv1, wf1, wf2, (i64_of_wf wf0).2⟩⟩
/-- How long a module's texts and lists are. -/
structure MdlUp (K : Nat) (m : Mdl) : Prop where
  types : m.types.length ≤ K ∧ ∀ i, i < m.types.length → (m.types.getD i default).p.length ≤ K ∧ (m.types.getD i default).r.length ≤ K
  imports : m.imports.length ≤ K ∧ ∀ i, i < m.imports.length → (m.imports.getD i default).mod.size ≤ K ∧ (m.imports.getD i default).name.size ≤ K
  funcs : m.funcs.length ≤ K
  tables : m.tables.length ≤ K
  mems : m.mems.length ≤ K
  globals : m.globals.length ≤ K
  exports : m.exports.length ≤ K ∧ ∀ i, i < m.exports.length → (m.exports.getD i default).name.size ≤ K
  elems : m.elems.length ≤ K ∧ ∀ i, i < m.elems.length → (m.elems.getD i default).f.length ≤ K
  codes : m.codes.length ≤ K
  datas : m.datas.length ≤ K ∧ ∀ i, i < m.datas.length → (m.datas.getD i default).b.size ≤ K
theorem cellsOf_FuncType : Tryz.prog.cellsOf 54 = 2 := by kernel_rfl
theorem cellsOf_Import : Tryz.prog.cellsOf 85 = 7 := by kernel_rfl
theorem cellsOf_Global : Tryz.prog.cellsOf 68 = 9 := by kernel_rfl
theorem cellsOf_Export : Tryz.prog.cellsOf 95 = 3 := by kernel_rfl
theorem cellsOf_Elem : Tryz.prog.cellsOf 71 = 9 := by kernel_rfl
theorem cellsOf_Code : Tryz.prog.cellsOf 73 = 2 := by kernel_rfl
theorem cellsOf_Data : Tryz.prog.cellsOf 52 = 9 := by kernel_rfl
theorem cellsOfS_Code : Tryz.prog.cellsOf 29 = 1 := by kernel_rfl
theorem cellsOfS_Data : Tryz.prog.cellsOf 30 = 1 := by kernel_rfl
theorem cellsOfS_Elem : Tryz.prog.cellsOf 28 = 1 := by kernel_rfl
theorem cellsOfS_Export : Tryz.prog.cellsOf 27 = 1 := by kernel_rfl
theorem cellsOfS_FuncType : Tryz.prog.cellsOf 22 = 1 := by kernel_rfl
theorem cellsOfS_Global : Tryz.prog.cellsOf 26 = 1 := by kernel_rfl
theorem cellsOfS_Import : Tryz.prog.cellsOf 23 = 1 := by kernel_rfl
theorem cellsOfS_Limits : Tryz.prog.cellsOf 25 = 1 := by kernel_rfl
set_option maxRecDepth 100000 in
set_option maxHeartbeats 1000000 in
theorem mdl_of {size : DataW H → Nat} (hM : Meas size) {fuel : Nat} {cs : List Value} {y : DataW H × List MemPlace} (h : DataW.trod enc Tryz.prog w base spare held fuel 32 cs = some y) (hy : size y.1 ≤ 1048576) :
    ∃ m xT cT xI cI xF cF xB cB xM cM xG cG xX cX xE cE xC cC xD cD, cs = [.slice xT m.types.length cT, .slice xI m.imports.length cI, .slice xF m.funcs.length cF, .slice xB m.tables.length cB, .slice xM m.mems.length cM, .slice xG m.globals.length cG, .slice xX m.exports.length cX, .int .i64 m.start, .slice xE m.elems.length cE, .slice xC m.codes.length cC, .slice xD m.datas.length cD] ∧ MdlIn w m xT cT xI cI xF cF xB cB xM cM xG cG xX cX xE cE xC cC xD cD ∧ MdlUp 1048576 m ∧ (-9223372036854775808 ≤ m.start ∧ m.start ≤ 9223372036854775807) := by
  obtain ⟨xs, n', _, hxx, hcl, hl, hf⟩ := DataW.trod_struct Tryz.underlying32 h
  have hln : xs.length = 11 := hl
  have hcl2 : cs.length = 11 := by rw [hcl]; kernel_rfl
  have hag : y.1 = .agg (xs.map (·.1)) := congrArg Prod.fst hxx
  rw [hag] at hy
  have hsub : ∀ j (hj : j < xs.length), size (xs[j]).1 ≤ 1048576 := fun j hj => Nat.le_trans (hM.ag _ _ (List.mem_map.2 ⟨xs[j], List.getElem_mem hj, rfl⟩)) hy
  have f0 : DataW.trod enc Tryz.prog w base spare held n' 22 ((cs.drop 0).take (Tryz.prog.cellsOf 22)) = xs[0]? := hf 0 _ rfl
  rw [cellsOfS_FuncType, List.getElem?_eq_getElem (by omega)] at f0
  obtain ⟨a0, l0, c0, g0⟩ := slice_of Tryz.underlying22 f0
  rw [g0] at f0
  obtain ⟨z0, hi0, b0, s0⟩ := rows_of hM Tryz.underlying22 cellsOf_FuncType (by decide) (fun hy hk => ft_of hM hy hk) f0 (hsub 0 (by omega))
  have e0 := hi0.eq
  subst e0
  have f1 : DataW.trod enc Tryz.prog w base spare held n' 23 ((cs.drop 1).take (Tryz.prog.cellsOf 23)) = xs[1]? := hf 1 _ rfl
  rw [cellsOfS_Import, List.getElem?_eq_getElem (by omega)] at f1
  obtain ⟨a1, l1, c1, g1⟩ := slice_of Tryz.underlying23 f1
  rw [g1] at f1
  obtain ⟨z1, hi1, b1, s1⟩ := rows_of hM Tryz.underlying23 cellsOf_Import (by decide) (fun hy hk => imp_of hM hy hk) f1 (hsub 1 (by omega))
  have e1 := hi1.eq
  subst e1
  have f2 : DataW.trod enc Tryz.prog w base spare held n' 24 ((cs.drop 2).take (Tryz.prog.cellsOf 24)) = xs[2]? := hf 2 _ rfl
  rw [cells_ins_ints, List.getElem?_eq_getElem (by omega)] at f2
  obtain ⟨a2, l2, c2, g2⟩ := slice_of Tryz.underlying24 f2
  rw [g2] at f2
  obtain ⟨z2, hi2, b2⟩ := intsIn_of hM f2 (hsub 2 (by omega))
  have e2 := hi2.eq
  subst e2
  have f3 : DataW.trod enc Tryz.prog w base spare held n' 25 ((cs.drop 3).take (Tryz.prog.cellsOf 25)) = xs[3]? := hf 3 _ rfl
  rw [cellsOfS_Limits, List.getElem?_eq_getElem (by omega)] at f3
  obtain ⟨a3, l3, c3, g3⟩ := slice_of Tryz.underlying25 f3
  rw [g3] at f3
  obtain ⟨z3, hi3, b3, s3⟩ := rows_of hM Tryz.underlying25 cells_limits (by decide) (fun hy hk => limits_of hM hy hk) f3 (hsub 3 (by omega))
  have e3 := hi3.eq
  subst e3
  have f4 : DataW.trod enc Tryz.prog w base spare held n' 25 ((cs.drop 4).take (Tryz.prog.cellsOf 25)) = xs[4]? := hf 4 _ rfl
  rw [cellsOfS_Limits, List.getElem?_eq_getElem (by omega)] at f4
  obtain ⟨a4, l4, c4, g4⟩ := slice_of Tryz.underlying25 f4
  rw [g4] at f4
  obtain ⟨z4, hi4, b4, s4⟩ := rows_of hM Tryz.underlying25 cells_limits (by decide) (fun hy hk => limits_of hM hy hk) f4 (hsub 4 (by omega))
  have e4 := hi4.eq
  subst e4
  have f5 : DataW.trod enc Tryz.prog w base spare held n' 26 ((cs.drop 5).take (Tryz.prog.cellsOf 26)) = xs[5]? := hf 5 _ rfl
  rw [cellsOfS_Global, List.getElem?_eq_getElem (by omega)] at f5
  obtain ⟨a5, l5, c5, g5⟩ := slice_of Tryz.underlying26 f5
  rw [g5] at f5
  obtain ⟨z5, hi5, b5, s5⟩ := rows_of hM Tryz.underlying26 cellsOf_Global (by decide) (fun hy hk => glo_of hM hy hk) f5 (hsub 5 (by omega))
  have e5 := hi5.eq
  subst e5
  have f6 : DataW.trod enc Tryz.prog w base spare held n' 27 ((cs.drop 6).take (Tryz.prog.cellsOf 27)) = xs[6]? := hf 6 _ rfl
  rw [cellsOfS_Export, List.getElem?_eq_getElem (by omega)] at f6
  obtain ⟨a6, l6, c6, g6⟩ := slice_of Tryz.underlying27 f6
  rw [g6] at f6
  obtain ⟨z6, hi6, b6, s6⟩ := rows_of hM Tryz.underlying27 cellsOf_Export (by decide) (fun hy hk => exp_of hM hy hk) f6 (hsub 6 (by omega))
  have e6 := hi6.eq
  subst e6
  have f7 : DataW.trod enc Tryz.prog w base spare held n' 3 ((cs.drop 7).take (Tryz.prog.cellsOf 3)) = xs[7]? := hf 7 _ rfl
  rw [cells_ins_int, List.getElem?_eq_getElem (by omega)] at f7
  obtain ⟨z7, g7, _, wf7⟩ := DataW.trod_int Tryz.underlying3 f7
  have f8 : DataW.trod enc Tryz.prog w base spare held n' 28 ((cs.drop 8).take (Tryz.prog.cellsOf 28)) = xs[8]? := hf 8 _ rfl
  rw [cellsOfS_Elem, List.getElem?_eq_getElem (by omega)] at f8
  obtain ⟨a8, l8, c8, g8⟩ := slice_of Tryz.underlying28 f8
  rw [g8] at f8
  obtain ⟨z8, hi8, b8, s8⟩ := rows_of hM Tryz.underlying28 cellsOf_Elem (by decide) (fun hy hk => ele_of hM hy hk) f8 (hsub 8 (by omega))
  have e8 := hi8.eq
  subst e8
  have f9 : DataW.trod enc Tryz.prog w base spare held n' 29 ((cs.drop 9).take (Tryz.prog.cellsOf 29)) = xs[9]? := hf 9 _ rfl
  rw [cellsOfS_Code, List.getElem?_eq_getElem (by omega)] at f9
  obtain ⟨a9, l9, c9, g9⟩ := slice_of Tryz.underlying29 f9
  rw [g9] at f9
  obtain ⟨z9, hi9, b9, s9⟩ := rows_of hM Tryz.underlying29 cellsOf_Code (by decide) (fun hy hk => by obtain ⟨t, h1, h2⟩ := cod_of hM hy hk; exact ⟨t, h1, fun b o hc => h2 b o (Nat.le_refl _) hc⟩) f9 (hsub 9 (by omega))
  have e9 := hi9.eq
  subst e9
  have f10 : DataW.trod enc Tryz.prog w base spare held n' 30 ((cs.drop 10).take (Tryz.prog.cellsOf 30)) = xs[10]? := hf 10 _ rfl
  rw [cellsOfS_Data, List.getElem?_eq_getElem (by omega)] at f10
  obtain ⟨a10, l10, c10, g10⟩ := slice_of Tryz.underlying30 f10
  rw [g10] at f10
  obtain ⟨z10, hi10, b10, s10⟩ := rows_of hM Tryz.underlying30 cellsOf_Data (by decide) (fun hy hk => dat_of hM hy hk) f10 (hsub 10 (by omega))
  have e10 := hi10.eq
  subst e10
  refine ⟨⟨z0, z1, z2, z3, z4, z5, z6, z7, z8, z9, z10⟩, a0, c0, a1, c1, a2, c2, a3, c3, a4, c4, a5, c5, a6, c6, a8, c8, a9, c9, a10, c10, ?_, ⟨hi0, hi1, hi2, hi3, hi4, hi5, hi6, hi8, hi9, hi10, (i64_of_wf wf7).2⟩, ⟨⟨b0, s0⟩, ⟨b1, s1⟩, b2, b3, b4, b5, ⟨b6, s6⟩, ⟨b8, s8⟩, b9, ⟨b10, s10⟩⟩, i64_of_wf wf7⟩
  match cs, hcl2 with
  | [v0, v1, v2, v3, v4, v5, v6, v7, v8, v9, v10], _ =>
    simp at g0 g1 g2 g3 g4 g5 g6 g7 g8 g9 g10
    rw [g0, g1, g2, g3, g4, g5, g6, g7, g8, g9, g10]
end
end Go.Proofs.YtekonefnniaheaaGreat
namespace Go.Proofs.YtekonefnniaheaaGreat
open Go.RowKit
open Leb (byt len7 lenF sum7 sg7)

theorem p5 : (128 : Nat) ^ 5 = 34359738368 := by simp
end Go.Proofs.YtekonefnniaheaaGreat
namespace Go.Proofs.YtekonefnniaheaaGreat
open Go.RowKit
open Leb (byt len7 lenF sum7 sg7)

/-- There are as many bytes as are told. -/
def okB (s : ByteArray) : Bool := decide (okU s = true ∧ sum7 s (len7 s 5) + len7 s 5 ≤ s.size)
def bA (s : ByteArray) : ByteArray := if okB s then (s.extract (len7 s 5) s.size).extract 0 (sum7 s (len7 s 5)) else ⟨#[]⟩
def bB (s : ByteArray) : ByteArray := if okB s then (s.extract (len7 s 5) s.size).extract (sum7 s (len7 s 5)) (s.extract (len7 s 5) s.size).size else ⟨#[]⟩
def bE (s : ByteArray) : Int := if okB s then 0 else 2
def bTup (s : ByteArray) : Value := .tuple #[.string (bA s), .string (bB s), .int .i64 (bE s)]
theorem bTup_bad {s : ByteArray} (h : okB s = false) : bTup s = .tuple #[.string ⟨#[]⟩, .string ⟨#[]⟩, .int .i64 2] := by
  unfold bTup bA bB bE
  rw [h]
  rfl
theorem bTup_good {s : ByteArray} (h : okB s = true) : bTup s = .tuple #[.string ((s.extract (len7 s 5) s.size).extract 0 (sum7 s (len7 s 5))), .string ((s.extract (len7 s 5) s.size).extract (sum7 s (len7 s 5)) (s.extract (len7 s 5) s.size).size), .int .i64 0] := by
  unfold bTup bA bB bE
  rw [h]
  rfl

theorem TakeBytes_good (s : ByteArray) (hs : s.size ≤ maxLen) (h : okB s = true) (w : World) :
    Calls Tryz.prog 163 #[.string s] w fun e w' => e = .returned (bTup s) ∧ Below w.heap.size w w' := by
  obtain ⟨hu, hle⟩ : okU s = true ∧ sum7 s (len7 s 5) + len7 s 5 ≤ s.size := of_decide_eq_true h
  have HB := bTup_good h
  have HU := uTup_good hu
  have hR : sum7 s (len7 s 5) ≤ (s.extract (len7 s 5) s.size).size := by rw [ByteArray.size_extract]; omega
  have hR2 : (s.extract (len7 s 5) s.size).size ≤ 9223372036854775807 := by
    rw [ByteArray.size_extract]
    unfold maxLen at hs
    omega
  clear h hu hle
  revert HB HU hR hR2
  generalize s.extract (len7 s 5) s.size = R
  generalize sum7 s (len7 s 5) = n
  intro HB' HU' hR hR2
  have HB := Lib.hid HB'
  have HU := Lib.hid HU'
  have hb := Below.refl w.heap.size w
  clear HB' HU'
  go_enter Tryz.func163, Tryz.ntmps163
  go_wp2_with (go_at_call 168; refine (TakeU_any s hs _).mono ?_; rintro e w1 ⟨rfl, k1⟩; replace hb := hb.trans (k1.mono hb.size); clear k1; rw [HU.out])
  go_quiet (fail)
  go_wp2
  go_ret3
  rw [HB.out]
  exact ⟨rfl, below_drewN hb _⟩
theorem TakeBytes_none (s : ByteArray) (hs : s.size ≤ maxLen) (h : okU s = false) (w : World) :
    Calls Tryz.prog 163 #[.string s] w fun e w' => e = .returned (bTup s) ∧ Below w.heap.size w w' := by
  have HB := Lib.hid (bTup_bad (s := s) (decide_eq_false (by rw [h]; exact fun h => absurd h.1 (by decide))))
  have HU := Lib.hid (uTup_bad h)
  have hb := Below.refl w.heap.size w
  clear h
  go_enter Tryz.func163, Tryz.ntmps163
  go_wp2_with (go_at_call 168; refine (TakeU_any s hs _).mono ?_; rintro e w1 ⟨rfl, k1⟩; replace hb := hb.trans (k1.mono hb.size); clear k1; rw [HU.out])
  go_ret3
  rw [HB.out]
  exact ⟨rfl, hb⟩
theorem TakeBytes_few (s : ByteArray) (hs : s.size ≤ maxLen) (hu : okU s = true) (h : s.size < sum7 s (len7 s 5) + len7 s 5) (w : World) :
    Calls Tryz.prog 163 #[.string s] w fun e w' => e = .returned (bTup s) ∧ Below w.heap.size w w' := by
  have HB := Lib.hid (bTup_bad (s := s) (decide_eq_false (by omega)))
  have HU' := uTup_good hu
  have hle := Leb.len7_le s 5
  have hR : (s.extract (len7 s 5) s.size).size < sum7 s (len7 s 5) := by rw [ByteArray.size_extract]; omega
  clear h hu hle
  revert HU' hR
  generalize s.extract (len7 s 5) s.size = R
  generalize sum7 s (len7 s 5) = n
  intro HU' hR
  have HU := Lib.hid HU'
  have hb := Below.refl w.heap.size w
  clear HU'
  go_enter Tryz.func163, Tryz.ntmps163
  go_wp2_with (go_at_call 168; refine (TakeU_any s hs _).mono ?_; rintro e w1 ⟨rfl, k1⟩; replace hb := hb.trans (k1.mono hb.size); clear k1; rw [HU.out])
  go_ret3
  rw [HB.out]
  exact ⟨rfl, hb⟩
theorem TakeBytes_any (s : ByteArray) (hs : s.size ≤ maxLen) (w : World) :
    Calls Tryz.prog 163 #[.string s] w fun e w' => e = .returned (bTup s) ∧ Below w.heap.size w w' := by
  by_cases hu : okU s = true
  · by_cases hle : sum7 s (len7 s 5) + len7 s 5 ≤ s.size
    · exact TakeBytes_good s hs (decide_eq_true ⟨hu, hle⟩) w
    · exact TakeBytes_few s hs hu (by omega) w
  · exact TakeBytes_none s hs (not_true hu) w

end Go.Proofs.YtekonefnniaheaaGreat
