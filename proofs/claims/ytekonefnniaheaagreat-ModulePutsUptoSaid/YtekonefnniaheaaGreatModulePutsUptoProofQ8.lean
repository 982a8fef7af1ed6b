/- Texts of the proof of ModulePutsUptoProof, part 8. -/
import Derived.BigQuiet
import Derived.Deep.QuietTactic
import Derived.Deep.AppendLies
import Derived.Laws.BytesArg
import Derived.IntWalk
import Derived.Test.YtekonefnniaheaaGreatModulePutsUptoProofQ1
import Derived.Test.YtekonefnniaheaaGreatModulePutsUptoProofQ2
import Derived.Test.YtekonefnniaheaaGreatModulePutsUptoProofQ3
import Derived.Test.YtekonefnniaheaaGreatModulePutsUptoProofQ4
import Derived.Test.YtekonefnniaheaaGreatModulePutsUptoProofQ6
import Derived.Test.YtekonefnniaheaaGreatModulePutsUptoProofQ7
namespace Go.Proofs.YtekonefnniaheaaGreat
open Go.RowKit
open Leb (putU putS)

set_option maxRecDepth 100000 in
set_option maxHeartbeats 8000000 in
theorem appendAll_all (N : Nat) : ∀ (d : Nat) (ls : List Ins) (x : Option Addr) (len cap : Nat) (w0 w : World) (v : Value) (xs : List Int), SizeOf.sizeOf ls < N → okL d ls = true → wfL ls → InsIn w0 x len cap ls → Below w0.heap.size w0 w → Bytes w0.heap.size v xs w → xs.length + (putL ls).length ≤ 1000000000 →
    Calls Tryz.prog 157 #[v, .slice x len cap] w fun e w' => GivesI w0.heap.size (xs ++ putL ls) w e w' := by
  induction N with
  | zero => exact fun _ _ _ _ _ _ _ _ _ h => absurd h (by omega)
  | succ N ih =>
    intro d ls x len cap w0 w v xs hN hok hwf hin hb0 hby hmax
    obtain ⟨hlen, hle, htop, hlies⟩ := hin
    obtain ⟨i0, hi0, hz0, hz1, hz2⟩ := info_parts info_u8
    have HLEN := Lib.hid hlen
    have HLIES := Lib.hid hlies
    have HIH := Lib.hid ih
    have HNN := Lib.hid hN
    have HOK := Lib.hid hok
    have HWF := Lib.hid hwf
    have HB0 := Lib.hid hb0
    have HMAX := Lib.hid hmax
    clear ih hlies hN hlen hok hwf hb0 hmax
    go_enter Tryz.func157, Tryz.ntmps157
    go_wp2_with fail
    go_loopw [0, 11] (fun b iv wr => ∃ (i : Nat), iv = .int .i64 i ∧ i ≤ len ∧ Bytes w0.heap.size b (xs ++ putL (ls.take i)) wr ∧ KeepI w0.heap.size w wr) (fun _ iv _ => len - (intOf iv).toNat)
    case atStart => exact ⟨0, rfl, by omega, by rw [List.take_zero, putL, List.append_nil]; exact hby, KeepI.refl _ _⟩
    case round =>
      obtain ⟨i, rfl, hi, hbyr, hkr⟩ := hrel
      clear hby
      have HBR := Lib.hid hbyr
      have HKR := Lib.hid hkr
      clear hbyr hkr
      by_cases hlt : i < len
      · have hil : i < ls.length := by rw [← HLEN.out]; exact hlt
        obtain ⟨b, off, rfl⟩ := LiesL.addr HLIES.out (by omega)
        have hli := LiesL.at HLIES.out i hil
        have hsz : SizeOf.sizeOf (ls.getD i default) < SizeOf.sizeOf ls := by
          rw [List.getD_eq_getElem?_getD, List.getElem?_eq_getElem hil]
          exact List.sizeOf_lt_of_mem (List.getElem_mem hil)
        have hoc := okL_at HOK.out hil
        have hwc := wfL_at HWF.out hil
        have hsp := putL_split hil
        have htk := congrArg (xs ++ ·) (putL_take hil)
        have HTK := Lib.hid htk
        clear htk
        revert hli hsz hoc hwc hsp HTK
        generalize ls.getD i default = c
        intro hli hsz hoc hwc hsp HTK
        have hby1 := HBR.out
        have hyl : (xs ++ putL (ls.take i)).length + (putI c).length ≤ 1000000000 := by have := HMAX.out; rw [List.length_append]; omega
        have HNX : Hid (xs ++ putL (ls.take (i + 1)) = xs ++ putL (ls.take i) ++ putI c) := Lib.hid (HTK.out.trans (List.append_assoc _ _ _).symm)
        clear HBR hsp HTK
        revert hby1 hyl HNX
        generalize xs ++ putL (ls.take i) = ys
        intro hby1 hyl HNX
        have hbw := HB0.out.trans HKR.out.below
        obtain ⟨xn, nc, xl, lc, xe, ec, c0, c1, c2, c3, c4, c5, c6, hvn, hnc, hncm, hl, he⟩ := hli.may
        replace c0 := (hbw.cell (World.block_lt_of_cell? w0 _ c0)).trans c0
        replace c1 := (hbw.cell (World.block_lt_of_cell? w0 _ c1)).trans c1
        replace c2 := (hbw.cell (World.block_lt_of_cell? w0 _ c2)).trans c2
        replace c3 := (hbw.cell (World.block_lt_of_cell? w0 _ c3)).trans c3
        replace c4 := (hbw.cell (World.block_lt_of_cell? w0 _ c4)).trans c4
        replace c5 := (hbw.cell (World.block_lt_of_cell? w0 _ c5)).trans c5
        replace c6 := (hbw.cell (World.block_lt_of_cell? w0 _ c6)).trans c6
        obtain ⟨el, hel⟩ : ∃ el, c.e.length = el := ⟨_, rfl⟩
        rw [hel] at c6 he
        have HEL := Lib.hid hel
        have HHL := Lib.hid hl
        have HHE := Lib.hid he
        have hmay : mayI c = true := by
          rw [okI_eq, Bool.and_eq_true] at hoc
          exact hoc.1
        have her := (mayI_parts hmay).1
        obtain ⟨hbm, hbb, hbn, hbr, _⟩ := mayI_bounds hmay
        have hbl : (shapeV c.op).1 = 2 → 2 ≤ c.op ∧ c.op ≤ 4 := shapeV_two
        have hopl : c.op ≤ 9223372036854775807 := shapeV_top her
        have HSL : Hid (SizeOf.sizeOf c.l < N ∧ SizeOf.sizeOf c.e < N) := Lib.hid (by
          have := HNN.out
          cases c with
          | mk op a b m n' l' e' =>
            simp only [Ins.mk.sizeOf_spec] at hsz
            simp only [Ins.l, Ins.e]
            omega)
        have hwc2 := (wfI_eq c).1 hwc
        have HWA := Lib.hid hwc2
        have HS := Lib.hid (shape_any c.op)
        have HOP := Lib.hid (fun w => opcode_any c.op w hopl)
        rw [her] at HS
        have st1 := StI.start #[.int .i64 c.op, .int .i64 c.a, .int .i64 c.b, .int .i64 c.m, .slice xn c.n.length nc, .slice xl c.l.length lc, .slice xe el ec] hby1 HKR.out hbw hbw.size
        obtain ⟨a0, a1, a2, a3, a4, a5, a6⟩ := st1.at
        have hpl := congrArg List.length (putI_eq c)
        rw [List.length_append, List.length_append] at hpl
        have q1 : Hid (ys.length + (strOfNums (opB c.op)).size ≤ maxLen) := Lib.hid (by rw [strOfNums_size]; unfold maxLen; omega)
        have q2 : Hid (ys.length + (strOfNums (opB c.op)).size ≤ 140737488355328) := Lib.hid (by rw [strOfNums_size]; omega)
        have q3 : Hid ((ys ++ opB c.op).length + (strOfNums (fldB (shapeV c.op).1 c.a c.b c.m c.n)).size ≤ maxLen) := Lib.hid (by rw [strOfNums_size, List.length_append]; unfold maxLen; omega)
        have q4 : Hid ((ys ++ opB c.op).length + (strOfNums (fldB (shapeV c.op).1 c.a c.b c.m c.n)).size ≤ 140737488355328) := Lib.hid (by rw [strOfNums_size, List.length_append]; omega)
        have HFL : Hid (∀ w', Below w0.heap.size w0 w' → Calls Tryz.prog 181 #[.agg #[.int .i64 c.op, .int .i64 c.a, .int .i64 c.b, .int .i64 c.m, .slice xn c.n.length nc, .slice xl c.l.length lc, .slice xe el ec], .int .i64 (shapeV c.op).1] w' fun e w2 => e = .returned (.string (strOfNums (fldB (shapeV c.op).1 c.a c.b c.m c.n))) ∧ Below w'.heap.size w' w2) := Lib.hid fun w' hb' =>
          fields_any c xn xl xe c.n.length c.l.length el nc lc ec w' her rfl (hvn.below hb') hwc2.1.1 hwc2.1.2 (by omega) (by omega) (by omega) hbn (fun i hi => by have := hbr i hi; omega)
        have hput := putI_eq c
        rw [hel] at hput hpl
        clear hel
        by_cases h2 : (shapeV c.op).1 = 2
        · rw [if_pos h2] at hput hpl
          have hbk := hbl h2
          rw [okI_eq, if_pos hbk, Bool.and_eq_true, Bool.and_eq_true, Bool.and_eq_true] at hoc
          rw [List.length_append, List.length_append, List.length_singleton] at hpl
          rw [h2] at HS HFL q3 q4 hput hpl
          have hll : (putL c.l).length + (if el = 0 then ([] : List Int) else 5 :: putL c.e).length + 1 + ys.length + (opB c.op).length + (fldB 2 c.a c.b c.m c.n).length ≤ 1000000000 := by omega
          have HL : Hid (∀ w' v', Below w0.heap.size w0 w' → Bytes w0.heap.size v' (ys ++ opB c.op ++ fldB 2 c.a c.b c.m c.n) w' → Calls Tryz.prog 157 #[v', .slice xl c.l.length lc] w' fun e w2 => GivesI w0.heap.size (ys ++ opB c.op ++ fldB 2 c.a c.b c.m c.n ++ putL c.l) w' e w2) := Lib.hid fun w' v' hb' hby' =>
            HIH.out (d + 1) c.l xl c.l.length lc w0 w' v' _ HSL.out.1 hoc.2.2.1 HWA.out.2.1 HHL.out hb' hby' (by rw [List.length_append, List.length_append]; omega)
          by_cases h0 : el = 0
          · rw [if_pos h0] at hput hll
            have HPUT : Hid (xs ++ putL (ls.take (i + 1)) = ys ++ opB c.op ++ fldB 2 c.a c.b c.m c.n ++ putL c.l ++ [11]) := Lib.hid (by rw [HNX.out, hput]; simp only [List.append_assoc, List.nil_append])
            subst h0
            have q5 : Hid ((ys ++ opB c.op ++ fldB 2 c.a c.b c.m c.n ++ putL c.l).length + 1 ≤ maxLen) := Lib.hid (by simp only [List.length_append, List.length_nil] at hll ⊢; unfold maxLen; omega)
            have q6 : Hid (((ys ++ opB c.op ++ fldB 2 c.a c.b c.m c.n ++ putL c.l).length + 1) * 1 ≤ 140737488355328) := Lib.hid (by simp only [List.length_append, List.length_nil] at hll ⊢; omega)
            clear hll hput hpl hoc hbl hwc hwc2 hbm hbb hbr hbn hby1 hyl hl he hvn hnc hncm hli
            go_wp2_with (first | (go_at_call 179; refine (HS.out _).mono ?_; rintro e w1 ⟨rfl, rfl⟩) | (go_at_call 180; refine (HOP.out _).mono ?_; rintro e w2 ⟨rfl, hb2⟩; have st2 := st1.below hb2; clear HOP) | (at_builtin; refine Lib.wpList_append_own_string _ rfl _ _ 57 9 rfl w0.heap.size 5 i0 Tryz.underlying57 Tryz.underlying9 hi0 hz0 hz1 hz2 _ ys.length (ys.map (Value.int .u8)) rfl st2.by' (strOfNums (opB c.op)) rfl q1.out q2.out st2.size ?_; intro v3 w3 hown3 hg3 _; have st3 := st2.str (opB_byte c.op) hown3 hg3; clear hown3 hg3 q1 q2; obtain ⟨d0, d1, d2, d3, d4, d5, d6⟩ := st3.at) | (go_at_call 181; refine (HFL.out _ st3.lies).mono ?_; rintro e w4 ⟨rfl, hb4⟩; have st4 := st3.below hb4; clear HFL) | (at_builtin; refine Lib.wpList_append_own_string _ rfl _ _ 57 9 rfl w0.heap.size 5 i0 Tryz.underlying57 Tryz.underlying9 hi0 hz0 hz1 hz2 _ (ys ++ opB c.op).length ((ys ++ opB c.op).map (Value.int .u8)) rfl st4.by' (strOfNums (fldB 2 c.a c.b c.m c.n)) rfl q3.out q4.out st4.size ?_; intro v5 w5 hown5 hg5 _; have st5 := st4.str (fldB_byte _ c.a c.b c.m c.n) hown5 hg5; clear hown5 hg5 q3 q4; obtain ⟨f0, f1, f2, f3, f4, f5, f6⟩ := st5.at) | (go_at_call 157; refine (HL.out _ _ st5.lies st5.by').mono ?_; rintro e w6 ⟨v6, rfl, hby6, hk6⟩; have st6 := st5.sub hby6 hk6; clear HL hby6 hk6; obtain ⟨g0, g1, g2, g3, g4, g5, g6⟩ := st6.at) | (at_builtin; refine wpList_append_own _ rfl _ _ 57 rfl w0.heap.size 5 i0 (.int .u8 0) 1 1 Tryz.underlying57 hi0 hz0 hz1 hz2 rfl (by decide) _ (ys ++ opB c.op ++ fldB 2 c.a c.b c.m c.n ++ putL c.l).length ((ys ++ opB c.op ++ fldB 2 c.a c.b c.m c.n ++ putL c.l).map (Value.int .u8)) rfl (World.ownsRow.alloc st6.by' _) ⟨w6.heap.size, 0, none⟩ 1 1 [.int .u8 11] rfl rfl (cell_one_new _ _ _) (one_u8 _) q5.out q6.out (le_alloc st6.size) ?_; intro v9 w9 hown9 hg9 _; have st9 := (st6.below ((Below.refl _ _).alloc (Nat.le_refl _) _)).one hown9 hg9; clear hown9 hg9 q5 q6))
            exact ⟨⟨i + 1, by go_num, by omega, by rw [HPUT.out]; exact st9.by', st9.keep⟩, by simp [intOf]; omega⟩
          · have h0' : (0 : Int) < (el : Int) := by omega
            rw [if_neg h0] at hput hll
            rw [List.length_cons] at hll
            have HPUT : Hid (xs ++ putL (ls.take (i + 1)) = ys ++ opB c.op ++ fldB 2 c.a c.b c.m c.n ++ putL c.l ++ [5] ++ putL c.e ++ [11]) := Lib.hid (by rw [HNX.out, hput]; simp only [List.append_assoc, List.nil_append, List.cons_append])
            have q5 : Hid ((ys ++ opB c.op ++ fldB 2 c.a c.b c.m c.n ++ putL c.l ++ [5] ++ putL c.e).length + 1 ≤ maxLen) := Lib.hid (by simp only [List.length_append, List.length_cons, List.length_nil] at hll ⊢; unfold maxLen; omega)
            have q6 : Hid (((ys ++ opB c.op ++ fldB 2 c.a c.b c.m c.n ++ putL c.l ++ [5] ++ putL c.e).length + 1) * 1 ≤ 140737488355328) := Lib.hid (by simp only [List.length_append, List.length_cons, List.length_nil] at hll ⊢; omega)
            have q7 : Hid ((ys ++ opB c.op ++ fldB 2 c.a c.b c.m c.n ++ putL c.l).length + 1 ≤ maxLen) := Lib.hid (by simp only [List.length_append] at hll ⊢; unfold maxLen; omega)
            have q8 : Hid (((ys ++ opB c.op ++ fldB 2 c.a c.b c.m c.n ++ putL c.l).length + 1) * 1 ≤ 140737488355328) := Lib.hid (by simp only [List.length_append] at hll ⊢; omega)
            have HE : Hid (∀ w' v', Below w0.heap.size w0 w' → Bytes w0.heap.size v' (ys ++ opB c.op ++ fldB 2 c.a c.b c.m c.n ++ putL c.l ++ [5]) w' → Calls Tryz.prog 157 #[v', .slice xe el ec] w' fun e w2 => GivesI w0.heap.size (ys ++ opB c.op ++ fldB 2 c.a c.b c.m c.n ++ putL c.l ++ [5] ++ putL c.e) w' e w2) := Lib.hid fun w' v' hb' hby' =>
              HIH.out (d + 1) c.e xe el ec w0 w' v' _ HSL.out.2 hoc.2.2.2 HWA.out.2.2 HHE.out hb' hby' (by simp only [List.length_append, List.length_cons, List.length_nil] at hll ⊢; omega)
            clear hll hput hpl hoc hbl hwc hwc2 hbm hbb hbr hbn hby1 hyl hl he hvn hnc hncm hli h0
            go_wp2_with (first | (go_at_call 179; refine (HS.out _).mono ?_; rintro e w1 ⟨rfl, rfl⟩) | (go_at_call 180; refine (HOP.out _).mono ?_; rintro e w2 ⟨rfl, hb2⟩; have st2 := st1.below hb2; clear HOP) | (at_builtin; refine Lib.wpList_append_own_string _ rfl _ _ 57 9 rfl w0.heap.size 5 i0 Tryz.underlying57 Tryz.underlying9 hi0 hz0 hz1 hz2 _ ys.length (ys.map (Value.int .u8)) rfl st2.by' (strOfNums (opB c.op)) rfl q1.out q2.out st2.size ?_; intro v3 w3 hown3 hg3 _; have st3 := st2.str (opB_byte c.op) hown3 hg3; clear hown3 hg3 q1 q2; obtain ⟨d0, d1, d2, d3, d4, d5, d6⟩ := st3.at) | (go_at_call 181; refine (HFL.out _ st3.lies).mono ?_; rintro e w4 ⟨rfl, hb4⟩; have st4 := st3.below hb4; clear HFL) | (at_builtin; refine Lib.wpList_append_own_string _ rfl _ _ 57 9 rfl w0.heap.size 5 i0 Tryz.underlying57 Tryz.underlying9 hi0 hz0 hz1 hz2 _ (ys ++ opB c.op).length ((ys ++ opB c.op).map (Value.int .u8)) rfl st4.by' (strOfNums (fldB 2 c.a c.b c.m c.n)) rfl q3.out q4.out st4.size ?_; intro v5 w5 hown5 hg5 _; have st5 := st4.str (fldB_byte _ c.a c.b c.m c.n) hown5 hg5; clear hown5 hg5 q3 q4; obtain ⟨f0, f1, f2, f3, f4, f5, f6⟩ := st5.at) | (go_at_call 157; refine (HL.out _ _ st5.lies st5.by').mono ?_; rintro e w6 ⟨v6, rfl, hby6, hk6⟩; have st6 := st5.sub hby6 hk6; clear HL hby6 hk6; obtain ⟨g0, g1, g2, g3, g4, g5, g6⟩ := st6.at))
            have std := st6.below (Below.refl w6.heap.size w6).drew
            have hcell : (w6.drew).cell? ⟨wr.heap.size, 6, none⟩ = some (.slice xe el ec) := std.at.2.2.2.2.2.2
            have DS := Lib.hid hcell
            have DSA : Hid (∀ o, (w6.drew.alloc o).cell? ⟨wr.heap.size, 6, none⟩ = some (.slice xe el ec)) := Lib.hid fun o => (std.below ((Below.refl _ _).alloc (Nat.le_refl _) o)).at.2.2.2.2.2.2
            clear hcell
            go_region_held3 (fun w' => w'.cell? ⟨wr.heap.size, 6, none⟩ = some (.slice xe el ec))
              (first | exact DS.out | exact DSA.out _ | exact DS1.out | exact DS2.out)
              (first
                | (refine step_append_own rfl _ _ 57 rfl w0.heap.size 5 i0 (.int .u8 0) 1 1 Tryz.underlying57 hi0 hz0 hz1 hz2 rfl (by decide) _ (ys ++ opB c.op ++ fldB 2 c.a c.b c.m c.n ++ putL c.l).length ((ys ++ opB c.op ++ fldB 2 c.a c.b c.m c.n ++ putL c.l).map (Value.int .u8)) rfl (World.ownsRow.alloc std.by' _) ⟨w6.heap.size, 0, none⟩ 1 1 [.int .u8 5] rfl rfl (cell_one_new _ _ _) (one_u8 _) q7.out q8.out (le_alloc std.size) ?_; intro v7 w7 hown7 hg7
                   have st7 := (std.below ((Below.refl _ _).alloc (Nat.le_refl _) _)).one hown7 hg7
                   have DS1 := Lib.hid st7.at.2.2.2.2.2.2)
                | (go_at_call 157; refine (HE.out _ _ st7.lies st7.by').mono ?_; rintro e w8 ⟨v8, rfl, hby8, hk8⟩; have st8 := st7.sub hby8 hk8; clear HE hby8 hk8
                   have DS2 := Lib.hid st8.at.2.2.2.2.2.2))
            all_goals
              go_wp2_with (first | (at_builtin; refine wpList_append_own _ rfl _ _ 57 rfl w0.heap.size 5 i0 (.int .u8 0) 1 1 Tryz.underlying57 hi0 hz0 hz1 hz2 rfl (by decide) _ (ys ++ opB c.op ++ fldB 2 c.a c.b c.m c.n ++ putL c.l ++ [5] ++ putL c.e).length ((ys ++ opB c.op ++ fldB 2 c.a c.b c.m c.n ++ putL c.l ++ [5] ++ putL c.e).map (Value.int .u8)) rfl (World.ownsRow.alloc st8.by' _) ⟨w8.heap.size, 0, none⟩ 1 1 [.int .u8 11] rfl rfl (cell_one_new _ _ _) (one_u8 _) q5.out q6.out (le_alloc st8.size) ?_; intro v9 w9 hown9 hg9 _; have st9 := (st8.below ((Below.refl _ _).alloc (Nat.le_refl _) _)).one hown9 hg9; clear hown9 hg9 q5 q6))
              exact ⟨⟨i + 1, by go_num, by omega, by rw [HPUT.out]; exact st9.by', st9.keep⟩, by simp [intOf]; omega⟩
        · rw [if_neg h2] at hput hpl
          have HPUT : Hid (xs ++ putL (ls.take (i + 1)) = ys ++ opB c.op ++ fldB (shapeV c.op).1 c.a c.b c.m c.n) := Lib.hid (by rw [HNX.out, hput]; simp only [List.append_assoc, List.append_nil])
          obtain ⟨sh, hsh⟩ : ∃ sh, (shapeV c.op).1 = sh := ⟨_, rfl⟩
          rw [hsh] at HS HFL q3 q4 HPUT h2
          have h2' : (sh != 2) = true := by simpa using h2
          clear hput hpl hoc hbl hwc hwc2 hbm hbb hbr hbn hby1 hyl hl he hvn hnc hncm hli hsh h2
          go_wp2_with (first | (go_at_call 179; refine (HS.out _).mono ?_; rintro e w1 ⟨rfl, rfl⟩) | (go_at_call 180; refine (HOP.out _).mono ?_; rintro e w2 ⟨rfl, hb2⟩; have st2 := st1.below hb2; clear HOP) | (at_builtin; refine Lib.wpList_append_own_string _ rfl _ _ 57 9 rfl w0.heap.size 5 i0 Tryz.underlying57 Tryz.underlying9 hi0 hz0 hz1 hz2 _ ys.length (ys.map (Value.int .u8)) rfl st2.by' (strOfNums (opB c.op)) rfl q1.out q2.out st2.size ?_; intro v3 w3 hown3 hg3 _; have st3 := st2.str (opB_byte c.op) hown3 hg3; clear hown3 hg3 q1 q2; obtain ⟨d0, d1, d2, d3, d4, d5, d6⟩ := st3.at) | (go_at_call 181; refine (HFL.out _ st3.lies).mono ?_; rintro e w4 ⟨rfl, hb4⟩; have st4 := st3.below hb4; clear HFL) | (at_builtin; refine Lib.wpList_append_own_string _ rfl _ _ 57 9 rfl w0.heap.size 5 i0 Tryz.underlying57 Tryz.underlying9 hi0 hz0 hz1 hz2 _ (ys ++ opB c.op).length ((ys ++ opB c.op).map (Value.int .u8)) rfl st4.by' (strOfNums (fldB sh c.a c.b c.m c.n)) rfl q3.out q4.out st4.size ?_; intro v5 w5 hown5 hg5 _; have st5 := st4.str (fldB_byte _ c.a c.b c.m c.n) hown5 hg5; clear hown5 hg5 q3 q4; obtain ⟨f0, f1, f2, f3, f4, f5, f6⟩ := st5.at))
          exact ⟨⟨i + 1, by go_num, by omega, by rw [HPUT.out]; exact st5.by', st5.keep⟩, by simp [intOf]; omega⟩
      · have hie : i = len := by omega
        subst hie
        have HE : Hid (xs ++ putL (ls.take i) = xs ++ putL ls) := Lib.hid (by rw [HLEN.out, List.take_length])
        go_wp2_with fail
        go_ret
        exact ⟨_, rfl, HE.out ▸ HBR.out, HKR.out⟩
/-- What laying comes to. -/
def putV (ls : List Ins) : List Int × Int := if (cP 0 0 ls).2 = true then (putL ls ++ [11], 0) else ([], 1)
theorem cP_yes {d n : Nat} {l : List Ins} (h : (cP d n l).2 = true) : okL d l = true ∧ n + sizL l ≤ 8192 := by
  unfold cP at h
  split at h
  · assumption
  · cases h
set_option maxRecDepth 100000 in
set_option maxHeartbeats 1000000 in
theorem Put_any (ls : List Ins) (x : Option Addr) (len cap : Nat) (w : World) (h : InsIn w x len cap ls) (hwf : wfL ls) :
    Calls Tryz.prog 126 #[.slice x len cap] w fun e w' => e = .returned (.tuple #[.string (strOfNums (putV ls).1), .int .i64 (putV ls).2]) ∧ Below w.heap.size w w' := by
  have HC := Lib.hid (Count_any ls x len cap w h)
  unfold putV
  by_cases hc : (cP 0 0 ls).2 = true
  · rw [if_pos hc]
    obtain ⟨hok, hn⟩ := cP_yes hc
    have hlen := putL_len 0 ls hok
    obtain ⟨i0, hi0, hz0, hz1, hz2⟩ := info_parts info_u8
    have HA : Hid (∀ w', Below w.heap.size w w' → Calls Tryz.prog 157 #[.slice none 0 0, .slice x len cap] w' fun e w2 => GivesI w.heap.size (putL ls) w' e w2) := Lib.hid fun w' hb =>
      appendAll_all _ 0 ls x len cap w w' _ [] (Nat.lt_succ_self _) hok hwf h hb (World.ownsRow_nil _ _ _ _) (by rw [List.length_nil]; omega)
    have q5 : Hid ((putL ls).length + 1 ≤ maxLen) := Lib.hid (by unfold maxLen; omega)
    have q6 : Hid (((putL ls).length + 1) * 1 ≤ 140737488355328) := Lib.hid (by omega)
    rw [hc] at HC
    clear hc hok hn hlen h hwf
    revert HC
    generalize (cP 0 0 ls).1 = n
    intro HC
    go_enter Tryz.func126, Tryz.ntmps126
    go_wp2_with (first
      | (go_at_call 156; refine HC.out.mono ?_; rintro e w1 ⟨rfl, hb1⟩)
      | (go_at_call 157; refine (HA.out _ hb1).mono ?_; rintro e w2 ⟨v2, rfl, hby2, hk2⟩; have hb2 := hb1.trans hk2.below; have hz3 := hb2.size)
      | (at_builtin; refine wpList_append_own _ rfl _ _ 57 rfl w.heap.size 5 i0 (.int .u8 0) 1 1 Tryz.underlying57 hi0 hz0 hz1 hz2 rfl (by decide) _ (putL ls).length ((putL ls).map (Value.int .u8)) rfl (World.ownsRow.alloc hby2 _) ⟨w2.heap.size, 0, none⟩ 1 1 [.int .u8 11] rfl rfl (cell_one_new _ _ _) (one_u8 _) q5.out q6.out (le_alloc hz3) ?_; intro v9 w9 hown9 hg9 _; have hcv := bytes_conv (Bytes.snoc hown9); have hb9 := grown_below hby2 hb2 (Nat.le_refl _) hg9; clear hown9 hg9))
    go_ret2
    exact ⟨rfl, hb9⟩
  · rw [if_neg hc]
    rw [not_true hc] at HC
    clear hc h hwf
    revert HC
    generalize (cP 0 0 ls).1 = n
    intro HC
    go_enter Tryz.func126, Tryz.ntmps126
    go_wp2_with (go_at_call 156; refine HC.out.mono ?_; rintro e w1 ⟨rfl, hb1⟩)
    go_ret2
    exact ⟨rfl, hb1⟩
end Go.Proofs.YtekonefnniaheaaGreat
namespace Go.Proofs.YtekonefnniaheaaGreat
open Go.RowKit
open Leb (byt len7 lenF sum7 sg7)

/-- n numbers more, behind those that there are. -/
def rowsF : Nat → List Int → ByteArray → Option (List Int × ByteArray)
  | 0, l, r => some (l, r)
  | n + 1, l, r => if okU r = true then rowsF n (l ++ [(sum7 r (len7 r 5) : Int)]) (r.extract (len7 r 5) r.size) else none
def allRes (s : ByteArray) (most : Int) : List Int × ByteArray × Int :=
  if okU s = true then
    if most < (sum7 s (len7 s 5) : Int) then ([], ⟨#[]⟩, 14)
    else match rowsF (sum7 s (len7 s 5)) [] (s.extract (len7 s 5) s.size) with
      | none => ([], ⟨#[]⟩, 2)
      | some (l, r) => (l, r, 0)
  else ([], ⟨#[]⟩, 2)
theorem size_rest (s : ByteArray) : (s.extract (len7 s 5) s.size).size ≤ s.size := by
  rw [ByteArray.size_extract]
  omega

end Go.Proofs.YtekonefnniaheaaGreat
namespace Go.Proofs.YtekonefnniaheaaGreat
open Go.RowKit
open Leb (byt len7 lenF sum7 sg7)

theorem rowsF_len : ∀ (n : Nat) (l : List Int) (r : ByteArray) (x : List Int × ByteArray), rowsF n l r = some x → x.1.length + x.2.size ≤ l.length + r.size := by
  intro n
  induction n with
  | zero =>
    intro l r x h
    cases h
    exact Nat.le_refl _
  | succ n ih =>
    intro l r x h
    rw [rowsF] at h
    by_cases hu : okU r = true
    · rw [if_pos hu] at h
      have h1 := ih _ _ _ h
      have h0 := (okU_parts hu).1
      have hle := Leb.len7_le r 5
      rw [List.length_append, List.length_singleton, ByteArray.size_extract] at h1
      omega
    · rw [if_neg hu] at h
      cases h
end Go.Proofs.YtekonefnniaheaaGreat
namespace Go.Proofs.YtekonefnniaheaaGreat
open Go.RowKit

open Leb (byt byt_lt byt_get)
theorem uR_size (s : ByteArray) : (uR s).size ≤ s.size := by
  unfold uR
  split
  · rw [ByteArray.size_extract]
    omega
  · exact Nat.zero_le _
theorem refByte1_any (n : Int) (w : World) :
    Calls Tryz.prog 115 #[.int .i64 n] w fun e w' => e = .returned (.string (strOfNums [n % 256])) ∧ Below w.heap.size w w' := by
  have hu : IntKind.u8.wrap n = n % 256 := by
    simp [IntKind.wrap, IntKind.signed, IntKind.bits]
  have hcv := one_conv (n % 256) w
  have HB := Lib.hid ((Below.refl w.heap.size w).alloc (Nat.le_refl _) (.cells #[.int .u8 (n % 256)] 5))
  go_enter Tryz.func115, Tryz.ntmps115
  go_wp2_with fail
  go_ret
  exact ⟨rfl, HB.out⟩
end Go.Proofs.YtekonefnniaheaaGreat
/- The project's taker: what it holds, and its smallest steps. -/
namespace Go.Proofs.YtekonefnniaheaaGreat
open Go.RowKit
open Leb (byt byt_lt byt_get)

/-- Of what was there, only these blocks may have turned. -/
structure Kept (F : Nat → Prop) (w w' : World) : Prop where
  os : w'.os = w.os
  tape : w'.tape = w.tape
  output : w'.output = w.output
  size : w.heap.size ≤ w'.heap.size
  block : ∀ k, k < w.heap.size → ¬ F k → w'.heap[k]? = w.heap[k]?
theorem Kept.refl (F : Nat → Prop) (w : World) : Kept F w w := ⟨rfl, rfl, rfl, Nat.le_refl _, fun _ _ _ => rfl⟩
theorem Kept.trans {F : Nat → Prop} {a b c : World} (h : Kept F a b) (k : Kept F b c) : Kept F a c :=
  ⟨k.os.trans h.os, k.tape.trans h.tape, k.output.trans h.output, Nat.le_trans h.size k.size, fun i hi hf => (k.block i (Nat.lt_of_lt_of_le hi h.size) hf).trans (h.block i hi hf)⟩
theorem Kept.of_below {F : Nat → Prop} {w w' : World} (h : Below w.heap.size w w') : Kept F w w' := ⟨h.os, h.tape, h.output, h.size, fun k hk _ => h.block k hk⟩
theorem Kept.set {F : Nat → Prop} {a w : World} (h : Kept F a w) {p : Addr} (hp : F p.block) (u : Value) : Kept F a (w.setCell p u) :=
  h.trans ⟨rfl, rfl, rfl, by simp [World.setCell], fun k _ hf => Below.heap_setCell _ _ _ _ (fun e => hf (e ▸ hp))⟩
theorem Kept.mono {F G : Nat → Prop} {w w' : World} (h : Kept F w w') (hf : ∀ k, F k → G k) : Kept G w w' := ⟨h.os, h.tape, h.output, h.size, fun k hk hg => h.block k hk (fun h => hg (hf k h))⟩
theorem Kept.below {F : Nat → Prop} {B : Nat} {w w' : World} (h : Kept F w w') (hB : B ≤ w.heap.size) (hf : ∀ k, F k → B ≤ k) : Below B w w' :=
  ⟨h.os, h.tape, h.output, h.size, fun k hk => h.block k (by omega) (fun hF => by have := hf k hF; omega)⟩
theorem Kept.cells {F : Nat → Prop} {w w' : World} (h : Kept F w w') {k : Nat} {o : Obj} (hk : w.heap[k]? = some o) (hf : ¬ F k) : w'.heap[k]? = some o := (h.block k (Array.getElem?_eq_some_iff.1 hk).1 hf).trans hk
/-- Blocks of cells. -/
def BlkAt (w : World) (b : Nat) (cs : Array Value) (T : TypeId) : Prop := w.heap[b]? = some (.cells cs T (0, 0))
theorem BlkAt.lt {w : World} {b : Nat} {cs : Array Value} {T : TypeId} (h : BlkAt w b cs T) : b < w.heap.size := (Array.getElem?_eq_some_iff.1 h).1
theorem BlkAt.below {w w' : World} {b : Nat} {cs : Array Value} {T : TypeId} (h : BlkAt w b cs T) (hb : Below w.heap.size w w') : BlkAt w' b cs T := (hb.block b h.lt).trans h
theorem BlkAt.kept {F : Nat → Prop} {w w' : World} {b : Nat} {cs : Array Value} {T : TypeId} (h : BlkAt w b cs T) (hk : Kept F w w') (hf : ¬ F b) : BlkAt w' b cs T := hk.cells h hf
theorem BlkAt.cell {w : World} {b : Nat} {cs : Array Value} {T : TypeId} (h : BlkAt w b cs T) (i : Nat) : w.cell? ⟨b, i, none⟩ = cs[i]? := by
  unfold World.cell?
  rw [show w.heap[(⟨b, i, none⟩ : Addr).block]? = some (.cells cs T (0, 0)) from h]
  rfl
theorem BlkAt.frozen {w : World} {b : Nat} {cs : Array Value} {T : TypeId} (h : BlkAt w b cs T) (i : Nat) : w.frozen? ⟨b, i, none⟩ = false := by
  unfold World.frozen?
  rw [show w.heap[(⟨b, i, none⟩ : Addr).block]? = some (.cells cs T (0, 0)) from h]
  simp
theorem BlkAt.put {w : World} {b : Nat} {cs : Array Value} {T : TypeId} (h : BlkAt w b cs T) (i : Nat) (v : Value) : BlkAt (w.setCell ⟨b, i, none⟩ v) b (cs.setIfInBounds i v) T := by
  unfold BlkAt at h ⊢
  simp only [World.setCell, Array.getElem?_modify, if_pos, h, Option.map_some]
  simp
theorem BlkAt.other {w : World} {b b' : Nat} {cs : Array Value} {T : TypeId} (h : BlkAt w b cs T) (hne : b ≠ b') (i : Nat) (v : Value) : BlkAt (w.setCell ⟨b', i, none⟩ v) b cs T :=
  (Below.heap_setCell _ _ _ _ (fun e => hne e)).trans h
theorem BlkAt.new (w : World) (cs : Array Value) (T : TypeId) : BlkAt (w.alloc (.cells cs T)) w.heap.size cs T := heap_alloc_new w _
/-- What a taker holds: what is behind, how many there were, the first fault. -/
def TkAt (w : World) (t : Nat) (r : ByteArray) (c f : Int) : Prop := BlkAt w t #[.string r, .int .i64 c, .int .i64 f] 208
theorem bodyPost_void {P : Program} {fn : Func} {R : Ending → World → Prop} {a : Act} {w : World} (hr : fn.results = #[]) (hd : a.defers = []) (hR : R (.returned (.tuple #[])) w) : bodyPost P fn R .normal a w :=
  ⟨hd, .tuple #[], by simp [results, hr, go_sem], hR⟩
end Go.Proofs.YtekonefnniaheaaGreat

/- The project's taker: numbers with a sign, labels, types. -/
namespace Go.Proofs.YtekonefnniaheaaGreat
open Go.RowKit
open Leb (byt byt_lt byt_get)

theorem Ints.kept {F : Nat → Prop} {base : Nat} {v : Value} {xs : List Int} {w w' : World} (h : Ints base v xs w) (hk : Kept F w w') (hf : ∀ k, F k → k < base) : Ints base v xs w' := by
  refine ⟨h.1, ?_⟩
  rcases h.2 with hn | ⟨g, cap, cur, rfl, hg, hgg, rest⟩
  · exact .inl hn
  · exact .inr ⟨g, cap, cur, rfl, hg, hk.cells hgg (fun q => by have := hf g q; omega), rest⟩
def tyE (s : ByteArray) : Int := if s.size = 0 then 2 else (typeV (byt s 0 : Nat)).2
def tyN (s : ByteArray) : Int := if tyE s = 0 then (typeV (byt s 0 : Nat)).1 else 0
def tyR (s : ByteArray) : ByteArray := if tyE s = 0 then s.extract 1 s.size else ⟨#[]⟩
theorem typeTup_eq (s : ByteArray) : typeTup s = .tuple #[.int .i64 (tyN s), .string (tyR s), .int .i64 (tyE s)] := by
  unfold typeTup tyN tyR tyE
  by_cases h : s.size = 0
  · simp only [h, if_true]
    rw [if_neg (by decide), if_neg (by decide)]
  · simp only [h, if_false]
    by_cases h2 : (typeV (byt s 0 : Nat)).2 = 0
    · simp only [h2, if_true]
    · simp only [h2, if_false]
theorem sR_size (s : ByteArray) (most : Nat) (half : Int) : (sR s most half).size ≤ s.size := by
  unfold sR
  split
  · rw [ByteArray.size_extract]; omega
  · exact Nat.zero_le _
theorem tyR_size (s : ByteArray) : (tyR s).size ≤ s.size := by
  unfold tyR
  split
  · rw [ByteArray.size_extract]; omega
  · exact Nat.zero_le _
theorem aR_size (s : ByteArray) (most : Int) : (allRes s most).2.1.size ≤ s.size := by
  unfold allRes
  split
  · split
    · exact Nat.zero_le _
    · cases hr : rowsF (Leb.sum7 s (Leb.len7 s 5)) [] (s.extract (Leb.len7 s 5) s.size) with
      | none => exact Nat.zero_le _
      | some x =>
        have h := rowsF_len _ _ _ _ hr
        have h2 := size_rest s
        simp only [List.length_nil] at h
        show x.2.size ≤ s.size
        omega
  · exact Nat.zero_le _
end Go.Proofs.YtekonefnniaheaaGreat

/- What reading comes to; the project's reading of types, places, constants. -/
namespace Go.Proofs.YtekonefnniaheaaGreat
open Go.RowKit
open Leb (byt byt_lt byt_get)

theorem Kept.then {F G : Nat → Prop} {a b c : World} (h : Kept F a b) (k : Kept G b c) (hg : ∀ i, i < a.heap.size → G i → F i) : Kept F a c :=
  ⟨k.os.trans h.os, k.tape.trans h.tape, k.output.trans h.output, Nat.le_trans h.size k.size, fun i hi hf => (k.block i (Nat.lt_of_lt_of_le hi h.size) (fun q => hf (hg i hi q))).trans (h.block i hi hf)⟩
/-- What reading a number comes to: it and what is behind, or a fault. -/
def uT (s : ByteArray) : Except Int (Int × ByteArray) := if okU s = true then .ok (uN s, uR s) else .error 2
def sT (s : ByteArray) (most : Nat) (half : Int) : Except Int (Int × ByteArray) := if okS s most half = true then .ok (sN s most half, sR s most half) else .error 2
def aT (s : ByteArray) : Except Int (List Int × ByteArray) := if (allRes s 1000).2.2 = 0 then .ok ((allRes s 1000).1, (allRes s 1000).2.1) else .error (allRes s 1000).2.2
def yT (s : ByteArray) : Except Int (Int × ByteArray) := if tyE s = 0 then .ok (tyN s, tyR s) else .error (tyE s)
def typesT (s : ByteArray) : Except Int (Int × ByteArray) := (uT s).bind fun q => if q.1 = 1 then yT q.2 else .error 2
def nullT (s : ByteArray) : Except Int (Int × ByteArray) := (yT s).bind fun q => if q.1 = 112 then .ok q else .error 2
def placeT (s : ByteArray) : Except Int ((Int × Int × Int) × ByteArray) := (uT s).bind fun q => if 128 ≤ q.1 then .error 2 else if 64 ≤ q.1 then (uT q.2).bind fun p => (uT p.2).bind fun o => .ok ((o.1, q.1 - 64, p.1), o.2) else (uT q.2).bind fun o => .ok ((o.1, q.1, 0), o.2)
def blkT (s : ByteArray) : Except Int (Int × ByteArray) :=
  if 0 < s.size ∧ 64 ≤ byt s 0 ∧ byt s 0 < 128 then (if byt s 0 = 64 then .ok (-64, s.extract 1 s.size) else (yT s).bind fun q => .ok ((byt s 0 : Int) - 128, q.2))
  else (sT s 5 4294967296).bind fun q => if q.1 < 0 then .error 2 else .ok q
/-- A step's outcome is what reading comes to. -/
def Fits {X : Type} (res : Except Int (X × ByteArray)) (x : X) (r : ByteArray) (f : Int) : Prop :=
  match res with
  | .ok q => f = 0 ∧ x = q.1 ∧ r = q.2
  | .error e => f = e ∧ e ≠ 0 ∧ r = ⟨#[]⟩
theorem fits_u (s : ByteArray) : Fits (uT s) (uN s) (uR s) (uE s) := by
  unfold uT Fits uE
  by_cases h : okU s = true
  · simp [h]
  · rw [if_neg h, if_neg h]
    exact ⟨rfl, by decide, if_neg h⟩
theorem fits_y (s : ByteArray) : Fits (yT s) (tyN s) (tyR s) (tyE s) := by
  unfold yT Fits
  by_cases h : tyE s = 0
  · rw [if_pos h]
    exact ⟨h, rfl, rfl⟩
  · rw [if_neg h]
    exact ⟨rfl, h, if_neg h⟩
theorem uN_range (r : ByteArray) : 0 ≤ uN r ∧ uN r ≤ 4294967295 := by
  unfold uN
  split
  · rename_i h
    have := (okU_parts h).2
    omega
  · omega
end Go.Proofs.YtekonefnniaheaaGreat

/- The project's reading of an instruction's numbers. -/
namespace Go.Proofs.YtekonefnniaheaaGreat
open Go.RowKit
open Leb (byt byt_lt byt_get)

theorem bodyPost_voidr {P : Program} {fn : Func} {R : Ending → World → Prop} {a : Act} {w : World} (hr : fn.results = #[]) (hd : a.defers = []) (hR : R (.returned (.tuple #[])) w) : bodyPost P fn R .ret a w :=
  ⟨hd, .tuple #[], by simp [results, hr, go_sem], hR⟩
def constT (op : Int) (s : ByteArray) : Except Int (Int × ByteArray) := if op = 66 then sT s 10 9223372036854775808 else sT s 5 2147483648
/-- What reading an instruction's numbers comes to: A, B, M, the labels; what is behind. -/
def numsT (op sh : Int) (s : ByteArray) : Except Int ((Int × Int × Int × List Int) × ByteArray) :=
  if sh = 2 then (blkT s).bind fun q => .ok ((q.1, 0, 0, []), q.2)
  else if sh = 3 then (uT s).bind fun q => .ok ((q.1, 0, 0, []), q.2)
  else if sh = 4 then (aT s).bind fun q => (uT q.2).bind fun p => .ok ((p.1, 0, 0, q.1), p.2)
  else if sh = 5 then (uT s).bind fun q => (uT q.2).bind fun p => .ok ((q.1, 0, p.1, []), p.2)
  else if sh = 6 then (typesT s).bind fun q => .ok ((q.1, 0, 0, []), q.2)
  else if sh = 7 then (placeT s).bind fun q => .ok ((q.1.1, q.1.2.1, q.1.2.2, []), q.2)
  else if sh = 8 then (uT s).bind fun q => .ok ((0, 0, q.1, []), q.2)
  else if sh = 9 then (uT s).bind fun q => (uT q.2).bind fun p => .ok ((p.1, 0, q.1, []), p.2)
  else if sh = 10 then (constT op s).bind fun q => .ok ((q.1, 0, 0, []), q.2)
  else if sh = 11 then (nullT s).bind fun q => .ok ((0, 0, 0, []), q.2)
  else .ok ((0, 0, 0, []), s)
end Go.Proofs.YtekonefnniaheaaGreat

/- The project's reading of an instruction's numbers, each shape. -/
namespace Go.Proofs.YtekonefnniaheaaGreat
open Go.RowKit

end Go.Proofs.YtekonefnniaheaaGreat

/- What reading instructions comes to; trees that a call makes. -/
namespace Go.Proofs.YtekonefnniaheaaGreat
open Go.RowKit Go.Deep
open Leb (byt byt_lt byt_get)

/-- What reading an opcode comes to. -/
def opT (s : ByteArray) : Except Int (Int × ByteArray) := if s.size = 0 then .error 2 else if byt s 0 = 252 then (uT (s.extract 1 s.size)).bind fun q => .ok (64512 + q.1, q.2) else .ok ((byt s 0 : Int), s.extract 1 s.size)
/-- What reading instructions comes to: they, the opcode behind them, how many there were; what is behind. -/
abbrev LRes := Except Int ((List Ins × Int × Nat) × ByteArray)
def blockT (L : ByteArray → Nat → Nat → LRes) (op a b m : Int) (ns : List Int) (s : ByteArray) (d n : Nat) : Except Int ((Ins × Nat) × ByteArray) :=
  (L s (d + 1) n).bind fun l => if l.1.2.1 = 11 then .ok ((.mk op a b m ns l.1.1 [], l.1.2.2), l.2) else if op = 4 then (L l.2 (d + 1) l.1.2.2).bind fun e => if e.1.2.1 = 11 then .ok ((.mk op a b m ns l.1.1 e.1.1, e.1.2.2), e.2) else .error 2 else .error 2
def instrT (L : ByteArray → Nat → Nat → LRes) (op : Int) (s : ByteArray) (d n : Nat) : Except Int ((Ins × Nat) × ByteArray) :=
  if (shapeV op).2 = 0 then (numsT op (shapeV op).1 s).bind fun p => if n + 1 ≤ 8192 then (if (shapeV op).1 = 2 then (if d < 32 then blockT L op p.1.1 p.1.2.1 p.1.2.2.1 p.1.2.2.2 p.2 d (n + 1) else .error 14) else .ok ((.mk op p.1.1 p.1.2.1 p.1.2.2.1 p.1.2.2.2 [] [], n + 1), p.2)) else .error 14 else .error (shapeV op).2
def takeL : Nat → ByteArray → Nat → Nat → LRes
  | 0, _, _, _ => .error 2
  | f + 1, s, d, n => (opT s).bind fun q => if q.1 = 11 ∨ q.1 = 5 then .ok (([], q.1, n), q.2) else (instrT (takeL f) q.1 q.2 d n).bind fun i => (takeL f i.2 d i.1.2).bind fun r => .ok ((i.1.1 :: r.1.1, r.1.2.1, r.1.2.2), r.2)
theorem bind_ok {X Y : Type} {res : Except Int X} {k : X → Except Int Y} {y : Y} (h : res.bind k = .ok y) : ∃ x, res = .ok x ∧ k x = .ok y := by
  cases res with
  | error e => cases h
  | ok x => exact ⟨x, rfl, h⟩
theorem uT_size {s : ByteArray} {q : Int × ByteArray} (h : uT s = .ok q) : q.2.size ≤ s.size := by
  unfold uT at h
  split at h
  · injection h with h
    rw [← h]
    exact uR_size s
  · cases h
theorem sT_size {s : ByteArray} {most : Nat} {half : Int} {q : Int × ByteArray} (h : sT s most half = .ok q) : q.2.size ≤ s.size := by
  unfold sT at h
  split at h
  · injection h with h
    rw [← h]
    exact sR_size s most half
  · cases h
theorem yT_size {s : ByteArray} {q : Int × ByteArray} (h : yT s = .ok q) : q.2.size ≤ s.size := by
  unfold yT at h
  split at h
  · injection h with h
    rw [← h]
    exact tyR_size s
  · cases h
theorem aT_size {s : ByteArray} {q : List Int × ByteArray} (h : aT s = .ok q) : q.2.size ≤ s.size := by
  unfold aT at h
  split at h
  · injection h with h
    rw [← h]
    exact aR_size s 1000
  · cases h
theorem blkT_size {s : ByteArray} {q : Int × ByteArray} (h : blkT s = .ok q) : q.2.size ≤ s.size := by
  unfold blkT at h
  split at h
  · split at h
    · injection h with h
      rw [← h]
      show (s.extract 1 s.size).size ≤ _
      rw [ByteArray.size_extract]; omega
    · obtain ⟨p, hp, h⟩ := bind_ok h
      injection h with h
      rw [← h]
      exact (yT_size hp : p.2.size ≤ s.size)
  · obtain ⟨p, hp, h⟩ := bind_ok h
    split at h
    · cases h
    · injection h with h
      rw [← h]
      exact sT_size hp
theorem numsT_size {op sh : Int} {s : ByteArray} {q : (Int × Int × Int × List Int) × ByteArray} (h : numsT op sh s = .ok q) : q.2.size ≤ s.size := by
  unfold numsT at h
  split at h
  · obtain ⟨p, hp, h⟩ := bind_ok h
    injection h with h
    rw [← h]
    exact blkT_size hp
  split at h
  · obtain ⟨p, hp, h⟩ := bind_ok h
    injection h with h
    rw [← h]
    exact uT_size hp
  split at h
  · obtain ⟨p, hp, h⟩ := bind_ok h
    obtain ⟨p2, hp2, h⟩ := bind_ok h
    injection h with h
    rw [← h]
    exact Nat.le_trans (uT_size hp2) (aT_size hp)
  split at h
  · obtain ⟨p, hp, h⟩ := bind_ok h
    obtain ⟨p2, hp2, h⟩ := bind_ok h
    injection h with h
    rw [← h]
    exact Nat.le_trans (uT_size hp2) (uT_size hp)
  split at h
  · obtain ⟨p, hp, h⟩ := bind_ok h
    injection h with h
    rw [← h]
    unfold typesT at hp
    obtain ⟨p2, hp2, hp⟩ := bind_ok hp
    split at hp
    · exact Nat.le_trans (yT_size hp) (uT_size hp2)
    · cases hp
  split at h
  · obtain ⟨p, hp, h⟩ := bind_ok h
    injection h with h
    rw [← h]
    unfold placeT at hp
    obtain ⟨p2, hp2, hp⟩ := bind_ok hp
    split at hp
    · cases hp
    split at hp
    · obtain ⟨p3, hp3, hp⟩ := bind_ok hp
      obtain ⟨p4, hp4, hp⟩ := bind_ok hp
      injection hp with hp
      rw [← hp]
      exact Nat.le_trans (uT_size hp4) (Nat.le_trans (uT_size hp3) (uT_size hp2))
    · obtain ⟨p3, hp3, hp⟩ := bind_ok hp
      injection hp with hp
      rw [← hp]
      exact Nat.le_trans (uT_size hp3) (uT_size hp2)
  split at h
  · obtain ⟨p, hp, h⟩ := bind_ok h
    injection h with h
    rw [← h]
    exact uT_size hp
  split at h
  · obtain ⟨p, hp, h⟩ := bind_ok h
    obtain ⟨p2, hp2, h⟩ := bind_ok h
    injection h with h
    rw [← h]
    exact Nat.le_trans (uT_size hp2) (uT_size hp)
  split at h
  · obtain ⟨p, hp, h⟩ := bind_ok h
    injection h with h
    rw [← h]
    unfold constT at hp
    split at hp
    · exact sT_size hp
    · exact sT_size hp
  split at h
  · obtain ⟨p, hp, h⟩ := bind_ok h
    injection h with h
    rw [← h]
    unfold nullT at hp
    obtain ⟨p2, hp2, hp⟩ := bind_ok hp
    split at hp
    · injection hp with hp
      rw [← hp]
      exact yT_size hp2
    · cases hp
  · injection h with h
    rw [← h]
    exact Nat.le_refl _
theorem opT_size {s : ByteArray} {q : Int × ByteArray} (h : opT s = .ok q) : q.2.size < s.size := by
  unfold opT at h
  split at h
  · cases h
  rename_i h0
  split at h
  · obtain ⟨p, hp, h⟩ := bind_ok h
    injection h with h
    rw [← h]
    have := uT_size hp
    rw [ByteArray.size_extract] at this
    show p.2.size < _
    omega
  · injection h with h
    rw [← h]
    show (s.extract 1 s.size).size < _
    rw [ByteArray.size_extract]
    omega
/-- Of what is read, less is behind, and there are not too many. -/
def LGood (L : ByteArray → Nat → Nat → LRes) : Prop := ∀ s d n q, L s d n = .ok q → n ≤ 8192 → q.2.size < s.size ∧ q.1.2.2 ≤ 8192 ∧ (q.1.2.1 = 11 ∨ q.1.2.1 = 5)
theorem blockT_good {L : ByteArray → Nat → Nat → LRes} (hL : LGood L) {op a b m : Int} {ns : List Int} {s : ByteArray} {d n : Nat} {q : (Ins × Nat) × ByteArray} (h : blockT L op a b m ns s d n = .ok q) (hn : n ≤ 8192) : q.2.size < s.size ∧ q.1.2 ≤ 8192 := by
  unfold blockT at h
  obtain ⟨l, hl, h⟩ := bind_ok h
  obtain ⟨g1, g2, g3⟩ := hL _ _ _ _ hl hn
  split at h
  · injection h with h
    rw [← h]
    exact ⟨g1, g2⟩
  split at h
  · obtain ⟨e, he, h⟩ := bind_ok h
    obtain ⟨k1, k2, k3⟩ := hL _ _ _ _ he g2
    split at h
    · injection h with h
      rw [← h]
      exact ⟨Nat.lt_trans k1 g1, k2⟩
    · cases h
  · cases h
theorem instrT_good {L : ByteArray → Nat → Nat → LRes} (hL : LGood L) {op : Int} {s : ByteArray} {d n : Nat} {q : (Ins × Nat) × ByteArray} (h : instrT L op s d n = .ok q) : q.2.size ≤ s.size ∧ q.1.2 ≤ 8192 := by
  unfold instrT at h
  split at h
  · obtain ⟨p, hp, h⟩ := bind_ok h
    have hs := numsT_size hp
    split at h
    · rename_i h8
      split at h
      · split at h
        · obtain ⟨g1, g2⟩ := blockT_good hL h h8
          exact ⟨by omega, g2⟩
        · cases h
      · injection h with h
        rw [← h]
        exact ⟨hs, h8⟩
    · cases h
  · cases h
theorem takeL_good (f : Nat) : LGood (takeL f) := by
  induction f with
  | zero => intro s d n q h; cases h
  | succ f ih =>
    intro s d n q h hn
    rw [takeL] at h
    obtain ⟨o, ho, h⟩ := bind_ok h
    have h0 := opT_size ho
    split at h
    · rename_i hor
      injection h with h
      rw [← h]
      exact ⟨h0, hn, hor⟩
    · obtain ⟨i, hi, h⟩ := bind_ok h
      obtain ⟨g1, g2⟩ := instrT_good ih hi
      obtain ⟨r, hr, h⟩ := bind_ok h
      obtain ⟨k1, k2, k3⟩ := ih _ _ _ _ hr g2
      injection h with h
      rw [← h]
      exact ⟨by show r.2.size < _; omega, k2, k3⟩
/-- Worlds that agree on these blocks. -/
def Agree (P : Nat → Prop) (w w' : World) : Prop := ∀ k, P k → k < w.heap.size → w'.heap[k]? = w.heap[k]?
/-- Instructions that lie, whatever happens to other blocks than these. -/
structure OwnP (P : Nat → Prop) (w : World) (x : Option Addr) (len cap : Nat) (ls : List Ins) : Prop where
  eq : len = ls.length
  le : len ≤ cap
  top : cap ≤ 9223372036854775807
  lies : ∀ w', Agree P w w' → LiesL w' x ls
theorem Agree.refl (P : Nat → Prop) (w : World) : Agree P w w := fun _ _ _ => rfl
theorem Agree.next {P Q : Nat → Prop} {w w1 w' : World} (h : Agree Q w1 w') (h1 : Agree P w w1) (hz : w.heap.size ≤ w1.heap.size) (hq : ∀ k, P k → k < w.heap.size → Q k) : Agree P w w' :=
  fun k hp hk => (h k (hq k hp hk) (by omega)).trans (h1 k hp hk)
theorem OwnP.next {P Q : Nat → Prop} {w w1 : World} {x : Option Addr} {len cap : Nat} {ls : List Ins} (h : OwnP P w x len cap ls) (h1 : Agree P w w1) (hz : w.heap.size ≤ w1.heap.size) (hq : ∀ k, P k → k < w.heap.size → Q k) : OwnP Q w1 x len cap ls :=
  ⟨h.eq, h.le, h.top, fun w' hw => h.lies w' (hw.next h1 hz hq)⟩
theorem Kept.agree {F P : Nat → Prop} {w w' : World} (h : Kept F w w') (hp : ∀ k, P k → k < w.heap.size → ¬ F k) : Agree P w w' := fun k hk hl => h.block k hl (hp k hk hl)
theorem own_nil (P : Nat → Prop) (w : World) : OwnP P w none 0 0 [] := ⟨rfl, Nat.le_refl _, by decide, fun _ _ => by unfold LiesL; trivial⟩
/-- Seven values are an instruction, whatever happens to other blocks than these. -/
def ElP (P : Nat → Prop) (w : World) (i : Ins) (us : List Value) : Prop :=
  ∃ xn cn xl cl xe ce, us = [.int .i64 i.op, .int .i64 i.a, .int .i64 i.b, .int .i64 i.m, .slice xn i.n.length cn, .slice xl i.l.length cl, .slice xe i.e.length ce] ∧
    (i.n.length ≤ cn ∧ cn ≤ 9223372036854775807) ∧ (∀ w', Agree P w w' → View w' xn i.n.length i.n) ∧ OwnP P w xl i.l.length cl i.l ∧ OwnP P w xe i.e.length ce i.e
theorem ElP.next {P Q : Nat → Prop} {w w1 : World} {i : Ins} {us : List Value} (h : ElP P w i us) (h1 : Agree P w w1) (hz : w.heap.size ≤ w1.heap.size) (hq : ∀ k, P k → k < w.heap.size → Q k) : ElP Q w1 i us := by
  obtain ⟨xn, cn, xl, cl, xe, ce, e, hc, hv, hl, he⟩ := h
  exact ⟨xn, cn, xl, cl, xe, ce, e, hc, fun w' hw => hv w' (hw.next h1 hz hq), hl.next h1 hz hq, he.next h1 hz hq⟩
/-- Values, seven for each of these instructions. -/
inductive ElsP (P : Nat → Prop) (w : World) : List Ins → List Value → Prop
  | nil : ElsP P w [] []
  | cons {i : Ins} {us : List Value} {ls : List Ins} {vs : List Value} : ElP P w i us → ElsP P w ls vs → ElsP P w (i :: ls) (us ++ vs)
theorem ElsP.next {P Q : Nat → Prop} {w w1 : World} {ls : List Ins} {vs : List Value} (h : ElsP P w ls vs) (h1 : Agree P w w1) (hz : w.heap.size ≤ w1.heap.size) (hq : ∀ k, P k → k < w.heap.size → Q k) : ElsP Q w1 ls vs := by
  induction h with
  | nil => exact .nil
  | cons a _ ih => exact .cons (a.next h1 hz hq) ih
theorem ElsP.snoc {P : Nat → Prop} {w : World} {ls : List Ins} {vs : List Value} {i : Ins} {us : List Value} (h : ElsP P w ls vs) (hi : ElP P w i us) : ElsP P w (ls ++ [i]) (vs ++ us) := by
  induction h with
  | nil => simpa using ElsP.cons hi .nil
  | cons a _ ih =>
    rw [List.cons_append, List.append_assoc]
    exact .cons a ih
theorem ElP.length {P : Nat → Prop} {w : World} {i : Ins} {us : List Value} (h : ElP P w i us) : us.length = 7 := by
  obtain ⟨xn, cn, xl, cl, xe, ce, e, _⟩ := h
  rw [e]; rfl
theorem ElsP.length {P : Nat → Prop} {w : World} {ls : List Ins} {vs : List Value} (h : ElsP P w ls vs) : vs.length = ls.length * 7 := by
  induction h with
  | nil => rfl
  | cons a _ ih =>
    rw [List.length_append, a.length, ih, List.length_cons]
    omega
theorem ElsP.lies {P : Nat → Prop} {w w' : World} {ls : List Ins} {vs : List Value} (h : ElsP P w ls vs) (ha : Agree P w w') (g off : Nat) (hc : ∀ j v, vs[j]? = some v → w'.cell? ⟨g, off + j, none⟩ = some v) : LiesL w' (some ⟨g, off, none⟩) ls := by
  induction h generalizing off with
  | nil => unfold LiesL; trivial
  | @cons i us ls vs a b ih =>
    have h7 := a.length
    obtain ⟨xn, cn, xl, cl, xe, ce, e, hn, hv, hl, he⟩ := a
    unfold LiesL
    refine ⟨g, off, rfl, ?_, ih (off + 7) fun j v hj => ?_⟩
    · have key : ∀ j v, us[j]? = some v → w'.cell? ⟨g, off + j, none⟩ = some v := fun j v hj => hc j v (by
        have hlt := (List.getElem?_eq_some_iff.1 hj).1
        rw [List.getElem?_append_left hlt]
        exact hj)
      subst e
      have k0 := key 0 _ rfl
      have k1 := key 1 _ rfl
      have k2 := key 2 _ rfl
      have k3 := key 3 _ rfl
      have k4 := key 4 _ rfl
      have k5 := key 5 _ rfl
      have k6 := key 6 _ rfl
      cases i with
      | mk op a b' m n l e =>
        unfold LiesI
        exact ⟨k0, k1, k2, k3, ⟨xn, cn, k4, hv w' ha, hn.1, hn.2⟩, ⟨xl, cl, k5, hl.lies w' ha, hl.le, hl.top⟩, ⟨xe, ce, k6, he.lies w' ha, he.le, he.top⟩⟩
    · rw [show off + 7 + j = off + (j + 7) by omega]
      refine hc (j + 7) v ?_
      rw [List.getElem?_append_right (by omega), h7, Nat.add_sub_cancel]
      exact hj
/-- A slice that a call has made so far, and what lies in it. -/
def RowP (B : Nat) (w : World) (v : Value) (ls : List Ins) : Prop := ∃ vs, w.ownsRow B 50 7 v ls.length vs ∧ ElsP (fun k => B ≤ k ∧ some k ≠ v.ownBlock) w ls vs
theorem RowP.own {B : Nat} {w : World} {v : Value} {ls : List Ins} (h : RowP B w v ls) : ∃ x cap, v = .slice x ls.length cap ∧ OwnP (B ≤ ·) w x ls.length cap ls := by
  obtain ⟨vs, hown, hel⟩ := h
  rcases hown.2 with ⟨hn, h0⟩ | ⟨g, cap, cur, hn, hb, hg, hcap, htop, hcs, htk⟩
  · have hl : ls = [] := List.length_eq_zero_iff.1 h0
    subst hl
    exact ⟨none, 0, hn, own_nil _ _⟩
  · subst hn
    unfold maxLen at htop
    refine ⟨_, cap, rfl, rfl, hcap, by omega, fun w' hw => ?_⟩
    have hgl : g < w.heap.size := (Array.getElem?_eq_some_iff.1 hg).1
    have hg' := (hw g hb hgl).trans hg
    refine hel.lies (fun k hk hl => hw k hk.1 hl) g 0 fun j v hj => ?_
    unfold World.cell?
    rw [hg']
    show cur[0 + j]? = some v
    rw [Nat.zero_add, ← hj, ← htk, List.getElem?_take, if_pos, Array.getElem?_toList]
    have := (List.getElem?_eq_some_iff.1 hj).1
    rw [hel.length] at this
    exact this
end Go.Proofs.YtekonefnniaheaaGreat

/- The project's reading of an opcode; a taker that has a fault. -/
namespace Go.Proofs.YtekonefnniaheaaGreat
open Go.RowKit Go.Deep
open Leb (byt byt_lt byt_get)

end Go.Proofs.YtekonefnniaheaaGreat

/- The project's reading of a block, and of an instruction, as far as lists are read. -/
namespace Go.Proofs.YtekonefnniaheaaGreat
open Go.RowKit Go.Deep
open Leb (byt byt_lt byt_get)

/-- A step's outcome is what reading comes to, and of what is read this holds. -/
def FitsB {X : Type} (res : Except Int (X × ByteArray)) (r : ByteArray) (f : Int) (Q : X → Prop) : Prop :=
  match res with
  | .ok q => f = 0 ∧ r = q.2 ∧ Q q.1
  | .error e => f = e ∧ e ≠ 0 ∧ r = ⟨#[]⟩
theorem FitsB.cases {X : Type} {res : Except Int (X × ByteArray)} {r : ByteArray} {f : Int} {Q : X → Prop} (h : FitsB res r f Q) : (f = 0 ∧ ∃ x, res = .ok (x, r) ∧ Q x) ∨ (f ≠ 0 ∧ r = ⟨#[]⟩ ∧ res = .error f) := by
  unfold FitsB at h
  cases res with
  | error e =>
    obtain ⟨a, b, c⟩ := h
    exact .inr ⟨by rw [a]; exact b, c, by rw [a]⟩
  | ok q =>
    obtain ⟨a, b, c⟩ := h
    exact .inl ⟨a, q.1, by rw [b], c⟩
theorem Fits.cases {X : Type} {res : Except Int (X × ByteArray)} {x : X} {r : ByteArray} {f : Int} (h : Fits res x r f) : (f = 0 ∧ res = .ok (x, r)) ∨ (f ≠ 0 ∧ r = ⟨#[]⟩ ∧ res = .error f) := by
  unfold Fits at h
  cases res with
  | error e =>
    obtain ⟨a, b, c⟩ := h
    exact .inr ⟨by rw [a]; exact b, c, by rw [a]⟩
  | ok q =>
    obtain ⟨a, b, c⟩ := h
    exact .inl ⟨a, by rw [b, c]⟩
theorem FitsB.mono {X : Type} {res : Except Int (X × ByteArray)} {r : ByteArray} {f : Int} {Q Q' : X → Prop} (h : FitsB res r f Q) (hq : ∀ x, Q x → Q' x) : FitsB res r f Q' := by
  unfold FitsB at h ⊢
  cases res with
  | error e => exact h
  | ok q => exact ⟨h.1, h.2.1, hq _ h.2.2⟩
def StOk (g : Nat) (r : ByteArray) (c f : Int) (d : Nat) : Prop := (f ≠ 0 ∧ r = ⟨#[]⟩) ∨ (f = 0 ∧ r.size < g ∧ r.size ≤ 1000000000 ∧ d ≤ 32 ∧ ∃ n : Nat, c = n ∧ n ≤ 8192)
theorem StOk.next {g : Nat} {r r1 : ByteArray} {c f c1 f1 last : Int} {d : Nat} {P : List Ins → Prop} (h : StOk g r c f d) (q1 : FitsB (if f = 0 then takeL g r d c.toNat else .error f) r1 f1 (fun q => last = q.2.1 ∧ c1 = (q.2.2 : Nat) ∧ P q.1)) : StOk g r1 c1 f1 d := by
  rcases q1.cases with ⟨hf, x, hx, h1, h2, h3⟩ | ⟨hf, hr, _⟩
  · rcases h with ⟨h0, _⟩ | ⟨h0, k1, k2, k3, n, k4, k5⟩
    · rw [if_neg h0] at hx
      cases hx
    · rw [if_pos h0, k4, Int.toNat_natCast] at hx
      obtain ⟨g1, g2, g3⟩ := takeL_good g _ _ _ _ hx k5
      exact .inr ⟨hf, Nat.lt_trans g1 k1, Nat.le_trans (Nat.le_of_lt g1) k2, k3, _, h2, g2⟩
  · exact .inl ⟨hf, hr⟩
end Go.Proofs.YtekonefnniaheaaGreat

/- The project's reading of an instruction, as far as lists are read. -/
namespace Go.Proofs.YtekonefnniaheaaGreat
open Go.RowKit Go.Deep
open Leb (byt byt_lt byt_get)

theorem Ints.stay {B : Nat} {x : Option Addr} {n : List Int} {cap : Nat} {w : World} (h : Ints B (.slice x n.length cap) n w) : (n.length ≤ cap ∧ cap ≤ 9223372036854775807) ∧ ∀ w', Agree (B ≤ ·) w w' → View w' x n.length n := by
  rcases h.2 with ⟨hn, h0⟩ | ⟨g, cap', cur, hn, hb, hg, hc, hm, hcs, htk⟩
  · injection hn with h1 h2 h3
    exact ⟨by omega, fun w' _ => .inl h2⟩
  · injection hn with h1 h2 h3
    subst h1 h3
    unfold maxLen at hm
    refine ⟨by omega, fun w' hw => .inr ⟨g, 0, rfl, fun i hi => ?_⟩⟩
    have hg' := (hw g hb (Array.getElem?_eq_some_iff.1 hg).1).trans hg
    have hc := World.ownsRow.cells h (g := g) rfl i (.int .i64 (n.getD i 0)) (by simp [List.getElem?_eq_getElem hi])
    have hadd : (⟨g, 0, none⟩ : Addr).add i = ⟨g, 0 + i, none⟩ := by unfold Addr.add; split <;> simp_all
    rw [hadd] at hc
    rw [← hc]
    unfold World.cell?
    rw [hg', hg]
end Go.Proofs.YtekonefnniaheaaGreat

/- The project's reading of lists, and of all. -/
namespace Go.Proofs.YtekonefnniaheaaGreat
open Go.RowKit Go.Deep
open Leb (byt byt_lt byt_get)

/-- How much is behind in a taker. -/
def szAt (w : World) (t : Nat) : Nat := match w.cell? ⟨t, 0, none⟩ with
  | some (.string s) => s.size
  | _ => 0
theorem TkAt.sz {w : World} {t : Nat} {r : ByteArray} {c f : Int} (h : TkAt w t r c f) : szAt w t = r.size := by
  unfold szAt
  rw [h.cell 0]
  rfl
end Go.Proofs.YtekonefnniaheaaGreat

/- The project's reading, whole. -/
namespace Go.Proofs.YtekonefnniaheaaGreat
open Go.RowKit Go.Deep
open Leb (byt byt_lt byt_get)

/-- What reading comes to: instructions, and what is behind their end. -/
def takeT (s : ByteArray) : Except Int (List Ins × ByteArray) := (takeL (s.size + 1) s 0 0).bind fun q => if q.1.2.1 = 11 then .ok (q.1.1, q.2) else .error 2
end Go.Proofs.YtekonefnniaheaaGreat
namespace Go.Proofs.YtekonefnniaheaaGreat
namespace Utf

def scal (p : Int) : Bool := decide (0 ≤ p ∧ p ≤ 1114111 ∧ (p < 55296 ∨ 57343 < p))
/-- The two units of a great character. -/
def hiU (p : Int) : Int := 55296 + (p - 65536) / 1024
def loU (p : Int) : Int := 56320 + (p - 65536) % 1024
/-- A character's bytes in a form; none: there are none. -/
def oneL (form p : Int) : List Int :=
  if scal p = true then
    if form = 2 then (if 255 < p then [] else [p])
    else if form = 1 then
      (if p < 65536 then [p % 256, p / 256] else [hiU p % 256, hiU p / 256, loU p % 256, loU p / 256])
    else if form = 0 then
      (if p < 128 then [p]
       else if p < 2048 then [192 + p / 64, 128 + p % 64]
       else if p < 65536 then [224 + p / 4096, 128 + p / 64 % 64, 128 + p % 64]
       else [240 + p / 262144, 128 + p / 4096 % 64, 128 + p / 64 % 64, 128 + p % 64])
    else []
  else []

theorem scal_parts {p : Int} (h : scal p = true) : 0 ≤ p ∧ p ≤ 1114111 ∧ (p < 55296 ∨ 57343 < p) := of_decide_eq_true h
theorem oneL_no {form p : Int} (h : scal p = false) : oneL form p = [] := by
  unfold oneL
  rw [h]
  rfl
theorem oneL_2a {p : Int} (h : scal p = true) (hp : 255 < p) : oneL 2 p = [] := by
  unfold oneL
  rw [if_pos h, if_pos rfl, if_pos hp]
theorem oneL_2 {p : Int} (h : scal p = true) (hp : ¬ 255 < p) : oneL 2 p = [p] := by
  unfold oneL
  rw [if_pos h, if_pos rfl, if_neg hp]
theorem oneL_1a {p : Int} (h : scal p = true) (hp : p < 65536) : oneL 1 p = [p % 256, p / 256] := by
  unfold oneL
  rw [if_pos h, if_neg (by decide), if_pos rfl, if_pos hp]
theorem oneL_1b {p : Int} (h : scal p = true) (hp : ¬ p < 65536) : oneL 1 p = [hiU p % 256, hiU p / 256, loU p % 256, loU p / 256] := by
  unfold oneL
  rw [if_pos h, if_neg (by decide), if_pos rfl, if_neg hp]
theorem oneL_0a {p : Int} (h : scal p = true) (hp : p < 128) : oneL 0 p = [p] := by
  unfold oneL
  rw [if_pos h, if_neg (by decide), if_neg (by decide), if_pos rfl, if_pos hp]
theorem oneL_0b {p : Int} (h : scal p = true) (h1 : ¬ p < 128) (h2 : p < 2048) : oneL 0 p = [192 + p / 64, 128 + p % 64] := by
  unfold oneL
  rw [if_pos h, if_neg (by decide), if_neg (by decide), if_pos rfl, if_neg h1, if_pos h2]
theorem oneL_0c {p : Int} (h : scal p = true) (h1 : ¬ p < 2048) (h2 : p < 65536) : oneL 0 p = [224 + p / 4096, 128 + p / 64 % 64, 128 + p % 64] := by
  unfold oneL
  rw [if_pos h, if_neg (by decide), if_neg (by decide), if_pos rfl, if_neg (by omega), if_neg h1, if_pos h2]
theorem oneL_0d {p : Int} (h : scal p = true) (h1 : ¬ p < 65536) : oneL 0 p = [240 + p / 262144, 128 + p / 4096 % 64, 128 + p / 64 % 64, 128 + p % 64] := by
  unfold oneL
  rw [if_pos h, if_neg (by decide), if_neg (by decide), if_pos rfl, if_neg (by omega), if_neg (by omega), if_neg h1]
theorem oneL_other {form p : Int} (h0 : form ≠ 0) (h1 : form ≠ 1) (h2 : form ≠ 2) : oneL form p = [] := by
  unfold oneL
  by_cases h : scal p = true
  · rw [if_pos h, if_neg h2, if_neg h1, if_neg h0]
  · rw [if_neg h]
end Utf
end Go.Proofs.YtekonefnniaheaaGreat
