/- Texts of the proof of ModuleOrderUptoProof, part 5. -/
import Derived.BigQuiet
import Derived.Deep.QuietTactic
import Derived.Test.YtekonefnniaheaaGreatModuleOrderUptoProofQ1
import Derived.Test.YtekonefnniaheaaGreatModuleOrderUptoProofQ3
import Derived.Test.YtekonefnniaheaaGreatModuleOrderUptoProofQ4
namespace Go.Proofs.YtekonefnniaheaaGreat
open Go.RowKit
open Leb (putU putS)

set_option maxRecDepth 100000 in
set_option maxHeartbeats 8000000 in
theorem appendAll_all (N : Nat) : ∀ (d : Nat) (ls : List Ins) (x : Option Addr) (len cap : Nat) (w0 w : World) (v : Value) (xs : List Int), SizeOf.sizeOf ls < N → okL d ls = true → wfL ls → InsIn w0 x len cap ls → Below w0.heap.size w0 w → Bytes w0.heap.size v xs w → xs.length + (putL ls).length ≤ 1000000000 →
    Calls Tryz.prog 157 #[v, .slice x len cap] w fun e w' => GivesI w0.heap.size (xs ++ putL ls) w e w' := by
  induction N with
  | zero => exact fun _ _ _ _ _ _ _ _ _ h => absurd h (by omega)
  | succ N ih =>
    intro d ls x len cap w0 w v xs hN hok hwf hin hb0 hby hmax
    obtain ⟨hlen, hle, htop, hlies⟩ := hin
    obtain ⟨i0, hi0, hz0, hz1, hz2⟩ := info_parts info_u8
    have HLEN := Lib.hid hlen
    have HLIES := Lib.hid hlies
    have HIH := Lib.hid ih
    have HNN := Lib.hid hN
    have HOK := Lib.hid hok
    have HWF := Lib.hid hwf
    have HB0 := Lib.hid hb0
    have HMAX := Lib.hid hmax
    clear ih hlies hN hlen hok hwf hb0 hmax
    go_enter Tryz.func157, Tryz.ntmps157
    go_wp2_with fail
    go_loopw [0, 11] (fun b iv wr => ∃ (i : Nat), iv = .int .i64 i ∧ i ≤ len ∧ Bytes w0.heap.size b (xs ++ putL (ls.take i)) wr ∧ KeepI w0.heap.size w wr) (fun _ iv _ => len - (intOf iv).toNat)
    case atStart => exact ⟨0, rfl, by omega, by rw [List.take_zero, putL, List.append_nil]; exact hby, KeepI.refl _ _⟩
    case round =>
      obtain ⟨i, rfl, hi, hbyr, hkr⟩ := hrel
      clear hby
      have HBR := Lib.hid hbyr
      have HKR := Lib.hid hkr
      clear hbyr hkr
      by_cases hlt : i < len
      · have hil : i < ls.length := by rw [← HLEN.out]; exact hlt
        obtain ⟨b, off, rfl⟩ := LiesL.addr HLIES.out (by omega)
        have hli := LiesL.at HLIES.out i hil
        have hsz : SizeOf.sizeOf (ls.getD i default) < SizeOf.sizeOf ls := by
          rw [List.getD_eq_getElem?_getD, List.getElem?_eq_getElem hil]
          exact List.sizeOf_lt_of_mem (List.getElem_mem hil)
        have hoc := okL_at HOK.out hil
        have hwc := wfL_at HWF.out hil
        have hsp := putL_split hil
        have htk := congrArg (xs ++ ·) (putL_take hil)
        have HTK := Lib.hid htk
        clear htk
        revert hli hsz hoc hwc hsp HTK
        generalize ls.getD i default = c
        intro hli hsz hoc hwc hsp HTK
        have hby1 := HBR.out
        have hyl : (xs ++ putL (ls.take i)).length + (putI c).length ≤ 1000000000 := by have := HMAX.out; rw [List.length_append]; omega
        have HNX : Hid (xs ++ putL (ls.take (i + 1)) = xs ++ putL (ls.take i) ++ putI c) := Lib.hid (HTK.out.trans (List.append_assoc _ _ _).symm)
        clear HBR hsp HTK
        revert hby1 hyl HNX
        generalize xs ++ putL (ls.take i) = ys
        intro hby1 hyl HNX
        have hbw := HB0.out.trans HKR.out.below
        obtain ⟨xn, nc, xl, lc, xe, ec, c0, c1, c2, c3, c4, c5, c6, hvn, hnc, hncm, hl, he⟩ := hli.may
        replace c0 := (hbw.cell (World.block_lt_of_cell? w0 _ c0)).trans c0
        replace c1 := (hbw.cell (World.block_lt_of_cell? w0 _ c1)).trans c1
        replace c2 := (hbw.cell (World.block_lt_of_cell? w0 _ c2)).trans c2
        replace c3 := (hbw.cell (World.block_lt_of_cell? w0 _ c3)).trans c3
        replace c4 := (hbw.cell (World.block_lt_of_cell? w0 _ c4)).trans c4
        replace c5 := (hbw.cell (World.block_lt_of_cell? w0 _ c5)).trans c5
        replace c6 := (hbw.cell (World.block_lt_of_cell? w0 _ c6)).trans c6
        obtain ⟨el, hel⟩ : ∃ el, c.e.length = el := ⟨_, rfl⟩
        rw [hel] at c6 he
        have HEL := Lib.hid hel
        have HHL := Lib.hid hl
        have HHE := Lib.hid he
        have hmay : mayI c = true := by
          rw [okI_eq, Bool.and_eq_true] at hoc
          exact hoc.1
        have her := (mayI_parts hmay).1
        obtain ⟨hbm, hbb, hbn, hbr, _⟩ := mayI_bounds hmay
        have hbl : (shapeV c.op).1 = 2 → 2 ≤ c.op ∧ c.op ≤ 4 := shapeV_two
        have hopl : c.op ≤ 9223372036854775807 := shapeV_top her
        have HSL : Hid (SizeOf.sizeOf c.l < N ∧ SizeOf.sizeOf c.e < N) := Lib.hid (by
          have := HNN.out
          cases c with
          | mk op a b m n' l' e' =>
            simp only [Ins.mk.sizeOf_spec] at hsz
            simp only [Ins.l, Ins.e]
            omega)
        have hwc2 := (wfI_eq c).1 hwc
        have HWA := Lib.hid hwc2
        have HS := Lib.hid (shape_any c.op)
        have HOP := Lib.hid (fun w => opcode_any c.op w hopl)
        rw [her] at HS
        have st1 := StI.start #[.int .i64 c.op, .int .i64 c.a, .int .i64 c.b, .int .i64 c.m, .slice xn c.n.length nc, .slice xl c.l.length lc, .slice xe el ec] hby1 HKR.out hbw hbw.size
        obtain ⟨a0, a1, a2, a3, a4, a5, a6⟩ := st1.at
        have hpl := congrArg List.length (putI_eq c)
        rw [List.length_append, List.length_append] at hpl
        have q1 : Hid (ys.length + (strOfNums (opB c.op)).size ≤ maxLen) := Lib.hid (by rw [strOfNums_size]; unfold maxLen; omega)
        have q2 : Hid (ys.length + (strOfNums (opB c.op)).size ≤ 140737488355328) := Lib.hid (by rw [strOfNums_size]; omega)
        have q3 : Hid ((ys ++ opB c.op).length + (strOfNums (fldB (shapeV c.op).1 c.a c.b c.m c.n)).size ≤ maxLen) := Lib.hid (by rw [strOfNums_size, List.length_append]; unfold maxLen; omega)
        have q4 : Hid ((ys ++ opB c.op).length + (strOfNums (fldB (shapeV c.op).1 c.a c.b c.m c.n)).size ≤ 140737488355328) := Lib.hid (by rw [strOfNums_size, List.length_append]; omega)
        have HFL : Hid (∀ w', Below w0.heap.size w0 w' → Calls Tryz.prog 181 #[.agg #[.int .i64 c.op, .int .i64 c.a, .int .i64 c.b, .int .i64 c.m, .slice xn c.n.length nc, .slice xl c.l.length lc, .slice xe el ec], .int .i64 (shapeV c.op).1] w' fun e w2 => e = .returned (.string (strOfNums (fldB (shapeV c.op).1 c.a c.b c.m c.n))) ∧ Below w'.heap.size w' w2) := Lib.hid fun w' hb' =>
          fields_any c xn xl xe c.n.length c.l.length el nc lc ec w' her rfl (hvn.below hb') hwc2.1.1 hwc2.1.2 (by omega) (by omega) (by omega) hbn (fun i hi => by have := hbr i hi; omega)
        have hput := putI_eq c
        rw [hel] at hput hpl
        clear hel
        by_cases h2 : (shapeV c.op).1 = 2
        · rw [if_pos h2] at hput hpl
          have hbk := hbl h2
          rw [okI_eq, if_pos hbk, Bool.and_eq_true, Bool.and_eq_true, Bool.and_eq_true] at hoc
          rw [List.length_append, List.length_append, List.length_singleton] at hpl
          rw [h2] at HS HFL q3 q4 hput hpl
          have hll : (putL c.l).length + (if el = 0 then ([] : List Int) else 5 :: putL c.e).length + 1 + ys.length + (opB c.op).length + (fldB 2 c.a c.b c.m c.n).length ≤ 1000000000 := by omega
          have HL : Hid (∀ w' v', Below w0.heap.size w0 w' → Bytes w0.heap.size v' (ys ++ opB c.op ++ fldB 2 c.a c.b c.m c.n) w' → Calls Tryz.prog 157 #[v', .slice xl c.l.length lc] w' fun e w2 => GivesI w0.heap.size (ys ++ opB c.op ++ fldB 2 c.a c.b c.m c.n ++ putL c.l) w' e w2) := Lib.hid fun w' v' hb' hby' =>
            HIH.out (d + 1) c.l xl c.l.length lc w0 w' v' _ HSL.out.1 hoc.2.2.1 HWA.out.2.1 HHL.out hb' hby' (by rw [List.length_append, List.length_append]; omega)
          by_cases h0 : el = 0
          · rw [if_pos h0] at hput hll
            have HPUT : Hid (xs ++ putL (ls.take (i + 1)) = ys ++ opB c.op ++ fldB 2 c.a c.b c.m c.n ++ putL c.l ++ [11]) := Lib.hid (by rw [HNX.out, hput]; simp only [List.append_assoc, List.nil_append])
            subst h0
            have q5 : Hid ((ys ++ opB c.op ++ fldB 2 c.a c.b c.m c.n ++ putL c.l).length + 1 ≤ maxLen) := Lib.hid (by simp only [List.length_append, List.length_nil] at hll ⊢; unfold maxLen; omega)
            have q6 : Hid (((ys ++ opB c.op ++ fldB 2 c.a c.b c.m c.n ++ putL c.l).length + 1) * 1 ≤ 140737488355328) := Lib.hid (by simp only [List.length_append, List.length_nil] at hll ⊢; omega)
            clear hll hput hpl hoc hbl hwc hwc2 hbm hbb hbr hbn hby1 hyl hl he hvn hnc hncm hli
            go_wp2_with (first | (go_at_call 179; refine (HS.out _).mono ?_; rintro e w1 ⟨rfl, rfl⟩) | (go_at_call 180; refine (HOP.out _).mono ?_; rintro e w2 ⟨rfl, hb2⟩; have st2 := st1.below hb2; clear HOP) | (at_builtin; refine Lib.wpList_append_own_string _ rfl _ _ 57 9 rfl w0.heap.size 5 i0 Tryz.underlying57 Tryz.underlying9 hi0 hz0 hz1 hz2 _ ys.length (ys.map (Value.int .u8)) rfl st2.by' (strOfNums (opB c.op)) rfl q1.out q2.out st2.size ?_; intro v3 w3 hown3 hg3 _; have st3 := st2.str (opB_byte c.op) hown3 hg3; clear hown3 hg3 q1 q2; obtain ⟨d0, d1, d2, d3, d4, d5, d6⟩ := st3.at) | (go_at_call 181; refine (HFL.out _ st3.lies).mono ?_; rintro e w4 ⟨rfl, hb4⟩; have st4 := st3.below hb4; clear HFL) | (at_builtin; refine Lib.wpList_append_own_string _ rfl _ _ 57 9 rfl w0.heap.size 5 i0 Tryz.underlying57 Tryz.underlying9 hi0 hz0 hz1 hz2 _ (ys ++ opB c.op).length ((ys ++ opB c.op).map (Value.int .u8)) rfl st4.by' (strOfNums (fldB 2 c.a c.b c.m c.n)) rfl q3.out q4.out st4.size ?_; intro v5 w5 hown5 hg5 _; have st5 := st4.str (fldB_byte _ c.a c.b c.m c.n) hown5 hg5; clear hown5 hg5 q3 q4; obtain ⟨f0, f1, f2, f3, f4, f5, f6⟩ := st5.at) | (go_at_call 157; refine (HL.out _ _ st5.lies st5.by').mono ?_; rintro e w6 ⟨v6, rfl, hby6, hk6⟩; have st6 := st5.sub hby6 hk6; clear HL hby6 hk6; obtain ⟨g0, g1, g2, g3, g4, g5, g6⟩ := st6.at) | (at_builtin; refine wpList_append_own _ rfl _ _ 57 rfl w0.heap.size 5 i0 (.int .u8 0) 1 1 Tryz.underlying57 hi0 hz0 hz1 hz2 rfl (by decide) _ (ys ++ opB c.op ++ fldB 2 c.a c.b c.m c.n ++ putL c.l).length ((ys ++ opB c.op ++ fldB 2 c.a c.b c.m c.n ++ putL c.l).map (Value.int .u8)) rfl (World.ownsRow.alloc st6.by' _) ⟨w6.heap.size, 0, none⟩ 1 1 [.int .u8 11] rfl rfl (cell_one_new _ _ _) (one_u8 _) q5.out q6.out (le_alloc st6.size) ?_; intro v9 w9 hown9 hg9 _; have st9 := (st6.below ((Below.refl _ _).alloc (Nat.le_refl _) _)).one hown9 hg9; clear hown9 hg9 q5 q6))
            exact ⟨⟨i + 1, by go_num, by omega, by rw [HPUT.out]; exact st9.by', st9.keep⟩, by simp [intOf]; omega⟩
          · have h0' : (0 : Int) < (el : Int) := by omega
            rw [if_neg h0] at hput hll
            rw [List.length_cons] at hll
            have HPUT : Hid (xs ++ putL (ls.take (i + 1)) = ys ++ opB c.op ++ fldB 2 c.a c.b c.m c.n ++ putL c.l ++ [5] ++ putL c.e ++ [11]) := Lib.hid (by rw [HNX.out, hput]; simp only [List.append_assoc, List.nil_append, List.cons_append])
            have q5 : Hid ((ys ++ opB c.op ++ fldB 2 c.a c.b c.m c.n ++ putL c.l ++ [5] ++ putL c.e).length + 1 ≤ maxLen) := Lib.hid (by simp only [List.length_append, List.length_cons, List.length_nil] at hll ⊢; unfold maxLen; omega)
            have q6 : Hid (((ys ++ opB c.op ++ fldB 2 c.a c.b c.m c.n ++ putL c.l ++ [5] ++ putL c.e).length + 1) * 1 ≤ 140737488355328) := Lib.hid (by simp only [List.length_append, List.length_cons, List.length_nil] at hll ⊢; omega)
            have q7 : Hid ((ys ++ opB c.op ++ fldB 2 c.a c.b c.m c.n ++ putL c.l).length + 1 ≤ maxLen) := Lib.hid (by simp only [List.length_append] at hll ⊢; unfold maxLen; omega)
            have q8 : Hid (((ys ++ opB c.op ++ fldB 2 c.a c.b c.m c.n ++ putL c.l).length + 1) * 1 ≤ 140737488355328) := Lib.hid (by simp only [List.length_append] at hll ⊢; omega)
            have HE : Hid (∀ w' v', Below w0.heap.size w0 w' → Bytes w0.heap.size v' (ys ++ opB c.op ++ fldB 2 c.a c.b c.m c.n ++ putL c.l ++ [5]) w' → Calls Tryz.prog 157 #[v', .slice xe el ec] w' fun e w2 => GivesI w0.heap.size (ys ++ opB c.op ++ fldB 2 c.a c.b c.m c.n ++ putL c.l ++ [5] ++ putL c.e) w' e w2) := Lib.hid fun w' v' hb' hby' =>
              HIH.out (d + 1) c.e xe el ec w0 w' v' _ HSL.out.2 hoc.2.2.2 HWA.out.2.2 HHE.out hb' hby' (by simp only [List.length_append, List.length_cons, List.length_nil] at hll ⊢; omega)
            clear hll hput hpl hoc hbl hwc hwc2 hbm hbb hbr hbn hby1 hyl hl he hvn hnc hncm hli h0
            go_wp2_with (first | (go_at_call 179; refine (HS.out _).mono ?_; rintro e w1 ⟨rfl, rfl⟩) | (go_at_call 180; refine (HOP.out _).mono ?_; rintro e w2 ⟨rfl, hb2⟩; have st2 := st1.below hb2; clear HOP) | (at_builtin; refine Lib.wpList_append_own_string _ rfl _ _ 57 9 rfl w0.heap.size 5 i0 Tryz.underlying57 Tryz.underlying9 hi0 hz0 hz1 hz2 _ ys.length (ys.map (Value.int .u8)) rfl st2.by' (strOfNums (opB c.op)) rfl q1.out q2.out st2.size ?_; intro v3 w3 hown3 hg3 _; have st3 := st2.str (opB_byte c.op) hown3 hg3; clear hown3 hg3 q1 q2; obtain ⟨d0, d1, d2, d3, d4, d5, d6⟩ := st3.at) | (go_at_call 181; refine (HFL.out _ st3.lies).mono ?_; rintro e w4 ⟨rfl, hb4⟩; have st4 := st3.below hb4; clear HFL) | (at_builtin; refine Lib.wpList_append_own_string _ rfl _ _ 57 9 rfl w0.heap.size 5 i0 Tryz.underlying57 Tryz.underlying9 hi0 hz0 hz1 hz2 _ (ys ++ opB c.op).length ((ys ++ opB c.op).map (Value.int .u8)) rfl st4.by' (strOfNums (fldB 2 c.a c.b c.m c.n)) rfl q3.out q4.out st4.size ?_; intro v5 w5 hown5 hg5 _; have st5 := st4.str (fldB_byte _ c.a c.b c.m c.n) hown5 hg5; clear hown5 hg5 q3 q4; obtain ⟨f0, f1, f2, f3, f4, f5, f6⟩ := st5.at) | (go_at_call 157; refine (HL.out _ _ st5.lies st5.by').mono ?_; rintro e w6 ⟨v6, rfl, hby6, hk6⟩; have st6 := st5.sub hby6 hk6; clear HL hby6 hk6; obtain ⟨g0, g1, g2, g3, g4, g5, g6⟩ := st6.at))
            have std := st6.below (Below.refl w6.heap.size w6).drew
            have hcell : (w6.drew).cell? ⟨wr.heap.size, 6, none⟩ = some (.slice xe el ec) := std.at.2.2.2.2.2.2
            have DS := Lib.hid hcell
            have DSA : Hid (∀ o, (w6.drew.alloc o).cell? ⟨wr.heap.size, 6, none⟩ = some (.slice xe el ec)) := Lib.hid fun o => (std.below ((Below.refl _ _).alloc (Nat.le_refl _) o)).at.2.2.2.2.2.2
            clear hcell
            go_region_held3 (fun w' => w'.cell? ⟨wr.heap.size, 6, none⟩ = some (.slice xe el ec))
              (first | exact DS.out | exact DSA.out _ | exact DS1.out | exact DS2.out)
              (first
                | (refine step_append_own rfl _ _ 57 rfl w0.heap.size 5 i0 (.int .u8 0) 1 1 Tryz.underlying57 hi0 hz0 hz1 hz2 rfl (by decide) _ (ys ++ opB c.op ++ fldB 2 c.a c.b c.m c.n ++ putL c.l).length ((ys ++ opB c.op ++ fldB 2 c.a c.b c.m c.n ++ putL c.l).map (Value.int .u8)) rfl (World.ownsRow.alloc std.by' _) ⟨w6.heap.size, 0, none⟩ 1 1 [.int .u8 5] rfl rfl (cell_one_new _ _ _) (one_u8 _) q7.out q8.out (le_alloc std.size) ?_; intro v7 w7 hown7 hg7
                   have st7 := (std.below ((Below.refl _ _).alloc (Nat.le_refl _) _)).one hown7 hg7
                   have DS1 := Lib.hid st7.at.2.2.2.2.2.2)
                | (go_at_call 157; refine (HE.out _ _ st7.lies st7.by').mono ?_; rintro e w8 ⟨v8, rfl, hby8, hk8⟩; have st8 := st7.sub hby8 hk8; clear HE hby8 hk8
                   have DS2 := Lib.hid st8.at.2.2.2.2.2.2))
            all_goals
              go_wp2_with (first | (at_builtin; refine wpList_append_own _ rfl _ _ 57 rfl w0.heap.size 5 i0 (.int .u8 0) 1 1 Tryz.underlying57 hi0 hz0 hz1 hz2 rfl (by decide) _ (ys ++ opB c.op ++ fldB 2 c.a c.b c.m c.n ++ putL c.l ++ [5] ++ putL c.e).length ((ys ++ opB c.op ++ fldB 2 c.a c.b c.m c.n ++ putL c.l ++ [5] ++ putL c.e).map (Value.int .u8)) rfl (World.ownsRow.alloc st8.by' _) ⟨w8.heap.size, 0, none⟩ 1 1 [.int .u8 11] rfl rfl (cell_one_new _ _ _) (one_u8 _) q5.out q6.out (le_alloc st8.size) ?_; intro v9 w9 hown9 hg9 _; have st9 := (st8.below ((Below.refl _ _).alloc (Nat.le_refl _) _)).one hown9 hg9; clear hown9 hg9 q5 q6))
              exact ⟨⟨i + 1, by go_num, by omega, by rw [HPUT.out]; exact st9.by', st9.keep⟩, by simp [intOf]; omega⟩
        · rw [if_neg h2] at hput hpl
          have HPUT : Hid (xs ++ putL (ls.take (i + 1)) = ys ++ opB c.op ++ fldB (shapeV c.op).1 c.a c.b c.m c.n) := Lib.hid (by rw [HNX.out, hput]; simp only [List.append_assoc, List.append_nil])
          obtain ⟨sh, hsh⟩ : ∃ sh, (shapeV c.op).1 = sh := ⟨_, rfl⟩
          rw [hsh] at HS HFL q3 q4 HPUT h2
          have h2' : (sh != 2) = true := by simpa using h2
          clear hput hpl hoc hbl hwc hwc2 hbm hbb hbr hbn hby1 hyl hl he hvn hnc hncm hli hsh h2
          go_wp2_with (first | (go_at_call 179; refine (HS.out _).mono ?_; rintro e w1 ⟨rfl, rfl⟩) | (go_at_call 180; refine (HOP.out _).mono ?_; rintro e w2 ⟨rfl, hb2⟩; have st2 := st1.below hb2; clear HOP) | (at_builtin; refine Lib.wpList_append_own_string _ rfl _ _ 57 9 rfl w0.heap.size 5 i0 Tryz.underlying57 Tryz.underlying9 hi0 hz0 hz1 hz2 _ ys.length (ys.map (Value.int .u8)) rfl st2.by' (strOfNums (opB c.op)) rfl q1.out q2.out st2.size ?_; intro v3 w3 hown3 hg3 _; have st3 := st2.str (opB_byte c.op) hown3 hg3; clear hown3 hg3 q1 q2; obtain ⟨d0, d1, d2, d3, d4, d5, d6⟩ := st3.at) | (go_at_call 181; refine (HFL.out _ st3.lies).mono ?_; rintro e w4 ⟨rfl, hb4⟩; have st4 := st3.below hb4; clear HFL) | (at_builtin; refine Lib.wpList_append_own_string _ rfl _ _ 57 9 rfl w0.heap.size 5 i0 Tryz.underlying57 Tryz.underlying9 hi0 hz0 hz1 hz2 _ (ys ++ opB c.op).length ((ys ++ opB c.op).map (Value.int .u8)) rfl st4.by' (strOfNums (fldB sh c.a c.b c.m c.n)) rfl q3.out q4.out st4.size ?_; intro v5 w5 hown5 hg5 _; have st5 := st4.str (fldB_byte _ c.a c.b c.m c.n) hown5 hg5; clear hown5 hg5 q3 q4; obtain ⟨f0, f1, f2, f3, f4, f5, f6⟩ := st5.at))
          exact ⟨⟨i + 1, by go_num, by omega, by rw [HPUT.out]; exact st5.by', st5.keep⟩, by simp [intOf]; omega⟩
      · have hie : i = len := by omega
        subst hie
        have HE : Hid (xs ++ putL (ls.take i) = xs ++ putL ls) := Lib.hid (by rw [HLEN.out, List.take_length])
        go_wp2_with fail
        go_ret
        exact ⟨_, rfl, HE.out ▸ HBR.out, HKR.out⟩
/-- What laying comes to. -/
def putV (ls : List Ins) : List Int × Int := if (cP 0 0 ls).2 = true then (putL ls ++ [11], 0) else ([], 1)
theorem cP_yes {d n : Nat} {l : List Ins} (h : (cP d n l).2 = true) : okL d l = true ∧ n + sizL l ≤ 8192 := by
  unfold cP at h
  split at h
  · assumption
  · cases h
set_option maxRecDepth 100000 in
set_option maxHeartbeats 1000000 in
theorem Put_any (ls : List Ins) (x : Option Addr) (len cap : Nat) (w : World) (h : InsIn w x len cap ls) (hwf : wfL ls) :
    Calls Tryz.prog 126 #[.slice x len cap] w fun e w' => e = .returned (.tuple #[.string (strOfNums (putV ls).1), .int .i64 (putV ls).2]) ∧ Below w.heap.size w w' := by
  have HC := Lib.hid (Count_any ls x len cap w h)
  unfold putV
  by_cases hc : (cP 0 0 ls).2 = true
  · rw [if_pos hc]
    obtain ⟨hok, hn⟩ := cP_yes hc
    have hlen := putL_len 0 ls hok
    obtain ⟨i0, hi0, hz0, hz1, hz2⟩ := info_parts info_u8
    have HA : Hid (∀ w', Below w.heap.size w w' → Calls Tryz.prog 157 #[.slice none 0 0, .slice x len cap] w' fun e w2 => GivesI w.heap.size (putL ls) w' e w2) := Lib.hid fun w' hb =>
      appendAll_all _ 0 ls x len cap w w' _ [] (Nat.lt_succ_self _) hok hwf h hb (World.ownsRow_nil _ _ _ _) (by rw [List.length_nil]; omega)
    have q5 : Hid ((putL ls).length + 1 ≤ maxLen) := Lib.hid (by unfold maxLen; omega)
    have q6 : Hid (((putL ls).length + 1) * 1 ≤ 140737488355328) := Lib.hid (by omega)
    rw [hc] at HC
    clear hc hok hn hlen h hwf
    revert HC
    generalize (cP 0 0 ls).1 = n
    intro HC
    go_enter Tryz.func126, Tryz.ntmps126
    go_wp2_with (first
      | (go_at_call 156; refine HC.out.mono ?_; rintro e w1 ⟨rfl, hb1⟩)
      | (go_at_call 157; refine (HA.out _ hb1).mono ?_; rintro e w2 ⟨v2, rfl, hby2, hk2⟩; have hb2 := hb1.trans hk2.below; have hz3 := hb2.size)
      | (at_builtin; refine wpList_append_own _ rfl _ _ 57 rfl w.heap.size 5 i0 (.int .u8 0) 1 1 Tryz.underlying57 hi0 hz0 hz1 hz2 rfl (by decide) _ (putL ls).length ((putL ls).map (Value.int .u8)) rfl (World.ownsRow.alloc hby2 _) ⟨w2.heap.size, 0, none⟩ 1 1 [.int .u8 11] rfl rfl (cell_one_new _ _ _) (one_u8 _) q5.out q6.out (le_alloc hz3) ?_; intro v9 w9 hown9 hg9 _; have hcv := bytes_conv (Bytes.snoc hown9); have hb9 := grown_below hby2 hb2 (Nat.le_refl _) hg9; clear hown9 hg9))
    go_ret2
    exact ⟨rfl, hb9⟩
  · rw [if_neg hc]
    rw [not_true hc] at HC
    clear hc h hwf
    revert HC
    generalize (cP 0 0 ls).1 = n
    intro HC
    go_enter Tryz.func126, Tryz.ntmps126
    go_wp2_with (go_at_call 156; refine HC.out.mono ?_; rintro e w1 ⟨rfl, hb1⟩)
    go_ret2
    exact ⟨rfl, hb1⟩
end Go.Proofs.YtekonefnniaheaaGreat
namespace Go.Proofs.YtekonefnniaheaaGreat
open Go.RowKit
open Leb (byt len7 lenF sum7 sg7)

/-- n numbers more, behind those that there are. -/
def rowsF : Nat → List Int → ByteArray → Option (List Int × ByteArray)
  | 0, l, r => some (l, r)
  | n + 1, l, r => if okU r = true then rowsF n (l ++ [(sum7 r (len7 r 5) : Int)]) (r.extract (len7 r 5) r.size) else none
def allRes (s : ByteArray) (most : Int) : List Int × ByteArray × Int :=
  if okU s = true then
    if most < (sum7 s (len7 s 5) : Int) then ([], ⟨#[]⟩, 14)
    else match rowsF (sum7 s (len7 s 5)) [] (s.extract (len7 s 5) s.size) with
      | none => ([], ⟨#[]⟩, 2)
      | some (l, r) => (l, r, 0)
  else ([], ⟨#[]⟩, 2)
theorem allRes_bad {s : ByteArray} (most : Int) (h : okU s = false) : allRes s most = ([], ⟨#[]⟩, 2) := by
  unfold allRes
  rw [h]
  rfl
theorem allRes_full {s : ByteArray} {most : Int} (h : okU s = true) (hm : most < (sum7 s (len7 s 5) : Int)) : allRes s most = ([], ⟨#[]⟩, 14) := by
  unfold allRes
  rw [if_pos h, if_pos hm]
theorem allRes_none {s : ByteArray} {most : Int} (h : okU s = true) (hm : ¬ most < (sum7 s (len7 s 5) : Int)) (hr : rowsF (sum7 s (len7 s 5)) [] (s.extract (len7 s 5) s.size) = none) : allRes s most = ([], ⟨#[]⟩, 2) := by
  unfold allRes
  rw [if_pos h, if_neg hm, hr]
theorem allRes_some {s : ByteArray} {most : Int} {l : List Int} {r : ByteArray} (h : okU s = true) (hm : ¬ most < (sum7 s (len7 s 5) : Int)) (hr : rowsF (sum7 s (len7 s 5)) [] (s.extract (len7 s 5) s.size) = some (l, r)) : allRes s most = (l, r, 0) := by
  unfold allRes
  rw [if_pos h, if_neg hm, hr]

/-- What taking them leaves. -/
def GivesRows (base : Nat) (res : List Int × ByteArray × Int) (w : World) (e : Ending) (w' : World) : Prop :=
  ∃ v, e = .returned (.tuple #[v, .string res.2.1, .int .i64 res.2.2]) ∧ Ints base v res.1 w' ∧ Below base w w'
def RowsAt (base : Nat) (s : ByteArray) (N : Nat) (w : World) (rest v idx : Value) (wr : World) : Prop :=
  ∃ (k : Nat) (l : List Int) (r : ByteArray), idx = .int .i64 k ∧ rest = .string r ∧ k ≤ N ∧ l.length + r.size ≤ s.size ∧
    rowsF (N - k) l r = rowsF N [] (s.extract (len7 s 5) s.size) ∧ Ints base v l wr ∧ Below base w wr

theorem rows_ok {base : Nat} {s r : ByteArray} {N k : Nat} {l : List Int} {w w1 : World} {v : Value} (hu : okU r = true) (hk : k < N) (hs : l.length + r.size ≤ s.size)
    (hF : rowsF (N - k) l r = rowsF N [] (s.extract (len7 s 5) s.size))
    (hown : w1.ownsRow base 3 1 v (l.length + 1) (l.map (Value.int .i64) ++ [.int .i64 (sum7 r (len7 r 5) : Int)])) (hb : Below base w w1) :
    RowsAt base s N w (.string (r.extract (len7 r 5) r.size)) v (.int .i64 ((k + 1 : Nat) : Int)) w1 := by
  have h0 := (okU_parts hu).1
  have hle := Leb.len7_le r 5
  obtain ⟨f, hf⟩ : ∃ f, N - k = f + 1 := ⟨N - k - 1, by omega⟩
  rw [hf, rowsF, if_pos hu] at hF
  refine ⟨k + 1, _, _, rfl, rfl, by omega, ?_, ?_, Ints.snoc hown, hb⟩
  · rw [List.length_append, ByteArray.size_extract, List.length_singleton]
    omega
  · rw [show N - (k + 1) = f from by omega]
    exact hF
theorem rows_bad {s r : ByteArray} {N k : Nat} {l : List Int} (hu : okU r = false) (hk : k < N) (hF : rowsF (N - k) l r = rowsF N [] (s.extract (len7 s 5) s.size)) : rowsF N [] (s.extract (len7 s 5) s.size) = none := by
  obtain ⟨f, hf⟩ : ∃ f, N - k = f + 1 := ⟨N - k - 1, by omega⟩
  rw [hf, rowsF, hu] at hF
  exact hF.symm
theorem rows_end {s r : ByteArray} {N : Nat} {l : List Int} (hF : rowsF (N - N) l r = rowsF N [] (s.extract (len7 s 5) s.size)) : rowsF N [] (s.extract (len7 s 5) s.size) = some (l, r) := by
  rw [Nat.sub_self] at hF
  exact hF.symm
theorem size_rest (s : ByteArray) : (s.extract (len7 s 5) s.size).size ≤ s.size := by
  rw [ByteArray.size_extract]
  omega

set_option maxHeartbeats 400000 in
set_option maxRecDepth 100000 in
theorem TakeAll_go (s : ByteArray) (most : Int) (hs : s.size ≤ 1000000000) (hu : okU s = true) (hm : ¬ most < (sum7 s (len7 s 5) : Int)) (w : World) :
    Calls Tryz.prog 226 #[.string s, .int .i64 most] w fun e w' => GivesRows w.heap.size (allRes s most) w e w' := by
  obtain ⟨i0, hi, hz0, hz1, hz2⟩ := info_parts info_int
  have HM : Hid (s.size ≤ maxLen) := Lib.hid (by unfold maxLen; omega)
  have HU := Lib.hid (uTup_good hu)
  have HO := Lib.hid hu
  have HN := Lib.hid (Int.not_lt.1 hm)
  have hm1 : decide (most < (sum7 s (len7 s 5) : Int)) = false := decide_eq_false hm
  have HNI := Lib.hid (num_U (s := s))
  clear hu hm
  go_enter Tryz.func226, Tryz.ntmps226
  go_wp2_with (go_at_call 168; refine (TakeU_any s HM.out _).mono ?_; rintro e w1 ⟨rfl, hb⟩; rw [HU.out])
  go_loopw [8, 10, 27] (fun rest v idx wr => RowsAt w.heap.size s (sum7 s (len7 s 5)) w rest v idx wr) (fun _ _ idx _ => sum7 s (len7 s 5) - (intOf idx).toNat)
  case atStart => exact ⟨0, [], _, rfl, rfl, by omega, by simp, rfl, World.ownsRow_nil _ _ _ _, hb⟩
  case round =>
    obtain ⟨k, l, r, rfl, rfl, hk, hsz, hF, hown, hbel⟩ := hrel
    clear hb
    have HF := Lib.hid hF
    have hsl := hbel.size
    have HRM : Hid (r.size ≤ maxLen) := Lib.hid (by unfold maxLen; omega)
    have hkb : (k : Int) ≤ 4294967295 := by have := (okU_parts HO.out).2; omega
    clear hF
    by_cases hlt : k < sum7 s (len7 s 5)
    · by_cases hr : okU r = true
      · have HT := Lib.hid (uTup_good hr)
        have HK := Lib.hid hr
        have q3 : l.length + 1 ≤ maxLen := by unfold maxLen; omega
        have q4 : (l.length + 1) * 8 ≤ 140737488355328 := by omega
        clear hr
        go_wp2_with (first
          | (go_at_call 168; refine (TakeU_any r HRM.out _).mono ?_; rintro e w2 ⟨rfl, hb3⟩; rw [HT.out]; have hown2 := Ints.below hown hb3; have hbel2 := hbel.trans (hb3.mono hsl); have hsl2 := hbel2.size; clear hb3)
          | (at_builtin; refine wpList_append_own _ rfl _ _ 24 rfl w.heap.size 3 i0 (.int .i64 0) 1 8 Tryz.underlying24 hi hz0 hz1 hz2 rfl (by decide) _ l.length (l.map (Value.int .i64)) rfl (World.ownsRow.alloc hown2 _) ⟨w2.heap.size, 0, none⟩ 1 1 [.int .i64 (sum7 r (len7 r 5) : Int)] rfl rfl (cell_one_new _ _ _) (one_i64 _) q3 q4 (le_alloc hsl2) ?_; intro v' w3 hown3 hg3 _; clear q3 q4))
        have h := rows_ok HK.out hlt hsz HF.out hown3 (grown_below' hown2 hbel2 (Nat.le_refl _) hg3)
        rw [show ((k + 1 : Nat) : Int) = (k : Int) + 1 from by omega] at h
        exact ⟨h, by simp [intOf]; omega⟩
      · have HT := Lib.hid (uTup_bad (not_true hr))
        have HE := Lib.hid (allRes_none HO.out (Int.not_lt.2 HN.out) (rows_bad (not_true hr) hlt HF.out))
        clear hr
        go_wp2_with (go_at_call 168; refine (TakeU_any r HRM.out _).mono ?_; rintro e w2 ⟨rfl, hb3⟩; rw [HT.out])
        go_ret3
        rw [HE.out]
        exact ⟨_, rfl, World.ownsRow_nil _ _ _ _, hbel.trans (hb3.mono hsl)⟩
    · have hke : k = sum7 s (len7 s 5) := by omega
      subst hke
      have HE := Lib.hid (allRes_some HO.out (Int.not_lt.2 HN.out) (rows_end HF.out))
      go_wp2_with fail
      go_ret3
      rw [HE.out]
      exact ⟨_, rfl, hown, hbel⟩
theorem TakeAll_full (s : ByteArray) (most : Int) (hs : s.size ≤ 1000000000) (hu : okU s = true) (hm : most < (sum7 s (len7 s 5) : Int)) (w : World) :
    Calls Tryz.prog 226 #[.string s, .int .i64 most] w fun e w' => GivesRows w.heap.size (allRes s most) w e w' := by
  have HM : Hid (s.size ≤ maxLen) := Lib.hid (by unfold maxLen; omega)
  have HU := Lib.hid (uTup_good hu)
  have HE := Lib.hid (allRes_full hu hm)
  clear hu
  go_enter Tryz.func226, Tryz.ntmps226
  go_wp2_with (go_at_call 168; refine (TakeU_any s HM.out _).mono ?_; rintro e w1 ⟨rfl, hb⟩; rw [HU.out])
  go_ret3
  rw [HE.out]
  exact ⟨_, rfl, World.ownsRow_nil _ _ _ _, hb⟩
theorem TakeAll_bad (s : ByteArray) (most : Int) (hs : s.size ≤ 1000000000) (hu : okU s = false) (w : World) :
    Calls Tryz.prog 226 #[.string s, .int .i64 most] w fun e w' => GivesRows w.heap.size (allRes s most) w e w' := by
  have HM : Hid (s.size ≤ maxLen) := Lib.hid (by unfold maxLen; omega)
  have HU := Lib.hid (uTup_bad hu)
  have HE := Lib.hid (allRes_bad most hu)
  clear hu
  go_enter Tryz.func226, Tryz.ntmps226
  go_wp2_with (go_at_call 168; refine (TakeU_any s HM.out _).mono ?_; rintro e w1 ⟨rfl, hb⟩; rw [HU.out])
  go_ret3
  rw [HE.out]
  exact ⟨_, rfl, World.ownsRow_nil _ _ _ _, hb⟩
theorem TakeAll_any (s : ByteArray) (most : Int) (hs : s.size ≤ 1000000000) (w : World) :
    Calls Tryz.prog 226 #[.string s, .int .i64 most] w fun e w' => GivesRows w.heap.size (allRes s most) w e w' := by
  by_cases hu : okU s = true
  · by_cases hm : most < (sum7 s (len7 s 5) : Int)
    · exact TakeAll_full s most hs hu hm w
    · exact TakeAll_go s most hs hu hm w
  · exact TakeAll_bad s most hs (not_true hu) w
end Go.Proofs.YtekonefnniaheaaGreat
namespace Go.Proofs.YtekonefnniaheaaGreat
open Go.RowKit
open Leb (byt len7 lenF sum7 sg7)

theorem rowsF_len : ∀ (n : Nat) (l : List Int) (r : ByteArray) (x : List Int × ByteArray), rowsF n l r = some x → x.1.length + x.2.size ≤ l.length + r.size := by
  intro n
  induction n with
  | zero =>
    intro l r x h
    cases h
    exact Nat.le_refl _
  | succ n ih =>
    intro l r x h
    rw [rowsF] at h
    by_cases hu : okU r = true
    · rw [if_pos hu] at h
      have h1 := ih _ _ _ h
      have h0 := (okU_parts hu).1
      have hle := Leb.len7_le r 5
      rw [List.length_append, List.length_singleton, ByteArray.size_extract] at h1
      omega
    · rw [if_neg hu] at h
      cases h
end Go.Proofs.YtekonefnniaheaaGreat
namespace Go.Proofs.YtekonefnniaheaaGreat
open Go.RowKit

open Leb (byt byt_lt byt_get)
theorem uR_size (s : ByteArray) : (uR s).size ≤ s.size := by
  unfold uR
  split
  · rw [ByteArray.size_extract]
    omega
  · exact Nat.zero_le _
end Go.Proofs.YtekonefnniaheaaGreat
