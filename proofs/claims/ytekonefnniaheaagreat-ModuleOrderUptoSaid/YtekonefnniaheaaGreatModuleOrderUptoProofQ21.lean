/- Texts of the proof of ModuleOrderUptoProof, part 21. -/
import Derived.Laws.CopyOwn
import Derived.Deep.RegionLaw
import Derived.Deep.OwnRows
import Derived.Test.YtekonefnniaheaaGreatModuleOrderUptoProofQ20
set_option linter.unusedVariables false
set_option linter.unusedVariables false
namespace Go.Proofs.YtekonefnniaheaaGreat
open Go.RowKit Go.Deep
theorem info_glo : (Tryz.prog.info? 68).map (fun i => (i.zero, i.size, i.bytes)) = some (some (.agg #[.int .i64 0, .bool false, .int .i64 0, .int .i64 0, .int .i64 0, .int .i64 0, .slice none 0 0, .slice none 0 0, .slice none 0 0]), 9, 120) := by kernel_rfl
set_option maxRecDepth 100000 in
set_option maxHeartbeats 4000000 in
theorem tmList_glo (t : Nat) (g : St) (x : List Value) (most : Int) (hm : most ≤ 1000) (w : World) (h : TmAt w t g x) :
    Calls Tryz.prog 145 #[.pointer (some ⟨t, 0, none⟩), .int .i64 most, .func (.func 146) #[.pointer (some ⟨t, 0, none⟩)] #[]] w fun y w' => GivesLs gloE 9 (listR most gloR) t g x w y w' := by
  obtain ⟨ti, hi0, hz0, hz1, hz2⟩ := info_parts info_glo
  have HB := Lib.hid (tmNumber_any t g x w h)
  have HT := Lib.hid h.lt
  have HM := Lib.hid hm
  clear h hm
  go_enter Tryz.func145, Tryz.ntmps145
  go_wp2_with (first
    | (go_at_call 141; refine HB.out.mono ?_; rintro y w1 ⟨n, g1, rfl, hn, t1, k1, o1⟩; have O1 := Lib.hid o1; clear o1 HB; obtain ⟨N, hN⟩ := Int.eq_ofNat_of_zero_le hn.1; subst hN; have HNN := Lib.hid hn.2; clear hn)
    | (go_at_call 69; refine (tmNeed_any t g1 x (decide ((N : Int) ≤ most)) 14 _ t1).mono ?_; rintro y w2 ⟨rfl, t2, k2⟩))
  have HO : Hid (Out g (needR uT (fun n => decide (n ≤ most)) 14) (needS g1 (decide ((N : Int) ≤ most)) 14) (fun z => (N : Int) = z)) := Lib.hid (O1.out.need (by decide) (fun z e => by subst e; rfl))
  have HS := Lib.hid (lrel_start (E := gloE) (m := 9) (T := 68) (R := gloR) (N := N) HM.out t2 (k1.trans k2))
  revert HO HS
  generalize needS g1 (decide ((N : Int) ≤ most)) 14 = g0
  intro HO HS
  have HEND : Hid (∀ g' (P : List Glo → Prop), Out g0 (repR gloR N) g' P → Out g (listR most gloR) g' P) := Lib.hid fun g' P h => Out.then HO.out h
  clear HO O1 t1 t2 k1 k2
  go_loopw [8, 17] (fun lv iv wr => LRel gloE 9 68 gloR N t x g0 w lv iv wr) (fun _ iv _ => N - (intOf iv).toNat)
  case atStart => exact HS.out
  case round =>
    clear HS
    obtain ⟨i, a, len, cap, gi, rfl, hi, rfl, t1, kp, hst⟩ := hrel
    have HST := Lib.hid hst
    have HI := Lib.hid hi
    have HNI := HNN.out
    have hflt := t1.flt
    clear hst
    by_cases hlt : i < N
    · rcases HST.out with ⟨s, s0, ls, rfl, hg0, hN, rfl, hl, ⟨vs, hown, hel⟩, hR⟩ | ⟨f, rfl, hf0, ho⟩
      · replace hflt : wr.cell? ⟨t, 1, none⟩ = some (.int .i64 0) := hflt
        have HG0 := Lib.hid hg0
        have HNK := Lib.hid hN
        have HL := Lib.hid hl
        have HR := Lib.hid hR
        have HEL := Lib.hid hel
        have HOWN := Lib.hid hown
        have HKP := Lib.hid kp
        have q3 : len + 1 ≤ maxLen := by unfold maxLen; omega
        have q4 : (len + 1) * 120 ≤ 140737488355328 := by omega
        have hzz := kp.size
        clear hg0 hN hl hR hel hown kp HST
        go_wp2_with (first
          | (go_at_call 146; refine (tmGlobal_any t _ x _ t1).mono ?_; rintro y w4 ⟨z0, z1, i0, i1, i2, i3, in_, ip, iq, il, iu, iv_, ie, if_, ig, g2, rfl, t4, k4, o4⟩; have O4 := Lib.hid o4; clear o4; have hown4 := rowK_kept HOWN.out k4 (by intro j _ q; have := HT.out; omega); rw [HL.out] at hown4; have hz4 := k4.size)
          | (at_builtin; refine wpList_append_lies _ rfl _ _ 26 rfl w.heap.size 68 ti _ 9 120 Tryz.underlying26 hi0 hz0 hz1 hz2 rfl (by decide) _ len vs rfl (World.ownsRow.alloc hown4 _) ⟨w4.heap.size, 0, none⟩ 1 1 [.int .i64 z0, .bool z1, .int .i64 i0, .int .i64 i1, .int .i64 i2, .int .i64 i3, .slice in_ ip iq, .slice il iu iv_, .slice ie if_ ig] rfl rfl (newsL w4 _ [.int .i64 z0, .bool z1, .int .i64 i0, .int .i64 i1, .int .i64 i2, .int .i64 i3, .slice in_ ip iq, .slice il iu iv_, .slice ie if_ ig]) (by intro u hu; simp only [List.mem_cons, List.not_mem_nil, or_false] at hu; rcases hu with rfl | rfl | rfl | rfl | rfl | rfl | rfl | rfl | rfl <;> rfl) (by decide) q3 q4 (le_alloc (show w.heap.size ≤ w4.heap.size by omega)) _ rfl ?_; intro gb cap5 w5 hown5 hg5 hat5 hlt5))
        have hO : Out (.ok s) gloR g2 (fun a => Val gloE (wr.heap.size ≤ ·) w4 [.int .i64 z0, .bool z1, .int .i64 i0, .int .i64 i1, .int .i64 i2, .int .i64 i3, .slice in_ ip iq, .slice il iu iv_, .slice ie if_ ig] a) := O4.out
        have hown0 := HOWN.out
        have hown6 := hown5
        have hll := HL.out
        rw [← hll] at hown6
        obtain ⟨t5, k5, hP⟩ := rowV_step HT.out hown0 HEL.out HKP.out k4 t4 hown6 hg5 hat5 rfl
        have HNX := lrel_next (E := gloE) (m := 9) (T := 68) hlt HNK.out hll HR.out hO t5 k5 hP
        rw [HG0.out]
        rw [hll] at HNX
        have hlw : IntKind.i64.wrap ((len : Int) + 1) = ((len + 1 : Nat) : Int) := by
          rw [IntKind.wrap_i64]; omega
        refine ⟨?_, ?_⟩
        · first | exact HNX | (rw [hlw]; exact HNX) | (rw [show ((len : Int) + 1) = ((len + 1 : Nat) : Int) by omega]; exact HNX)
        · simp [intOf]; omega
      · replace hflt : wr.cell? ⟨t, 1, none⟩ = some (.int .i64 f) := hflt
        have e1 : (f != 0) = true := by simpa using hf0
        have HOO := Lib.hid ho
        clear hf0 ho HST
        go_wp2_with fail
        go_ret
        exact ⟨_, _, _, _, rfl, t1, kp, HEND.out _ _ (out_any HOO.out)⟩
    · have hie : i = N := by omega
      subst hie
      go_wp2_with fail
      go_ret
      exact ⟨_, _, _, _, rfl, t1, kp, HEND.out _ _ (lrel_end HST.out)⟩
theorem info_ele : (Tryz.prog.info? 71).map (fun i => (i.zero, i.size, i.bytes)) = some (some (.agg #[.int .i64 0, .int .i64 0, .int .i64 0, .int .i64 0, .int .i64 0, .slice none 0 0, .slice none 0 0, .slice none 0 0, .slice none 0 0]), 9, 136) := by kernel_rfl
set_option maxRecDepth 100000 in
set_option maxHeartbeats 4000000 in
theorem tmList_ele (t : Nat) (g : St) (x : List Value) (most : Int) (hm : most ≤ 1000) (w : World) (h : TmAt w t g x) :
    Calls Tryz.prog 149 #[.pointer (some ⟨t, 0, none⟩), .int .i64 most, .func (.func 150) #[.pointer (some ⟨t, 0, none⟩)] #[]] w fun y w' => GivesLs eleE 9 (listR most eleR) t g x w y w' := by
  obtain ⟨ti, hi0, hz0, hz1, hz2⟩ := info_parts info_ele
  have HB := Lib.hid (tmNumber_any t g x w h)
  have HT := Lib.hid h.lt
  have HM := Lib.hid hm
  clear h hm
  go_enter Tryz.func149, Tryz.ntmps149
  go_wp2_with (first
    | (go_at_call 141; refine HB.out.mono ?_; rintro y w1 ⟨n, g1, rfl, hn, t1, k1, o1⟩; have O1 := Lib.hid o1; clear o1 HB; obtain ⟨N, hN⟩ := Int.eq_ofNat_of_zero_le hn.1; subst hN; have HNN := Lib.hid hn.2; clear hn)
    | (go_at_call 69; refine (tmNeed_any t g1 x (decide ((N : Int) ≤ most)) 14 _ t1).mono ?_; rintro y w2 ⟨rfl, t2, k2⟩))
  have HO : Hid (Out g (needR uT (fun n => decide (n ≤ most)) 14) (needS g1 (decide ((N : Int) ≤ most)) 14) (fun z => (N : Int) = z)) := Lib.hid (O1.out.need (by decide) (fun z e => by subst e; rfl))
  have HS := Lib.hid (lrel_start (E := eleE) (m := 9) (T := 71) (R := eleR) (N := N) HM.out t2 (k1.trans k2))
  revert HO HS
  generalize needS g1 (decide ((N : Int) ≤ most)) 14 = g0
  intro HO HS
  have HEND : Hid (∀ g' (P : List Ele → Prop), Out g0 (repR eleR N) g' P → Out g (listR most eleR) g' P) := Lib.hid fun g' P h => Out.then HO.out h
  clear HO O1 t1 t2 k1 k2
  go_loopw [8, 17] (fun lv iv wr => LRel eleE 9 71 eleR N t x g0 w lv iv wr) (fun _ iv _ => N - (intOf iv).toNat)
  case atStart => exact HS.out
  case round =>
    clear HS
    obtain ⟨i, a, len, cap, gi, rfl, hi, rfl, t1, kp, hst⟩ := hrel
    have HST := Lib.hid hst
    have HI := Lib.hid hi
    have HNI := HNN.out
    have hflt := t1.flt
    clear hst
    by_cases hlt : i < N
    · rcases HST.out with ⟨s, s0, ls, rfl, hg0, hN, rfl, hl, ⟨vs, hown, hel⟩, hR⟩ | ⟨f, rfl, hf0, ho⟩
      · replace hflt : wr.cell? ⟨t, 1, none⟩ = some (.int .i64 0) := hflt
        have HG0 := Lib.hid hg0
        have HNK := Lib.hid hN
        have HL := Lib.hid hl
        have HR := Lib.hid hR
        have HEL := Lib.hid hel
        have HOWN := Lib.hid hown
        have HKP := Lib.hid kp
        have q3 : len + 1 ≤ maxLen := by unfold maxLen; omega
        have q4 : (len + 1) * 136 ≤ 140737488355328 := by omega
        have hzz := kp.size
        clear hg0 hN hl hR hel hown kp HST
        go_wp2_with (first
          | (go_at_call 150; refine (tmElem_any t _ x _ t1).mono ?_; rintro y w4 ⟨z0, i0, i1, i2, i3, in_, ip, iq, il, iu, iv_, ie, if_, ig, z1, z2, z3, g2, rfl, t4, k4, o4⟩; have O4 := Lib.hid o4; clear o4; have hown4 := rowK_kept HOWN.out k4 (by intro j _ q; have := HT.out; omega); rw [HL.out] at hown4; have hz4 := k4.size)
          | (at_builtin; refine wpList_append_lies _ rfl _ _ 28 rfl w.heap.size 71 ti _ 9 136 Tryz.underlying28 hi0 hz0 hz1 hz2 rfl (by decide) _ len vs rfl (World.ownsRow.alloc hown4 _) ⟨w4.heap.size, 0, none⟩ 1 1 [.int .i64 z0, .int .i64 i0, .int .i64 i1, .int .i64 i2, .int .i64 i3, .slice in_ ip iq, .slice il iu iv_, .slice ie if_ ig, .slice z1 z2 z3] rfl rfl (newsL w4 _ [.int .i64 z0, .int .i64 i0, .int .i64 i1, .int .i64 i2, .int .i64 i3, .slice in_ ip iq, .slice il iu iv_, .slice ie if_ ig, .slice z1 z2 z3]) (by intro u hu; simp only [List.mem_cons, List.not_mem_nil, or_false] at hu; rcases hu with rfl | rfl | rfl | rfl | rfl | rfl | rfl | rfl | rfl <;> rfl) (by decide) q3 q4 (le_alloc (show w.heap.size ≤ w4.heap.size by omega)) _ rfl ?_; intro gb cap5 w5 hown5 hg5 hat5 hlt5))
        have hO : Out (.ok s) eleR g2 (fun a => Val eleE (wr.heap.size ≤ ·) w4 [.int .i64 z0, .int .i64 i0, .int .i64 i1, .int .i64 i2, .int .i64 i3, .slice in_ ip iq, .slice il iu iv_, .slice ie if_ ig, .slice z1 z2 z3] a) := O4.out
        have hown0 := HOWN.out
        have hown6 := hown5
        have hll := HL.out
        rw [← hll] at hown6
        obtain ⟨t5, k5, hP⟩ := rowV_step HT.out hown0 HEL.out HKP.out k4 t4 hown6 hg5 hat5 rfl
        have HNX := lrel_next (E := eleE) (m := 9) (T := 71) hlt HNK.out hll HR.out hO t5 k5 hP
        rw [HG0.out]
        rw [hll] at HNX
        have hlw : IntKind.i64.wrap ((len : Int) + 1) = ((len + 1 : Nat) : Int) := by
          rw [IntKind.wrap_i64]; omega
        refine ⟨?_, ?_⟩
        · first | exact HNX | (rw [hlw]; exact HNX) | (rw [show ((len : Int) + 1) = ((len + 1 : Nat) : Int) by omega]; exact HNX)
        · simp [intOf]; omega
      · replace hflt : wr.cell? ⟨t, 1, none⟩ = some (.int .i64 f) := hflt
        have e1 : (f != 0) = true := by simpa using hf0
        have HOO := Lib.hid ho
        clear hf0 ho HST
        go_wp2_with fail
        go_ret
        exact ⟨_, _, _, _, rfl, t1, kp, HEND.out _ _ (out_any HOO.out)⟩
    · have hie : i = N := by omega
      subst hie
      go_wp2_with fail
      go_ret
      exact ⟨_, _, _, _, rfl, t1, kp, HEND.out _ _ (lrel_end HST.out)⟩
theorem info_dat : (Tryz.prog.info? 52).map (fun i => (i.zero, i.size, i.bytes)) = some (some (.agg #[.int .i64 0, .int .i64 0, .int .i64 0, .int .i64 0, .int .i64 0, .slice none 0 0, .slice none 0 0, .slice none 0 0, .string ⟨#[]⟩]), 9, 128) := by kernel_rfl
set_option maxRecDepth 100000 in
set_option maxHeartbeats 4000000 in
theorem tmList_dat (t : Nat) (g : St) (x : List Value) (most : Int) (hm : most ≤ 1000) (w : World) (h : TmAt w t g x) :
    Calls Tryz.prog 153 #[.pointer (some ⟨t, 0, none⟩), .int .i64 most, .func (.func 154) #[.pointer (some ⟨t, 0, none⟩)] #[]] w fun y w' => GivesLs datE 9 (listR most datR) t g x w y w' := by
  obtain ⟨ti, hi0, hz0, hz1, hz2⟩ := info_parts info_dat
  have HB := Lib.hid (tmNumber_any t g x w h)
  have HT := Lib.hid h.lt
  have HM := Lib.hid hm
  clear h hm
  go_enter Tryz.func153, Tryz.ntmps153
  go_wp2_with (first
    | (go_at_call 141; refine HB.out.mono ?_; rintro y w1 ⟨n, g1, rfl, hn, t1, k1, o1⟩; have O1 := Lib.hid o1; clear o1 HB; obtain ⟨N, hN⟩ := Int.eq_ofNat_of_zero_le hn.1; subst hN; have HNN := Lib.hid hn.2; clear hn)
    | (go_at_call 69; refine (tmNeed_any t g1 x (decide ((N : Int) ≤ most)) 14 _ t1).mono ?_; rintro y w2 ⟨rfl, t2, k2⟩))
  have HO : Hid (Out g (needR uT (fun n => decide (n ≤ most)) 14) (needS g1 (decide ((N : Int) ≤ most)) 14) (fun z => (N : Int) = z)) := Lib.hid (O1.out.need (by decide) (fun z e => by subst e; rfl))
  have HS := Lib.hid (lrel_start (E := datE) (m := 9) (T := 52) (R := datR) (N := N) HM.out t2 (k1.trans k2))
  revert HO HS
  generalize needS g1 (decide ((N : Int) ≤ most)) 14 = g0
  intro HO HS
  have HEND : Hid (∀ g' (P : List Dat → Prop), Out g0 (repR datR N) g' P → Out g (listR most datR) g' P) := Lib.hid fun g' P h => Out.then HO.out h
  clear HO O1 t1 t2 k1 k2
  go_loopw [8, 17] (fun lv iv wr => LRel datE 9 52 datR N t x g0 w lv iv wr) (fun _ iv _ => N - (intOf iv).toNat)
  case atStart => exact HS.out
  case round =>
    clear HS
    obtain ⟨i, a, len, cap, gi, rfl, hi, rfl, t1, kp, hst⟩ := hrel
    have HST := Lib.hid hst
    have HI := Lib.hid hi
    have HNI := HNN.out
    have hflt := t1.flt
    clear hst
    by_cases hlt : i < N
    · rcases HST.out with ⟨s, s0, ls, rfl, hg0, hN, rfl, hl, ⟨vs, hown, hel⟩, hR⟩ | ⟨f, rfl, hf0, ho⟩
      · replace hflt : wr.cell? ⟨t, 1, none⟩ = some (.int .i64 0) := hflt
        have HG0 := Lib.hid hg0
        have HNK := Lib.hid hN
        have HL := Lib.hid hl
        have HR := Lib.hid hR
        have HEL := Lib.hid hel
        have HOWN := Lib.hid hown
        have HKP := Lib.hid kp
        have q3 : len + 1 ≤ maxLen := by unfold maxLen; omega
        have q4 : (len + 1) * 128 ≤ 140737488355328 := by omega
        have hzz := kp.size
        clear hg0 hN hl hR hel hown kp HST
        go_wp2_with (first
          | (go_at_call 154; refine (tmData_any t _ x _ t1).mono ?_; rintro y w4 ⟨z0, i0, i1, i2, i3, in_, ip, iq, il, iu, iv_, ie, if_, ig, z1, g2, rfl, t4, k4, o4⟩; have O4 := Lib.hid o4; clear o4; have hown4 := rowK_kept HOWN.out k4 (by intro j _ q; have := HT.out; omega); rw [HL.out] at hown4; have hz4 := k4.size)
          | (at_builtin; refine wpList_append_lies _ rfl _ _ 30 rfl w.heap.size 52 ti _ 9 128 Tryz.underlying30 hi0 hz0 hz1 hz2 rfl (by decide) _ len vs rfl (World.ownsRow.alloc hown4 _) ⟨w4.heap.size, 0, none⟩ 1 1 [.int .i64 z0, .int .i64 i0, .int .i64 i1, .int .i64 i2, .int .i64 i3, .slice in_ ip iq, .slice il iu iv_, .slice ie if_ ig, .string z1] rfl rfl (newsL w4 _ [.int .i64 z0, .int .i64 i0, .int .i64 i1, .int .i64 i2, .int .i64 i3, .slice in_ ip iq, .slice il iu iv_, .slice ie if_ ig, .string z1]) (by intro u hu; simp only [List.mem_cons, List.not_mem_nil, or_false] at hu; rcases hu with rfl | rfl | rfl | rfl | rfl | rfl | rfl | rfl | rfl <;> rfl) (by decide) q3 q4 (le_alloc (show w.heap.size ≤ w4.heap.size by omega)) _ rfl ?_; intro gb cap5 w5 hown5 hg5 hat5 hlt5))
        have hO : Out (.ok s) datR g2 (fun a => Val datE (wr.heap.size ≤ ·) w4 [.int .i64 z0, .int .i64 i0, .int .i64 i1, .int .i64 i2, .int .i64 i3, .slice in_ ip iq, .slice il iu iv_, .slice ie if_ ig, .string z1] a) := O4.out
        have hown0 := HOWN.out
        have hown6 := hown5
        have hll := HL.out
        rw [← hll] at hown6
        obtain ⟨t5, k5, hP⟩ := rowV_step HT.out hown0 HEL.out HKP.out k4 t4 hown6 hg5 hat5 rfl
        have HNX := lrel_next (E := datE) (m := 9) (T := 52) hlt HNK.out hll HR.out hO t5 k5 hP
        rw [HG0.out]
        rw [hll] at HNX
        have hlw : IntKind.i64.wrap ((len : Int) + 1) = ((len + 1 : Nat) : Int) := by
          rw [IntKind.wrap_i64]; omega
        refine ⟨?_, ?_⟩
        · first | exact HNX | (rw [hlw]; exact HNX) | (rw [show ((len : Int) + 1) = ((len + 1 : Nat) : Int) by omega]; exact HNX)
        · simp [intOf]; omega
      · replace hflt : wr.cell? ⟨t, 1, none⟩ = some (.int .i64 f) := hflt
        have e1 : (f != 0) = true := by simpa using hf0
        have HOO := Lib.hid ho
        clear hf0 ho HST
        go_wp2_with fail
        go_ret
        exact ⟨_, _, _, _, rfl, t1, kp, HEND.out _ _ (out_any HOO.out)⟩
    · have hie : i = N := by omega
      subst hie
      go_wp2_with fail
      go_ret
      exact ⟨_, _, _, _, rfl, t1, kp, HEND.out _ _ (lrel_end HST.out)⟩
end Go.Proofs.YtekonefnniaheaaGreat
set_option linter.unusedVariables false
namespace Go.Proofs.YtekonefnniaheaaGreat
open Go.RowKit Go.Deep

theorem mul_mask (n : Nat) (hn : n ≤ 256) : bits .and .u64 (n : Int) 4294967295 = (n : Int) := by
  have e : (BitVec.ofInt 64 (n : Int)).toNat = n := by
    simp
    omega
  have e2 : (BitVec.ofInt 64 (4294967295 : Int)).toNat = 2 ^ 32 - 1 := by decide
  have key : (BitVec.ofInt 64 (n : Int) &&& BitVec.ofInt 64 (4294967295 : Int)).toNat = n := by
    rw [BitVec.toNat_and, e, e2, Nat.and_two_pow_sub_one_eq_mod]
    omega
  show IntKind.u64.wrap ((BitVec.ofInt 64 (n : Int) &&& BitVec.ofInt 64 (4294967295 : Int)).toNat : Nat) = _
  rw [key]
  simp [IntKind.wrap, IntKind.signed, IntKind.bits]
  omega
set_option maxRecDepth 100000 in
theorem mul64_one (n : Nat) (hn : n ≤ 256) (w : World) :
    Calls Tryz.prog 208 #[.int .u64 1, .int .u64 (n : Int)] w fun y w' => y = .returned (.tuple #[.int .u64 0, .int .u64 (n : Int)]) ∧ w = w' := by
  have h1 : bits .and .u64 1 4294967295 = 1 := by decide
  have h0 : bits .and .u64 0 4294967295 = 0 := by decide
  have hm := mul_mask n hn
  have hw : IntKind.u64.wrap (n : Int) = (n : Int) := by
    simp [IntKind.wrap, IntKind.signed, IntKind.bits]
    omega
  have hd : (n : Int) / 4294967296 = 0 := by omega
  go_enter Tryz.func208, Tryz.ntmps208
  go_wp2_with fail
  go_ret2
  exact ⟨by simp, rfl⟩
set_option maxRecDepth 100000 in
theorem mul_one' (n : Nat) (hn : n ≤ 256) (w : World) :
    Calls Tryz.prog 198 #[.int .u64 1, .int .u64 (n : Int)] w fun y w' => y = .returned (.tuple #[.int .u64 0, .int .u64 (n : Int)]) ∧ w = w' := by
  go_enter Tryz.func198, Tryz.ntmps198
  go_wp2_with (go_at_call 208; refine (mul64_one n hn _).mono ?_; rintro y w1 ⟨rfl, rfl⟩)
  go_ret2
  exact ⟨rfl, rfl⟩
/-- A row of n cells whose first k hold z. -/
def rowZ (z : Int) (k n : Nat) : List Value := List.replicate k (.int .i64 z) ++ List.replicate (n - k) (.int .i64 0)
theorem rowZ_len (z : Int) {k n : Nat} (h : k ≤ n) : (rowZ z k n).length = n := by unfold rowZ; simp; omega
theorem rowZ_made (z : Int) (n : Nat) : (madeCells #[Value.int .i64 0] n) = (rowZ z 0 n).toArray := by
  apply Array.ext
  · rw [size_madeCells, List.size_toArray, rowZ_len z (Nat.zero_le n)]
  · intro i h1 h2
    simp [madeCells, rowZ, Nat.mod_one]
theorem rowZ_splice (z : Int) {k n m : Nat} (h : k + m ≤ n) : splice (rowZ z k n) k (List.replicate m (.int .i64 z)) = rowZ z (k + m) n := by
  unfold splice rowZ
  rw [List.take_append_of_le_length (by simp), List.take_of_length_le (by simp), List.length_replicate, List.drop_append, List.drop_of_length_le (by simp), List.nil_append, List.length_replicate, List.drop_replicate, ← List.append_assoc, List.replicate_append_replicate]
  congr 2
  omega
def GivesRep (z : Int) (n : Nat) (w : World) (y : Ending) (w' : World) : Prop :=
  ∃ g, y = .returned (.slice (some ⟨g, 0, none⟩) n n) ∧ w.heap.size ≤ g ∧ w'.heap[g]? = some (.cells (rowZ z n n).toArray 3 (0, 0)) ∧ Below w.heap.size w w'
theorem info_rep : (Tryz.prog.info? 3).map (fun i => (i.zero, i.size, i.bytes)) = some (some (.int .i64 0), 1, 8) := by kernel_rfl
theorem one_rep (z : Int) (m : Nat) : ∀ v ∈ List.replicate m (Value.int .i64 z), v.oneCell' = true := by
  intro v hv
  rw [(List.mem_replicate.1 hv).2]
  rfl
set_option maxRecDepth 100000 in
theorem rep_copy (W : World) (G : Nat) (z : Int) (k n dLen dCap sLen sCap : Nat) (sa : Addr) (hd : k + dLen = n) (hG : W.heap[G]? = some (.cells (rowZ z k n).toArray 3 (0, 0)))
    (hsrc : ∀ j, j < min sLen dLen → W.cell? (sa.add j) = some (.int .i64 z)) (B : Nat) (w0 : World) (hb : Below B w0 W) (hB : B ≤ G) :
    ∃ W2, (∀ ty, (Builtin.copy_ #[24, 24] ty #[.slice (some ⟨G, k, none⟩) dLen dCap, .slice (some sa) sLen sCap]).run Tryz.prog W = .ok (.int .i64 ((min sLen dLen : Nat) : Int)) W2) ∧ W2.heap[G]? = some (.cells (rowZ z (k + min sLen dLen) n).toArray 3 (0, 0)) ∧ Below B w0 W2 := by
  obtain ⟨ti, hi0, hz0, hz1, hz2⟩ := info_parts info_rep
  have hsz : (Tryz.prog.info? 3).map (·.size) = some 1 := by rw [hi0]; exact congrArg some hz1
  have hl : (List.replicate (min sLen dLen) (Value.int .i64 z)).length = min sLen dLen := List.length_replicate
  have hr := fun ty => run_copy_row (P := Tryz.prog) W 24 24 ty 3 G k dLen dCap sa sLen sCap (rowZ z k n).toArray 3 (List.replicate (min sLen dLen) (.int .i64 z)) Tryz.underlying24 hsz hG hl (fun j v hj => by
    rw [List.getElem?_replicate] at hj
    split at hj
    · injection hj with hj
      rw [← hj]
      exact hsrc j (by assumption)
    · cases hj) (by rw [hl, List.size_toArray, rowZ_len z (by omega)]; omega) (one_rep z _)
  rw [hl] at hr
  refine ⟨_, hr, ?_, below_setRow hb hB _⟩
  have e : (((rowZ z k n).toArray.toList.take k ++ List.replicate (min sLen dLen) (Value.int .i64 z) ++ (rowZ z k n).toArray.toList.drop (k + min sLen dLen)).toArray : Array Value) = (rowZ z (k + min sLen dLen) n).toArray := by
    have := rowZ_splice z (k := k) (n := n) (m := min sLen dLen) (by omega)
    unfold splice at this
    rw [List.length_replicate] at this
    rw [List.append_assoc]
    exact congrArg List.toArray this
  rw [← e]
  exact setRow_heap W G _ _ _ _ hG
set_option maxRecDepth 100000 in
set_option maxHeartbeats 2000000 in
theorem Repeat_any (b : Nat) (z : Int) (n : Nat) (hn : n ≤ 256) (w : World) (hc : w.cell? ⟨b, 0, none⟩ = some (.int .i64 z)) :
    Calls Tryz.prog 187 #[.slice (some ⟨b, 0, none⟩) 1 1, .int .i64 (n : Int)] w fun y w' => GivesRep z n w y w' := by
  obtain ⟨ti, hi0, hz0, hz1, hz2⟩ := info_parts info_rep
  have hsz : (Tryz.prog.info? 3).map (·.size) = some 1 := by rw [hi0]; exact congrArg some hz1
  have hu : IntKind.u64.wrap (n : Int) = (n : Int) := by
    simp [IntKind.wrap, IntKind.signed, IntKind.bits]
    omega
  have hmk := run_make_row (P := Tryz.prog) 24 3 ti (.int .i64 0) Tryz.underlying24 hi0 hz0 hz1 rfl .i64 .i64 n (by rw [hz2]; omega) (by omega) w
  have hB : Below w.heap.size w (w.alloc (.cells (madeCells #[.int .i64 0] n) 3)) := (Below.refl _ _).alloc (Nat.le_refl _) _
  have hG : (w.alloc (.cells (madeCells #[.int .i64 0] n) 3)).heap[w.heap.size]? = some (.cells (rowZ z 0 n).toArray 3 (0, 0)) := by rw [← rowZ_made z n]; exact heap_alloc_new w _
  have hbl : b < w.heap.size := World.block_lt_of_cell? _ _ hc
  obtain ⟨W2, hcp, hG2, hB2⟩ := rep_copy _ w.heap.size z 0 n n n 1 1 ⟨b, 0, none⟩ (by omega) hG (fun j hj => by
    have : j = 0 := by omega
    subst this
    have := hB.cell (p := ⟨b, 0, none⟩) hbl
    rw [hc] at this
    exact this) w.heap.size w hB (Nat.le_refl _)
  obtain ⟨m, hm⟩ : ∃ m, m = min 1 n := ⟨_, rfl⟩
  rw [← hm] at hcp hG2
  rw [Nat.zero_add] at hG2
  have HM : Hid (m ≤ n ∧ (0 < m ∨ n = 0)) := Lib.hid (by omega)
  have HG2 := Lib.hid hG2
  have HB2 := Lib.hid hB2
  have HN := Lib.hid hn
  have HSZ := Lib.hid hsz
  clear hm hG hG2 hB hB2 hc hbl hi0 hz0 hz1 hz2 hsz
  go_enter Tryz.func187, Tryz.ntmps187
  go_wp2_with (go_at_call 198; refine (mul_one' n hn _).mono ?_; rintro y w1 ⟨rfl, rfl⟩)
  go_loopw [8] (fun kv wr => ∃ k : Nat, kv = .int .i64 k ∧ (k ≤ n ∧ (0 < k ∨ n = 0)) ∧ Hid (wr.heap[w.heap.size]? = some (.cells (rowZ z k n).toArray 3 (0, 0))) ∧ Below w.heap.size w wr) (fun kv _ => n - (intOf kv).toNat)
  case atStart => exact ⟨m, rfl, HM.out, HG2, HB2.out⟩
  case round =>
    clear hcp hmk HM HG2 HB2
    obtain ⟨k, rfl, ⟨hk1, hk2⟩, HG, hb⟩ := hrel
    by_cases hlt : k < n
    · have hkp : 0 < k := by omega
      obtain ⟨W4, hcp, hG4, hB4⟩ := rep_copy wr.drew w.heap.size z k n (n - k) (n - k) k n ⟨w.heap.size, 0, none⟩ (by omega) HG.out (fun j hj => by
        have hadd : (⟨w.heap.size, 0, none⟩ : Addr).add j = ⟨w.heap.size, j, none⟩ := by unfold Addr.add; split <;> simp_all
        rw [hadd]
        unfold World.cell?
        rw [show wr.drew.heap[(⟨w.heap.size, j, none⟩ : Addr).block]? = _ from HG.out]
        show (rowZ z k n).toArray[j]? = _
        rw [List.getElem?_toArray]
        unfold rowZ
        rw [List.getElem?_append_left (by rw [List.length_replicate]; omega), List.getElem?_replicate, if_pos (by omega)]) w.heap.size w hb.drew (Nat.le_refl _)
      have hwr : IntKind.i64.wrap ((k : Int) + ((min k (n - k) : Nat) : Int)) = ((k + min k (n - k) : Nat) : Int) := by
        rw [IntKind.wrap_i64]; omega
      have hck : k + min k (n - k) ≤ n ∧ 0 < min k (n - k) := by omega
      revert hcp hG4 hwr hck
      generalize min k (n - k) = c
      intro hcp hG4 hwr hck
      have HG4 := Lib.hid hG4
      have HB4 := Lib.hid hB4
      have HW := Lib.hid hwr
      have hnk : ¬ n = k := by omega
      clear hk2 hb hG4 hB4
      go_wp2_with fail
      go_region
      go_wp2_with fail
      refine ⟨⟨k + c, by first | rfl | (show Value.int .i64 ((k : Int) + (c : Int)) = Value.int .i64 ((k + c : Nat) : Int); congr 1), ⟨hck.1, .inl (by omega)⟩, HG4, HB4.out⟩, ?_⟩
      show n - (intOf (Value.int .i64 ((k : Int) + (c : Int)))).toNat < n - (intOf (Value.int .i64 (k : Int))).toNat
      simp [intOf]
      omega
    · have hkn : k = n := by omega
      subst hkn
      go_wp2_with fail
      go_ret
      exact ⟨w.heap.size, rfl, Nat.le_refl _, HG.out, hb⟩
end Go.Proofs.YtekonefnniaheaaGreat
set_option linter.unusedVariables false
namespace Go.Proofs.YtekonefnniaheaaGreat
open Go.RowKit Go.Deep

theorem els_ints {P : Nat → Prop} {w : World} : ∀ {zs : List Int}, (∀ z ∈ zs, 0 ≤ z ∧ z ≤ 255) → ElsV intE 1 P w zs (zs.map (Value.int .i64))
  | [], _ => .nil
  | z :: r, h => by
    rw [List.map_cons]
    exact .cons (us := [.int .i64 z]) rfl (val_int (by have := h z List.mem_cons_self; omega)) (els_ints fun u hu => h u (List.mem_cons_of_mem _ hu))
theorem slV_ints {B : Nat} {w : World} {a : Option Addr} {len cap : Nat} {zs : List Int} (h : Ints B (.slice a len cap) zs w) (hr : ∀ z ∈ zs, 0 ≤ z ∧ z ≤ 255) : SlV intE 1 B w a len cap zs :=
  RowV.own (T := 3) ⟨_, h, els_ints hr⟩
theorem rows_live {n : Nat} {zs : List Int} {s s3 : ByteArray} {g1 g2 : St} {many z : Int} (o1 : Out (.ok s) uT g1 (fun x => many = x)) (o2 : Out g1 yT g2 (fun x => z = x))
    (h3 : needS g2 (decide (many ≤ 256 - (zs.length : Int))) 14 = .ok s3) : many ≤ 256 - (zs.length : Int) ∧ rowsR (n + 1) zs s = rowsR n (zs ++ List.replicate many.toNat z) s3 := by
  obtain ⟨hp, hg2⟩ := needS_live (by decide) h3
  subst hg2
  obtain ⟨s1, z', hg1, hy, hz⟩ := o2.live
  subst hg1 hz
  obtain ⟨s', m', hs, hu, hm⟩ := o1.live
  injection hs with hs
  subst hs hm
  refine ⟨of_decide_eq_true hp, ?_⟩
  show bindR uT _ s = _
  rw [bindR_ok hu]
  show bindR yT _ s1 = _
  rw [bindR_ok hy]
  show (if many ≤ 256 - (zs.length : Int) then rowsR n (zs ++ List.replicate many.toNat z) else failR 14) s3 = _
  rw [if_pos (of_decide_eq_true hp)]
theorem rows_dead {n : Nat} {zs : List Int} {s : ByteArray} {g1 g2 : St} {many z f : Int} (o1 : Out (.ok s) uT g1 (fun x => many = x)) (o2 : Out g1 yT g2 (fun x => z = x))
    (h3 : needS g2 (decide (many ≤ 256 - (zs.length : Int))) 14 = .error f) (P : List Int → Prop) : Out (.ok s) (rowsR (n + 1) zs) (.error f) P := by
  refine o1.then (o2.then ?_)
  by_cases hp : many ≤ 256 - (zs.length : Int)
  · rw [decide_eq_true hp] at h3
    rw [show g2 = .error f from h3]
    rfl
  · rw [decide_eq_false hp] at h3
    rw [if_neg hp]
    cases g2 with
    | error f2 => exact h3.symm
    | ok s2 => exact h3.symm
theorem replicate_map (m : Nat) (z : Int) (zs : List Int) : zs.map (Value.int .i64) ++ List.replicate m (Value.int .i64 z) = (zs ++ List.replicate m z).map (Value.int .i64) := by
  rw [List.map_append, List.map_replicate]
theorem mem_rep {zs : List Int} {m : Nat} {z : Int} (h : ∀ u ∈ zs, 0 ≤ u ∧ u ≤ 255) (hz : 0 ≤ z ∧ z ≤ 255) : ∀ u ∈ zs ++ List.replicate m z, 0 ≤ u ∧ u ≤ 255 := by
  intro u hu
  rcases List.mem_append.1 hu with h1 | h1
  · exact h u h1
  · rw [(List.mem_replicate.1 h1).2]
    exact hz
theorem own_le {T : TypeId} {m B : Nat} {a : Option Addr} {n cap : Nat} {vs : List Value} {w : World} (h : w.ownsRow B T m (.slice a n cap) n vs) : n ≤ cap := by
  rcases h.2 with ⟨hn, h0⟩ | ⟨g, cap', cur, hn, hb, hg, hcap, _⟩
  · omega
  · injection hn with h1 h2 h3
    omega
/-- Where the loop stands. -/
def LocRel (N t : Nat) (x : List Value) (g0 : St) (w : World) (lv iv : Value) (wr : World) : Prop :=
  ∃ (i : Nat) (a : Option Addr) (len cap : Nat) (g : St), iv = .int .i64 i ∧ i ≤ N ∧ lv = .slice a len cap ∧ TmAt wr t g x ∧ Kept (· = t) w wr ∧ len ≤ cap ∧
    ((∃ s s0 zs, g = .ok s ∧ g0 = .ok s0 ∧ zs.length = len ∧ len ≤ 256 ∧ Ints w.heap.size lv zs wr ∧ (∀ z ∈ zs, 0 ≤ z ∧ z ≤ 255) ∧ rowsR N [] s0 = rowsR (N - i) zs s) ∨
     (∃ f, g = .error f ∧ f ≠ 0 ∧ g0 = .error f))
theorem ints_kept {F : Nat → Prop} {base : Nat} {v : Value} {xs : List Int} {w w' : World} (h : Ints base v xs w) (hk : Kept F w w') (hf : ∀ k, k < w.heap.size → F k → k < base) : Ints base v xs w' := rowK_kept h hk hf
theorem append_rep (a : Option Addr) (len cap g : Nat) (hle : len ≤ cap) (w : World) (ty : TypeId) :
    (Builtin.append_ #[24, 24] ty #[.slice a len cap, .slice (some ⟨g, 0, none⟩) 0 0]).run Tryz.prog w = .ok (.slice a len cap) w := by
  obtain ⟨ti, hi0, hz0, hz1, hz2⟩ := info_parts info_rep
  have hl := run_loadCells_list (P := Tryz.prog) w ⟨g, 0, none⟩ [] (fun j v hj => by simp at hj)
  rw [List.length_nil] at hl
  cases a <;> simp [Builtin.append_, run_underlying Tryz.underlying24, sizeOf, typeInfo, hi0, hz1, Builtin.lenOf, Builtin.firstCells, hle, storeCells, hl]
theorem wpList_append_run {P : Program} {w : World} {ops : Array Oper} {rest : List Oper} {o : Oper} {a : Act} {Q : Exit → Act → World → Prop} (hgd : o.guard = none) (d s : Operand) (dT sT : TypeId)
    (ho : o.op = .call { callee := .builtin .append, args := #[d, s], argTypes := #[dT, sT] }) (v : Value) (w' : World)
    (hrun : (Builtin.append_ #[dT, sT] o.type #[a.eval d, a.eval s]).run P w = .ok v w') (h : wpList P ops Q rest (a.put o.dst v) w') : wpList P ops Q (o :: rest) a w :=
  wpList_plain hgd fun K hK => by
    unfold Oper.wp
    simp [execOp, ho, resolve, invoke, builtin, hrun, Result.andThen]
    exact hK _ _ h
set_option maxRecDepth 100000 in
set_option maxHeartbeats 4000000 in
theorem tmLocals_any (t : Nat) (g : St) (x : List Value) (w : World) (h : TmAt w t g x) :
    Calls Tryz.prog 173 #[.pointer (some ⟨t, 0, none⟩)] w fun y w' => GivesLs intE 1 locR t g x w y w' := by
  obtain ⟨ti, hi0, hz0, hz1, hz2⟩ := info_parts info_rep
  have HB := Lib.hid (tmNumber_any t g x w h)
  have HT := Lib.hid h.lt
  clear h
  go_enter Tryz.func173, Tryz.ntmps173
  go_wp2_with (go_at_call 141; refine HB.out.mono ?_; rintro y w1 ⟨n, g1, rfl, hn, t1, k1, o1⟩; have O1 := Lib.hid o1; clear o1 HB; obtain ⟨N, hN⟩ := Int.eq_ofNat_of_zero_le hn.1; subst hN; have HNN := Lib.hid hn.2; clear hn)
  have HEND : Hid (∀ g' (P : List Int → Prop), Out g1 (rowsR N []) g' P → Out g locR g' P) := Lib.hid fun g' P h => Out.then O1.out h
  have HS : Hid (LocRel N t x g1 w (.slice none 0 0) (.int .i64 ((0 : Nat) : Int)) w1) := Lib.hid (by
    refine ⟨0, none, 0, 0, g1, rfl, Nat.zero_le _, rfl, t1, k1, Nat.le_refl _, ?_⟩
    rcases t1.wf.cases with ⟨s, hs, _⟩ | ⟨f, hf, hf0⟩
    · exact .inl ⟨s, s, [], hs, hs, rfl, by omega, World.ownsRow_nil _ _ _ _, fun z hz => (by cases hz), rfl⟩
    · exact .inr ⟨f, hf, hf0, hf⟩)
  clear O1 t1 k1
  go_loopw [3, 8] (fun lv iv wr => LocRel N t x g1 w lv iv wr) (fun _ iv _ => N - (intOf iv).toNat)
  case atStart => exact HS.out
  case round =>
    clear HS
    obtain ⟨i, a, len, cap, gi, rfl, hi, rfl, t1, kp, hlc, hst⟩ := hrel
    have HST := Lib.hid hst
    have HNI := HNN.out
    have HLC := Lib.hid hlc
    clear hst hlc
    by_cases hlt : i < N
    · rcases HST.out with ⟨s, s0, zs, rfl, hg0, hl, h256, hown, hrg, hR⟩ | ⟨f, rfl, hf0, ho⟩
      · have HG0 := Lib.hid hg0
        have HL := Lib.hid hl
        have H256 := Lib.hid h256
        have HRG := Lib.hid hrg
        have HOWN := Lib.hid hown
        have HR := Lib.hid hR
        have HKP := Lib.hid kp
        have hzz := kp.size
        have hsub : IntKind.i64.wrap (256 - (len : Int)) = 256 - (len : Int) := by rw [IntKind.wrap_i64]; omega
        have hlc2 := HLC.out
        have HN1 := Lib.hid (tmNumber_any t _ x _ t1)
        clear hg0 hl hrg hown hR kp HST t1
        go_wp2_with (first
          | (go_at_call 141; refine HN1.out.mono ?_; rintro y w2 ⟨many, g2, rfl, hm, t2, k2, o2⟩; have O2 := Lib.hid o2; clear o2; have HM := Lib.hid hm; have hz2' := k2.size)
          | (go_at_call 165; refine (tmTyp_any t g2 x _ t2).mono ?_; rintro y w3 ⟨z, g3, rfl, hz, t3, k3, o3⟩; have O3 := Lib.hid o3; clear o3; have HZ := Lib.hid hz; have hz3 := k3.size)
          | (go_at_call 69; refine (tmNeed_any t g3 x (decide (many ≤ 256 - (len : Int))) 14 _ t3).mono ?_; rintro y w4 ⟨rfl, t4, k4⟩; have hz4 := k4.size
             have hflt := t4.flt
             obtain ⟨g4, hg4⟩ : ∃ g4, g4 = needS g3 (decide (many ≤ 256 - (len : Int))) 14 := ⟨_, rfl⟩
             rw [← hg4] at t4 hflt
             have HG4 := Lib.hid hg4
             clear hg4
             rcases t4.wf.cases with ⟨s4, rfl, _⟩ | ⟨f4, rfl, hf4⟩
             case' inl =>
               replace hflt : w4.cell? ⟨t, 1, none⟩ = some (.int .i64 0) := hflt
               have hrl := rows_live (n := N - i - 1) (zs := zs) O2.out O3.out (by rw [HL.out]; exact HG4.out.symm)
               obtain ⟨M, hM⟩ := Int.eq_ofNat_of_zero_le hm.1
               subst hM
               have hM2 : M ≤ 256 - len := by have := hrl.1; rw [HL.out] at this; omega
               have HRL := Lib.hid hrl.2
               have HREP := Lib.hid (Repeat_any w4.heap.size z M (by omega) (w4.alloc (.cells #[.int .i64 z] 3)) (World.cell?_alloc_mark w4 _ _ _ 0))
               have hown4 : (w4.alloc (.cells #[.int .i64 z] 3)).ownsRow w.heap.size 3 1 (.slice a len cap) len (zs.map (Value.int .i64)) := by
                 have h1 := ints_kept HOWN.out ((k2.trans k3).trans k4) (by intro j _ q; have := HT.out; omega)
                 unfold Ints at h1
                 rw [HL.out] at h1
                 exact World.ownsRow.alloc h1 _
               have HOWN4 := Lib.hid hown4
               clear hrl hown4
             case' inr =>
               replace hflt : w4.cell? ⟨t, 1, none⟩ = some (.int .i64 f4) := hflt
               have e4 : (f4 != 0) = true := by simpa using hf4
               clear hf4)
          | (go_at_call 187; refine HREP.out.mono ?_; rintro y w5 ⟨gR, rfl, hgR, hcR, hb5⟩; have HCR := Lib.hid hcR; have HB5 := Lib.hid hb5; have hz5 := hb5.size
             have hza : (w4.alloc (.cells #[.int .i64 z] 3)).heap.size = w4.heap.size + 1 := by simp
             have hown5 := rowK_kept HOWN4.out (Kept.of_below (F := fun _ => False) hb5) (fun _ _ q => q.elim)
             have K5 : Hid (Kept (· = t) w w5) := Lib.hid ((((HKP.out.trans k2).trans k3).trans k4).trans ((Kept.of_below ((Below.refl _ _).alloc (Nat.le_refl _) _)).trans (Kept.of_below hb5)))
             have t5 := (t4.below ((Below.refl _ _).alloc (Nat.le_refl _) (.cells #[.int .i64 z] 3))).below hb5
             have T5 := Lib.hid t5
             have HOWN5 := Lib.hid hown5
             clear hcR hb5 HREP HOWN4 hown5 t5
             rcases Nat.eq_zero_or_pos M with hM0 | hMp
             case' inl =>
               subst hM0
               have HAP := Lib.hid (fun ty => append_rep a len cap gR HLC.out w5 ty)
             case' inr =>
               have hrep : ∀ j u, (List.replicate M (Value.int .i64 z))[j]? = some u → w5.cell? ((⟨gR, 0, none⟩ : Addr).add j) = some u := fun j u hj => by
                 have hadd : (⟨gR, 0, none⟩ : Addr).add j = ⟨gR, j, none⟩ := by unfold Addr.add; split <;> simp_all
                 rw [hadd]
                 unfold World.cell?
                 rw [show w5.heap[(⟨gR, j, none⟩ : Addr).block]? = _ from HCR.out]
                 show (rowZ z M M).toArray[j]? = _
                 rw [List.getElem?_toArray]
                 unfold rowZ
                 rw [List.getElem?_append_left (by have := (List.getElem?_eq_some_iff.1 hj).1; simpa using this)]
                 exact hj
               have HREP2 := Lib.hid hrep
               have q3 : len + M ≤ maxLen := by unfold maxLen; omega
               have q4 : (len + M) * 8 ≤ 140737488355328 := by omega
               have q5 : w.heap.size ≤ w5.heap.size := by omega
               clear hrep)
          | (at_builtin; refine wpList_append_run rfl _ _ _ _ rfl _ w5 (HAP.out _) ?_)
          | (at_builtin; refine wpList_append_lies _ rfl _ _ 24 rfl w.heap.size 3 ti (.int .i64 0) 1 8 Tryz.underlying24 hi0 hz0 hz1 hz2 rfl (by decide) _ len (zs.map (Value.int .i64)) rfl HOWN5.out ⟨gR, 0, none⟩ M M (List.replicate M (Value.int .i64 z)) rfl (by rw [List.length_replicate, Nat.mul_one]) HREP2.out (one_rep z M) hMp q3 q4 q5 _ rfl ?_; intro gb cap6 w6 hown6 hg6 hat6 hlt6))
        · go_ret
          refine ⟨_, _, _, _, rfl, t4, ((HKP.out.trans k2).trans k3).trans k4, HEND.out _ _ ?_⟩
          have hd := (rows_dead (n := N - i - 1) (zs := zs) O2.out O3.out (by rw [HL.out]; exact HG4.out.symm) (fun _ => True)).fault
          rw [show N - i - 1 + 1 = N - i by omega] at hd
          rw [HG0.out]
          exact (out_err' (HR.out.trans hd)).2 rfl
        · have hl6 := own_le hown6
          have hlt5 := rowK_lt HOWN5.out
          have ht := HT.out
          have KG : Kept (fun k => some k = (Value.slice a len cap).ownBlock) w5 w6 := ⟨hg6.os, hg6.tape, hg6.output, hg6.size, fun k hk hf => hg6.block k hk hf⟩
          have T6 : TmAt w6 t (.ok s4) x := ⟨T5.out.blk.kept KG (fun q => by have := hlt5 t q.symm; omega), T5.out.wf⟩
          have K6 : Kept (· = t) w w6 := K5.out.then KG (by intro j hj q; have := hlt5 j q.symm; omega)
          refine ⟨⟨i + 1, some ⟨gb, 0, none⟩, len + M, cap6, .ok s4, by go_num, by omega, rfl, T6, K6, hl6, .inl ⟨s4, _, zs ++ List.replicate M z, rfl, HG0.out, ?_, by omega, ?_, mem_rep HRG.out HZ.out, ?_⟩⟩, by simp [intOf]; omega⟩
          · rw [List.length_append, List.length_replicate, HL.out]
          · unfold Ints
            rw [← replicate_map, List.length_append, List.length_replicate, HL.out]
            exact hown6
          · have h1 := HRL.out
            rw [show N - i - 1 + 1 = N - i by omega, Int.toNat_natCast] at h1
            rw [HR.out, h1, show N - (i + 1) = N - i - 1 by omega]
        · refine ⟨⟨i + 1, a, len, cap, .ok s4, by go_num, by omega, rfl, T5.out, K5.out, HLC.out, .inl ⟨s4, _, zs, rfl, HG0.out, HL.out, H256.out, ?_, HRG.out, ?_⟩⟩, by simp [intOf]; omega⟩
          · unfold Ints
            rw [HL.out]
            exact HOWN5.out
          · have h1 := HRL.out
            rw [show N - i - 1 + 1 = N - i by omega, Int.toNat_natCast, List.replicate_zero, List.append_nil] at h1
            rw [HR.out, h1, show N - (i + 1) = N - i - 1 by omega]
      · have HO := Lib.hid ho
        have HF := Lib.hid hf0
        have HKP := Lib.hid kp
        have HN1 := Lib.hid (tmNumber_any t _ x _ t1)
        clear ho hf0 HST kp
        go_wp2_with (first
          | (go_at_call 141; refine HN1.out.mono ?_; rintro y w2 ⟨many, g2, rfl, hm, t2, k2, o2⟩; have e2 := o2.dead f rfl; subst e2; clear o2 hm)
          | (go_at_call 165; refine (tmTyp_any t _ x _ t2).mono ?_; rintro y w3 ⟨z, g3, rfl, hz, t3, k3, o3⟩; have e3 := o3.dead f rfl; subst e3; clear o3 hz)
          | (go_at_call 69; refine (tmNeed_any t _ x _ 14 _ t3).mono ?_; rintro y w4 ⟨rfl, t4, k4⟩; rw [needS_dead rfl] at t4; have hflt2 := t4.flt; replace hflt2 : w4.cell? ⟨t, 1, none⟩ = some (.int .i64 f) := hflt2; have e4 : (f != 0) = true := by simpa using HF.out))
        go_ret
        refine ⟨_, _, _, _, rfl, t4, ((HKP.out.trans k2).trans k3).trans k4, HEND.out _ _ ?_⟩
        rw [HO.out]
        rfl
    · have hie : i = N := by omega
      subst hie
      go_wp2_with fail
      go_ret
      refine ⟨_, _, _, _, rfl, t1, kp, HEND.out _ _ ?_⟩
      rcases HST.out with ⟨s, s0, zs, rfl, hg0, hl, h256, hown, hrg, hR⟩ | ⟨f, rfl, hf0, ho⟩
      · subst hg0
        rw [Nat.sub_self] at hR
        exact (out_ok (hR.trans rfl)).2 ⟨rfl, slV_ints hown hrg⟩
      · subst ho
        rfl
end Go.Proofs.YtekonefnniaheaaGreat
set_option linter.unusedVariables false
namespace Go.Proofs.YtekonefnniaheaaGreat
open Go.RowKit Go.Deep

theorem Out.with {X : Type} {g g' : St} {R : Rd X} {P C : X → Prop} (h : Out g R g' P) (hc : ∀ s q, R s = .ok q → C q.1) : Out g R g' (fun x => P x ∧ C x) := by
  cases g with
  | error f => exact h
  | ok s =>
    cases hR : R s with
    | error e => exact (out_err' hR).2 ((out_err' hR).1 h)
    | ok q => exact (out_ok hR).2 ⟨((out_ok hR).1 h).1, ((out_ok hR).1 h).2, hc s q hR⟩
theorem rowsR_len : ∀ (n : Nat) (l : List Int) (s : ByteArray) (q : List Int × ByteArray), l.length ≤ 256 → rowsR n l s = .ok q → q.1.length ≤ 256
  | 0, l, s, q, hl, h => by
    injection h with h
    rw [← h]
    exact hl
  | n + 1, l, s, q, hl, h => by
    replace h : bindR uT (fun many => bindR yT fun t => if many ≤ 256 - (l.length : Int) then rowsR n (l ++ List.replicate many.toNat t) else failR 14) s = .ok q := h
    cases hu : uT s with
    | error e => rw [bindR_err hu] at h; cases h
    | ok p =>
      rw [bindR_ok hu] at h
      cases hy : yT p.2 with
      | error e => rw [bindR_err hy] at h; cases h
      | ok r =>
        rw [bindR_ok hy] at h
        by_cases hm : p.1 ≤ 256 - (l.length : Int)
        · rw [if_pos hm] at h
          refine rowsR_len n _ _ _ ?_ h
          rw [List.length_append, List.length_replicate]
          omega
        · rw [if_neg hm] at h
          cases h
theorem locR_len (s : ByteArray) (q : List Int × ByteArray) (h : locR s = .ok q) : q.1.length ≤ 256 := by
  unfold locR at h
  cases hu : uT s with
  | error e => rw [bindR_err hu] at h; cases h
  | ok p =>
    rw [bindR_ok hu] at h
    exact rowsR_len _ _ _ _ (by show 0 ≤ 256; omega) h
theorem out_in {X : Type} {g g1 g3 : St} {R : Rd X} {content : ByteArray} {P : X → Prop} (o1 : Out g bytesR g1 (fun z => content = z)) (o3 : Out (tookS g1 content 0) R g3 P) :
    Out g (inR R) (tookS (needS g3 (decide ((stR g3).size = 0)) 2) (stR g1) 0) P := by
  have dead : ∀ f, g3 = .error f → tookS (needS g3 (decide ((stR g3).size = 0)) 2) (stR g1) 0 = .error f := fun f e => by
    subst e
    rfl
  cases g with
  | error f =>
    have h1 : g1 = .error f := o1
    subst h1
    exact dead f (o3.dead f rfl)
  | ok s =>
    cases hB : bytesR s with
    | error e =>
      have h1 := (out_err' hB).1 o1
      subst h1
      refine (out_err' ?_).2 (dead e (o3.dead e rfl))
      unfold inR
      rw [hB]
      rfl
    | ok q =>
      obtain ⟨h1, h2⟩ := (out_ok hB).1 o1
      subst h1 h2
      replace o3 : Out (.ok q.1) R g3 P := o3
      have hin : inR R s = (R q.1).bind fun p => if p.2.size = 0 then .ok (p.1, q.2) else .error 2 := by
        unfold inR
        rw [hB]
        rfl
      cases hR : R q.1 with
      | error e =>
        have h3 := (out_err' hR).1 o3
        refine (out_err' ?_).2 (dead e h3)
        rw [hin, hR]
        rfl
      | ok p =>
        obtain ⟨h3, h4⟩ := (out_ok hR).1 o3
        subst h3
        by_cases hz : p.2.size = 0
        · refine (out_ok (q := (p.1, q.2)) ?_).2 ⟨?_, h4⟩
          · rw [hin, hR]
            show (if p.2.size = 0 then _ else _) = _
            rw [if_pos hz]
          · rw [show decide ((stR (.ok p.2)).size = 0) = true from decide_eq_true hz]
            rfl
        · refine (out_err' (e := 2) ?_).2 ?_
          · rw [hin, hR]
            show (if p.2.size = 0 then _ else _) = _
            rw [if_neg hz]
          · rw [show decide ((stR (.ok p.2)).size = 0) = false from decide_eq_false hz]
            rfl
theorem took_live {X : Type} {g g1 : St} {R : Rd X} {P : X → Prop} {b : ByteArray} (h : Out g R g1 P) (s' : ByteArray) (e : tookS g1 b 0 = .ok s') : ∃ s, g = .ok s := by
  cases g with
  | ok s => exact ⟨s, rfl⟩
  | error f =>
    have := h.dead f rfl
    subst this
    cases e
/-- What the inner function of inBytes gives. -/
def GivesIn {X : Type} (R : Rd X) (F : Nat → Prop) (P : World → List Value → X → Prop) (D : World → List Value → Prop) (t : Nat) (g : St) (w : World) (y : Ending) (w' : World) : Prop :=
  ∃ x2 g', y = .returned (.tuple #[]) ∧ TmAt w' t g' x2 ∧ Kept F w w' ∧ Out g R g' (fun a => P w' x2 a) ∧ D w' x2
set_option maxRecDepth 100000 in
set_option maxHeartbeats 2000000 in
theorem tmIn_code {X : Type} (R : Rd X) (F : Nat → Prop) (P : World → List Value → X → Prop) (D : World → List Value → Prop) (t : Nat) (g : St) (x : List Value) (k0 k1 : Nat) (w : World) (h : TmAt w t g x) (hF : F t)
    (hP : ∀ w2 w3 x2 a, Kept (· = t) w2 w3 → P w2 x2 a → P w3 x2 a) (hD : ∀ w2 w3 x2, Kept (· = t) w2 w3 → D w2 x2 → D w3 x2)
    (hc : ∀ w' g', TmAt w' t g' x → Kept (· = t) w w' → (∀ s', g' = .ok s' → ∃ s, g = .ok s) → Calls Tryz.prog 172 #[.pointer (some ⟨k0, 0, none⟩), .pointer (some ⟨k1, 0, none⟩)] w' fun y w2 => GivesIn R F P D t g' w' y w2) :
    Calls Tryz.prog 118 #[.pointer (some ⟨t, 0, none⟩), .func (.func 172) #[] #[.pointer (some ⟨k0, 0, none⟩), .pointer (some ⟨k1, 0, none⟩)]] w fun y w' => GivesIn (inR R) F P D t g w y w' := by
  have HB := Lib.hid (tmBytes_any t g x w h)
  have HC := Lib.hid hc
  have HP := Lib.hid hP
  have HD := Lib.hid hD
  have HF := Lib.hid hF
  clear h hc hP hD hF
  go_enter Tryz.func118, Tryz.ntmps118
  go_wp2_with (first
    | (go_at_call 134; refine HB.out.mono ?_; rintro y w1 ⟨content, g1, rfl, hcs, t1, k1, o1⟩; have O1 := Lib.hid o1; have HCS := Lib.hid hcs; clear o1 HB hcs; have d1 := t1.rest; have HT2 := Lib.hid (tmTook_any t g1 x content 0 w1 t1 (fun q => absurd rfl q) HCS.out))
    | (go_at_call 68; refine HT2.out.mono ?_; rintro y w2 ⟨rfl, t2, k2⟩; clear HT2 d1; have HCC := Lib.hid (HC.out _ _ t2 (k1.trans k2) (took_live O1.out)); clear HC)
    | (go_at_call 172; refine HCC.out.mono ?_; rintro y w3 ⟨x2, g3, rfl, t3, k3, o3, d3⟩; have O3 := Lib.hid o3; have D3 := Lib.hid d3; clear o3 d3 HCC
       have r3 := t3.rest
       by_cases hz : (stR g3).size = 0
       case' pos =>
         have hse : stR g3 = ⟨#[]⟩ := ByteArray.size_eq_zero_iff.1 hz
         rw [hse] at r3
         have HZ := Lib.hid hz
         clear hz hse
       case' neg =>
         have HZ := Lib.hid hz
         have hnn := toList_some (show 0 < (stR g3).size by omega)
         clear hz)
    | (go_at_call 69; refine (tmNeed_any t _ x2 _ 2 _ t3).mono ?_; rintro y w4 ⟨rfl, t4, k4⟩; have HT5 := Lib.hid (tmTook_any t _ x2 (stR g1) 0 w4 t4 (fun q => absurd rfl q) t1.wf.sz))
    | (go_at_call 68; refine HT5.out.mono ?_; rintro y w5 ⟨rfl, t5, k5⟩))
  · have e : decide ((stR g3).size = 0) = false := decide_eq_false HZ.out
    have ho := out_in O1.out O3.out
    rw [e] at ho
    have kk := (k4.trans k5)
    exact bodyPost_void rfl rfl ⟨x2, _, rfl, t5, ((k1.mono (fun k q => q ▸ HF.out)).trans (k2.mono (fun k q => q ▸ HF.out))).trans (k3.trans (kk.mono (fun k q => q ▸ HF.out))), ho.mono fun a ha => HP.out _ _ _ _ kk ha, HD.out _ _ _ kk D3.out⟩
  · have e : decide ((stR g3).size = 0) = true := decide_eq_true HZ.out
    have ho := out_in O1.out O3.out
    rw [e] at ho
    have kk := (k4.trans k5)
    exact bodyPost_void rfl rfl ⟨x2, _, rfl, t5, ((k1.mono (fun k q => q ▸ HF.out)).trans (k2.mono (fun k q => q ▸ HF.out))).trans (k3.trans (kk.mono (fun k q => q ▸ HF.out))), ho.mono fun a ha => HP.out _ _ _ _ kk ha, HD.out _ _ _ kk D3.out⟩
set_option maxRecDepth 100000 in
set_option maxHeartbeats 2000000 in
theorem tmIn_sect {X : Type} (R : Rd X) (F : Nat → Prop) (P : World → List Value → X → Prop) (D : World → List Value → Prop) (t : Nat) (g : St) (x : List Value) (k0 k1 : Nat) (w : World) (h : TmAt w t g x) (hF : F t)
    (hP : ∀ w2 w3 x2 a, Kept (· = t) w2 w3 → P w2 x2 a → P w3 x2 a) (hD : ∀ w2 w3 x2, Kept (· = t) w2 w3 → D w2 x2 → D w3 x2)
    (hc : ∀ w' g', TmAt w' t g' x → Kept (· = t) w w' → (∀ s', g' = .ok s' → ∃ s, g = .ok s) → Calls Tryz.prog 119 #[.pointer (some ⟨k0, 0, none⟩), .pointer (some ⟨k1, 0, none⟩)] w' fun y w2 => GivesIn R F P D t g' w' y w2) :
    Calls Tryz.prog 118 #[.pointer (some ⟨t, 0, none⟩), .func (.func 119) #[] #[.pointer (some ⟨k0, 0, none⟩), .pointer (some ⟨k1, 0, none⟩)]] w fun y w' => GivesIn (inR R) F P D t g w y w' := by
  have HB := Lib.hid (tmBytes_any t g x w h)
  have HC := Lib.hid hc
  have HP := Lib.hid hP
  have HD := Lib.hid hD
  have HF := Lib.hid hF
  clear h hc hP hD hF
  go_enter Tryz.func118, Tryz.ntmps118
  go_wp2_with (first
    | (go_at_call 134; refine HB.out.mono ?_; rintro y w1 ⟨content, g1, rfl, hcs, t1, k1, o1⟩; have O1 := Lib.hid o1; have HCS := Lib.hid hcs; clear o1 HB hcs; have d1 := t1.rest; have HT2 := Lib.hid (tmTook_any t g1 x content 0 w1 t1 (fun q => absurd rfl q) HCS.out))
    | (go_at_call 68; refine HT2.out.mono ?_; rintro y w2 ⟨rfl, t2, k2⟩; clear HT2 d1; have HCC := Lib.hid (HC.out _ _ t2 (k1.trans k2) (took_live O1.out)); clear HC)
    | (go_at_call 119; refine HCC.out.mono ?_; rintro y w3 ⟨x2, g3, rfl, t3, k3, o3, d3⟩; have O3 := Lib.hid o3; have D3 := Lib.hid d3; clear o3 d3 HCC
       have r3 := t3.rest
       by_cases hz : (stR g3).size = 0
       case' pos =>
         have hse : stR g3 = ⟨#[]⟩ := ByteArray.size_eq_zero_iff.1 hz
         rw [hse] at r3
         have HZ := Lib.hid hz
         clear hz hse
       case' neg =>
         have HZ := Lib.hid hz
         have hnn := toList_some (show 0 < (stR g3).size by omega)
         clear hz)
    | (go_at_call 69; refine (tmNeed_any t _ x2 _ 2 _ t3).mono ?_; rintro y w4 ⟨rfl, t4, k4⟩; have HT5 := Lib.hid (tmTook_any t _ x2 (stR g1) 0 w4 t4 (fun q => absurd rfl q) t1.wf.sz))
    | (go_at_call 68; refine HT5.out.mono ?_; rintro y w5 ⟨rfl, t5, k5⟩))
  · have e : decide ((stR g3).size = 0) = false := decide_eq_false HZ.out
    have ho := out_in O1.out O3.out
    rw [e] at ho
    have kk := (k4.trans k5)
    exact bodyPost_void rfl rfl ⟨x2, _, rfl, t5, ((k1.mono (fun k q => q ▸ HF.out)).trans (k2.mono (fun k q => q ▸ HF.out))).trans (k3.trans (kk.mono (fun k q => q ▸ HF.out))), ho.mono fun a ha => HP.out _ _ _ _ kk ha, HD.out _ _ _ kk D3.out⟩
  · have e : decide ((stR g3).size = 0) = true := decide_eq_true HZ.out
    have ho := out_in O1.out O3.out
    rw [e] at ho
    have kk := (k4.trans k5)
    exact bodyPost_void rfl rfl ⟨x2, _, rfl, t5, ((k1.mono (fun k q => q ▸ HF.out)).trans (k2.mono (fun k q => q ▸ HF.out))).trans (k3.trans (kk.mono (fun k q => q ▸ HF.out))), ho.mono fun a ha => HP.out _ _ _ _ kk ha, HD.out _ _ _ kk D3.out⟩
def GivesCod (t : Nat) (g : St) (x : List Value) (w : World) (y : Ending) (w' : World) : Prop :=
  ∃ z0 z1 z2 z3 z4 z5 g', y = .returned (.agg #[.slice z0 z1 z2, .slice z3 z4 z5]) ∧ TmAt w' t g' x ∧ Kept (· = t) w w' ∧ Out g codR g' (fun a => Val codE (w.heap.size ≤ ·) w' [.slice z0 z1 z2, .slice z3 z4 z5] a)
theorem val_cod {B : Nat} {w : World} {a0 a1 : Option Addr} {l0 c0 l1 c1 : Nat} {p : List Int} {l : List Ins} (h0 : SlV intE 1 B w a0 l0 c0 p) (hp : p.length ≤ 256) (h1 : OwnP (B ≤ ·) w a1 l1 c1 l) (hw : wfL l) : Val codE (B ≤ ·) w [.slice a0 l0 c0, .slice a1 l1 c1] ⟨p, l⟩ := by
  have e0 := h0.now.eq
  have e1 := h1.eq
  subst e0 e1
  exact fun W hW b o hc => ⟨a0, c0, a1, c1, ⟨hc 0 _ rfl, hc 1 _ rfl⟩, (h0 W hW).ints, ⟨h1.eq, h1.le, h1.top, h1.lies W hW⟩, hw, by show p.length ≤ _; omega⟩
def codD (k1 : Nat) (x : List Value) (w : World) (x2 : List Value) : Prop := x2 = x ∧ ∃ z0 z1 z2 z3 z4 z5, BlkAt w k1 #[.slice z0 z1 z2, .slice z3 z4 z5] 73
def codP2 (k1 B : Nat) (w : World) (_ : List Value) (a : Cod) : Prop := ∃ z0 z1 z2 z3 z4 z5, BlkAt w k1 #[.slice z0 z1 z2, .slice z3 z4 z5] 73 ∧ Val codE (B ≤ ·) w [.slice z0 z1 z2, .slice z3 z4 z5] a
set_option maxRecDepth 100000 in
set_option maxHeartbeats 4000000 in
theorem tmCode1_any (t B : Nat) (g : St) (x : List Value) (k0 k1 : Nat) (w : World) (h : TmAt w t g x) (b0 : BlkAt w k0 #[.pointer (some ⟨t, 0, none⟩)] 63) (v0 : BlkAt w k1 #[.slice none 0 0, .slice none 0 0] 73) (h01 : k0 ≠ k1) (h0t : k0 ≠ t) (h1t : k1 ≠ t) (hB : B ≤ w.heap.size) (hk1 : k1 < B) (htB : t < B) :
    Calls Tryz.prog 172 #[.pointer (some ⟨k0, 0, none⟩), .pointer (some ⟨k1, 0, none⟩)] w fun y w' => GivesIn (bindR locR fun ls => mapR (fun l => Cod.mk ls l) takeT) (fun k => k = t ∨ k = k1) (codP2 k1 B) (codD k1 x) t g w y w' := by
  have c0 := b0.cell 0
  simp at c0
  have HL := Lib.hid (tmLocals_any t g x w h)
  have B0 := Lib.hid b0
  have V0 := Lib.hid v0
  have ht := h.lt
  have hk0 := b0.lt
  clear h b0 v0
  go_enter Tryz.func172, Tryz.ntmps172
  go_wp2_with (first
    | (go_at_call 173; refine HL.out.mono ?_; rintro y w1 ⟨z0, z1, z2, g1, rfl, t1, k1', o1⟩; have O1 := Lib.hid o1; clear o1 HL; have hz1 := k1'.size
       have b1 := B0.out.kept k1' h0t
       have v1 := V0.out.kept k1' h1t
       obtain ⟨cv1_0, cv1_1⟩ := BlkAt.cells2 v1
       have fv1_0 := v1.frozen 0
       have ts1 := t1.set (b := k1) (fun q => h1t q.symm) 0 (.slice z0 z1 z2)
       have bs1 := b1.other (b' := k1) h01 0 (.slice z0 z1 z2)
       have vs1 : BlkAt (w1.setCell ⟨k1, 0, none⟩ (.slice z0 z1 z2)) k1 #[.slice z0 z1 z2, .slice none 0 0] 73 := v1.put 0 (.slice z0 z1 z2)
       have cb1 := b1.cell 0
       simp at cb1
       have HI := Lib.hid (tmInstrs_any t _ x _ ts1))
    | (go_at_call 174; refine HI.out.mono ?_; rintro y w2 ⟨z3, z4, z5, g2, rfl, t2, k2, o2⟩; have O2 := Lib.hid o2; clear o2 HI; have hz2 := k2.size
       have v2 := vs1.kept k2 h1t
       obtain ⟨cv2_0, cv2_1⟩ := BlkAt.cells2 v2
       have fv2_1 := v2.frozen 1))
  have hzs : (w1.setCell ⟨k1, 0, none⟩ (.slice z0 z1 z2)).heap.size = w1.heap.size := by simp [World.setCell]
  have ts2 := t2.set (b := k1) (fun q => h1t q.symm) 1 (.slice z3 z4 z5)
  have vs2 : BlkAt (w2.setCell ⟨k1, 1, none⟩ (.slice z3 z4 z5)) k1 #[.slice z0 z1 z2, .slice z3 z4 z5] 73 := v2.put 1 (.slice z3 z4 z5)
  have KL2 : Kept (fun k => k = t ∨ k = k1) w2 (w2.setCell ⟨k1, 1, none⟩ (.slice z3 z4 z5)) := (Kept.refl _ w2).set (p := ⟨k1, 1, none⟩) (.inr rfl) _
  have KL1 : Kept (fun k => k = t ∨ k = k1) w1 (w2.setCell ⟨k1, 1, none⟩ (.slice z3 z4 z5)) := (((Kept.refl _ w1).set (p := ⟨k1, 0, none⟩) (.inr rfl) _).trans (k2.mono fun _ q => .inl q)).trans KL2
  have oo := O1.out.with (C := fun l => l.length ≤ 256) locR_len
  have ho := oo.keep (k := Cod.mk) O2.out (C := fun a => codP2 k1 B (w2.setCell ⟨k1, 1, none⟩ (.slice z3 z4 z5)) x a) (fun p l hp hl => ⟨z0, z1, z2, z3, z4, z5, vs2, val_cod (hp.1.later KL1 (by rintro i (q | q) <;> omega) hB) hp.2 (hl.1.next (KL2.agree fun k hk _ q => by rcases q with q | q <;> omega) KL2.size fun k hk _ => by omega) hl.2⟩)
  exact bodyPost_void rfl rfl ⟨x, _, rfl, ts2, (k1'.mono fun _ q => .inl q).trans KL1, ho, rfl, z0, z1, z2, z3, z4, z5, vs2⟩
set_option maxRecDepth 100000 in
set_option maxHeartbeats 4000000 in
theorem tmCode_any (t : Nat) (g : St) (x : List Value) (w : World) (h : TmAt w t g x) :
    Calls Tryz.prog 152 #[.pointer (some ⟨t, 0, none⟩)] w fun y w' => GivesCod t g x w y w' := by
  have ht := h.lt
  obtain ⟨W, hW⟩ : ∃ W, W = (((w.alloc (.cells #[.pointer (some ⟨t, 0, none⟩)] 63)).alloc (.cells #[.slice none 0 0, .slice none 0 0] 73)).alloc (.cells #[.slice none 0 0, .slice none 0 0] 73)) := ⟨_, rfl⟩
  have hba : Below w.heap.size w W := by
    rw [hW]
    exact (((Below.refl _ _).alloc (Nat.le_refl _) _).alloc (by simp) _).alloc (by simp; omega) _
  have hs0 : W.heap.size = w.heap.size + 3 := by rw [hW]; simp
  have ts0 := h.below hba
  have bs0 : BlkAt W w.heap.size #[.pointer (some ⟨t, 0, none⟩)] 63 := by
    rw [hW]
    exact ((BlkAt.new w _ _).below ((Below.refl _ _).alloc (Nat.le_refl _) _)).below ((Below.refl _ _).alloc (Nat.le_refl _) _)
  have rs0 : BlkAt W (w.heap.size + 1) #[.slice none 0 0, .slice none 0 0] 73 := by
    have := (BlkAt.new (w.alloc (.cells #[.pointer (some ⟨t, 0, none⟩)] 63)) #[.slice none 0 0, .slice none 0 0] 73).below ((Below.refl _ _).alloc (Nat.le_refl _) (.cells #[.slice none 0 0, .slice none 0 0] 73))
    rw [hW]
    rwa [show (w.alloc (.cells #[.pointer (some ⟨t, 0, none⟩)] 63)).heap.size = w.heap.size + 1 by simp] at this
  have vs0 : BlkAt W (w.heap.size + 2) #[.slice none 0 0, .slice none 0 0] 73 := by
    have := BlkAt.new ((w.alloc (.cells #[.pointer (some ⟨t, 0, none⟩)] 63)).alloc (.cells #[.slice none 0 0, .slice none 0 0] 73)) #[.slice none 0 0, .slice none 0 0] 73
    rw [hW]
    rwa [show ((w.alloc (.cells #[.pointer (some ⟨t, 0, none⟩)] 63)).alloc (.cells #[.slice none 0 0, .slice none 0 0] 73)).heap.size = w.heap.size + 2 by simp] at this
  have K0 : Hid (Kept (fun k => k = t ∨ w.heap.size ≤ k) w W) := Lib.hid (Kept.of_below hba)
  have HIN := Lib.hid (tmIn_code (bindR locR fun ls => mapR (fun l => Cod.mk ls l) takeT) (fun k => k = t ∨ k = w.heap.size + 2) (codP2 (w.heap.size + 2) (w.heap.size + 3)) (codD (w.heap.size + 2) x) t g x w.heap.size (w.heap.size + 2) W ts0 (.inl rfl)
    (fun w2 w3 x2 a k ⟨z0, z1, z2, z3, z4, z5, hb, hv⟩ => ⟨z0, z1, z2, z3, z4, z5, hb.kept k (by omega), hv.after k (by omega) (Nat.le_refl _)⟩)
    (fun w2 w3 x2 k ⟨e, z0, z1, z2, z3, z4, z5, hb⟩ => ⟨e, z0, z1, z2, z3, z4, z5, hb.kept k (by omega)⟩)
    (fun w' g' t' k' _ => tmCode1_any t (w.heap.size + 3) g' x w.heap.size (w.heap.size + 2) w' t' (bs0.kept k' (by omega)) (vs0.kept k' (by omega)) (by omega) (by omega) (by omega) (by have := k'.size; omega) (by omega) (by omega)))
  rw [hW] at HIN
  have HW := Lib.hid hW
  have HS0 := Lib.hid hs0
  have RS0 := Lib.hid rs0
  clear h hba ts0 bs0 vs0 rs0 hs0 hW
  go_enter Tryz.func152, Tryz.ntmps152
  go_wp2_with (go_at_call 118; refine HIN.out.mono ?_; rw [← HW.out]; rintro y w1 ⟨x2, g1, rfl, t1, k1, o1, ⟨rfl, z0, z1, z2, z3, z4, z5, hv⟩⟩; have O1 := Lib.hid o1; have V1 := Lib.hid hv; obtain ⟨cv0, cv1⟩ := BlkAt.cells2 hv; have r1 := RS0.out.kept k1 (by have := HS0.out; omega); obtain ⟨cr0, cr1⟩ := BlkAt.cells2 r1; have fr0 := r1.frozen 0; have fr1 := r1.frozen 1; clear o1 HIN)
  have hs0 := HS0.out
  have hz1 := k1.size
  have TF := (t1.set (b := w.heap.size + 1) (by omega) 0 (.slice z0 z1 z2)).set (b := w.heap.size + 1) (by omega) 1 (.slice z3 z4 z5)
  have KL : Kept (fun k => k = w.heap.size + 1) w1 ((w1.setCell ⟨w.heap.size + 1, 0, none⟩ (.slice z0 z1 z2)).setCell ⟨w.heap.size + 1, 1, none⟩ (.slice z3 z4 z5)) := ((Kept.refl (fun k => k = w.heap.size + 1) w1).set (p := ⟨w.heap.size + 1, 0, none⟩) rfl _).set (p := ⟨w.heap.size + 1, 1, none⟩) rfl _
  have KF := (K0.out.trans (k1.mono (by rintro k (q | q); exact .inl q; exact .inr (by omega)))).trans (KL.mono fun k q => .inr (by omega))
  refine bodyPost_ret (v := .agg #[.slice z0 z1 z2, .slice z3 z4 z5]) (by simp [results, Tryz.results152, go_sem, cr0, cr1]) rfl ⟨z0, z1, z2, z3, z4, z5, _, rfl, TF, KF.clean, ?_⟩
  refine O1.out.mono ?_
  rintro a ⟨y0, y1, y2, y3, y4, y5, hb, hval⟩
  have e := hb.symm.trans V1.out
  simp only [Option.some.injEq, Obj.cells.injEq, Array.mk.injEq, List.cons.injEq, Value.slice.injEq, and_true] at e
  obtain ⟨⟨rfl, rfl, rfl⟩, rfl, rfl, rfl⟩ := e
  exact hval.later KL (by intro i q; omega) (by omega)
end Go.Proofs.YtekonefnniaheaaGreat
