/- Texts of the proof of ModuleOrderUptoProof, part 19. -/
import Derived.Test.YtekonefnniaheaaGreatModuleOrderUptoProofQ18
set_option linter.unusedVariables false
set_option linter.unusedVariables false
namespace Go.Proofs.YtekonefnniaheaaGreat
open Go.RowKit Go.Deep
theorem info_lim : (Tryz.prog.info? 83).map (fun i => (i.zero, i.size, i.bytes)) = some (some (.agg #[.int .i64 0, .int .i64 0]), 2, 16) := by kernel_rfl
set_option maxRecDepth 100000 in
set_option maxHeartbeats 4000000 in
theorem tmList_lim (t : Nat) (g : St) (x : List Value) (most : Int) (hm : most ≤ 1000) (w : World) (h : TmAt w t g x) :
    Calls Tryz.prog 142 #[.pointer (some ⟨t, 0, none⟩), .int .i64 most, .func (.func 144) #[.pointer (some ⟨t, 0, none⟩)] #[]] w fun y w' => GivesLs limE 2 (listR most limR) t g x w y w' := by
  obtain ⟨ti, hi0, hz0, hz1, hz2⟩ := info_parts info_lim
  have HB := Lib.hid (tmNumber_any t g x w h)
  have HT := Lib.hid h.lt
  have HM := Lib.hid hm
  clear h hm
  go_enter Tryz.func142, Tryz.ntmps142
  go_wp2_with (first
    | (go_at_call 141; refine HB.out.mono ?_; rintro y w1 ⟨n, g1, rfl, hn, t1, k1, o1⟩; have O1 := Lib.hid o1; clear o1 HB; obtain ⟨N, hN⟩ := Int.eq_ofNat_of_zero_le hn.1; subst hN; have HNN := Lib.hid hn.2; clear hn)
    | (go_at_call 69; refine (tmNeed_any t g1 x (decide ((N : Int) ≤ most)) 14 _ t1).mono ?_; rintro y w2 ⟨rfl, t2, k2⟩))
  have HO : Hid (Out g (needR uT (fun n => decide (n ≤ most)) 14) (needS g1 (decide ((N : Int) ≤ most)) 14) (fun z => (N : Int) = z)) := Lib.hid (O1.out.need (by decide) (fun z e => by subst e; rfl))
  have HS := Lib.hid (lrel_start (E := limE) (m := 2) (T := 83) (R := limR) (N := N) HM.out t2 (k1.trans k2))
  revert HO HS
  generalize needS g1 (decide ((N : Int) ≤ most)) 14 = g0
  intro HO HS
  have HEND : Hid (∀ g' (P : List Lim → Prop), Out g0 (repR limR N) g' P → Out g (listR most limR) g' P) := Lib.hid fun g' P h => Out.then HO.out h
  clear HO O1 t1 t2 k1 k2
  go_loopw [8, 17] (fun lv iv wr => LRel limE 2 83 limR N t x g0 w lv iv wr) (fun _ iv _ => N - (intOf iv).toNat)
  case atStart => exact HS.out
  case round =>
    clear HS
    obtain ⟨i, a, len, cap, gi, rfl, hi, rfl, t1, kp, hst⟩ := hrel
    have HST := Lib.hid hst
    have HI := Lib.hid hi
    have HNI := HNN.out
    have hflt := t1.flt
    clear hst
    by_cases hlt : i < N
    · rcases HST.out with ⟨s, s0, ls, rfl, hg0, hN, rfl, hl, ⟨vs, hown, hel⟩, hR⟩ | ⟨f, rfl, hf0, ho⟩
      · replace hflt : wr.cell? ⟨t, 1, none⟩ = some (.int .i64 0) := hflt
        have HG0 := Lib.hid hg0
        have HNK := Lib.hid hN
        have HL := Lib.hid hl
        have HR := Lib.hid hR
        have HEL := Lib.hid hel
        have HOWN := Lib.hid hown
        have HKP := Lib.hid kp
        have q3 : len + 1 ≤ maxLen := by unfold maxLen; omega
        have q4 : (len + 1) * 16 ≤ 140737488355328 := by omega
        have hzz := kp.size
        clear hg0 hN hl hR hel hown kp HST
        go_wp2_with (first
          | (go_at_call 144; refine (tmLimits_any t _ x _ t1).mono ?_; rintro y w4 ⟨z0, z1, g2, rfl, hz, t4, k4, o4⟩; have O4 := Lib.hid o4; have HZ := Lib.hid hz; clear o4 hz; have hown4 := rowK_kept HOWN.out k4 (by intro j _ q; have := HT.out; omega); rw [HL.out] at hown4; have hz4 := k4.size)
          | (at_builtin; refine wpList_append_lies _ rfl _ _ 25 rfl w.heap.size 83 ti _ 2 16 Tryz.underlying25 hi0 hz0 hz1 hz2 rfl (by decide) _ len vs rfl (World.ownsRow.alloc hown4 _) ⟨w4.heap.size, 0, none⟩ 1 1 [.int .i64 z0, .int .i64 z1] rfl rfl (newsL w4 _ [.int .i64 z0, .int .i64 z1]) (by intro u hu; simp only [List.mem_cons, List.not_mem_nil, or_false] at hu; rcases hu with rfl | rfl <;> rfl) (by decide) q3 q4 (le_alloc (show w.heap.size ≤ w4.heap.size by omega)) _ rfl ?_; intro gb cap5 w5 hown5 hg5 hat5 hlt5))
        have hO : Out (.ok s) limR g2 (fun a => Val limE (wr.heap.size ≤ ·) w4 [.int .i64 z0, .int .i64 z1] a) := O4.out.mono fun a e => by
          subst e
          exact val_lim HZ.out
        have hown0 := HOWN.out
        have hown6 := hown5
        have hll := HL.out
        rw [← hll] at hown6
        obtain ⟨t5, k5, hP⟩ := rowV_step HT.out hown0 HEL.out HKP.out k4 t4 hown6 hg5 hat5 rfl
        have HNX := lrel_next (E := limE) (m := 2) (T := 83) hlt HNK.out hll HR.out hO t5 k5 hP
        rw [HG0.out]
        rw [hll] at HNX
        have hlw : IntKind.i64.wrap ((len : Int) + 1) = ((len + 1 : Nat) : Int) := by
          rw [IntKind.wrap_i64]; omega
        refine ⟨?_, ?_⟩
        · first | exact HNX | (rw [hlw]; exact HNX) | (rw [show ((len : Int) + 1) = ((len + 1 : Nat) : Int) by omega]; exact HNX)
        · simp [intOf]; omega
      · replace hflt : wr.cell? ⟨t, 1, none⟩ = some (.int .i64 f) := hflt
        have e1 : (f != 0) = true := by simpa using hf0
        have HOO := Lib.hid ho
        clear hf0 ho HST
        go_wp2_with fail
        go_ret
        exact ⟨_, _, _, _, rfl, t1, kp, HEND.out _ _ (out_any HOO.out)⟩
    · have hie : i = N := by omega
      subst hie
      go_wp2_with fail
      go_ret
      exact ⟨_, _, _, _, rfl, t1, kp, HEND.out _ _ (lrel_end HST.out)⟩
theorem info_tab : (Tryz.prog.info? 83).map (fun i => (i.zero, i.size, i.bytes)) = some (some (.agg #[.int .i64 0, .int .i64 0]), 2, 16) := by kernel_rfl
set_option maxRecDepth 100000 in
set_option maxHeartbeats 4000000 in
theorem tmList_tab (t : Nat) (g : St) (x : List Value) (most : Int) (hm : most ≤ 1000) (w : World) (h : TmAt w t g x) :
    Calls Tryz.prog 142 #[.pointer (some ⟨t, 0, none⟩), .int .i64 most, .func (.func 143) #[.pointer (some ⟨t, 0, none⟩)] #[]] w fun y w' => GivesLs limE 2 (listR most tabR) t g x w y w' := by
  obtain ⟨ti, hi0, hz0, hz1, hz2⟩ := info_parts info_tab
  have HB := Lib.hid (tmNumber_any t g x w h)
  have HT := Lib.hid h.lt
  have HM := Lib.hid hm
  clear h hm
  go_enter Tryz.func142, Tryz.ntmps142
  go_wp2_with (first
    | (go_at_call 141; refine HB.out.mono ?_; rintro y w1 ⟨n, g1, rfl, hn, t1, k1, o1⟩; have O1 := Lib.hid o1; clear o1 HB; obtain ⟨N, hN⟩ := Int.eq_ofNat_of_zero_le hn.1; subst hN; have HNN := Lib.hid hn.2; clear hn)
    | (go_at_call 69; refine (tmNeed_any t g1 x (decide ((N : Int) ≤ most)) 14 _ t1).mono ?_; rintro y w2 ⟨rfl, t2, k2⟩))
  have HO : Hid (Out g (needR uT (fun n => decide (n ≤ most)) 14) (needS g1 (decide ((N : Int) ≤ most)) 14) (fun z => (N : Int) = z)) := Lib.hid (O1.out.need (by decide) (fun z e => by subst e; rfl))
  have HS := Lib.hid (lrel_start (E := limE) (m := 2) (T := 83) (R := tabR) (N := N) HM.out t2 (k1.trans k2))
  revert HO HS
  generalize needS g1 (decide ((N : Int) ≤ most)) 14 = g0
  intro HO HS
  have HEND : Hid (∀ g' (P : List Lim → Prop), Out g0 (repR tabR N) g' P → Out g (listR most tabR) g' P) := Lib.hid fun g' P h => Out.then HO.out h
  clear HO O1 t1 t2 k1 k2
  go_loopw [8, 17] (fun lv iv wr => LRel limE 2 83 tabR N t x g0 w lv iv wr) (fun _ iv _ => N - (intOf iv).toNat)
  case atStart => exact HS.out
  case round =>
    clear HS
    obtain ⟨i, a, len, cap, gi, rfl, hi, rfl, t1, kp, hst⟩ := hrel
    have HST := Lib.hid hst
    have HI := Lib.hid hi
    have HNI := HNN.out
    have hflt := t1.flt
    clear hst
    by_cases hlt : i < N
    · rcases HST.out with ⟨s, s0, ls, rfl, hg0, hN, rfl, hl, ⟨vs, hown, hel⟩, hR⟩ | ⟨f, rfl, hf0, ho⟩
      · replace hflt : wr.cell? ⟨t, 1, none⟩ = some (.int .i64 0) := hflt
        have HG0 := Lib.hid hg0
        have HNK := Lib.hid hN
        have HL := Lib.hid hl
        have HR := Lib.hid hR
        have HEL := Lib.hid hel
        have HOWN := Lib.hid hown
        have HKP := Lib.hid kp
        have q3 : len + 1 ≤ maxLen := by unfold maxLen; omega
        have q4 : (len + 1) * 16 ≤ 140737488355328 := by omega
        have hzz := kp.size
        clear hg0 hN hl hR hel hown kp HST
        go_wp2_with (first
          | (go_at_call 143; refine (tmTable_any t _ x _ t1).mono ?_; rintro y w4 ⟨z0, z1, g2, rfl, hz, t4, k4, o4⟩; have O4 := Lib.hid o4; have HZ := Lib.hid hz; clear o4 hz; have hown4 := rowK_kept HOWN.out k4 (by intro j _ q; have := HT.out; omega); rw [HL.out] at hown4; have hz4 := k4.size)
          | (at_builtin; refine wpList_append_lies _ rfl _ _ 25 rfl w.heap.size 83 ti _ 2 16 Tryz.underlying25 hi0 hz0 hz1 hz2 rfl (by decide) _ len vs rfl (World.ownsRow.alloc hown4 _) ⟨w4.heap.size, 0, none⟩ 1 1 [.int .i64 z0, .int .i64 z1] rfl rfl (newsL w4 _ [.int .i64 z0, .int .i64 z1]) (by intro u hu; simp only [List.mem_cons, List.not_mem_nil, or_false] at hu; rcases hu with rfl | rfl <;> rfl) (by decide) q3 q4 (le_alloc (show w.heap.size ≤ w4.heap.size by omega)) _ rfl ?_; intro gb cap5 w5 hown5 hg5 hat5 hlt5))
        have hO : Out (.ok s) tabR g2 (fun a => Val limE (wr.heap.size ≤ ·) w4 [.int .i64 z0, .int .i64 z1] a) := O4.out.mono fun a e => by
          subst e
          exact val_lim HZ.out
        have hown0 := HOWN.out
        have hown6 := hown5
        have hll := HL.out
        rw [← hll] at hown6
        obtain ⟨t5, k5, hP⟩ := rowV_step HT.out hown0 HEL.out HKP.out k4 t4 hown6 hg5 hat5 rfl
        have HNX := lrel_next (E := limE) (m := 2) (T := 83) hlt HNK.out hll HR.out hO t5 k5 hP
        rw [HG0.out]
        rw [hll] at HNX
        have hlw : IntKind.i64.wrap ((len : Int) + 1) = ((len + 1 : Nat) : Int) := by
          rw [IntKind.wrap_i64]; omega
        refine ⟨?_, ?_⟩
        · first | exact HNX | (rw [hlw]; exact HNX) | (rw [show ((len : Int) + 1) = ((len + 1 : Nat) : Int) by omega]; exact HNX)
        · simp [intOf]; omega
      · replace hflt : wr.cell? ⟨t, 1, none⟩ = some (.int .i64 f) := hflt
        have e1 : (f != 0) = true := by simpa using hf0
        have HOO := Lib.hid ho
        clear hf0 ho HST
        go_wp2_with fail
        go_ret
        exact ⟨_, _, _, _, rfl, t1, kp, HEND.out _ _ (out_any HOO.out)⟩
    · have hie : i = N := by omega
      subst hie
      go_wp2_with fail
      go_ret
      exact ⟨_, _, _, _, rfl, t1, kp, HEND.out _ _ (lrel_end HST.out)⟩
theorem info_ft : (Tryz.prog.info? 54).map (fun i => (i.zero, i.size, i.bytes)) = some (some (.agg #[.slice none 0 0, .slice none 0 0]), 2, 48) := by kernel_rfl
set_option maxRecDepth 100000 in
set_option maxHeartbeats 4000000 in
theorem tmList_ft (t : Nat) (g : St) (x : List Value) (most : Int) (hm : most ≤ 1000) (w : World) (h : TmAt w t g x) :
    Calls Tryz.prog 136 #[.pointer (some ⟨t, 0, none⟩), .int .i64 most, .func (.func 137) #[.pointer (some ⟨t, 0, none⟩)] #[]] w fun y w' => GivesLs ftE 2 (listR most ftR) t g x w y w' := by
  obtain ⟨ti, hi0, hz0, hz1, hz2⟩ := info_parts info_ft
  have HB := Lib.hid (tmNumber_any t g x w h)
  have HT := Lib.hid h.lt
  have HM := Lib.hid hm
  clear h hm
  go_enter Tryz.func136, Tryz.ntmps136
  go_wp2_with (first
    | (go_at_call 141; refine HB.out.mono ?_; rintro y w1 ⟨n, g1, rfl, hn, t1, k1, o1⟩; have O1 := Lib.hid o1; clear o1 HB; obtain ⟨N, hN⟩ := Int.eq_ofNat_of_zero_le hn.1; subst hN; have HNN := Lib.hid hn.2; clear hn)
    | (go_at_call 69; refine (tmNeed_any t g1 x (decide ((N : Int) ≤ most)) 14 _ t1).mono ?_; rintro y w2 ⟨rfl, t2, k2⟩))
  have HO : Hid (Out g (needR uT (fun n => decide (n ≤ most)) 14) (needS g1 (decide ((N : Int) ≤ most)) 14) (fun z => (N : Int) = z)) := Lib.hid (O1.out.need (by decide) (fun z e => by subst e; rfl))
  have HS := Lib.hid (lrel_start (E := ftE) (m := 2) (T := 54) (R := ftR) (N := N) HM.out t2 (k1.trans k2))
  revert HO HS
  generalize needS g1 (decide ((N : Int) ≤ most)) 14 = g0
  intro HO HS
  have HEND : Hid (∀ g' (P : List FT → Prop), Out g0 (repR ftR N) g' P → Out g (listR most ftR) g' P) := Lib.hid fun g' P h => Out.then HO.out h
  clear HO O1 t1 t2 k1 k2
  go_loopw [8, 17] (fun lv iv wr => LRel ftE 2 54 ftR N t x g0 w lv iv wr) (fun _ iv _ => N - (intOf iv).toNat)
  case atStart => exact HS.out
  case round =>
    clear HS
    obtain ⟨i, a, len, cap, gi, rfl, hi, rfl, t1, kp, hst⟩ := hrel
    have HST := Lib.hid hst
    have HI := Lib.hid hi
    have HNI := HNN.out
    have hflt := t1.flt
    clear hst
    by_cases hlt : i < N
    · rcases HST.out with ⟨s, s0, ls, rfl, hg0, hN, rfl, hl, ⟨vs, hown, hel⟩, hR⟩ | ⟨f, rfl, hf0, ho⟩
      · replace hflt : wr.cell? ⟨t, 1, none⟩ = some (.int .i64 0) := hflt
        have HG0 := Lib.hid hg0
        have HNK := Lib.hid hN
        have HL := Lib.hid hl
        have HR := Lib.hid hR
        have HEL := Lib.hid hel
        have HOWN := Lib.hid hown
        have HKP := Lib.hid kp
        have q3 : len + 1 ≤ maxLen := by unfold maxLen; omega
        have q4 : (len + 1) * 48 ≤ 140737488355328 := by omega
        have hzz := kp.size
        clear hg0 hN hl hR hel hown kp HST
        go_wp2_with (first
          | (go_at_call 137; refine (tmFuncType_any t _ x _ t1).mono ?_; rintro y w4 ⟨z0, z1, z2, z3, z4, z5, g2, rfl, t4, k4, o4⟩; have O4 := Lib.hid o4; clear o4; have hown4 := rowK_kept HOWN.out k4 (by intro j _ q; have := HT.out; omega); rw [HL.out] at hown4; have hz4 := k4.size)
          | (at_builtin; refine wpList_append_lies _ rfl _ _ 22 rfl w.heap.size 54 ti _ 2 48 Tryz.underlying22 hi0 hz0 hz1 hz2 rfl (by decide) _ len vs rfl (World.ownsRow.alloc hown4 _) ⟨w4.heap.size, 0, none⟩ 1 1 [.slice z0 z1 z2, .slice z3 z4 z5] rfl rfl (newsL w4 _ [.slice z0 z1 z2, .slice z3 z4 z5]) (by intro u hu; simp only [List.mem_cons, List.not_mem_nil, or_false] at hu; rcases hu with rfl | rfl <;> rfl) (by decide) q3 q4 (le_alloc (show w.heap.size ≤ w4.heap.size by omega)) _ rfl ?_; intro gb cap5 w5 hown5 hg5 hat5 hlt5))
        have hO : Out (.ok s) ftR g2 (fun a => Val ftE (wr.heap.size ≤ ·) w4 [.slice z0 z1 z2, .slice z3 z4 z5] a) := O4.out
        have hown0 := HOWN.out
        have hown6 := hown5
        have hll := HL.out
        rw [← hll] at hown6
        obtain ⟨t5, k5, hP⟩ := rowV_step HT.out hown0 HEL.out HKP.out k4 t4 hown6 hg5 hat5 rfl
        have HNX := lrel_next (E := ftE) (m := 2) (T := 54) hlt HNK.out hll HR.out hO t5 k5 hP
        rw [HG0.out]
        rw [hll] at HNX
        have hlw : IntKind.i64.wrap ((len : Int) + 1) = ((len + 1 : Nat) : Int) := by
          rw [IntKind.wrap_i64]; omega
        refine ⟨?_, ?_⟩
        · first | exact HNX | (rw [hlw]; exact HNX) | (rw [show ((len : Int) + 1) = ((len + 1 : Nat) : Int) by omega]; exact HNX)
        · simp [intOf]; omega
      · replace hflt : wr.cell? ⟨t, 1, none⟩ = some (.int .i64 f) := hflt
        have e1 : (f != 0) = true := by simpa using hf0
        have HOO := Lib.hid ho
        clear hf0 ho HST
        go_wp2_with fail
        go_ret
        exact ⟨_, _, _, _, rfl, t1, kp, HEND.out _ _ (out_any HOO.out)⟩
    · have hie : i = N := by omega
      subst hie
      go_wp2_with fail
      go_ret
      exact ⟨_, _, _, _, rfl, t1, kp, HEND.out _ _ (lrel_end HST.out)⟩
theorem info_imp : (Tryz.prog.info? 85).map (fun i => (i.zero, i.size, i.bytes)) = some (some (.agg #[.string ⟨#[]⟩, .string ⟨#[]⟩, .int .i64 0, .int .i64 0, .bool false, .int .i64 0, .int .i64 0]), 7, 72) := by kernel_rfl
set_option maxRecDepth 100000 in
set_option maxHeartbeats 4000000 in
theorem tmList_imp (t : Nat) (g : St) (x : List Value) (most : Int) (hm : most ≤ 1000) (w : World) (h : TmAt w t g x) :
    Calls Tryz.prog 138 #[.pointer (some ⟨t, 0, none⟩), .int .i64 most, .func (.func 139) #[.pointer (some ⟨t, 0, none⟩)] #[]] w fun y w' => GivesLs impE 7 (listR most impR) t g x w y w' := by
  obtain ⟨ti, hi0, hz0, hz1, hz2⟩ := info_parts info_imp
  have HB := Lib.hid (tmNumber_any t g x w h)
  have HT := Lib.hid h.lt
  have HM := Lib.hid hm
  clear h hm
  go_enter Tryz.func138, Tryz.ntmps138
  go_wp2_with (first
    | (go_at_call 141; refine HB.out.mono ?_; rintro y w1 ⟨n, g1, rfl, hn, t1, k1, o1⟩; have O1 := Lib.hid o1; clear o1 HB; obtain ⟨N, hN⟩ := Int.eq_ofNat_of_zero_le hn.1; subst hN; have HNN := Lib.hid hn.2; clear hn)
    | (go_at_call 69; refine (tmNeed_any t g1 x (decide ((N : Int) ≤ most)) 14 _ t1).mono ?_; rintro y w2 ⟨rfl, t2, k2⟩))
  have HO : Hid (Out g (needR uT (fun n => decide (n ≤ most)) 14) (needS g1 (decide ((N : Int) ≤ most)) 14) (fun z => (N : Int) = z)) := Lib.hid (O1.out.need (by decide) (fun z e => by subst e; rfl))
  have HS := Lib.hid (lrel_start (E := impE) (m := 7) (T := 85) (R := impR) (N := N) HM.out t2 (k1.trans k2))
  revert HO HS
  generalize needS g1 (decide ((N : Int) ≤ most)) 14 = g0
  intro HO HS
  have HEND : Hid (∀ g' (P : List Imp → Prop), Out g0 (repR impR N) g' P → Out g (listR most impR) g' P) := Lib.hid fun g' P h => Out.then HO.out h
  clear HO O1 t1 t2 k1 k2
  go_loopw [8, 17] (fun lv iv wr => LRel impE 7 85 impR N t x g0 w lv iv wr) (fun _ iv _ => N - (intOf iv).toNat)
  case atStart => exact HS.out
  case round =>
    clear HS
    obtain ⟨i, a, len, cap, gi, rfl, hi, rfl, t1, kp, hst⟩ := hrel
    have HST := Lib.hid hst
    have HI := Lib.hid hi
    have HNI := HNN.out
    have hflt := t1.flt
    clear hst
    by_cases hlt : i < N
    · rcases HST.out with ⟨s, s0, ls, rfl, hg0, hN, rfl, hl, ⟨vs, hown, hel⟩, hR⟩ | ⟨f, rfl, hf0, ho⟩
      · replace hflt : wr.cell? ⟨t, 1, none⟩ = some (.int .i64 0) := hflt
        have HG0 := Lib.hid hg0
        have HNK := Lib.hid hN
        have HL := Lib.hid hl
        have HR := Lib.hid hR
        have HEL := Lib.hid hel
        have HOWN := Lib.hid hown
        have HKP := Lib.hid kp
        have q3 : len + 1 ≤ maxLen := by unfold maxLen; omega
        have q4 : (len + 1) * 72 ≤ 140737488355328 := by omega
        have hzz := kp.size
        clear hg0 hN hl hR hel hown kp HST
        go_wp2_with (first
          | (go_at_call 139; refine (tmImported_any t _ x _ t1).mono ?_; rintro y w4 ⟨z0, z1, z2, z3, z4, z5, z6, g2, rfl, t4, k4, o4⟩; have O4 := Lib.hid o4; clear o4; have hown4 := rowK_kept HOWN.out k4 (by intro j _ q; have := HT.out; omega); rw [HL.out] at hown4; have hz4 := k4.size)
          | (at_builtin; refine wpList_append_lies _ rfl _ _ 23 rfl w.heap.size 85 ti _ 7 72 Tryz.underlying23 hi0 hz0 hz1 hz2 rfl (by decide) _ len vs rfl (World.ownsRow.alloc hown4 _) ⟨w4.heap.size, 0, none⟩ 1 1 [.string z0, .string z1, .int .i64 z2, .int .i64 z3, .bool z4, .int .i64 z5, .int .i64 z6] rfl rfl (newsL w4 _ [.string z0, .string z1, .int .i64 z2, .int .i64 z3, .bool z4, .int .i64 z5, .int .i64 z6]) (by intro u hu; simp only [List.mem_cons, List.not_mem_nil, or_false] at hu; rcases hu with rfl | rfl | rfl | rfl | rfl | rfl | rfl <;> rfl) (by decide) q3 q4 (le_alloc (show w.heap.size ≤ w4.heap.size by omega)) _ rfl ?_; intro gb cap5 w5 hown5 hg5 hat5 hlt5))
        have hO : Out (.ok s) impR g2 (fun a => Val impE (wr.heap.size ≤ ·) w4 [.string z0, .string z1, .int .i64 z2, .int .i64 z3, .bool z4, .int .i64 z5, .int .i64 z6] a) := O4.out
        have hown0 := HOWN.out
        have hown6 := hown5
        have hll := HL.out
        rw [← hll] at hown6
        obtain ⟨t5, k5, hP⟩ := rowV_step HT.out hown0 HEL.out HKP.out k4 t4 hown6 hg5 hat5 rfl
        have HNX := lrel_next (E := impE) (m := 7) (T := 85) hlt HNK.out hll HR.out hO t5 k5 hP
        rw [HG0.out]
        rw [hll] at HNX
        have hlw : IntKind.i64.wrap ((len : Int) + 1) = ((len + 1 : Nat) : Int) := by
          rw [IntKind.wrap_i64]; omega
        refine ⟨?_, ?_⟩
        · first | exact HNX | (rw [hlw]; exact HNX) | (rw [show ((len : Int) + 1) = ((len + 1 : Nat) : Int) by omega]; exact HNX)
        · simp [intOf]; omega
      · replace hflt : wr.cell? ⟨t, 1, none⟩ = some (.int .i64 f) := hflt
        have e1 : (f != 0) = true := by simpa using hf0
        have HOO := Lib.hid ho
        clear hf0 ho HST
        go_wp2_with fail
        go_ret
        exact ⟨_, _, _, _, rfl, t1, kp, HEND.out _ _ (out_any HOO.out)⟩
    · have hie : i = N := by omega
      subst hie
      go_wp2_with fail
      go_ret
      exact ⟨_, _, _, _, rfl, t1, kp, HEND.out _ _ (lrel_end HST.out)⟩
theorem info_exp : (Tryz.prog.info? 95).map (fun i => (i.zero, i.size, i.bytes)) = some (some (.agg #[.string ⟨#[]⟩, .int .i64 0, .int .i64 0]), 3, 32) := by kernel_rfl
set_option maxRecDepth 100000 in
set_option maxHeartbeats 4000000 in
theorem tmList_exp (t : Nat) (g : St) (x : List Value) (most : Int) (hm : most ≤ 1000) (w : World) (h : TmAt w t g x) :
    Calls Tryz.prog 147 #[.pointer (some ⟨t, 0, none⟩), .int .i64 most, .func (.func 148) #[.pointer (some ⟨t, 0, none⟩)] #[]] w fun y w' => GivesLs expE 3 (listR most expR) t g x w y w' := by
  obtain ⟨ti, hi0, hz0, hz1, hz2⟩ := info_parts info_exp
  have HB := Lib.hid (tmNumber_any t g x w h)
  have HT := Lib.hid h.lt
  have HM := Lib.hid hm
  clear h hm
  go_enter Tryz.func147, Tryz.ntmps147
  go_wp2_with (first
    | (go_at_call 141; refine HB.out.mono ?_; rintro y w1 ⟨n, g1, rfl, hn, t1, k1, o1⟩; have O1 := Lib.hid o1; clear o1 HB; obtain ⟨N, hN⟩ := Int.eq_ofNat_of_zero_le hn.1; subst hN; have HNN := Lib.hid hn.2; clear hn)
    | (go_at_call 69; refine (tmNeed_any t g1 x (decide ((N : Int) ≤ most)) 14 _ t1).mono ?_; rintro y w2 ⟨rfl, t2, k2⟩))
  have HO : Hid (Out g (needR uT (fun n => decide (n ≤ most)) 14) (needS g1 (decide ((N : Int) ≤ most)) 14) (fun z => (N : Int) = z)) := Lib.hid (O1.out.need (by decide) (fun z e => by subst e; rfl))
  have HS := Lib.hid (lrel_start (E := expE) (m := 3) (T := 95) (R := expR) (N := N) HM.out t2 (k1.trans k2))
  revert HO HS
  generalize needS g1 (decide ((N : Int) ≤ most)) 14 = g0
  intro HO HS
  have HEND : Hid (∀ g' (P : List Exp → Prop), Out g0 (repR expR N) g' P → Out g (listR most expR) g' P) := Lib.hid fun g' P h => Out.then HO.out h
  clear HO O1 t1 t2 k1 k2
  go_loopw [8, 17] (fun lv iv wr => LRel expE 3 95 expR N t x g0 w lv iv wr) (fun _ iv _ => N - (intOf iv).toNat)
  case atStart => exact HS.out
  case round =>
    clear HS
    obtain ⟨i, a, len, cap, gi, rfl, hi, rfl, t1, kp, hst⟩ := hrel
    have HST := Lib.hid hst
    have HI := Lib.hid hi
    have HNI := HNN.out
    have hflt := t1.flt
    clear hst
    by_cases hlt : i < N
    · rcases HST.out with ⟨s, s0, ls, rfl, hg0, hN, rfl, hl, ⟨vs, hown, hel⟩, hR⟩ | ⟨f, rfl, hf0, ho⟩
      · replace hflt : wr.cell? ⟨t, 1, none⟩ = some (.int .i64 0) := hflt
        have HG0 := Lib.hid hg0
        have HNK := Lib.hid hN
        have HL := Lib.hid hl
        have HR := Lib.hid hR
        have HEL := Lib.hid hel
        have HOWN := Lib.hid hown
        have HKP := Lib.hid kp
        have q3 : len + 1 ≤ maxLen := by unfold maxLen; omega
        have q4 : (len + 1) * 32 ≤ 140737488355328 := by omega
        have hzz := kp.size
        clear hg0 hN hl hR hel hown kp HST
        go_wp2_with (first
          | (go_at_call 148; refine (tmExport_any t _ x _ t1).mono ?_; rintro y w4 ⟨z0, z1, z2, g2, rfl, t4, k4, o4⟩; have O4 := Lib.hid o4; clear o4; have hown4 := rowK_kept HOWN.out k4 (by intro j _ q; have := HT.out; omega); rw [HL.out] at hown4; have hz4 := k4.size)
          | (at_builtin; refine wpList_append_lies _ rfl _ _ 27 rfl w.heap.size 95 ti _ 3 32 Tryz.underlying27 hi0 hz0 hz1 hz2 rfl (by decide) _ len vs rfl (World.ownsRow.alloc hown4 _) ⟨w4.heap.size, 0, none⟩ 1 1 [.string z0, .int .i64 z1, .int .i64 z2] rfl rfl (newsL w4 _ [.string z0, .int .i64 z1, .int .i64 z2]) (by intro u hu; simp only [List.mem_cons, List.not_mem_nil, or_false] at hu; rcases hu with rfl | rfl | rfl <;> rfl) (by decide) q3 q4 (le_alloc (show w.heap.size ≤ w4.heap.size by omega)) _ rfl ?_; intro gb cap5 w5 hown5 hg5 hat5 hlt5))
        have hO : Out (.ok s) expR g2 (fun a => Val expE (wr.heap.size ≤ ·) w4 [.string z0, .int .i64 z1, .int .i64 z2] a) := O4.out
        have hown0 := HOWN.out
        have hown6 := hown5
        have hll := HL.out
        rw [← hll] at hown6
        obtain ⟨t5, k5, hP⟩ := rowV_step HT.out hown0 HEL.out HKP.out k4 t4 hown6 hg5 hat5 rfl
        have HNX := lrel_next (E := expE) (m := 3) (T := 95) hlt HNK.out hll HR.out hO t5 k5 hP
        rw [HG0.out]
        rw [hll] at HNX
        have hlw : IntKind.i64.wrap ((len : Int) + 1) = ((len + 1 : Nat) : Int) := by
          rw [IntKind.wrap_i64]; omega
        refine ⟨?_, ?_⟩
        · first | exact HNX | (rw [hlw]; exact HNX) | (rw [show ((len : Int) + 1) = ((len + 1 : Nat) : Int) by omega]; exact HNX)
        · simp [intOf]; omega
      · replace hflt : wr.cell? ⟨t, 1, none⟩ = some (.int .i64 f) := hflt
        have e1 : (f != 0) = true := by simpa using hf0
        have HOO := Lib.hid ho
        clear hf0 ho HST
        go_wp2_with fail
        go_ret
        exact ⟨_, _, _, _, rfl, t1, kp, HEND.out _ _ (out_any HOO.out)⟩
    · have hie : i = N := by omega
      subst hie
      go_wp2_with fail
      go_ret
      exact ⟨_, _, _, _, rfl, t1, kp, HEND.out _ _ (lrel_end HST.out)⟩
end Go.Proofs.YtekonefnniaheaaGreat
set_option linter.unusedVariables false
namespace Go.Proofs.YtekonefnniaheaaGreat
open Go.RowKit Go.Deep

theorem Out.tookB {X : Type} {g : St} {R : Rd X} {b : ByteArray} {e : Int} {P : X → Prop} (h : ∀ s, g = .ok s → FitsB (R s) b e P) : Out g R (tookS g b e) P := by
  cases g with
  | error f => rfl
  | ok s =>
    rcases (h s rfl).cases with ⟨h1, x, h2, h3⟩ | ⟨h1, h2, h3⟩
    · exact (out_ok h2).2 ⟨if_pos h1, h3⟩
    · exact (out_err' h3).2 (if_neg h1)
/-- What a step gives that reads instructions. -/
def GivesIs (t : Nat) (g : St) (x : List Value) (w : World) (y : Ending) (w' : World) : Prop :=
  ∃ x0 len cap g', y = .returned (.slice x0 len cap) ∧ TmAt w' t g' x ∧ Kept (· = t) w w' ∧ Out g takeT g' (fun ls => OwnP (w.heap.size ≤ ·) w' x0 len cap ls ∧ wfL ls)
set_option maxRecDepth 100000 in
set_option maxHeartbeats 1000000 in
theorem tmInstrs_any (t : Nat) (g : St) (x : List Value) (w : World) (h : TmAt w t g x) :
    Calls Tryz.prog 174 #[.pointer (some ⟨t, 0, none⟩)] w fun y w' => GivesIs t g x w y w' := by
  have d0 := h.rest
  have hsz := h.wf.sz
  have HU := Lib.hid (fun w => Take_any (stR g) (by omega) w)
  have HSZ := Lib.hid hsz
  have H := Lib.hid h
  have HT := Lib.hid h.lt
  clear h hsz
  go_enter Tryz.func174, Tryz.ntmps174
  go_wp2_with (first
    | (go_at_call 188; refine (HU.out _).mono ?_; rintro y w1 ⟨x0, len, cap, r, f, rfl, hb1, hz, q⟩; have HQ := Lib.hid q; have HZ := Lib.hid hz; clear q hz
       have hq := HQ.out.cases
       have hr1 : f ≠ 0 → r = ⟨#[]⟩ := fun hf => by
         rcases hq with ⟨h0, _⟩ | ⟨_, h1, _⟩
         · exact absurd h0 hf
         · exact h1
       have hr2 : r.size ≤ 65536 := by
         rcases hq with ⟨h0, ls, h1, _⟩ | ⟨_, h1, _⟩
         · have := (takeT_only h1).2.2.2
           have := HSZ.out
           omega
         · rw [h1]; exact Nat.zero_le _
       have HR1 := Lib.hid hr1
       have HR2 := Lib.hid hr2
       clear hq hr1 hr2)
    | (go_at_call 68; refine (tmTook_any t g x r f _ (H.out.below hb1) HR1.out HR2.out).mono ?_; rintro y w2 ⟨rfl, t2, k2⟩))
  go_ret
  refine ⟨x0, len, cap, _, rfl, t2, (Kept.of_below hb1).trans k2, Out.tookB fun s hg => ?_⟩
  subst hg
  have hq := HQ.out
  have ht := HT.out
  rcases hq.cases with ⟨h0, ls, h1, h2⟩ | ⟨h0, h1, h2⟩
  · have hw := (takeT_only h1).2.1
    subst h0
    unfold FitsB
    rw [show takeT s = .ok (ls, r) from h1]
    exact ⟨rfl, rfl, h2.next (k2.agree fun k hk _ q => by omega) k2.size fun k hk _ => hk, hw⟩
  · rw [show takeT s = .error f from h2]
    exact fitsB_err h0 h1
/-- One instruction that lies, whatever happens to older blocks: where, and its parts. -/
theorem own_one {B : Nat} {w : World} {x : Option Addr} {len cap : Nat} {c : Ins} (h : OwnP (B ≤ ·) w x len cap [c]) : ∃ b off xn cn xl cl xe ce, x = some ⟨b, off, none⟩ ∧ insC w b off c xn cn xl cl xe ce ∧
    ∀ W, Agree (B ≤ ·) w W → InsV W c xn cn xl cl xe ce := by
  have hl := h.lies w (Agree.refl _ _)
  unfold LiesL at hl
  obtain ⟨b, off, hx, hi, _⟩ := hl
  have hlt : b < w.heap.size := by
    cases c with
    | mk op a b' m n l e =>
      unfold LiesI at hi
      exact World.block_lt_of_cell? _ _ hi.1
  have hB : B ≤ b := by
    refine Nat.le_of_not_lt fun hlt2 => ?_
    have h2 := h.lies { w with heap := w.heap.setIfInBounds b (.cells #[] 50) } (fun k hk _ => by
      show (w.heap.setIfInBounds b _)[k]? = _
      rw [Array.getElem?_setIfInBounds_ne (by omega)])
    unfold LiesL at h2
    obtain ⟨b2, off2, hx2, hi2, _⟩ := h2
    rw [hx] at hx2
    cases hx2
    cases c with
    | mk op a b' m n l e =>
      unfold LiesI at hi2
      have h3 := hi2.1
      unfold World.cell? at h3
      rw [show (({ w with heap := w.heap.setIfInBounds b (.cells #[] 50) } : World).heap[(⟨b, off, none⟩ : Addr).block]?) = some (.cells #[] 50 (0, 0)) by
        show (w.heap.setIfInBounds b _)[b]? = _
        rw [Array.getElem?_setIfInBounds_self_of_lt hlt]] at h3
      simp at h3
  cases c with
  | mk op a b' m n l e =>
    unfold LiesI at hi
    obtain ⟨h0, h1, h2, h3, ⟨x4, c4, h4, v4, k4⟩, ⟨x5, c5, h5, v5, k5⟩, ⟨x6, c6, h6, v6, k6⟩⟩ := hi
    refine ⟨b, off, x4, c4, x5, c5, x6, c6, hx, ⟨h0, h1, h2, h3, h4, h5, h6⟩, fun W hW => ?_⟩
    have key : ∀ o, W.cell? ⟨b, o, none⟩ = w.cell? ⟨b, o, none⟩ := fun o => cell_same (hW b hB hlt) o
    have h7 := h.lies W hW
    unfold LiesL at h7
    obtain ⟨b2, off2, hx2, hi2, _⟩ := h7
    rw [hx] at hx2
    cases hx2
    unfold LiesI at hi2
    obtain ⟨_, _, _, _, ⟨y4, d4, j4, u4, p4⟩, ⟨y5, d5, j5, u5, p5⟩, ⟨y6, d6, j6, u6, p6⟩⟩ := hi2
    rw [key, h4] at j4
    rw [key, h5] at j5
    rw [key, h6] at j6
    simp only [Option.some.injEq, Value.slice.injEq] at j4 j5 j6
    obtain ⟨rfl, _, rfl⟩ := j4
    obtain ⟨rfl, _, rfl⟩ := j5
    obtain ⟨rfl, _, rfl⟩ := j6
    exact ⟨u4, p4, ⟨rfl, p5.1, p5.2, u5⟩, ⟨rfl, p6.1, p6.2, u6⟩⟩
/-- Seven values are an instruction. -/
def ConE (W : World) (b o : Nat) (c : Ins) : Prop := ∃ xn nc xl lc xe ec, insC W b o c xn nc xl lc xe ec ∧ InsV W c xn nc xl lc xe ec ∧ wfI c
def GivesCon (t : Nat) (g : St) (x : List Value) (w : World) (y : Ending) (w' : World) : Prop :=
  ∃ i0 i1 i2 i3 in_ ip iq il iu iv_ ie if_ ig g', y = .returned (.agg #[.int .i64 i0, .int .i64 i1, .int .i64 i2, .int .i64 i3, .slice in_ ip iq, .slice il iu iv_, .slice ie if_ ig]) ∧ TmAt w' t g' x ∧ Kept (· = t) w w' ∧
    Out g constR g' (fun c => Val ConE (w.heap.size ≤ ·) w' [.int .i64 i0, .int .i64 i1, .int .i64 i2, .int .i64 i3, .slice in_ ip iq, .slice il iu iv_, .slice ie if_ ig] c)
theorem needS_live {g : St} {p : Bool} {e : Int} {r : ByteArray} (he : e ≠ 0) (h : needS g p e = .ok r) : p = true ∧ g = .ok r := by
  unfold needS at h
  cases p with
  | true => exact ⟨rfl, h⟩
  | false =>
    rw [if_neg (by decide)] at h
    cases g with
    | error f => cases h
    | ok s =>
      have h' : (if e = 0 then Except.ok (⟨#[]⟩ : ByteArray) else Except.error e) = .ok r := h
      rw [if_neg he] at h'
      cases h'
set_option maxRecDepth 100000 in
set_option maxHeartbeats 4000000 in
theorem tmConstant_any (t : Nat) (g : St) (x : List Value) (w : World) (h : TmAt w t g x) :
    Calls Tryz.prog 170 #[.pointer (some ⟨t, 0, none⟩)] w fun y w' => GivesCon t g x w y w' := by
  have ht := h.lt
  have hba : Below w.heap.size w (w.alloc (.cells #[.int .i64 0, .int .i64 0, .int .i64 0, .int .i64 0, .slice none 0 0, .slice none 0 0, .slice none 0 0] 50)) := (Below.refl _ _).alloc (Nat.le_refl _) _
  have hs0 : (w.alloc (.cells #[.int .i64 0, .int .i64 0, .int .i64 0, .int .i64 0, .slice none 0 0, .slice none 0 0, .slice none 0 0] 50)).heap.size = w.heap.size + 1 := by simp
  have ts0 := h.below hba
  have rs0 := BlkAt.new w #[.int .i64 0, .int .i64 0, .int .i64 0, .int .i64 0, .slice none 0 0, .slice none 0 0, .slice none 0 0] 50
  have K0 : Hid (Kept (fun k => k = t ∨ w.heap.size ≤ k) w (w.alloc (.cells #[.int .i64 0, .int .i64 0, .int .i64 0, .int .i64 0, .slice none 0 0, .slice none 0 0, .slice none 0 0] 50))) := Lib.hid (Kept.of_below hba)
  have HB := Lib.hid (tmInstrs_any t g x _ ts0)
  clear h hba
  go_enter Tryz.func170, Tryz.ntmps170
  go_wp2_with (first
    | (go_at_call 174; refine HB.out.mono ?_; rintro y w1 ⟨x0, len, cap, g1, rfl, t1, k1, o1⟩; have O1 := Lib.hid o1; clear o1 HB; have hz1 := k1.size; have r1 := rs0.kept k1 (by omega))
    | (go_at_call 69; refine (tmNeed_any t g1 x ((len : Int) == 1) 9 _ t1).mono ?_; rintro y w2 ⟨rfl, t2, k2⟩; have r2 := r1.kept k2 (by omega); obtain ⟨cr2_0, cr2_1, cr2_2, cr2_3, cr2_4, cr2_5, cr2_6⟩ := BlkAt.cells7 r2; have fr2_0 := r2.frozen 0; have fr2_1 := r2.frozen 1; have fr2_2 := r2.frozen 2; have fr2_3 := r2.frozen 3; have fr2_4 := r2.frozen 4; have fr2_5 := r2.frozen 5; have fr2_6 := r2.frozen 6
       have hflt := t2.flt
       obtain ⟨g2, hg2⟩ : ∃ g2, g2 = needS g1 ((len : Int) == 1) 9 := ⟨_, rfl⟩
       rw [← hg2] at t2 hflt
       have HG2 := Lib.hid hg2
       clear hg2
       rcases t2.wf.cases with ⟨s2, rfl, _⟩ | ⟨f2, rfl, hf2⟩
       case' inl =>
         replace hflt : w2.cell? ⟨t, 1, none⟩ = some (.int .i64 0) := hflt
         obtain ⟨hp, hg1⟩ := needS_live (by decide) HG2.out.symm
         have hlen : len = 1 := by
           have : ((len : Int) == 1) = true := hp
           have h1 : (len : Int) = 1 := by simpa using this
           omega
         subst hlen hg1
         obtain ⟨s0, ls, hg0, hR, how, hwf⟩ := O1.out.live
         have hll := how.eq
         obtain ⟨c, rfl⟩ : ∃ c, ls = [c] := by
           match ls, hll with
           | [c], _ => exact ⟨c, rfl⟩
         have how2 := how.next (k2.agree (P := fun k => (w.alloc (.cells #[.int .i64 0, .int .i64 0, .int .i64 0, .int .i64 0, .slice none 0 0, .slice none 0 0, .slice none 0 0] 50)).heap.size ≤ k) fun k hk _ q => by omega) k2.size fun k hk _ => hk
         obtain ⟨b, off, xn, cn, xl, cl, xe, ce, rfl, hcs, hv⟩ := own_one how2
         have HV := Lib.hid hv
         have HW := Lib.hid hwf
         have HR := Lib.hid (And.intro hg0 hR)
         have HCS := Lib.hid hcs
         obtain ⟨j0, j1, j2, j3, j4, j5, j6⟩ := hcs
         clear hv hwf hg0 hR how how2 hll hp O1
       case' inr =>
         replace hflt : w2.cell? ⟨t, 1, none⟩ = some (.int .i64 f2) := hflt
         have e2 : (f2 != 0) = true := by simpa using hf2
         clear hf2))
  · have TF := (((((((t2).set (b := w.heap.size) (by omega) 0 (.int .i64 0)).set (b := w.heap.size) (by omega) 1 (.int .i64 0)).set (b := w.heap.size) (by omega) 2 (.int .i64 0)).set (b := w.heap.size) (by omega) 3 (.int .i64 0)).set (b := w.heap.size) (by omega) 4 (.slice none 0 0)).set (b := w.heap.size) (by omega) 5 (.slice none 0 0)).set (b := w.heap.size) (by omega) 6 (.slice none 0 0)
    have KF := (((((((((K0.out.trans (k1.mono fun _ q => .inl q)).trans (k2.mono fun _ q => .inl q)).set (p := ⟨w.heap.size, 0, none⟩) (.inr (Nat.le_refl _)) (.int .i64 0)).set (p := ⟨w.heap.size, 1, none⟩) (.inr (Nat.le_refl _)) (.int .i64 0)).set (p := ⟨w.heap.size, 2, none⟩) (.inr (Nat.le_refl _)) (.int .i64 0)).set (p := ⟨w.heap.size, 3, none⟩) (.inr (Nat.le_refl _)) (.int .i64 0)).set (p := ⟨w.heap.size, 4, none⟩) (.inr (Nat.le_refl _)) (.slice none 0 0)).set (p := ⟨w.heap.size, 5, none⟩) (.inr (Nat.le_refl _)) (.slice none 0 0)).set (p := ⟨w.heap.size, 6, none⟩) (.inr (Nat.le_refl _)) (.slice none 0 0))
    refine bodyPost_ret (v := .agg #[.int .i64 0, .int .i64 0, .int .i64 0, .int .i64 0, .slice none 0 0, .slice none 0 0, .slice none 0 0]) (by simp [results, Tryz.results170, go_sem, cr2_0, cr2_1, cr2_2, cr2_3, cr2_4, cr2_5, cr2_6]) rfl ⟨0, 0, 0, 0, none, 0, 0, none, 0, 0, none, 0, 0, _, rfl, TF, KF.clean, ?_⟩
    have hg2 := HG2.out
    by_cases hp : ((len : Int) == 1) = true
    · have hg1 : g1 = .error f2 := by
        rw [hp] at hg2
        exact hg2.symm
      subst hg1
      exact O1.out.bind (fun _ _ => rfl) (fun _ q => q)
    · have hp' : ((len : Int) == 1) = false := by cases q : ((len : Int) == 1) <;> simp_all
      rw [hp'] at hg2
      rw [hg2]
      refine out_fail (by decide) O1.out fun ls hl => if_neg fun q => ?_
      have := hl.1.eq
      rw [q] at this
      subst this
      exact absurd hp' (by decide)
  · have TF := (((((((t2).set (b := w.heap.size) (by omega) 0 (.int .i64 c.op)).set (b := w.heap.size) (by omega) 1 (.int .i64 c.a)).set (b := w.heap.size) (by omega) 2 (.int .i64 c.b)).set (b := w.heap.size) (by omega) 3 (.int .i64 c.m)).set (b := w.heap.size) (by omega) 4 (.slice xn c.n.length cn)).set (b := w.heap.size) (by omega) 5 (.slice xl c.l.length cl)).set (b := w.heap.size) (by omega) 6 (.slice xe c.e.length ce)
    have KF := (((((((((K0.out.trans (k1.mono fun _ q => .inl q)).trans (k2.mono fun _ q => .inl q)).set (p := ⟨w.heap.size, 0, none⟩) (.inr (Nat.le_refl _)) (.int .i64 c.op)).set (p := ⟨w.heap.size, 1, none⟩) (.inr (Nat.le_refl _)) (.int .i64 c.a)).set (p := ⟨w.heap.size, 2, none⟩) (.inr (Nat.le_refl _)) (.int .i64 c.b)).set (p := ⟨w.heap.size, 3, none⟩) (.inr (Nat.le_refl _)) (.int .i64 c.m)).set (p := ⟨w.heap.size, 4, none⟩) (.inr (Nat.le_refl _)) (.slice xn c.n.length cn)).set (p := ⟨w.heap.size, 5, none⟩) (.inr (Nat.le_refl _)) (.slice xl c.l.length cl)).set (p := ⟨w.heap.size, 6, none⟩) (.inr (Nat.le_refl _)) (.slice xe c.e.length ce))
    have KL : Kept (fun k => k = w.heap.size) w2 (((((((w2.setCell ⟨w.heap.size, 0, none⟩ (.int .i64 c.op)).setCell ⟨w.heap.size, 1, none⟩ (.int .i64 c.a)).setCell ⟨w.heap.size, 2, none⟩ (.int .i64 c.b)).setCell ⟨w.heap.size, 3, none⟩ (.int .i64 c.m)).setCell ⟨w.heap.size, 4, none⟩ (.slice xn c.n.length cn)).setCell ⟨w.heap.size, 5, none⟩ (.slice xl c.l.length cl)).setCell ⟨w.heap.size, 6, none⟩ (.slice xe c.e.length ce)) := ((((((((Kept.refl (fun k => k = w.heap.size) w2).set (p := ⟨w.heap.size, 0, none⟩) rfl (.int .i64 c.op)).set (p := ⟨w.heap.size, 1, none⟩) rfl (.int .i64 c.a)).set (p := ⟨w.heap.size, 2, none⟩) rfl (.int .i64 c.b)).set (p := ⟨w.heap.size, 3, none⟩) rfl (.int .i64 c.m)).set (p := ⟨w.heap.size, 4, none⟩) rfl (.slice xn c.n.length cn)).set (p := ⟨w.heap.size, 5, none⟩) rfl (.slice xl c.l.length cl)).set (p := ⟨w.heap.size, 6, none⟩) rfl (.slice xe c.e.length ce))
    refine bodyPost_ret (v := .agg #[.int .i64 c.op, .int .i64 c.a, .int .i64 c.b, .int .i64 c.m, .slice xn c.n.length cn, .slice xl c.l.length cl, .slice xe c.e.length ce]) (by simp [results, Tryz.results170, go_sem, cr2_0, cr2_1, cr2_2, cr2_3, cr2_4, cr2_5, cr2_6]) rfl ⟨c.op, c.a, c.b, c.m, xn, c.n.length, cn, xl, c.l.length, cl, xe, c.e.length, ce, _, rfl, TF, KF.clean, ?_⟩
    obtain ⟨rfl, hR⟩ := HR.out
    refine (out_ok (q := (c, s2)) ((bindR_ok hR).trans rfl)).2 ⟨rfl, fun W hW b' o hc => ?_⟩
    refine ⟨xn, cn, xl, cl, xe, ce, ⟨hc 0 _ rfl, hc 1 _ rfl, hc 2 _ rfl, hc 3 _ rfl, hc 4 _ rfl, hc 5 _ rfl, hc 6 _ rfl⟩, HV.out W (hW.next (KL.agree fun k hk _ q => by omega) KL.size fun k hk _ => by omega), ?_⟩
    have hw := HW.out
    rw [wfL] at hw
    exact hw.1
end Go.Proofs.YtekonefnniaheaaGreat
