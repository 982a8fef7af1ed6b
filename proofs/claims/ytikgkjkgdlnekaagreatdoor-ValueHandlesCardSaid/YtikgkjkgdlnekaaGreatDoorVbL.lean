/- value: the reference's Inside: of a list. -/
import Derived.Test.YtikgkjkgdlnekaaGreatDoorVbK
set_option linter.unusedVariables false
set_option linter.unusedSimpArgs false
namespace Go.Proofs.YtikgkjkgdlnekaaGreatDoor
open Go.RowKit
open Lex Ct

theorem insR_some_n {w w' : World} {ts : List Ty} {a : Option Addr} {n cap : Nat} (h : RowAt w' ts a cap) (hn : ts.length = n) (k : Kept (fun _ => False) w w') : InsR (some ts) w (.returned (.tuple #[.slice a n cap, .bool true])) w' := hn ▸ insR_some h k
theorem insR_none_n {w w' : World} {ts : List Ty} {a : Option Addr} {n cap : Nat} (h : RowAt w' ts a cap) (hn : ts.length = n) (k : Kept (fun _ => False) w w') : InsR none w (.returned (.tuple #[.slice a n cap, .bool false])) w' := hn ▸ insR_none h k
set_option maxRecDepth 100000 in
set_option maxHeartbeats 8000000 in
theorem ins_12e (names : List Nm) (l : List Ty) (r : Int) (an : Option Addr) (cn : Nat) (al : Option Addr) (cl : Nat) (n : Int) (s : List Int) (vl : List Vl) (sa : Option Addr) (sc : Nat) (av : Option Addr) (cv : Nat) (w : World) (x : Ty) (h : RowAt w l al cl) (hx : l[0]? = some x) (hlv : vl.length ≤ 20000) (hn : (n == 0) = true) (hle : vl.length ≤ 1000) :
    Calls Tryz.prog 21 #[.agg #[.int .i64 12, .slice an names.length cn, .slice al l.length cl, .int .i64 r], .agg #[.int .i64 n, .slice sa s.length sc, .slice av vl.length cv]] w (InsR (some (List.replicate vl.length x)) w) := by
  obtain ⟨g, o, ap, cp, aq, cq, rfl, hg, ht, d0, d1, d2, d3⟩ := h.at hx
  rw [Nat.zero_mul, Nat.add_zero] at d0 d1 d2 d3
  have hl0 : 0 < l.length := (List.getElem?_eq_some_iff.1 hx).1
  have T0 := (BlkAt.new w #[.int .i64 12, .slice an names.length cn, .slice (some ⟨g, o, none⟩) l.length cl, .int .i64 r] 25).kept (F := fun _ => False) ((Kept.refl _ _).new (.cells #[.int .i64 n, .slice sa s.length sc, .slice av vl.length cv] 29)) id
  have V0 := BlkAt.new (w.alloc (.cells #[.int .i64 12, .slice an names.length cn, .slice (some ⟨g, o, none⟩) l.length cl, .int .i64 r] 25)) #[.int .i64 n, .slice sa s.length sc, .slice av vl.length cv] 29
  rw [World.size_alloc] at V0
  have k0 : Kept (fun _ => False) w ((w.alloc (.cells #[.int .i64 12, .slice an names.length cn, .slice (some ⟨g, o, none⟩) l.length cl, .int .i64 r] 25)).alloc (.cells #[.int .i64 n, .slice sa s.length sc, .slice av vl.length cv] 29)) := ((Kept.refl _ _).new _).new _
  have D := And.intro ((k0.cell1 hg).trans d0) (And.intro ((k0.cell1 hg).trans d1) (And.intro ((k0.cell1 hg).trans d2) ((k0.cell1 hg).trans d3)))
  have HD := Lib.hid D
  have HG : Hid (g < ((w.alloc (.cells #[.int .i64 12, .slice an names.length cn, .slice (some ⟨g, o, none⟩) l.length cl, .int .i64 r] 25)).alloc (.cells #[.int .i64 n, .slice sa s.length sc, .slice av vl.length cv] 29)).heap.size) := Lib.hid (Nat.lt_of_lt_of_le hg k0.size)
  have HX := Lib.hid (ht.kept k0)
  have HT := Lib.hid T0
  have HV := Lib.hid V0
  have HK := Lib.hid k0
  obtain ⟨N, hN⟩ : ∃ N, N = min vl.length 1001 := ⟨_, rfl⟩
  have hNa : N ≤ vl.length ∧ N ≤ 1001 ∧ (N = vl.length ∨ (N = 1001 ∧ 1001 < vl.length)) := by omega
  obtain ⟨hN1, hN2, hN3⟩ := hNa
  have HN3 := Lib.hid hN3
  have HLV := Lib.hid hlv
  have hq : decide ((vl.length : Int) ≤ 1000) = true := by simp; omega
  have HLE := Lib.hid hle
  clear hle
  clear h hx hg ht d0 d1 d2 d3 T0 V0 k0 D hN hN3 hlv
  obtain ⟨i0, hi, hz0, hz1, hz2⟩ := info_ty
  have HB := Lib.hid (And.intro hz0 (And.intro hz1 hz2))
  clear hz0 hz1 hz2
  go_enter Tryz.func21, Tryz.ntmps21
  go_wp2_with fail
  go_loopw [6, 7] (fun tv u wr => ∃ i : Nat, u = .int .i64 i ∧ i ≤ N ∧ Hid (Kept (fun _ => False) ((w.alloc (.cells #[.int .i64 12, .slice an names.length cn, .slice (some ⟨g, o, none⟩) l.length cl, .int .i64 r] 25)).alloc (.cells #[.int .i64 n, .slice sa s.length sc, .slice av vl.length cv] 29)) wr ∧ ∃ vs, wr.ownsRow ((w.alloc (.cells #[.int .i64 12, .slice an names.length cn, .slice (some ⟨g, o, none⟩) l.length cl, .int .i64 r] 25)).alloc (.cells #[.int .i64 n, .slice sa s.length sc, .slice av vl.length cv] 29)).heap.size 25 4 tv i vs ∧ LiesL (· < ((w.alloc (.cells #[.int .i64 12, .slice an names.length cn, .slice (some ⟨g, o, none⟩) l.length cl, .int .i64 r] 25)).alloc (.cells #[.int .i64 n, .slice sa s.length sc, .slice av vl.length cv] 29)).heap.size) wr (encTys (List.replicate i x)) vs)) (fun _ u _ => N - (intOf u).toNat)
  case atStart => exact ⟨0, rfl, Nat.zero_le _, Lib.hid ⟨Kept.refl _ _, [], World.ownsRow_nil _ _ _ _, LiesL.nil⟩⟩
  case round =>
    obtain ⟨i, rfl, hi', hst⟩ := hrel
    obtain ⟨kr, vs, hvs, hlvs⟩ := hst.out
    have b2 := (HT.out.kept (F := fun _ => False) kr id).cell 2
    have c0 := (HV.out.kept (F := fun _ => False) kr id).cell 0
    have c2 := (HV.out.kept (F := fun _ => False) kr id).cell 2
    simp at b2 c0 c2
    have HKR := Lib.hid kr
    by_cases hlt : i < N
    · have e0 := (kr.cell1 HG.out).trans HD.out.1
      have e1 := (kr.cell1 HG.out).trans HD.out.2.1
      have e2 := (kr.cell1 HG.out).trans HD.out.2.2.1
      have e3 := (kr.cell1 HG.out).trans HD.out.2.2.2
      have t1 : decide (i < vl.length) = true := decide_eq_true (by omega)
      have t2 : decide ((i : Int) ≤ 1000) = true := by simp; omega
      have q3 : i + 1 ≤ maxLen := by unfold maxLen; omega
      have q5 : (i + 1) * 64 ≤ 140737488355328 := by omega
      have hBw := kr.size
      obtain ⟨a5, c5, rfl⟩ := own_slice hvs
      have HVS := Lib.hid (And.intro hvs hlvs)
      have HQ := Lib.hid (And.intro q3 (And.intro q5 hBw))
      have hwi : IntKind.i64.wrap ((i : Int) + 1) = ((i + 1 : Nat) : Int) := by rw [IntKind.wrap_i64]; omega
      clear q3 q5 hBw hvs hlvs kr
      go_wp2_with (first
        | (at_builtin
           refine wpList_append_lies _ rfl _ _ 23 rfl ((w.alloc (.cells #[.int .i64 12, .slice an names.length cn, .slice (some ⟨g, o, none⟩) l.length cl, .int .i64 r] 25)).alloc (.cells #[.int .i64 n, .slice sa s.length sc, .slice av vl.length cv] 29)).heap.size 25 i0 (.agg #[.int .i64 0, .slice none 0 0, .slice none 0 0, .int .i64 0]) 4 64 Tryz.underlying23 hi HB.out.1 HB.out.2.1 HB.out.2.2 rfl (by decide) (.slice a5 i c5) i vs rfl (World.ownsRow.alloc HVS.out.1 _) ⟨wr.heap.size, 0, none⟩ 1 1 [.int .i64 x.kind, .slice ap x.names.length cp, .slice aq x.l.length cq, .int .i64 x.r] rfl rfl (World.news_of_block (cs := #[.int .i64 x.kind, .slice ap x.names.length cp, .slice aq x.l.length cq, .int .i64 x.r]) (BlkAt.new wr #[.int .i64 x.kind, .slice ap x.names.length cp, .slice aq x.l.length cq, .int .i64 x.r] 25)) (by simp [Value.oneCell']) (by decide) HQ.out.1 HQ.out.2.1 (le_alloc HQ.out.2.2) _ rfl ?_
           intro g5 cap5 w5 hown5 hgrow hat hlt5
           have kg : Kept (((w.alloc (.cells #[.int .i64 12, .slice an names.length cn, .slice (some ⟨g, o, none⟩) l.length cl, .int .i64 r] 25)).alloc (.cells #[.int .i64 n, .slice sa s.length sc, .slice av vl.length cv] 29)).heap.size ≤ ·) (wr.alloc (.cells #[.int .i64 x.kind, .slice ap x.names.length cp, .slice aq x.l.length cq, .int .i64 x.r] 25)) w5 := (Kept.grow hgrow).mono (fun b e => (own_lt HVS.out.1 b e.symm).1)
           have k5 : Kept (fun _ => False) ((w.alloc (.cells #[.int .i64 12, .slice an names.length cn, .slice (some ⟨g, o, none⟩) l.length cl, .int .i64 r] 25)).alloc (.cells #[.int .i64 n, .slice sa s.length sc, .slice av vl.length cv] 29)) w5 := (((HKR.out.new (.cells #[.int .i64 x.kind, .slice ap x.names.length cp, .slice aq x.l.length cq, .int .i64 x.r] 25)).any (F := (((w.alloc (.cells #[.int .i64 12, .slice an names.length cn, .slice (some ⟨g, o, none⟩) l.length cl, .int .i64 r] 25)).alloc (.cells #[.int .i64 n, .slice sa s.length sc, .slice av vl.length cv] 29)).heap.size ≤ ·))).trans kg).clear (fun b hb e => by have e : ((w.alloc (.cells #[.int .i64 12, .slice an names.length cn, .slice (some ⟨g, o, none⟩) l.length cl, .int .i64 r] 25)).alloc (.cells #[.int .i64 n, .slice sa s.length sc, .slice av vl.length cv] 29)).heap.size ≤ b := e; omega)
           have hl5 : LiesL (· < ((w.alloc (.cells #[.int .i64 12, .slice an names.length cn, .slice (some ⟨g, o, none⟩) l.length cl, .int .i64 r] 25)).alloc (.cells #[.int .i64 n, .slice sa s.length sc, .slice av vl.length cv] 29)).heap.size) w5 (encTys (List.replicate (i + 1) x)) (vs ++ [.int .i64 x.kind, .slice ap x.names.length cp, .slice aq x.l.length cq, .int .i64 x.r]) := by
             rw [List.replicate_succ', encTys_append, encTys_one]
             exact (HVS.out.2.past (((Kept.refl _ wr).new _).trans kg) (fun _ e => e)).append (ty_lies (HX.out.now.past k5 (fun _ e => e.elim)).n (HX.out.now.past k5 (fun _ e => e.elim)).l)
           have HST : Hid (Kept (fun _ => False) ((w.alloc (.cells #[.int .i64 12, .slice an names.length cn, .slice (some ⟨g, o, none⟩) l.length cl, .int .i64 r] 25)).alloc (.cells #[.int .i64 n, .slice sa s.length sc, .slice av vl.length cv] 29)) w5 ∧ ∃ vs, w5.ownsRow ((w.alloc (.cells #[.int .i64 12, .slice an names.length cn, .slice (some ⟨g, o, none⟩) l.length cl, .int .i64 r] 25)).alloc (.cells #[.int .i64 n, .slice sa s.length sc, .slice av vl.length cv] 29)).heap.size 25 4 (.slice (some ⟨g5, 0, none⟩) (i + 1) cap5) (i + 1) vs ∧ LiesL (· < ((w.alloc (.cells #[.int .i64 12, .slice an names.length cn, .slice (some ⟨g, o, none⟩) l.length cl, .int .i64 r] 25)).alloc (.cells #[.int .i64 n, .slice sa s.length sc, .slice av vl.length cv] 29)).heap.size) w5 (encTys (List.replicate (i + 1) x)) vs) := Lib.hid ⟨k5, _, hown5, hl5⟩
           clear hown5 hgrow hat hlt5 k5 kg hl5))
      exact ⟨⟨i + 1, by first | rw [hwi] | rfl, hlt, HST⟩, by simp [intOf]; omega⟩
    · have he : i = N := by omega
      subst he
      obtain ⟨a5, c5, rfl⟩ := own_slice hvs
      have HRW : Hid (RowAt wr (List.replicate i x) a5 c5) := Lib.hid ⟨by
        have := row_lies hvs hlvs.wide (by rw [encTys_length, List.length_replicate]) (fun _ _ => trivial)
        rw [show (List.replicate i x).length = i from List.length_replicate]
        show LiesU AnyB wr (.sl 25 4 (List.replicate i x).length (encTys (List.replicate i x))) _
        rw [List.length_replicate]
        exact this⟩
      clear hvs hlvs kr hlt
      have hvl : i = vl.length := by have := HN3.out; have := HLE.out; omega
      have t1 : decide (i < vl.length) = false := decide_eq_false (by omega)
      have HVL := Lib.hid hvl
      clear hvl
      go_wp2_with fail
      go_quiet (fail)
      go_wp2
      rw [← HVL.out]
      exact bodyPost_ret (v := .tuple #[.slice a5 i c5, .bool true]) (by simp [results, Tryz.results21, go_sem]) rfl (insR_some_n (ts := List.replicate i x) (HRW.out.kept (Kept.of_below (below_drewN (Below.refl _ _) _))) List.length_replicate ((HK.out.trans HKR.out).trans (Kept.of_below (below_drewN (Below.refl _ _) _))))
set_option maxRecDepth 100000 in
set_option maxHeartbeats 8000000 in
theorem ins_12n (names : List Nm) (l : List Ty) (r : Int) (an : Option Addr) (cn : Nat) (al : Option Addr) (cl : Nat) (n : Int) (s : List Int) (vl : List Vl) (sa : Option Addr) (sc : Nat) (av : Option Addr) (cv : Nat) (w : World) (x : Ty) (h : RowAt w l al cl) (hx : l[0]? = some x) (hlv : vl.length ≤ 20000) (hn : (n == 0) = false) :
    Calls Tryz.prog 21 #[.agg #[.int .i64 12, .slice an names.length cn, .slice al l.length cl, .int .i64 r], .agg #[.int .i64 n, .slice sa s.length sc, .slice av vl.length cv]] w (InsR none w) := by
  obtain ⟨g, o, ap, cp, aq, cq, rfl, hg, ht, d0, d1, d2, d3⟩ := h.at hx
  rw [Nat.zero_mul, Nat.add_zero] at d0 d1 d2 d3
  have hl0 : 0 < l.length := (List.getElem?_eq_some_iff.1 hx).1
  have T0 := (BlkAt.new w #[.int .i64 12, .slice an names.length cn, .slice (some ⟨g, o, none⟩) l.length cl, .int .i64 r] 25).kept (F := fun _ => False) ((Kept.refl _ _).new (.cells #[.int .i64 n, .slice sa s.length sc, .slice av vl.length cv] 29)) id
  have V0 := BlkAt.new (w.alloc (.cells #[.int .i64 12, .slice an names.length cn, .slice (some ⟨g, o, none⟩) l.length cl, .int .i64 r] 25)) #[.int .i64 n, .slice sa s.length sc, .slice av vl.length cv] 29
  rw [World.size_alloc] at V0
  have k0 : Kept (fun _ => False) w ((w.alloc (.cells #[.int .i64 12, .slice an names.length cn, .slice (some ⟨g, o, none⟩) l.length cl, .int .i64 r] 25)).alloc (.cells #[.int .i64 n, .slice sa s.length sc, .slice av vl.length cv] 29)) := ((Kept.refl _ _).new _).new _
  have D := And.intro ((k0.cell1 hg).trans d0) (And.intro ((k0.cell1 hg).trans d1) (And.intro ((k0.cell1 hg).trans d2) ((k0.cell1 hg).trans d3)))
  have HD := Lib.hid D
  have HG : Hid (g < ((w.alloc (.cells #[.int .i64 12, .slice an names.length cn, .slice (some ⟨g, o, none⟩) l.length cl, .int .i64 r] 25)).alloc (.cells #[.int .i64 n, .slice sa s.length sc, .slice av vl.length cv] 29)).heap.size) := Lib.hid (Nat.lt_of_lt_of_le hg k0.size)
  have HX := Lib.hid (ht.kept k0)
  have HT := Lib.hid T0
  have HV := Lib.hid V0
  have HK := Lib.hid k0
  obtain ⟨N, hN⟩ : ∃ N, N = min vl.length 1001 := ⟨_, rfl⟩
  have hNa : N ≤ vl.length ∧ N ≤ 1001 ∧ (N = vl.length ∨ (N = 1001 ∧ 1001 < vl.length)) := by omega
  obtain ⟨hN1, hN2, hN3⟩ := hNa
  have HN3 := Lib.hid hN3
  have HLV := Lib.hid hlv
  clear h hx hg ht d0 d1 d2 d3 T0 V0 k0 D hN hN3 hlv
  obtain ⟨i0, hi, hz0, hz1, hz2⟩ := info_ty
  have HB := Lib.hid (And.intro hz0 (And.intro hz1 hz2))
  clear hz0 hz1 hz2
  go_enter Tryz.func21, Tryz.ntmps21
  go_wp2_with fail
  go_loopw [6, 7] (fun tv u wr => ∃ i : Nat, u = .int .i64 i ∧ i ≤ N ∧ Hid (Kept (fun _ => False) ((w.alloc (.cells #[.int .i64 12, .slice an names.length cn, .slice (some ⟨g, o, none⟩) l.length cl, .int .i64 r] 25)).alloc (.cells #[.int .i64 n, .slice sa s.length sc, .slice av vl.length cv] 29)) wr ∧ ∃ vs, wr.ownsRow ((w.alloc (.cells #[.int .i64 12, .slice an names.length cn, .slice (some ⟨g, o, none⟩) l.length cl, .int .i64 r] 25)).alloc (.cells #[.int .i64 n, .slice sa s.length sc, .slice av vl.length cv] 29)).heap.size 25 4 tv i vs ∧ LiesL (· < ((w.alloc (.cells #[.int .i64 12, .slice an names.length cn, .slice (some ⟨g, o, none⟩) l.length cl, .int .i64 r] 25)).alloc (.cells #[.int .i64 n, .slice sa s.length sc, .slice av vl.length cv] 29)).heap.size) wr (encTys (List.replicate i x)) vs)) (fun _ u _ => N - (intOf u).toNat)
  case atStart => exact ⟨0, rfl, Nat.zero_le _, Lib.hid ⟨Kept.refl _ _, [], World.ownsRow_nil _ _ _ _, LiesL.nil⟩⟩
  case round =>
    obtain ⟨i, rfl, hi', hst⟩ := hrel
    obtain ⟨kr, vs, hvs, hlvs⟩ := hst.out
    have b2 := (HT.out.kept (F := fun _ => False) kr id).cell 2
    have c0 := (HV.out.kept (F := fun _ => False) kr id).cell 0
    have c2 := (HV.out.kept (F := fun _ => False) kr id).cell 2
    simp at b2 c0 c2
    have HKR := Lib.hid kr
    by_cases hlt : i < N
    · have e0 := (kr.cell1 HG.out).trans HD.out.1
      have e1 := (kr.cell1 HG.out).trans HD.out.2.1
      have e2 := (kr.cell1 HG.out).trans HD.out.2.2.1
      have e3 := (kr.cell1 HG.out).trans HD.out.2.2.2
      have t1 : decide (i < vl.length) = true := decide_eq_true (by omega)
      have t2 : decide ((i : Int) ≤ 1000) = true := by simp; omega
      have q3 : i + 1 ≤ maxLen := by unfold maxLen; omega
      have q5 : (i + 1) * 64 ≤ 140737488355328 := by omega
      have hBw := kr.size
      obtain ⟨a5, c5, rfl⟩ := own_slice hvs
      have HVS := Lib.hid (And.intro hvs hlvs)
      have HQ := Lib.hid (And.intro q3 (And.intro q5 hBw))
      have hwi : IntKind.i64.wrap ((i : Int) + 1) = ((i + 1 : Nat) : Int) := by rw [IntKind.wrap_i64]; omega
      clear q3 q5 hBw hvs hlvs kr
      go_wp2_with (first
        | (at_builtin
           refine wpList_append_lies _ rfl _ _ 23 rfl ((w.alloc (.cells #[.int .i64 12, .slice an names.length cn, .slice (some ⟨g, o, none⟩) l.length cl, .int .i64 r] 25)).alloc (.cells #[.int .i64 n, .slice sa s.length sc, .slice av vl.length cv] 29)).heap.size 25 i0 (.agg #[.int .i64 0, .slice none 0 0, .slice none 0 0, .int .i64 0]) 4 64 Tryz.underlying23 hi HB.out.1 HB.out.2.1 HB.out.2.2 rfl (by decide) (.slice a5 i c5) i vs rfl (World.ownsRow.alloc HVS.out.1 _) ⟨wr.heap.size, 0, none⟩ 1 1 [.int .i64 x.kind, .slice ap x.names.length cp, .slice aq x.l.length cq, .int .i64 x.r] rfl rfl (World.news_of_block (cs := #[.int .i64 x.kind, .slice ap x.names.length cp, .slice aq x.l.length cq, .int .i64 x.r]) (BlkAt.new wr #[.int .i64 x.kind, .slice ap x.names.length cp, .slice aq x.l.length cq, .int .i64 x.r] 25)) (by simp [Value.oneCell']) (by decide) HQ.out.1 HQ.out.2.1 (le_alloc HQ.out.2.2) _ rfl ?_
           intro g5 cap5 w5 hown5 hgrow hat hlt5
           have kg : Kept (((w.alloc (.cells #[.int .i64 12, .slice an names.length cn, .slice (some ⟨g, o, none⟩) l.length cl, .int .i64 r] 25)).alloc (.cells #[.int .i64 n, .slice sa s.length sc, .slice av vl.length cv] 29)).heap.size ≤ ·) (wr.alloc (.cells #[.int .i64 x.kind, .slice ap x.names.length cp, .slice aq x.l.length cq, .int .i64 x.r] 25)) w5 := (Kept.grow hgrow).mono (fun b e => (own_lt HVS.out.1 b e.symm).1)
           have k5 : Kept (fun _ => False) ((w.alloc (.cells #[.int .i64 12, .slice an names.length cn, .slice (some ⟨g, o, none⟩) l.length cl, .int .i64 r] 25)).alloc (.cells #[.int .i64 n, .slice sa s.length sc, .slice av vl.length cv] 29)) w5 := (((HKR.out.new (.cells #[.int .i64 x.kind, .slice ap x.names.length cp, .slice aq x.l.length cq, .int .i64 x.r] 25)).any (F := (((w.alloc (.cells #[.int .i64 12, .slice an names.length cn, .slice (some ⟨g, o, none⟩) l.length cl, .int .i64 r] 25)).alloc (.cells #[.int .i64 n, .slice sa s.length sc, .slice av vl.length cv] 29)).heap.size ≤ ·))).trans kg).clear (fun b hb e => by have e : ((w.alloc (.cells #[.int .i64 12, .slice an names.length cn, .slice (some ⟨g, o, none⟩) l.length cl, .int .i64 r] 25)).alloc (.cells #[.int .i64 n, .slice sa s.length sc, .slice av vl.length cv] 29)).heap.size ≤ b := e; omega)
           have hl5 : LiesL (· < ((w.alloc (.cells #[.int .i64 12, .slice an names.length cn, .slice (some ⟨g, o, none⟩) l.length cl, .int .i64 r] 25)).alloc (.cells #[.int .i64 n, .slice sa s.length sc, .slice av vl.length cv] 29)).heap.size) w5 (encTys (List.replicate (i + 1) x)) (vs ++ [.int .i64 x.kind, .slice ap x.names.length cp, .slice aq x.l.length cq, .int .i64 x.r]) := by
             rw [List.replicate_succ', encTys_append, encTys_one]
             exact (HVS.out.2.past (((Kept.refl _ wr).new _).trans kg) (fun _ e => e)).append (ty_lies (HX.out.now.past k5 (fun _ e => e.elim)).n (HX.out.now.past k5 (fun _ e => e.elim)).l)
           have HST : Hid (Kept (fun _ => False) ((w.alloc (.cells #[.int .i64 12, .slice an names.length cn, .slice (some ⟨g, o, none⟩) l.length cl, .int .i64 r] 25)).alloc (.cells #[.int .i64 n, .slice sa s.length sc, .slice av vl.length cv] 29)) w5 ∧ ∃ vs, w5.ownsRow ((w.alloc (.cells #[.int .i64 12, .slice an names.length cn, .slice (some ⟨g, o, none⟩) l.length cl, .int .i64 r] 25)).alloc (.cells #[.int .i64 n, .slice sa s.length sc, .slice av vl.length cv] 29)).heap.size 25 4 (.slice (some ⟨g5, 0, none⟩) (i + 1) cap5) (i + 1) vs ∧ LiesL (· < ((w.alloc (.cells #[.int .i64 12, .slice an names.length cn, .slice (some ⟨g, o, none⟩) l.length cl, .int .i64 r] 25)).alloc (.cells #[.int .i64 n, .slice sa s.length sc, .slice av vl.length cv] 29)).heap.size) w5 (encTys (List.replicate (i + 1) x)) vs) := Lib.hid ⟨k5, _, hown5, hl5⟩
           clear hown5 hgrow hat hlt5 k5 kg hl5))
      exact ⟨⟨i + 1, by first | rw [hwi] | rfl, hlt, HST⟩, by simp [intOf]; omega⟩
    · have he : i = N := by omega
      subst he
      obtain ⟨a5, c5, rfl⟩ := own_slice hvs
      have HRW : Hid (RowAt wr (List.replicate i x) a5 c5) := Lib.hid ⟨by
        have := row_lies hvs hlvs.wide (by rw [encTys_length, List.length_replicate]) (fun _ _ => trivial)
        rw [show (List.replicate i x).length = i from List.length_replicate]
        show LiesU AnyB wr (.sl 25 4 (List.replicate i x).length (encTys (List.replicate i x))) _
        rw [List.length_replicate]
        exact this⟩
      clear hvs hlvs kr hlt
      rcases HN3.out with h1 | h1
      · have t1 : decide (i < vl.length) = false := decide_eq_false (by omega)
        clear h1
        go_wp2_with fail
        go_quiet (fail)
        go_wp2
        exact bodyPost_ret (v := .tuple #[.slice a5 i c5, .bool false]) (by simp [results, Tryz.results21, go_sem]) rfl (insR_none_n (ts := List.replicate i x) (HRW.out.kept (Kept.of_below (below_drewN (Below.refl _ _) _))) List.length_replicate ((HK.out.trans HKR.out).trans (Kept.of_below (below_drewN (Below.refl _ _) _))))
      · have t1 : decide (i < vl.length) = true := decide_eq_true (by omega)
        have t2 : decide ((i : Int) ≤ 1000) = false := by simp; omega
        clear h1
        go_wp2_with fail
        go_quiet (fail)
        go_wp2
        exact bodyPost_ret (v := .tuple #[.slice a5 i c5, .bool false]) (by simp [results, Tryz.results21, go_sem]) rfl (insR_none_n (ts := List.replicate i x) (HRW.out.kept (Kept.of_below (below_drewN (Below.refl _ _) _))) List.length_replicate ((HK.out.trans HKR.out).trans (Kept.of_below (below_drewN (Below.refl _ _) _))))
set_option maxRecDepth 100000 in
set_option maxHeartbeats 8000000 in
theorem ins_12x (names : List Nm) (l : List Ty) (r : Int) (an : Option Addr) (cn : Nat) (al : Option Addr) (cl : Nat) (n : Int) (s : List Int) (vl : List Vl) (sa : Option Addr) (sc : Nat) (av : Option Addr) (cv : Nat) (w : World) (x : Ty) (h : RowAt w l al cl) (hx : l[0]? = some x) (hlv : vl.length ≤ 20000) (hn : (n == 0) = true) (hle : 1000 < vl.length) :
    Calls Tryz.prog 21 #[.agg #[.int .i64 12, .slice an names.length cn, .slice al l.length cl, .int .i64 r], .agg #[.int .i64 n, .slice sa s.length sc, .slice av vl.length cv]] w (InsR none w) := by
  obtain ⟨g, o, ap, cp, aq, cq, rfl, hg, ht, d0, d1, d2, d3⟩ := h.at hx
  rw [Nat.zero_mul, Nat.add_zero] at d0 d1 d2 d3
  have hl0 : 0 < l.length := (List.getElem?_eq_some_iff.1 hx).1
  have T0 := (BlkAt.new w #[.int .i64 12, .slice an names.length cn, .slice (some ⟨g, o, none⟩) l.length cl, .int .i64 r] 25).kept (F := fun _ => False) ((Kept.refl _ _).new (.cells #[.int .i64 n, .slice sa s.length sc, .slice av vl.length cv] 29)) id
  have V0 := BlkAt.new (w.alloc (.cells #[.int .i64 12, .slice an names.length cn, .slice (some ⟨g, o, none⟩) l.length cl, .int .i64 r] 25)) #[.int .i64 n, .slice sa s.length sc, .slice av vl.length cv] 29
  rw [World.size_alloc] at V0
  have k0 : Kept (fun _ => False) w ((w.alloc (.cells #[.int .i64 12, .slice an names.length cn, .slice (some ⟨g, o, none⟩) l.length cl, .int .i64 r] 25)).alloc (.cells #[.int .i64 n, .slice sa s.length sc, .slice av vl.length cv] 29)) := ((Kept.refl _ _).new _).new _
  have D := And.intro ((k0.cell1 hg).trans d0) (And.intro ((k0.cell1 hg).trans d1) (And.intro ((k0.cell1 hg).trans d2) ((k0.cell1 hg).trans d3)))
  have HD := Lib.hid D
  have HG : Hid (g < ((w.alloc (.cells #[.int .i64 12, .slice an names.length cn, .slice (some ⟨g, o, none⟩) l.length cl, .int .i64 r] 25)).alloc (.cells #[.int .i64 n, .slice sa s.length sc, .slice av vl.length cv] 29)).heap.size) := Lib.hid (Nat.lt_of_lt_of_le hg k0.size)
  have HX := Lib.hid (ht.kept k0)
  have HT := Lib.hid T0
  have HV := Lib.hid V0
  have HK := Lib.hid k0
  obtain ⟨N, hN⟩ : ∃ N, N = min vl.length 1001 := ⟨_, rfl⟩
  have hNa : N ≤ vl.length ∧ N ≤ 1001 ∧ (N = vl.length ∨ (N = 1001 ∧ 1001 < vl.length)) := by omega
  obtain ⟨hN1, hN2, hN3⟩ := hNa
  have HN3 := Lib.hid hN3
  have HLV := Lib.hid hlv
  have hq : decide ((vl.length : Int) ≤ 1000) = false := by simp; omega
  clear hle
  clear h hx hg ht d0 d1 d2 d3 T0 V0 k0 D hN hN3 hlv
  obtain ⟨i0, hi, hz0, hz1, hz2⟩ := info_ty
  have HB := Lib.hid (And.intro hz0 (And.intro hz1 hz2))
  clear hz0 hz1 hz2
  go_enter Tryz.func21, Tryz.ntmps21
  go_wp2_with fail
  go_loopw [6, 7] (fun tv u wr => ∃ i : Nat, u = .int .i64 i ∧ i ≤ N ∧ Hid (Kept (fun _ => False) ((w.alloc (.cells #[.int .i64 12, .slice an names.length cn, .slice (some ⟨g, o, none⟩) l.length cl, .int .i64 r] 25)).alloc (.cells #[.int .i64 n, .slice sa s.length sc, .slice av vl.length cv] 29)) wr ∧ ∃ vs, wr.ownsRow ((w.alloc (.cells #[.int .i64 12, .slice an names.length cn, .slice (some ⟨g, o, none⟩) l.length cl, .int .i64 r] 25)).alloc (.cells #[.int .i64 n, .slice sa s.length sc, .slice av vl.length cv] 29)).heap.size 25 4 tv i vs ∧ LiesL (· < ((w.alloc (.cells #[.int .i64 12, .slice an names.length cn, .slice (some ⟨g, o, none⟩) l.length cl, .int .i64 r] 25)).alloc (.cells #[.int .i64 n, .slice sa s.length sc, .slice av vl.length cv] 29)).heap.size) wr (encTys (List.replicate i x)) vs)) (fun _ u _ => N - (intOf u).toNat)
  case atStart => exact ⟨0, rfl, Nat.zero_le _, Lib.hid ⟨Kept.refl _ _, [], World.ownsRow_nil _ _ _ _, LiesL.nil⟩⟩
  case round =>
    obtain ⟨i, rfl, hi', hst⟩ := hrel
    obtain ⟨kr, vs, hvs, hlvs⟩ := hst.out
    have b2 := (HT.out.kept (F := fun _ => False) kr id).cell 2
    have c0 := (HV.out.kept (F := fun _ => False) kr id).cell 0
    have c2 := (HV.out.kept (F := fun _ => False) kr id).cell 2
    simp at b2 c0 c2
    have HKR := Lib.hid kr
    by_cases hlt : i < N
    · have e0 := (kr.cell1 HG.out).trans HD.out.1
      have e1 := (kr.cell1 HG.out).trans HD.out.2.1
      have e2 := (kr.cell1 HG.out).trans HD.out.2.2.1
      have e3 := (kr.cell1 HG.out).trans HD.out.2.2.2
      have t1 : decide (i < vl.length) = true := decide_eq_true (by omega)
      have t2 : decide ((i : Int) ≤ 1000) = true := by simp; omega
      have q3 : i + 1 ≤ maxLen := by unfold maxLen; omega
      have q5 : (i + 1) * 64 ≤ 140737488355328 := by omega
      have hBw := kr.size
      obtain ⟨a5, c5, rfl⟩ := own_slice hvs
      have HVS := Lib.hid (And.intro hvs hlvs)
      have HQ := Lib.hid (And.intro q3 (And.intro q5 hBw))
      have hwi : IntKind.i64.wrap ((i : Int) + 1) = ((i + 1 : Nat) : Int) := by rw [IntKind.wrap_i64]; omega
      clear q3 q5 hBw hvs hlvs kr
      go_wp2_with (first
        | (at_builtin
           refine wpList_append_lies _ rfl _ _ 23 rfl ((w.alloc (.cells #[.int .i64 12, .slice an names.length cn, .slice (some ⟨g, o, none⟩) l.length cl, .int .i64 r] 25)).alloc (.cells #[.int .i64 n, .slice sa s.length sc, .slice av vl.length cv] 29)).heap.size 25 i0 (.agg #[.int .i64 0, .slice none 0 0, .slice none 0 0, .int .i64 0]) 4 64 Tryz.underlying23 hi HB.out.1 HB.out.2.1 HB.out.2.2 rfl (by decide) (.slice a5 i c5) i vs rfl (World.ownsRow.alloc HVS.out.1 _) ⟨wr.heap.size, 0, none⟩ 1 1 [.int .i64 x.kind, .slice ap x.names.length cp, .slice aq x.l.length cq, .int .i64 x.r] rfl rfl (World.news_of_block (cs := #[.int .i64 x.kind, .slice ap x.names.length cp, .slice aq x.l.length cq, .int .i64 x.r]) (BlkAt.new wr #[.int .i64 x.kind, .slice ap x.names.length cp, .slice aq x.l.length cq, .int .i64 x.r] 25)) (by simp [Value.oneCell']) (by decide) HQ.out.1 HQ.out.2.1 (le_alloc HQ.out.2.2) _ rfl ?_
           intro g5 cap5 w5 hown5 hgrow hat hlt5
           have kg : Kept (((w.alloc (.cells #[.int .i64 12, .slice an names.length cn, .slice (some ⟨g, o, none⟩) l.length cl, .int .i64 r] 25)).alloc (.cells #[.int .i64 n, .slice sa s.length sc, .slice av vl.length cv] 29)).heap.size ≤ ·) (wr.alloc (.cells #[.int .i64 x.kind, .slice ap x.names.length cp, .slice aq x.l.length cq, .int .i64 x.r] 25)) w5 := (Kept.grow hgrow).mono (fun b e => (own_lt HVS.out.1 b e.symm).1)
           have k5 : Kept (fun _ => False) ((w.alloc (.cells #[.int .i64 12, .slice an names.length cn, .slice (some ⟨g, o, none⟩) l.length cl, .int .i64 r] 25)).alloc (.cells #[.int .i64 n, .slice sa s.length sc, .slice av vl.length cv] 29)) w5 := (((HKR.out.new (.cells #[.int .i64 x.kind, .slice ap x.names.length cp, .slice aq x.l.length cq, .int .i64 x.r] 25)).any (F := (((w.alloc (.cells #[.int .i64 12, .slice an names.length cn, .slice (some ⟨g, o, none⟩) l.length cl, .int .i64 r] 25)).alloc (.cells #[.int .i64 n, .slice sa s.length sc, .slice av vl.length cv] 29)).heap.size ≤ ·))).trans kg).clear (fun b hb e => by have e : ((w.alloc (.cells #[.int .i64 12, .slice an names.length cn, .slice (some ⟨g, o, none⟩) l.length cl, .int .i64 r] 25)).alloc (.cells #[.int .i64 n, .slice sa s.length sc, .slice av vl.length cv] 29)).heap.size ≤ b := e; omega)
           have hl5 : LiesL (· < ((w.alloc (.cells #[.int .i64 12, .slice an names.length cn, .slice (some ⟨g, o, none⟩) l.length cl, .int .i64 r] 25)).alloc (.cells #[.int .i64 n, .slice sa s.length sc, .slice av vl.length cv] 29)).heap.size) w5 (encTys (List.replicate (i + 1) x)) (vs ++ [.int .i64 x.kind, .slice ap x.names.length cp, .slice aq x.l.length cq, .int .i64 x.r]) := by
             rw [List.replicate_succ', encTys_append, encTys_one]
             exact (HVS.out.2.past (((Kept.refl _ wr).new _).trans kg) (fun _ e => e)).append (ty_lies (HX.out.now.past k5 (fun _ e => e.elim)).n (HX.out.now.past k5 (fun _ e => e.elim)).l)
           have HST : Hid (Kept (fun _ => False) ((w.alloc (.cells #[.int .i64 12, .slice an names.length cn, .slice (some ⟨g, o, none⟩) l.length cl, .int .i64 r] 25)).alloc (.cells #[.int .i64 n, .slice sa s.length sc, .slice av vl.length cv] 29)) w5 ∧ ∃ vs, w5.ownsRow ((w.alloc (.cells #[.int .i64 12, .slice an names.length cn, .slice (some ⟨g, o, none⟩) l.length cl, .int .i64 r] 25)).alloc (.cells #[.int .i64 n, .slice sa s.length sc, .slice av vl.length cv] 29)).heap.size 25 4 (.slice (some ⟨g5, 0, none⟩) (i + 1) cap5) (i + 1) vs ∧ LiesL (· < ((w.alloc (.cells #[.int .i64 12, .slice an names.length cn, .slice (some ⟨g, o, none⟩) l.length cl, .int .i64 r] 25)).alloc (.cells #[.int .i64 n, .slice sa s.length sc, .slice av vl.length cv] 29)).heap.size) w5 (encTys (List.replicate (i + 1) x)) vs) := Lib.hid ⟨k5, _, hown5, hl5⟩
           clear hown5 hgrow hat hlt5 k5 kg hl5))
      exact ⟨⟨i + 1, by first | rw [hwi] | rfl, hlt, HST⟩, by simp [intOf]; omega⟩
    · have he : i = N := by omega
      subst he
      obtain ⟨a5, c5, rfl⟩ := own_slice hvs
      have HRW : Hid (RowAt wr (List.replicate i x) a5 c5) := Lib.hid ⟨by
        have := row_lies hvs hlvs.wide (by rw [encTys_length, List.length_replicate]) (fun _ _ => trivial)
        rw [show (List.replicate i x).length = i from List.length_replicate]
        show LiesU AnyB wr (.sl 25 4 (List.replicate i x).length (encTys (List.replicate i x))) _
        rw [List.length_replicate]
        exact this⟩
      clear hvs hlvs kr hlt
      rcases HN3.out with h1 | h1
      · have t1 : decide (i < vl.length) = false := decide_eq_false (by omega)
        clear h1
        go_wp2_with fail
        go_quiet (fail)
        go_wp2
        exact bodyPost_ret (v := .tuple #[.slice a5 i c5, .bool false]) (by simp [results, Tryz.results21, go_sem]) rfl (insR_none_n (ts := List.replicate i x) (HRW.out.kept (Kept.of_below (below_drewN (Below.refl _ _) _))) List.length_replicate ((HK.out.trans HKR.out).trans (Kept.of_below (below_drewN (Below.refl _ _) _))))
      · have t1 : decide (i < vl.length) = true := decide_eq_true (by omega)
        have t2 : decide ((i : Int) ≤ 1000) = false := by simp; omega
        clear h1
        go_wp2_with fail
        go_quiet (fail)
        go_wp2
        exact bodyPost_ret (v := .tuple #[.slice a5 i c5, .bool false]) (by simp [results, Tryz.results21, go_sem]) rfl (insR_none_n (ts := List.replicate i x) (HRW.out.kept (Kept.of_below (below_drewN (Below.refl _ _) _))) List.length_replicate ((HK.out.trans HKR.out).trans (Kept.of_below (below_drewN (Below.refl _ _) _))))
end Go.Proofs.YtikgkjkgdlnekaaGreatDoor
