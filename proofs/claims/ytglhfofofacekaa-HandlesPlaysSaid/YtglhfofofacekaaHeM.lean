/- handles: Clone. -/
import Derived.Test.YtglhfofofacekaaHeK
set_option linter.unusedVariables false
set_option linter.unusedSimpArgs false
namespace Go.Proofs.Ytglhfofofacekaa
open Go.RowKit

theorem clone_table {w : World} {b : Nat} {T : List Hd} (h : HMap w b T) :
    Calls Try.prog 42 #[.map (some b)] w fun e w' => e = .returned (.map (some w.heap.size)) ∧ HMap w' w.heap.size T ∧ Below w.heap.size w w' :=
  (AnyW.maps_Clone_owns Try.cloneT 3 RV b T.length (dT T) w h).mono fun e w' ⟨h1, h2, _, h4⟩ => ⟨h1, h2, h4⟩
theorem clone_lent {w : World} {b : Nat} {L : List (Int × Int)} (h : LMap w b L) :
    Calls Try.prog 43 #[.map (some b)] w fun e w' => e = .returned (.map (some w.heap.size)) ∧ LMap w' w.heap.size L ∧ Below w.heap.size w w' := by
  obtain ⟨hw, D, ho, hr⟩ := h
  exact (AnyW.maps_Clone_owns Try.cloneL 86 RV b L.length D w ho).mono fun e w' ⟨h1, h2, _, h4⟩ => ⟨h1, ⟨hw, D, h2, hr⟩, h4⟩
set_option maxRecDepth 100000 in
set_option maxHeartbeats 8000000 in
theorem TbR.clone {F : Nat → Prop} {a : Nat} {w : World} {S : Tb} {H : TbH} (h : TbR F a w S H) {N : Nat} (ok : TbOk N S) :
    Calls Try.prog 15 #[.pointer (some ⟨a, 0, none⟩)] w fun e w' => ∃ b, e = .returned (.pointer (some ⟨b, 0, none⟩)) ∧ TbAt (w.heap.size ≤ ·) b w' S ∧ Below w.heap.size w w' := by
  obtain ⟨ma, mc, c0, hv⟩ := h.mv
  have c1 := h.cells.2.1
  obtain ⟨ca, cc, ecv, c2, hrow⟩ := h.row
  have HCL := clone_ints (cap := mc) (⟨rfl, hv⟩ : IntsIn w ma S.ms.length mc S.ms) ok.m1
  obtain ⟨i0, hti, hz0, hz1, hz2⟩ := info_parts info_mapv
  obtain ⟨j0, htj, hy0, hy1, hy2⟩ := info_parts info_call
  have HT := Lib.hid h
  have HR := Lib.hid hrow
  have HN := Lib.hid (And.intro ok.n1 (And.intro ok.n2 ok.k1))
  clear h ok hv hrow ecv
  go_enter Try.func15, Try.ntmps15
  go_wp2_with (go_at_call 20; refine HCL.mono ?_; rintro e w2 ⟨v, rfl, hv, hb2⟩; obtain ⟨va, vc, rfl⟩ := ints_slice hv; have HV := Lib.hid hv; have d1 := far c1 hb2 (.cells #[.slice va S.ms.length vc, .slice none 0 0, .slice none 0 0] 55); have HB2 := Lib.hid hb2; clear hv hb2)
  have R0 : Hid (CloRel w.heap.size w2.heap.size (.slice va S.ms.length vc) S.ms S.tb w (w2.alloc (.cells #[.slice va S.ms.length vc, .slice none 0 0, .slice none 0 0] 55)) 0 (.slice none 0 0) []) :=
    Lib.hid ⟨BlkAt.new w2 _ _, World.ownsRow_nil _ _ _ _, rfl, fun j hj => absurd hj (Nat.not_lt_zero _), by simp, List.nodup_nil, Ints.below HV.out ((Below.refl _ w2).alloc (Nat.le_refl _) _), HB2.out.alloc HB2.out.size _, HB2.out.size, Nat.le_refl _⟩
  generalize (w2.alloc (.cells #[.slice va S.ms.length vc, .slice none 0 0, .slice none 0 0] 55)) = w3 at R0 d1 ⊢
  generalize w2.heap.size = ab at R0 ⊢
  clear HCL HV HB2 d1 c0 c1
  go_loopw [22] (fun i wr => ∃ (k : Nat) (tv : Value) (bs : List Nat), i = .int .i64 k ∧ k ≤ S.tb.length ∧ CloRel w.heap.size ab (.slice va S.ms.length vc) S.ms S.tb w wr k tv bs) (fun i _ => S.tb.length - (intOf i).toNat)
  case atStart => exact ⟨0, _, _, rfl, Nat.zero_le _, R0.out⟩
  case round =>
    obtain ⟨k, tv, bs, rfl, hk, hR⟩ := hrel
    obtain ⟨ta, tc, rfl⟩ := len_of_own hR.row
    have HC := Lib.hid hR
    have p1 := hR.head.cell 1
    simp at p1
    by_cases hlt : k < S.tb.length
    · have t1 := farB (HT.out.slotCell hlt) hR.keep
      have hmk := (HT.out.below hR.keep).maps k hlt
      have CT : Hid (Calls Try.prog 42 #[.map (some (H.bs.getD k 0))] wr.drew fun e w' => e = .returned (.map (some wr.heap.size)) ∧ HMap w' wr.heap.size (S.tb.getD k []) ∧ Below wr.heap.size wr w') :=
        Lib.hid ((clone_table (hmk.next (w' := wr.drew) rfl)).mono fun e w' ⟨h1, h2, h3⟩ => ⟨h1, h2, ((Below.refl _ wr).drew).trans h3⟩)
      have HKS : Hid (w.heap.size ≤ wr.heap.size) := Lib.hid (Nat.le_trans hR.bB hR.keep.size)
      have HLT := Lib.hid hlt
      have HR1 : Hid (k + 1 ≤ maxLen) := Lib.hid (by unfold maxLen; have := HN.out; omega)
      have HR2 : Hid ((k + 1) * 8 ≤ 140737488355328) := Lib.hid (by have := HN.out; omega)
      clear hR hmk hk hlt c2
      generalize H.bs.getD k 0 = b at t1 CT
      go_wp2_with fail
      go_region_law (first
        | (go_simp
           go_at_call 42
           refine CT.out.mono ?_
           rintro e w1 ⟨rfl, hm1, hb1⟩
           have pA := farB p1 hb1
           have pB := far p1 hb1 (.cells #[.map (some wr.heap.size)] 56)
           have HBW : Hid (Below wr.heap.size wr (w1.alloc (.cells #[.map (some wr.heap.size)] 56))) := Lib.hid (hb1.alloc hb1.size _)
           have HOWN : Hid ((w1.alloc (.cells #[.map (some wr.heap.size)] 56)).ownsRow w.heap.size 56 1 (.slice ta k tc) k (bs.map fun b => .map (some b))) := Lib.hid (ownsRow_kept HC.out.row (Kept.of_below (F := fun _ => False) HBW.out) (fun _ _ e => e))
           have HAF : Hid (BlkAt (w1.alloc (.cells #[.map (some wr.heap.size)] 56)) ab #[.slice va S.ms.length vc, .slice ta k tc, .slice none 0 0] 55) := Lib.hid (HC.out.head.kept (Kept.of_below (F := fun _ => False) HBW.out) (fun e => e))
           have HMM : Hid (HMap (w1.alloc (.cells #[.map (some wr.heap.size)] 56)) wr.heap.size (S.tb.getD k [])) := Lib.hid (hm1.kept (F := fun _ => False) ((Kept.refl _ _).new _) (fun e => e))
           have NEWS : Hid (∀ j u, [Value.map (some wr.heap.size)][j]? = some u → (w1.alloc (.cells #[.map (some wr.heap.size)] 56)).cell? ((⟨w1.heap.size, 0, none⟩ : Addr).add j) = some u) := Lib.hid (news_map w1 wr.heap.size 56)
           have HSS : Hid (w.heap.size ≤ (w1.alloc (.cells #[.map (some wr.heap.size)] 56)).heap.size) := Lib.hid (Nat.le_trans HKS.out HBW.out.size)
           clear hm1 hb1)
        | (refine step_append_lies _ (by rfl) _ _ 52 (by rfl) w.heap.size 56 i0 (.map none) 1 8 Try.underlying52 hti hz0 hz1 hz2 rfl (by decide) (.slice ta k tc) k (bs.map fun b => .map (some b)) (by rfl) HOWN.out ⟨w1.heap.size, 0, none⟩ 1 1 [.map (some wr.heap.size)] (by rfl) rfl NEWS.out (one_map _) (by decide) HR1.out HR2.out HSS.out _ (by rfl) ?_
           intro g cap5 w5 hown5 hg5 hat5 hlt5
           have q5 : BlkAt w5 ab #[.slice va S.ms.length vc, .slice ta k tc, .slice none 0 0] 55 := HAF.out.kept (Kept.grow hg5) (fun e => own_ne_cells HOWN.out HAF.out (by decide) e.symm)
           have q51 := q5.cell 1
           have f51 := q5.frozen 1
           simp at q51
           have Q5 := Lib.hid (And.intro hown5 hg5)
           clear q5 hown5 hg5 hat5 hlt5))
      all_goals go_wp2_with fail
      all_goals have hwk : wrap64 ((k : Int) + 1) = (k : Int) + 1 := by have h1 := HLT.out; have h2 := HN.out; unfold wrap64; omega
      all_goals rw [hwk]
      all_goals exact ⟨⟨k + 1, _, _, by simp, HLT.out, clo_step HC.out HBW.out (Nat.le_refl _) HMM.out Q5.out.1 Q5.out.2⟩, by have h1 := HLT.out; simp [intOf]; omega⟩
    · have hke : k = S.tb.length := by omega
      subst hke
      obtain ⟨H0, hH0⟩ := clo_end hR HN.out.1
      have HZ := Lib.hid (And.intro hH0 hR.keep)
      have c2' := farB c2 hR.keep
      clear hR HC hH0 hlt hk p1 c2
      go_wp2_with fail
      go_loopw [43] (fun i wx => ∃ (k : Nat) (Hx : TbH), i = .int .i64 k ∧ k ≤ S.cl.length ∧ Hid (TbR (w.heap.size ≤ ·) ab wx ⟨S.ms, S.tb, S.cl.take k⟩ Hx ∧ Below w.heap.size w wx)) (fun i _ => S.cl.length - (intOf i).toNat)
      case atStart => exact ⟨0, H0, rfl, Nat.zero_le _, HZ⟩
      case round =>
        clear HZ c2'
        obtain ⟨k, Hx, rfl, hk, HX⟩ := hrel
        by_cases hlt : k < S.cl.length
        · obtain ⟨g, o, rfl, hrow⟩ := HR.out.resolve_left (by omega)
          have x0 := farB (hrow.at0 k hlt) HX.out.2
          have x1 := farB (hrow.at1 k hlt) HX.out.2
          have hlm := (HT.out.below HX.out.2).lents k hlt
          have htk : (S.cl.take k).length = k := by rw [List.length_take]; omega
          obtain ⟨va2, vc2, ecv⟩ := len_of_own HX.out.1.calls
          have p2 := HX.out.1.cells.2.2
          rw [ecv] at p2
          dsimp only at p2 ecv
          rw [htk] at p2 ecv
          have HCV := Lib.hid ecv
          have HTK := Lib.hid htk
          have HLT := Lib.hid hlt
          have HKS : Hid (w.heap.size ≤ wr.heap.size) := Lib.hid HX.out.2.size
          generalize hcd : S.cl.getD k (0, []) = cd at x0 hlm
          have HCD := Lib.hid hcd
          obtain ⟨inst, L⟩ := cd
          dsimp only at x0 hlm
          generalize H.ls.getD k 0 = m at x1 hlm
          have CT : Hid (Calls Try.prog 43 #[.map (some m)] (wr.alloc (.cells #[.int .i64 inst, .map (some m)] 83)).drew fun e w' => e = .returned (.map (some (wr.heap.size + 1))) ∧ LMap w' (wr.heap.size + 1) L ∧ Below (wr.heap.size + 1) (wr.alloc (.cells #[.int .i64 inst, .map (some m)] 83)) w') := by
            have K1 : Below wr.heap.size wr (wr.alloc (.cells #[.int .i64 inst, .map (some m)] 83)).drew := ((Below.refl _ wr).alloc (Nat.le_refl _) _).drew
            have hsz : (wr.alloc (.cells #[.int .i64 inst, .map (some m)] 83)).drew.heap.size = wr.heap.size + 1 := by show (wr.alloc _).heap.size = _; simp
            refine Lib.hid ((clone_lent (hlm.kept (F := fun _ => False) (Kept.of_below K1) (fun e => e))).mono ?_)
            rintro e w' ⟨h1, h2, h3⟩
            rw [hsz] at h1 h2
            rw [hsz] at h3
            exact ⟨h1, h2, ((Below.refl _ _).drew).trans h3⟩
          have HR1 : Hid (k + 1 ≤ maxLen) := Lib.hid (by unfold maxLen; have := HN.out; omega)
          have HR2 : Hid ((k + 1) * 16 ≤ 140737488355328) := Lib.hid (by have := HN.out; omega)
          have pZ := far p2 (Below.refl _ wr) (.cells #[.int .i64 inst, .map (some m)] 83)
          have b0 : (wr.alloc (.cells #[.int .i64 inst, .map (some m)] 83)).cell? ⟨wr.heap.size, 0, none⟩ = some (.int .i64 inst) := (BlkAt.new wr _ _).cell 0
          have b1 : (wr.alloc (.cells #[.int .i64 inst, .map (some m)] 83)).cell? ⟨wr.heap.size, 1, none⟩ = some (.map (some m)) := (BlkAt.new wr _ _).cell 1
          clear hrow hlm htk ecv hlt hk hcd
          go_wp2_with fail
          go_region_law (first
            | (go_simp
               go_at_call 43
               refine CT.out.mono ?_
               rintro e w1 ⟨rfl, hm1, hb0⟩
               have hb1 : Below wr.heap.size wr w1 := ((Below.refl _ wr).alloc (Nat.le_refl _) _).trans (hb0.mono (by omega))
               have bA := (hb0.cell (p := ⟨wr.heap.size, 0, none⟩) (Nat.lt_succ_self _)).trans b0
               have bB := (((hb0.alloc (by have := hb0.size; simpa using this) (.cells #[.int .i64 inst, .map (some (wr.heap.size + 1))] 83)).cell (p := ⟨wr.heap.size, 0, none⟩) (Nat.lt_succ_self _)).trans b0)
               have pA := farB p2 hb1
               have pB := far p2 hb1 (.cells #[.int .i64 inst, .map (some (wr.heap.size + 1))] 83)
               have HBW : Hid (Below wr.heap.size wr (w1.alloc (.cells #[.int .i64 inst, .map (some (wr.heap.size + 1))] 83))) := Lib.hid (hb1.alloc hb1.size _)
               have HOWN : Hid ((w1.alloc (.cells #[.int .i64 inst, .map (some (wr.heap.size + 1))] 83)).ownsRow 0 83 2 (.slice va2 k vc2) k (((S.cl.take k).zip Hx.ls).flatMap clC)) := Lib.hid (by
                 have := (HX.out.1.below HBW.out).calls
                 rw [HCV.out] at this
                 dsimp only at this
                 rw [HTK.out] at this
                 exact this)
               have HAF : Hid (BlkAt (w1.alloc (.cells #[.int .i64 inst, .map (some (wr.heap.size + 1))] 83)) ab #[Hx.mv, .slice (some ⟨Hx.tg, 0, none⟩) S.tb.length Hx.tcap, Hx.cv] 55) := Lib.hid (HX.out.1.below HBW.out).head
               have HMM : Hid (LMap (w1.alloc (.cells #[.int .i64 inst, .map (some (wr.heap.size + 1))] 83)) (wr.heap.size + 1) L) := Lib.hid (hm1.kept (F := fun _ => False) ((Kept.refl _ _).new _) (fun e => e))
               have NEWS : Hid (∀ j u, [Value.int .i64 inst, .map (some (wr.heap.size + 1))][j]? = some u → (w1.alloc (.cells #[.int .i64 inst, .map (some (wr.heap.size + 1))] 83)).cell? ((⟨w1.heap.size, 0, none⟩ : Addr).add j) = some u) := Lib.hid (news_call w1 inst (wr.heap.size + 1) 83)
               clear hm1 hb1 hb0)
            | (refine step_append_lies _ (by rfl) _ _ 53 (by rfl) 0 83 j0 (.agg #[.int .i64 0, .map none]) 2 16 Try.underlying53 htj hy0 hy1 hy2 rfl (by decide) (.slice va2 k vc2) k (((S.cl.take k).zip Hx.ls).flatMap clC) (by rfl) HOWN.out ⟨w1.heap.size, 0, none⟩ 1 1 [.int .i64 inst, .map (some (wr.heap.size + 1))] (by rfl) rfl NEWS.out (one_call _ _) (by decide) HR1.out HR2.out (Nat.zero_le _) _ (by rfl) ?_
               intro g cap5 w5 hown5 hg5 hat5 hlt5
               have q5 : BlkAt w5 ab #[Hx.mv, .slice (some ⟨Hx.tg, 0, none⟩) S.tb.length Hx.tcap, Hx.cv] 55 := HAF.out.kept (Kept.grow hg5) (fun e => own_ne_cells HOWN.out HAF.out (by decide) e.symm)
               have q52 := q5.cell 2
               have f52 := q5.frozen 2
               simp at q52
               have Q5 := Lib.hid (And.intro hown5 (And.intro hg5 hat5))
               clear q5 hown5 hg5 hat5 hlt5))
          all_goals go_wp2_with fail
          all_goals have hwk : wrap64 ((k : Int) + 1) = (k : Int) + 1 := by have h1 := HLT.out; have h2 := HN.out; unfold wrap64; omega
          all_goals rw [hwk]
          all_goals refine ⟨⟨k + 1, { Hx with cv := .slice (some ⟨g, 0, none⟩) (k + 1) cap5, ls := Hx.ls ++ [wr.heap.size + 1] }, by simp, HLT.out, Lib.hid ?_⟩, by have h1 := HLT.out; simp [intOf]; omega⟩
          all_goals exact clo_called HX.out.1 HX.out.2 HKS.out HLT.out HCV.out HCD.out HBW.out (Nat.le_succ _) HMM.out Q5.out.2.1 Q5.out.1 Q5.out.2.2
        · have hke : k = S.cl.length := by omega
          subst hke
          clear hlt hk
          go_wp2_with fail
          go_ret
          have hh := HX.out
          rw [List.take_of_length_le (Nat.le_refl _)] at hh
          exact ⟨ab, rfl, ⟨Hx, hh.1⟩, hh.2⟩
end Go.Proofs.Ytglhfofofacekaa
