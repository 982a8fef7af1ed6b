/- ctype: the reference's core types: one over the other; a type's. -/
import Derived.Test.YtlkbgdhlbdjbiaaDoorCtRa
set_option linter.unusedVariables false
set_option linter.unusedSimpArgs false
namespace Go.Proofs.YtlkbgdhlbdjbiaaDoor
open Go.RowKit
open Lex Ct

set_option maxRecDepth 100000 in
set_option maxHeartbeats 8000000 in
theorem cores_over (k : Nat) (HC : CorRAt k) (kd : Int) (n : List Nm) (l : List Ty) (r : Int) (an : Option Addr) (cn : Nat) (a : Option Addr) (cap : Nat) (w : World) (hk : 15 ≤ kd ∧ kd ≤ 18) (hl : RowAt w l a cap) (hfit : ∀ x ∈ l, Fit k x ∧ e16K k x) (hs : csum k l ≤ 40000) :
    Calls Tryd.prog 11 #[.agg #[.int .i64 kd, .slice an n.length cn, .slice a l.length cap, .int .i64 r]] w (CoreR (ovF (coreK k) l) w) := by
  obtain ⟨i0, hi, hz0, hz1, hz2⟩ := info_int2
  have hbd := hl.bound
  have hlen : (l.length : Int) ≤ 9223372036854775807 := by omega
  have HL := Lib.hid hl
  have HF := Lib.hid hfit
  have HX0 := Lib.hid HC
  have HS := Lib.hid (fun i => ovF_small hs i)
  have k0 : Kept (fun _ => False) w (w.alloc (.cells #[.int .i64 kd, .slice an n.length cn, .slice a l.length cap, .int .i64 r] 25)) := (Kept.refl _ _).new _
  have T0 := (BlkAt.new w #[.int .i64 kd, .slice an n.length cn, .slice a l.length cap, .int .i64 r] 25).up (.cells #[.int .i64 127] 3)
  have hO0 := World.ownsRow_lit (base := w.heap.size) (e := 3) (size := 1) (w.alloc (.cells #[.int .i64 kd, .slice an n.length cn, .slice a l.length cap, .int .i64 r] 25)) #[.int .i64 127] 1 (by simp) (by decide) rfl
  rw [World.size_alloc] at hO0
  have HO0 : Hid (Ints w.heap.size (.slice (some ⟨w.heap.size + 1, 0, none⟩) 1 1) [127] ((w.alloc (.cells #[.int .i64 kd, .slice an n.length cn, .slice a l.length cap, .int .i64 r] 25)).alloc (.cells #[.int .i64 127] 3))) := Lib.hid hO0
  have HK0 := Lib.hid (k0.new (.cells #[.int .i64 127] 3))
  have HT0 := Lib.hid T0
  clear k0 T0 hO0
  have b0 : (kd == 0) = false := by simp; omega
  have b8 : (kd == 8) = false := by simp; omega
  have b9 : (kd == 9) = false := by simp; omega
  have b11 : (kd == 11) = false := by simp; omega
  have b12 : (kd == 12) = false := by simp; omega
  have b13 : (kd == 13) = false := by simp; omega
  have b14 : (kd == 14) = false := by simp; omega
  have b15 : decide (kd < 15) = false := by simp; omega
  have b18 : decide (kd > 18) = false := by simp; omega
  clear hl hfit HC hbd hs hk
  go_enter Tryd.func11, Tryd.ntmps11
  go_wp2_with fail
  go_loopw [4, 5] (fun v u wr => ∃ (i g cp : Nat), v = .slice (some ⟨g, 0, none⟩) (ovF (coreK k) (l.take i)).length cp ∧ u = .int .i64 i ∧ i ≤ l.length ∧ Hid (Kept (fun _ => False) w wr ∧ Ints w.heap.size (.slice (some ⟨g, 0, none⟩) (ovF (coreK k) (l.take i)).length cp) (ovF (coreK k) (l.take i)) wr ∧
      BlkAt wr w.heap.size #[.int .i64 kd, .slice an n.length cn, .slice a l.length cap, .int .i64 r] 25 ∧ g ≠ w.heap.size)) (fun _ u _ => l.length - (intOf u).toNat)
  case atStart => exact ⟨0, w.heap.size + 1, 1, rfl, rfl, Nat.zero_le _, Lib.hid ⟨HK0.out, HO0.out, HT0.out, by omega⟩⟩
  case round =>
    clear HO0 HK0 HT0
    obtain ⟨i, g, cp, rfl, rfl, hi2, hst⟩ := hrel
    have t2 := hst.out.2.2.1.cell 2
    simp at t2
    by_cases hlt : i < l.length
    · obtain ⟨x, hx⟩ : ∃ x, l[i]? = some x := ⟨_, List.getElem?_eq_getElem hlt⟩
      obtain ⟨gx, ox, ax, cx, ay, cy, rfl, hgl, htx, c0, c1, c2, c3⟩ := (HL.out.kept hst.out.1).at hx
      have hxf := HF.out x (List.mem_of_getElem? hx)
      have HX : Hid (∀ w', Kept (fun _ => False) wr w' → Calls Tryd.prog 11 #[tyV x ax cx ay cy] w' (CoreR (coreK k x) w')) := Lib.hid fun w' k' => HX0.out x ax cx ay cy w' (htx.kept k') hxf.1 hxf.2
      have HSN := Lib.hid (ovF_snoc (f := coreK k) hx)
      have hsm := HS.out i
      have hcs := core_small hxf.1
      have hltI : ((i : Int) < (l.length : Int)) = True := by simp; omega
      clear hx htx hxf hgl
      revert hst HX HSN hsm hcs
      generalize ovF (coreK k) (l.take i) = out
      generalize coreK k x = cs
      intro hst HX HSN hsm hcs
      unfold CoreR at HX
      go_wp2_with (first
        | (go_at_call 11; refine (HX.out _ (Kept.refl _ _)).mono ?_; rintro y w2 ⟨av2, cp2, rfl, hi3, hn3, k2⟩; have hgb := (World.ownsRow.lt hst.out.2.1 g rfl).2; have HW2 := Lib.hid (And.intro (hst.out.1.trans k2) (And.intro (hst.out.2.1.kept k2 (fun _ _ => id)) (And.intro (CsAt.of hi3 hgb) (And.intro (hst.out.2.2.1.kept k2 id) hst.out.2.2.2)))); clear hi3 hn3 k2 hgb HX))
      clear c0 c1 c2 c3 t2
      go_loopw [4, 7] (fun v u wq => ∃ (j g cp : Nat) (o : List Int), v = .slice (some ⟨g, 0, none⟩) o.length cp ∧ u = .int .i64 j ∧ j ≤ cs.length ∧ j + 1 ≤ o.length ∧ o.length ≤ out.length + j ∧ Hid (Kept (fun _ => False) w wq ∧ Ints w.heap.size (.slice (some ⟨g, 0, none⟩) o.length cp) o wq ∧ CsAt wq av2 cs g ∧ ovR o j (cs.drop j) = ovR out 0 cs ∧
          BlkAt wq w.heap.size #[.int .i64 kd, .slice an n.length cn, .slice (some ⟨gx, ox, none⟩) l.length cap, .int .i64 r] 25 ∧ g ≠ w.heap.size)) (fun _ u _ => cs.length - (intOf u).toNat)
      case atStart => exact ⟨0, g, cp, out, rfl, rfl, Nat.zero_le _, by omega, by omega, Lib.hid ⟨HW2.out.1, HW2.out.2.1, HW2.out.2.2.1, rfl, HW2.out.2.2.2.1, HW2.out.2.2.2.2⟩⟩
      case round =>
        clear HW2 hst
        obtain ⟨j, g, cp, o, rfl, rfl, hj, hjo, hob, hrs⟩ := hrel
        by_cases hltj : j < cs.length
        · obtain ⟨c, hc⟩ : ∃ c, cs[j]? = some c := ⟨_, List.getElem?_eq_getElem hltj⟩
          obtain ⟨g2, rfl, hg2, hg2l, d0⟩ := hrs.out.2.2.1 j c hc
          have HST := Lib.hid (ovR_step (out := o) hc)
          have hltJ : ((j : Int) < (cs.length : Int)) = True := by simp; omega
          clear hc
          by_cases hpl : j + 1 = o.length
          · have b1 : ((j : Int) + 1 == (o.length : Int)) = true := by simp; omega
            have e1 : ovS o j c = o ++ [c] := by unfold ovS; rw [if_pos hpl]
            have HE1 := Lib.hid e1
            have q3 : o.length + 1 ≤ maxLen := by unfold maxLen; omega
            have q4 : (o.length + 1) * 8 ≤ 140737488355328 := by omega
            have hsz := hrs.out.1.size
            have HPL := Lib.hid hpl
            clear hpl e1 hg2 hg2l
            go_wp2_with (first
              | (at_builtin; refine wpList_append_lies _ rfl _ _ 31 rfl w.heap.size 3 i0 (.int .i64 0) 1 8 Tryd.underlying31 hi hz0 hz1 hz2 rfl (by decide) _ o.length (o.map (Value.int .i64)) rfl (World.ownsRow.alloc hrs.out.2.1 _) ⟨_, 0, none⟩ 1 1 [.int .i64 c] rfl rfl (cell_one_new _ _ _) (one_i64 _) (by decide) q3 q4 (le_alloc hsz) _ rfl ?_; intro g3 cap3 w3 hown3 hg3 hat hgl3))
            have HG := Lib.hid (And.intro hown3 (And.intro hg3 hat))
            have hnb : g3 ≠ w.heap.size := by
              rcases HG.out.2.2 with e | e
              · have e : g = g3 := Option.some.inj e
                have := hrs.out.2.2.2.2.2
                omega
              · rw [World.size_alloc] at e
                have := hrs.out.2.2.2.2.1.lt
                omega
            refine ⟨⟨j + 1, g3, cap3, o ++ [c], by simp, by go_num, by omega, by have := HPL.out; simp; omega, by simp; omega, Lib.hid ⟨?_, ?_, ?_, ?_, ?_, hnb⟩⟩, by simp [intOf]; omega⟩
            · exact (hrs.out.1.new _).grown HG.out.2.1 (fun q hq e => by have := (World.ownsRow.lt hrs.out.2.1 q e.symm).1; omega)
            · have := HG.out.1
              unfold Ints
              rw [List.length_append, List.map_append]
              exact this
            · refine hrs.out.2.2.1.grown (fun q hq hne => ?_) ?_ ?_
              · refine (HG.out.2.1.block q (by rw [World.size_alloc]; omega) (fun e => hne (Option.some.inj e))).trans ?_
                exact ((Kept.refl (fun _ => False) _).new (.cells #[.int .i64 c] 3)).block q hq id
              · have := HG.out.2.1.size
                rw [World.size_alloc] at this
                omega
              · rcases HG.out.2.2 with e | e
                · exact .inl (Option.some.inj e).symm
                · rw [World.size_alloc] at e
                  exact .inr (by omega)
            · rw [← hrs.out.2.2.2.1, HST.out, HE1.out]
            · exact ((hrs.out.2.2.2.2.1.up _).grown HG.out.2.1 (fun e => hrs.out.2.2.2.2.2 (Option.some.inj e)))
          · have b1 : ((j : Int) + 1 == (o.length : Int)) = false := by simp; omega
            have hpo : j + 1 < o.length := by omega
            have c1 : wr.cell? ⟨g, j + 1, none⟩ = some (.int .i64 (o.getD (j + 1) 0)) := by
              rw [World.ownsRow.cellAt hrs.out.2.1 (j + 1) (by omega), List.getElem?_map, List.getElem?_eq_getElem hpo, List.getD_eq_getElem?_getD, List.getElem?_eq_getElem hpo]
              rfl
            have hltP : ((j : Int) + 1 < (o.length : Int)) = True := by simp; omega
            by_cases he : o.getD (j + 1) 0 = c
            · have b2 : (o.getD (j + 1) 0 != c) = false := by simp; simpa using he
              have HE1 : Hid (ovS o j c = o) := Lib.hid (by unfold ovS; rw [if_neg hpl, if_pos he])
              revert c1 b2
              generalize o.getD (j + 1) 0 = d at he
              intro c1 b2
              clear hpl he
              go_wp2_with fail
              go_region
              all_goals (go_wp2_with fail)
              all_goals exact ⟨⟨j + 1, g, cp, o, rfl, by go_num, by omega, by omega, by omega, Lib.hid ⟨hrs.out.1.drew, hrs.out.2.1, hrs.out.2.2.1, by rw [← hrs.out.2.2.2.1, HST.out, HE1.out], hrs.out.2.2.2.2.1, hrs.out.2.2.2.2.2⟩⟩, by simp [intOf]; omega⟩
            · have b2 : (o.getD (j + 1) 0 != c) = true := by simp; simpa using he
              have HE1 : Hid (ovS o j c = o.set (j + 1) 126) := Lib.hid (by unfold ovS; rw [if_neg hpl, if_neg he])
              have z1 : wr.drew.frozen? ⟨g, j + 1, none⟩ = false := World.ownsRow.frozenAt hrs.out.2.1 (j + 1)
              have HSTO := Lib.hid (World.ownsRow.stored (w := wr.drew) hrs.out.2.1 (j + 1) (.int .i64 126))
              revert c1 b2
              generalize o.getD (j + 1) 0 = d at he
              intro c1 b2
              clear hpl he
              go_wp2_with fail
              go_region
              all_goals (go_wp2_with fail)
              all_goals refine ⟨⟨j + 1, g, cp, o.set (j + 1) 126, by rw [List.length_set], by go_num, by omega, by rw [List.length_set]; omega, by rw [List.length_set]; omega, Lib.hid ⟨?_, ?_, ?_, ?_, ?_, hrs.out.2.2.2.2.2⟩⟩, by simp [intOf]; omega⟩
              · exact hrs.out.1.drew.grown HSTO.out.2 (fun q hq e => by have := (World.ownsRow.lt hrs.out.2.1 q e.symm).1; omega)
              · unfold Ints
                rw [List.length_set, List.map_set]
                exact HSTO.out.1
              · exact hrs.out.2.2.1.grown (fun q hq hne => HSTO.out.2.block q hq (fun e => hne (Option.some.inj e))) HSTO.out.2.size (.inl rfl)
              · rw [← hrs.out.2.2.2.1, HST.out, HE1.out]
              · exact BlkAt.grown (w := wr.drew) hrs.out.2.2.2.2.1 HSTO.out.2 (fun e => hrs.out.2.2.2.2.2 (Option.some.inj e))
        · have hje : j = cs.length := by omega
          have HEQ : Hid (ovF (coreK k) (l.take (i + 1)) = o) := Lib.hid (by rw [HSN.out, ← hrs.out.2.2.2.1]; exact ovR_end (by omega))
          subst hje
          clear hltj
          go_wp2_with fail
          exact ⟨⟨i + 1, g, cp, by rw [HEQ.out], by go_num, by omega, Lib.hid ⟨hrs.out.1, by rw [HEQ.out]; exact hrs.out.2.1, hrs.out.2.2.2.2.1, hrs.out.2.2.2.2.2⟩⟩, by simp [intOf]; omega⟩
    · have hie : i = l.length := by omega
      subst hie
      rw [List.take_length] at hst ⊢
      have hne := HS.out l.length
      rw [List.take_length] at hne
      have HNE := Lib.hid hne.1
      clear hlt hne
      go_wp2_with fail
      go_ret
      exact ⟨some ⟨g, 0, none⟩, cp, rfl, hst.out.2.1, fun e => by have := HNE.out; rw [e] at this; exact absurd this (by decide), hst.out.1⟩
set_option maxRecDepth 100000 in
set_option maxHeartbeats 8000000 in
theorem cores_const (kd : Int) (n : List Nm) (l : List Ty) (r : Int) (an : Option Addr) (cn : Nat) (al : Option Addr) (cl : Nat) (w : World) (xs : List Int) (hk : (kd = 0 ∧ xs = []) ∨ ((kd = 8 ∨ kd = 9) ∧ xs = [126]) ∨ ((kd = 11 ∨ kd = 12) ∧ xs = [127, 127])) :
    Calls Tryd.prog 11 #[.agg #[.int .i64 kd, .slice an n.length cn, .slice al l.length cl, .int .i64 r]] w (CoreR xs w) := by
  rcases hk with ⟨rfl, rfl⟩ | ⟨h, rfl⟩ | ⟨h, rfl⟩
  · go_enter Tryd.func11, Tryd.ntmps11
    go_wp2_with fail
    go_ret
    exact CoreR.no _ _ ((Kept.refl _ _).new _)
  · rcases h with rfl | rfl
    all_goals
      go_enter Tryd.func11, Tryd.ntmps11
      go_wp2_with fail
      go_ret
      exact CoreR.lit w _ [126] (by decide) (by decide) _ rfl
  · rcases h with rfl | rfl
    all_goals
      go_enter Tryd.func11, Tryd.ntmps11
      go_wp2_with fail
      go_ret
      exact CoreR.lit w _ [127, 127] (by decide) (by decide) _ rfl
set_option maxRecDepth 100000 in
set_option maxHeartbeats 8000000 in
theorem cores_rest (kd : Int) (n : List Nm) (l : List Ty) (r : Int) (an : Option Addr) (cn : Nat) (al : Option Addr) (cl : Nat) (w : World)
    (hk : kd ≠ 0 ∧ kd ≠ 8 ∧ kd ≠ 9 ∧ kd ≠ 11 ∧ kd ≠ 12 ∧ kd ≠ 13 ∧ kd ≠ 14) (hr : kd < 15 ∨ (15 ≤ kd ∧ 18 < kd)) :
    Calls Tryd.prog 11 #[.agg #[.int .i64 kd, .slice an n.length cn, .slice al l.length cl, .int .i64 r]] w (CoreR [127] w) := by
  obtain ⟨h0, h8, h9, h11, h12, h13, h14⟩ := hk
  have b0 : (kd == 0) = false := by simpa using h0
  have b8 : (kd == 8) = false := by simpa using h8
  have b9 : (kd == 9) = false := by simpa using h9
  have b11 : (kd == 11) = false := by simpa using h11
  have b12 : (kd == 12) = false := by simpa using h12
  have b13 : (kd == 13) = false := by simpa using h13
  have b14 : (kd == 14) = false := by simpa using h14
  clear h0 h8 h9 h11 h12 h13 h14
  rcases hr with h | ⟨h, h'⟩
  · have b15 : decide (kd < 15) = true := by simp; omega
    clear h
    go_enter Tryd.func11, Tryd.ntmps11
    go_wp2_with fail
    go_ret
    exact CoreR.lit w _ [127] (by decide) (by decide) _ rfl
  · have b15 : decide (kd < 15) = false := by simp; omega
    have b18 : decide (kd > 18) = true := by simp; omega
    clear h h'
    go_enter Tryd.func11, Tryd.ntmps11
    go_wp2_with fail
    go_ret
    exact CoreR.lit w _ [127] (by decide) (by decide) _ rfl
set_option maxRecDepth 100000 in
set_option maxHeartbeats 8000000 in
theorem cores_row (kd : Int) (n : List Nm) (l : List Ty) (r : Int) (an : Option Addr) (cn : Nat) (al : Option Addr) (cl : Nat) (w : World) (hk : kd = 13 ∨ kd = 14) (xs : List Int)
    (HF : Hid (∀ w', Kept (fun _ => False) w w' → Calls Tryd.prog 27 #[.slice al l.length cl] w' (CoreR xs w'))) :
    Calls Tryd.prog 11 #[.agg #[.int .i64 kd, .slice an n.length cn, .slice al l.length cl, .int .i64 r]] w (CoreR xs w) := by
  have k0 : Kept (fun _ => False) w (w.alloc (.cells #[.int .i64 kd, .slice an n.length cn, .slice al l.length cl, .int .i64 r] 25)) := (Kept.refl _ _).new _
  have HK := Lib.hid k0
  clear k0
  rcases hk with rfl | rfl
  all_goals
    go_enter Tryd.func11, Tryd.ntmps11
    go_wp2_with (first
      | (go_at_call 27; refine (HF.out _ HK.out).mono ?_; rintro y w1 ⟨av, cp, rfl, h1, h2, k1⟩; have HQ := Lib.hid (And.intro h1 (And.intro h2 k1)); clear h1 h2 k1))
    go_ret
    exact CoreR.past ⟨av, cp, rfl, HQ.out.1, HQ.out.2.1, HQ.out.2.2⟩ HK.out
theorem corr_zero : CorRAt 0 := by
  intro t an cn al cl w h hf _
  exact cores_const t.kind t.names t.l t.r an cn al cl w [] (.inl ⟨hf.fit, rfl⟩)
theorem corr_succ {k : Nat} (IH : CorRAt k) : CorRAt (k + 1) := by
  intro t an cn al cl w h hf he
  by_cases h0 : t.kind = 0
  · rw [(coreK_len (k + 1) t).1 h0]
    exact cores_const t.kind t.names t.l t.r an cn al cl w [] (.inl ⟨h0, rfl⟩)
  · have h5 := hf.cnt h0
    rw [cntK_succ] at h5
    by_cases h8 : t.kind = 8 ∨ t.kind = 9
    · have e : coreK (k + 1) t = [126] := by unfold coreK; rw [if_neg h0, if_pos h8]
      rw [e]
      exact cores_const t.kind t.names t.l t.r an cn al cl w _ (.inr (.inl ⟨h8, rfl⟩))
    · by_cases h11 : t.kind = 11 ∨ t.kind = 12
      · have e : coreK (k + 1) t = [127, 127] := by unfold coreK; rw [if_neg h0, if_neg h8, if_pos h11]
        rw [e]
        exact cores_const t.kind t.names t.l t.r an cn al cl w _ (.inr (.inr ⟨h11, rfl⟩))
      · by_cases h13 : t.kind = 13 ∨ t.kind = 14
        · have e : coreK (k + 1) t = behL (coreK k) t.l := by unfold coreK; rw [if_neg h0, if_neg h8, if_neg h11, if_pos h13]
          rw [e]
          exact cores_row t.kind t.names t.l t.r an cn al cl w h13 _ (Lib.hid fun w' k' => rdRefRow k IH t.l al cl w' (h.kept k').row (fun x hx => ⟨hf.child h0 (by rw [plainL_l t h13]; exact hx), he.2 x hx⟩) (by omega))
        · by_cases h15 : t.kind = 15 ∨ t.kind = 16 ∨ t.kind = 17 ∨ t.kind = 18
          · have e : coreK (k + 1) t = ovF (coreK k) t.l := by unfold coreK; rw [if_neg h0, if_neg h8, if_neg h11, if_neg h13, if_pos h15]; exact ovF_plain he.1
            rw [e]
            have hch : ∀ x ∈ t.l, Fit k x := fun x hx => by
              by_cases h16 : t.kind = 16
              · rw [he.1 h16] at hx; cases hx
              · refine hf.child h0 ?_
                unfold plainL
                rw [if_neg h16]
                split
                · exact List.mem_cons_of_mem _ hx
                · exact hx
            exact cores_over k IH t.kind t.names t.l t.r an cn al cl w (by omega) h.row (fun x hx => ⟨hch x hx, he.2 x hx⟩) (by omega)
          · have e : coreK (k + 1) t = [127] := by unfold coreK; rw [if_neg h0, if_neg h8, if_neg h11, if_neg h13, if_neg h15]
            rw [e]
            exact cores_rest t.kind t.names t.l t.r an cn al cl w (by omega) (by omega)
theorem corr_all : ∀ k, CorRAt k
  | 0 => corr_zero
  | k + 1 => corr_succ (corr_all k)
end Go.Proofs.YtlkbgdhlbdjbiaaDoor
