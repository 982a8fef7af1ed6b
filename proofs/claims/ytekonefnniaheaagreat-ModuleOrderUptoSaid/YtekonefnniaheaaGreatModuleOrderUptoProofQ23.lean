/- Texts of the proof of ModuleOrderUptoProof, part 23. -/
import Derived.BigQuiet
import Derived.Deep.QuietTactic
import Derived.Deep.RegionHeld3
import Derived.Test.YtekonefnniaheaaGreatModuleOrderUptoProofQ1
import Derived.Test.YtekonefnniaheaaGreatModuleOrderUptoProofQ4
import Derived.Test.YtekonefnniaheaaGreatModuleOrderUptoProofQ6
import Derived.Test.YtekonefnniaheaaGreatModuleOrderUptoProofQ22
set_option linter.unusedVariables false
set_option linter.unusedVariables false
namespace Go.Proofs.YtekonefnniaheaaGreat
open Go.RowKit Go.Deep

set_option maxRecDepth 100000 in
theorem needTrue_any (a : Value) (e : Int) (w : World) : Calls Tryz.prog 69 #[a, .bool true, .int .i64 e] w fun y w' => y = .returned (.tuple #[]) ∧ w' = w := by
  go_enter Tryz.func69, Tryz.ntmps69
  go_wp2_with fail
  exact bodyPost_void rfl rfl ⟨rfl, rfl⟩
/-- What reading all sections gives. -/
def GivesMd (B t : Nat) (s : ByteArray) (w : World) (y : Ending) (w' : World) : Prop :=
  ∃ x2 g', y = .returned (.tuple #[]) ∧ TmAt w' t g' x2 ∧ Kept (· = t) w w' ∧ Out (.ok s) modR g' (fun q => SoX B w' x2 q) ∧ ShX x2
set_option maxRecDepth 100000 in
set_option maxHeartbeats 4000000 in
theorem tmModule_any (B t : Nat) (s : ByteArray) (x : List Value) (w : World) (h : TmAt w t (.ok s) x) (hx : ShX x) (hs : SoX B w x so0) (ht : t < B) (hB : B ≤ w.heap.size) :
    Calls Tryz.prog 21 #[.pointer (some ⟨t, 0, none⟩)] w fun y w' => GivesMd B t s w y w' := by
  have d0 := h.rest
  replace d0 : w.cell? ⟨t, 0, none⟩ = some (.string s) := d0
  have hsz := h.wf.sz
  replace hsz : s.size ≤ 65536 := hsz
  have HP := Lib.hid (cutPre_any s hsz)
  have hcz : (cutB s).size ≤ 65536 := by
    unfold cutB
    split
    · rw [ByteArray.size_extract]; omega
    · exact hsz
  have HO : Hid (Out (.ok s) hdR (needS (tookS (.ok s) (cutB s) 0) (hdOk s) 2) (fun _ => True)) := Lib.hid (by
    by_cases hk : hdOk s = true
    · have hr : hdR s = .ok ((), s.extract 8 s.size) := if_pos (of_decide_eq_true hk)
      refine (out_ok hr).2 ⟨?_, trivial⟩
      unfold cutB
      rw [hk]
      rfl
    · have hk' : hdOk s = false := by cases q : hdOk s <;> simp_all
      have hr : hdR s = .error 2 := if_neg (of_decide_eq_false hk')
      refine (out_err' hr).2 ?_
      rw [hk']
      rfl)
  revert HP hcz HO
  generalize cutB s = cb
  generalize hdOk s = ok
  intro HP hcz HO
  have HT1 := Lib.hid (tmTook_any t (.ok s) x cb 0 w h (fun q => absurd rfl q) hcz)
  have HX := Lib.hid hx
  have HS := Lib.hid hs
  have HB := Lib.hid hB
  clear h hx hs hsz hcz
  go_enter Tryz.func21, Tryz.ntmps21
  go_wp2_with (first
    | (go_at_call 67; refine (HP.out _).mono ?_; rintro y w9 ⟨rfl, rfl⟩)
    | (go_at_call 68; refine HT1.out.mono ?_; rintro y w1 ⟨rfl, t1, k1⟩; have HN1 := Lib.hid (tmNeed_any t _ x ok 2 _ t1); clear HT1)
    | (go_at_call 69; refine HN1.out.mono ?_; rintro y w2 ⟨rfl, t2, k2⟩; clear HN1))
  revert HO t2
  generalize needS (tookS (.ok s) cb 0) ok 2 = g2
  intro HO t2
  have HSTA : Hid (SecRel B t g2 w w2) := Lib.hid (by
    refine ⟨g2, x, t2, HX.out, k1.trans k2, ?_⟩
    rcases t2.wf.cases with ⟨s2, rfl, _⟩ | ⟨f, rfl, hf⟩
    · exact .inl ⟨s2, s2, so0, s2.size + 1, rfl, rfl, HS.out.after (k1.trans k2) ht, Nat.lt_succ_self _, rfl⟩
    · exact .inr ⟨f, rfl, hf, .inr rfl⟩)
  clear t1 t2 k1 k2 d0
  go_loopw [] (fun wr => SecRel B t g2 w wr) (fun wr => szM wr t)
  case atStart => exact HSTA.out
  case round =>
    clear HSTA
    obtain ⟨gi, xi, ti, hxi, ki, hst⟩ := hrel
    have di := ti.rest
    have HSZ := Lib.hid ti.szM
    have HK := Lib.hid ki
    have hsplit : (∃ si s0 so k, gi = .ok si ∧ g2 = .ok s0 ∧ SoX B wr xi so ∧ si.size < k ∧ secsR (s0.size + 1) so0 s0 = secsR k so si ∧ ¬ si.size = 0) ∨ (stR gi = ⟨#[]⟩ ∧ Out g2 (fun s => secsR (s.size + 1) so0 s) gi (fun so => SoX B wr xi so)) := by
      rcases hst with ⟨si, s0, so, k, rfl, hg0, hso, hk, hR⟩ | ⟨f, rfl, hf, hR⟩
      · by_cases hz : si.size = 0
        · right
          refine ⟨ByteArray.size_eq_zero_iff.1 hz, ?_⟩
          subst hg0
          obtain ⟨j, rfl⟩ : ∃ j, k = j + 1 := ⟨k - 1, by omega⟩
          rw [secs_end hz] at hR
          exact (out_ok (R := fun s => secsR (s.size + 1) so0 s) hR).2 ⟨rfl, hso⟩
        · exact .inl ⟨si, s0, so, k, rfl, hg0, hso, hk, hR, hz⟩
      · right
        refine ⟨rfl, ?_⟩
        rcases hR with ⟨s0, hg0, hR⟩ | hg0
        · subst hg0
          exact (out_err' (R := fun s => secsR (s.size + 1) so0 s) hR).2 rfl
        · subst hg0
          rfl
    clear hst
    rcases hsplit with ⟨si, s0, so, k, rfl, hg0, hso, hk, hR, hz⟩ | ⟨hse, ho⟩
    · replace di : wr.cell? ⟨t, 0, none⟩ = some (.string si) := di
      have HR := Lib.hid hR
      have HG0 := Lib.hid hg0
      have HSO := Lib.hid hso
      clear hR hg0 hso
      have hnn := toList_some (show 0 < si.size by omega)
      have HC := Lib.hid (tmSection_any B t (.ok si) xi so wr ti hxi (fun _ _ => HSO.out) ht (Nat.le_trans HB.out ki.size))
      have HZ := Lib.hid hz
      clear hz ti hxi ki
      go_wp2_with (go_at_call 70; refine HC.out.mono ?_; rintro y w3 ⟨x3, g3, rfl, t3, k3, o3, d3⟩)
      refine ⟨⟨g3, x3, t3, d3, HK.out.trans k3, ?_⟩, ?_⟩
      · obtain ⟨j, rfl⟩ : ∃ j, k = j + 1 := ⟨k - 1, by omega⟩
        have hstep := secs_step (k := j) (so := so) HZ.out
        rcases t3.wf.cases with ⟨s3, rfl, _⟩ | ⟨f, rfl, hf⟩
        · obtain ⟨s', q, hs', hq, hP⟩ := o3.live
          injection hs' with hs'
          subst hs'
          have hlt := sectR_size hq
          refine .inl ⟨s3, s0, q, j, rfl, HG0.out, hP, by replace hlt : s3.size < si.size := hlt; omega, ?_⟩
          rw [HR.out, hstep, hq]
          rfl
        · refine .inr ⟨f, rfl, hf, .inl ⟨s0, HG0.out, ?_⟩⟩
          rw [HR.out, hstep, o3.fault]
          rfl
      · rw [t3.szM, HSZ.out]
        rcases t3.wf.cases with ⟨s3, rfl, _⟩ | ⟨f, rfl, hf⟩
        · obtain ⟨s', q, hs', hq, hP⟩ := o3.live
          injection hs' with hs'
          subst hs'
          exact sectR_size hq
        · show 0 < si.size
          have := HZ.out
          omega
    · rw [hse] at di
      have HOL := Lib.hid ho
      obtain ⟨a9, l9, c9, e9⟩ := hxi.s9
      obtain ⟨a2, l2, c2, e2⟩ := hxi.s2
      obtain ⟨a10, l10, c10, e10⟩ := hxi.s10
      obtain ⟨dz, e12⟩ := hxi.s12
      have HE := Lib.hid (And.intro e9 (And.intro e2 (And.intro e10 e12)))
      have f9 := (ti.blk.cell 11).trans ((tkC_get gi xi 9).trans e9)
      have f2 := (ti.blk.cell 4).trans ((tkC_get gi xi 2).trans e2)
      have DS := Lib.hid (And.intro f9 f2)
      have HXI := Lib.hid hxi
      have HBD : Below wr.heap.size wr wr.drew := (Below.refl _ _).drew
      have ti2 := ti.below HBD
      clear hse ho hxi e9 e2 e10 e12 f9 f2
      go_wp2_with fail
      go_region_held3 (fun w' => w'.cell? ⟨t, 11, none⟩ = some (.slice a9 l9 c9) ∧ w'.cell? ⟨t, 4, none⟩ = some (.slice a2 l2 c2))
        (first | exact DS.out | exact DS3.out)
        (first
          | (go_at_call 69; refine (tmNeed_any t gi xi ((l9 : Int) == (l2 : Int)) 2 _ ti2).mono ?_; rintro y w3 ⟨rfl, t3, k3⟩
             have DS3 := Lib.hid (And.intro ((t3.blk.cell 11).trans ((tkC_get _ xi 9).trans HE.out.1)) ((t3.blk.cell 4).trans ((tkC_get _ xi 2).trans HE.out.2.1)))))
      have g14 := (t3.blk.cell 14).trans ((tkC_get _ xi 12).trans HE.out.2.2.2)
      have g12 := (t3.blk.cell 12).trans ((tkC_get _ xi 10).trans HE.out.2.2.1)
      have DS6 := Lib.hid (And.intro g14 g12)
      have HBD3 : Below w3.heap.size w3 w3.drew := (Below.refl _ _).drew
      have ti3 := t3.below HBD3
      have HKE := Lib.hid ((HK.out.trans (Kept.of_below HBD)).trans k3)
      clear g14 g12
      have HFIN : Hid (∀ b w4, TmAt w4 t (needS (needS gi ((l9 : Int) == (l2 : Int)) 2) b 2) xi → Kept (· = t) w3 w4 → (b = (decide (dz = -1) || decide (dz = (l10 : Int)))) → GivesMd B t s w (.returned (.tuple #[])) w4) := Lib.hid fun b w4 t4 k4 hb => by
        have KF := ((Kept.of_below (F := (· = t)) HBD).trans k3).trans k4
        refine ⟨xi, _, rfl, t4, HKE.out.trans k4, ?_, HXI.out⟩
        have h1 := HOL.out.need (p := e1R) (b := ((l9 : Int) == (l2 : Int))) (e := 2) (by decide) (fun so h => by
          obtain ⟨a, l, c, e, hs⟩ := h.f9
          obtain ⟨a', l', c', e', hs'⟩ := h.f2
          rw [HE.out.1] at e
          rw [HE.out.2.1] at e'
          simp only [Option.some.injEq, Value.slice.injEq] at e e'
          obtain ⟨_, rfl, _⟩ := e
          obtain ⟨_, rfl, _⟩ := e'
          have q1 := hs.now.eq
          have q2 := hs'.now.eq
          unfold e1R
          rw [← q1, ← q2]
          by_cases hq : (l9 : Int) = (l2 : Int)
          · rw [decide_eq_true hq, hq]
            simp
          · rw [decide_eq_false hq]
            simp [hq])
        have h2 := h1.need (p := e2R) (b := b) (e := 2) (by decide) (fun so h => by
          obtain ⟨a, l, c, e, hs⟩ := h.f10
          have e' := h.f12
          rw [HE.out.2.2.1] at e
          rw [HE.out.2.2.2] at e'
          simp only [Option.some.injEq, Value.slice.injEq, Value.int.injEq, true_and] at e e'
          obtain ⟨_, rfl, _⟩ := e
          subst e'
          have q1 := hs.now.eq
          unfold e2R
          rw [hb, ← q1])
        have h3 : Out g2 (fun s => needR (needR (secsR (s.size + 1) so0) e1R 2) e2R 2 s) _ _ := h2.mono fun so h => h.after KF ht
        exact HO.out.bind (fun _ _ => h3) h3.dead
      by_cases hd : dz = -1
      · have ed : (dz == -1) = true := by simpa using hd
        have HD := Lib.hid hd
        obtain ⟨g14, g12⟩ := DS6.out
        clear hd
        go_wp2_with fail
        go_quiet ((go_at_call 69; exact Calls.quiet_of_same (needTrue_any _ _ _)))
        go_wp2_with fail
        have hbq : Below w3.heap.size w3 (w3.drewN nq) := below_drewN (Below.refl _ _) _
        refine bodyPost_void rfl rfl ?_
        exact HFIN.out true _ (t3.below hbq) (Kept.of_below hbq) (by rw [decide_eq_true HD.out, Bool.true_or])
      · have ed : (dz == -1) = false := eq_no hd
        have HD := Lib.hid hd
        clear hd
        go_wp2_with fail
        go_region_held3 (fun w' => w'.cell? ⟨t, 14, none⟩ = some (.int .i64 dz) ∧ w'.cell? ⟨t, 12, none⟩ = some (.slice a10 l10 c10))
          (first | exact DS6.out | exact DS7.out)
          (first
            | (go_at_call 69; refine (tmNeed_any t _ xi (dz == (l10 : Int)) 2 _ ti3).mono ?_; rintro y w4 ⟨rfl, t4, k4⟩
               have DS7 := Lib.hid (And.intro ((t4.blk.cell 14).trans ((tkC_get _ xi 12).trans HE.out.2.2.2)) ((t4.blk.cell 12).trans ((tkC_get _ xi 10).trans HE.out.2.2.1)))))
        refine bodyPost_void rfl rfl ?_
        refine HFIN.out _ _ t4 ((Kept.of_below HBD3).trans k4) ?_
        rw [decide_eq_false HD.out, Bool.false_or]
        by_cases hq : dz = (l10 : Int)
        · rw [decide_eq_true hq, hq]
          simp
        · rw [decide_eq_false hq]
          simp [hq]
end Go.Proofs.YtekonefnniaheaaGreat
set_option linter.unusedVariables false
namespace Go.Proofs.YtekonefnniaheaaGreat
open Go.RowKit Go.Deep

/-- A module's eleven values. -/
structure MdlVals (W : World) (m : Mdl) (vs : List Value) : Prop where
  ex : ∃ xT cT xI cI xF cF xB cB xM cM xG cG xX cX xE cE xC cC xD cD, vs = [.slice xT m.types.length cT, .slice xI m.imports.length cI, .slice xF m.funcs.length cF, .slice xB m.tables.length cB, .slice xM m.mems.length cM, .slice xG m.globals.length cG, .slice xX m.exports.length cX, .int .i64 m.start, .slice xE m.elems.length cE, .slice xC m.codes.length cC, .slice xD m.datas.length cD] ∧
    MdlIn W m xT cT xI cI xF cF xB cB xM cM xG cG xX cX xE cE xC cC xD cD
theorem SoX.vals {B : Nat} {w : World} {x : List Value} {so : Sofar} (h : SoX B w x so) : MdlVals w so.m (x.take 11) := by
  obtain ⟨a0, l0, c0, e0, s0⟩ := h.f0
  obtain ⟨a1, l1, c1, e1, s1⟩ := h.f1
  obtain ⟨a2, l2, c2, e2, s2⟩ := h.f2
  obtain ⟨a3, l3, c3, e3, s3⟩ := h.f3
  obtain ⟨a4, l4, c4, e4, s4⟩ := h.f4
  obtain ⟨a5, l5, c5, e5, s5⟩ := h.f5
  obtain ⟨a6, l6, c6, e6, s6⟩ := h.f6
  obtain ⟨e7, h7⟩ := h.f7
  obtain ⟨a8, l8, c8, e8, s8⟩ := h.f8
  obtain ⟨a9, l9, c9, e9, s9⟩ := h.f9
  obtain ⟨a10, l10, c10, e10, s10⟩ := h.f10
  have q0 := s0.now
  have q1 := s1.now
  have q2 := s2.now.ints
  have q3 := s3.now
  have q4 := s4.now
  have q5 := s5.now
  have q6 := s6.now
  have q8 := s8.now
  have q9 := s9.now
  have q10 := s10.now
  obtain rfl := q0.eq
  obtain rfl := q1.eq
  obtain rfl := q2.eq
  obtain rfl := q3.eq
  obtain rfl := q4.eq
  obtain rfl := q5.eq
  obtain rfl := q6.eq
  obtain rfl := q8.eq
  obtain rfl := q9.eq
  obtain rfl := q10.eq
  have hl := h.len
  refine ⟨a0, c0, a1, c1, a2, c2, a3, c3, a4, c4, a5, c5, a6, c6, a8, c8, a9, c9, a10, c10, ?_, ⟨q0, q1, q2, q3, q4, q5, q6, q8, q9, q10, by omega⟩⟩
  match x, hl with
  | [v0, v1, v2, v3, v4, v5, v6, v7, v8, v9, v10, v11, v12], _ =>
    simp only [List.getElem?_cons_zero, List.getElem?_cons_succ, Option.some.injEq] at e0 e1 e2 e3 e4 e5 e6 e7 e8 e9 e10
    subst e0 e1 e2 e3 e4 e5 e6 e7 e8 e9 e10
    rfl
/-- What reading gives: a module, or a fault and none. -/
def GivesM (s : ByteArray) (w : World) (y : Ending) (w' : World) : Prop :=
  ∃ vs f, y = .returned (.tuple #[.agg (List.toArray vs), .int .i64 f]) ∧ Below w.heap.size w w' ∧ vs.length = 11 ∧
    ((∃ m, takeMd s = .ok m ∧ f = 0 ∧ MdlVals w' m vs) ∨ (takeMd s = .error f ∧ f ≠ 0 ∧ MdlVals w' noM vs))
theorem noM_vals (w : World) : MdlVals w noM [.slice none 0 0, .slice none 0 0, .slice none 0 0, .slice none 0 0, .slice none 0 0, .slice none 0 0, .slice none 0 0, .int .i64 0, .slice none 0 0, .slice none 0 0, .slice none 0 0] :=
  ⟨none, 0, none, 0, none, 0, none, 0, none, 0, none, 0, none, 0, none, 0, none, 0, none, 0, rfl,
    ⟨⟨rfl, Nat.le_refl _, by decide, .inl rfl⟩, ⟨rfl, Nat.le_refl _, by decide, .inl rfl⟩, ⟨rfl, Nat.le_refl _, by decide, .inl rfl, fun i hi => absurd hi (by simp [noM])⟩, ⟨rfl, Nat.le_refl _, by decide, .inl rfl⟩, ⟨rfl, Nat.le_refl _, by decide, .inl rfl⟩, ⟨rfl, Nat.le_refl _, by decide, .inl rfl⟩, ⟨rfl, Nat.le_refl _, by decide, .inl rfl⟩, ⟨rfl, Nat.le_refl _, by decide, .inl rfl⟩, ⟨rfl, Nat.le_refl _, by decide, .inl rfl⟩, ⟨rfl, Nat.le_refl _, by decide, .inl rfl⟩, by decide⟩⟩
def noX : List Value := [.slice none 0 0, .slice none 0 0, .slice none 0 0, .slice none 0 0, .slice none 0 0, .slice none 0 0, .slice none 0 0, .int .i64 0, .slice none 0 0, .slice none 0 0, .slice none 0 0, .int .i64 0, .int .i64 (-1)]
theorem noX_sh : ShX noX := ⟨rfl, ⟨none, 0, 0, rfl⟩, ⟨none, 0, 0, rfl⟩, ⟨none, 0, 0, rfl⟩, ⟨0, rfl⟩, ⟨-1, rfl⟩⟩
theorem noX_so (B : Nat) (w : World) : SoX B w noX so0 :=
  ⟨rfl, ⟨none, 0, 0, rfl, slV_nil _ _ _ _⟩, ⟨none, 0, 0, rfl, slV_nil _ _ _ _⟩, ⟨none, 0, 0, rfl, slV_nil _ _ _ _⟩, ⟨none, 0, 0, rfl, slV_nil _ _ _ _⟩, ⟨none, 0, 0, rfl, slV_nil _ _ _ _⟩, ⟨none, 0, 0, rfl, slV_nil _ _ _ _⟩, ⟨none, 0, 0, rfl, slV_nil _ _ _ _⟩, ⟨rfl, by decide⟩, ⟨none, 0, 0, rfl, slV_nil _ _ _ _⟩, ⟨none, 0, 0, rfl, slV_nil _ _ _ _⟩, ⟨none, 0, 0, rfl, slV_nil _ _ _ _⟩, rfl, rfl⟩
set_option maxRecDepth 100000 in
set_option maxHeartbeats 4000000 in
theorem TakeM_any (s : ByteArray) (hs : s.size ≤ maxLen) (w : World) :
    Calls Tryz.prog 12 #[.string s] w fun y w' => GivesM s w y w' := by
  unfold maxLen at hs
  have hba : Below w.heap.size w (w.alloc (.cells #[.slice none 0 0, .slice none 0 0, .slice none 0 0, .slice none 0 0, .slice none 0 0, .slice none 0 0, .slice none 0 0, .int .i64 0, .slice none 0 0, .slice none 0 0, .slice none 0 0] 32)) := (Below.refl _ _).alloc (Nat.le_refl _) _
  have hs0 : (w.alloc (.cells #[.slice none 0 0, .slice none 0 0, .slice none 0 0, .slice none 0 0, .slice none 0 0, .slice none 0 0, .slice none 0 0, .int .i64 0, .slice none 0 0, .slice none 0 0, .slice none 0 0] 32)).heap.size = w.heap.size + 1 := by simp
  by_cases hl : 65536 < s.size
  · have h1 : decide ((65536 : Int) < s.size) = true := by simp; omega
    have HT : Hid (takeMd s = .error 14) := Lib.hid (if_pos hl)
    have HB := Lib.hid hba
    clear hl hba hs0
    go_enter Tryz.func12, Tryz.ntmps12
    go_wp2_with fail
    exact bodyPost_ret (v := .tuple #[.agg #[.slice none 0 0, .slice none 0 0, .slice none 0 0, .slice none 0 0, .slice none 0 0, .slice none 0 0, .slice none 0 0, .int .i64 0, .slice none 0 0, .slice none 0 0, .slice none 0 0], .int .i64 14]) (by simp [results, Tryz.results12, go_sem]) rfl ⟨[.slice none 0 0, .slice none 0 0, .slice none 0 0, .slice none 0 0, .slice none 0 0, .slice none 0 0, .slice none 0 0, .int .i64 0, .slice none 0 0, .slice none 0 0, .slice none 0 0], 14, rfl, HB.out, rfl, .inr ⟨HT.out, by decide, noM_vals _⟩⟩
  · have h1 : decide ((65536 : Int) < s.size) = false := by simp; omega
    have HT : Hid (takeMd s = (modR s).bind fun q => .ok q.1.m) := Lib.hid (if_neg hl)
    have hb2 : Below w.heap.size w ((w.alloc (.cells #[.slice none 0 0, .slice none 0 0, .slice none 0 0, .slice none 0 0, .slice none 0 0, .slice none 0 0, .slice none 0 0, .int .i64 0, .slice none 0 0, .slice none 0 0, .slice none 0 0] 32)).alloc (.cells #[.string s, .int .i64 0, .slice none 0 0, .slice none 0 0, .slice none 0 0, .slice none 0 0, .slice none 0 0, .slice none 0 0, .slice none 0 0, .int .i64 0, .slice none 0 0, .slice none 0 0, .slice none 0 0, .int .i64 0, .int .i64 (-1)] 65)) := hba.alloc (by simp) _
    have hs2 : ((w.alloc (.cells #[.slice none 0 0, .slice none 0 0, .slice none 0 0, .slice none 0 0, .slice none 0 0, .slice none 0 0, .slice none 0 0, .int .i64 0, .slice none 0 0, .slice none 0 0, .slice none 0 0] 32)).alloc (.cells #[.string s, .int .i64 0, .slice none 0 0, .slice none 0 0, .slice none 0 0, .slice none 0 0, .slice none 0 0, .slice none 0 0, .slice none 0 0, .int .i64 0, .slice none 0 0, .slice none 0 0, .slice none 0 0, .int .i64 0, .int .i64 (-1)] 65)).heap.size = w.heap.size + 2 := by simp
    have t0 : TmAt ((w.alloc (.cells #[.slice none 0 0, .slice none 0 0, .slice none 0 0, .slice none 0 0, .slice none 0 0, .slice none 0 0, .slice none 0 0, .int .i64 0, .slice none 0 0, .slice none 0 0, .slice none 0 0] 32)).alloc (.cells #[.string s, .int .i64 0, .slice none 0 0, .slice none 0 0, .slice none 0 0, .slice none 0 0, .slice none 0 0, .slice none 0 0, .slice none 0 0, .int .i64 0, .slice none 0 0, .slice none 0 0, .slice none 0 0, .int .i64 0, .int .i64 (-1)] 65)) (w.heap.size + 1) (.ok s) noX := by
      refine ⟨?_, ⟨fun f q => (by cases q), by show s.size ≤ 65536; omega⟩⟩
      have := BlkAt.new (w.alloc (.cells #[.slice none 0 0, .slice none 0 0, .slice none 0 0, .slice none 0 0, .slice none 0 0, .slice none 0 0, .slice none 0 0, .int .i64 0, .slice none 0 0, .slice none 0 0, .slice none 0 0] 32)) #[.string s, .int .i64 0, .slice none 0 0, .slice none 0 0, .slice none 0 0, .slice none 0 0, .slice none 0 0, .slice none 0 0, .slice none 0 0, .int .i64 0, .slice none 0 0, .slice none 0 0, .slice none 0 0, .int .i64 0, .int .i64 (-1)] 65
      rw [hs0] at this
      exact this
    have r0 : BlkAt ((w.alloc (.cells #[.slice none 0 0, .slice none 0 0, .slice none 0 0, .slice none 0 0, .slice none 0 0, .slice none 0 0, .slice none 0 0, .int .i64 0, .slice none 0 0, .slice none 0 0, .slice none 0 0] 32)).alloc (.cells #[.string s, .int .i64 0, .slice none 0 0, .slice none 0 0, .slice none 0 0, .slice none 0 0, .slice none 0 0, .slice none 0 0, .slice none 0 0, .int .i64 0, .slice none 0 0, .slice none 0 0, .slice none 0 0, .int .i64 0, .int .i64 (-1)] 65)) w.heap.size #[.slice none 0 0, .slice none 0 0, .slice none 0 0, .slice none 0 0, .slice none 0 0, .slice none 0 0, .slice none 0 0, .int .i64 0, .slice none 0 0, .slice none 0 0, .slice none 0 0] 32 := (BlkAt.new w _ _).below ((Below.refl _ _).alloc (Nat.le_refl _) _)
    have HM := Lib.hid (tmModule_any (w.heap.size + 2) (w.heap.size + 1) s noX _ t0 noX_sh (noX_so _ _) (by omega) (by omega))
    have HB2 := Lib.hid hb2
    have HS2 := Lib.hid hs2
    have R0 := Lib.hid r0
    clear hl hba hs0 hb2 hs2 t0 r0
    go_enter Tryz.func12, Tryz.ntmps12
    go_wp2_with (first
      | (go_at_call 21; refine HM.out.mono ?_; rintro y w1 ⟨x2, g1, rfl, t1, k1, o1, d1⟩; have O1 := Lib.hid o1; have K1 := Lib.hid k1; clear o1 HM
         have r1 := R0.out.kept k1 (by omega)
         obtain ⟨cr0, cr1, cr2, cr3, cr4, cr5, cr6, cr7, cr8, cr9, cr10⟩ := r1.eleven
         have fr0 := r1.frozen 0
         have fr1 := r1.frozen 1
         have fr2 := r1.frozen 2
         have fr3 := r1.frozen 3
         have fr4 := r1.frozen 4
         have fr5 := r1.frozen 5
         have fr6 := r1.frozen 6
         have fr7 := r1.frozen 7
         have fr8 := r1.frozen 8
         have fr9 := r1.frozen 9
         have fr10 := r1.frozen 10
         have hflt := t1.flt
         rcases t1.wf.cases with ⟨s1, rfl, _⟩ | ⟨f1, rfl, hf1⟩
         case' inl =>
           replace hflt : w1.cell? ⟨w.heap.size + 1, 1, none⟩ = some (.int .i64 0) := hflt
           obtain ⟨s', so, hs', hR, hso⟩ := O1.out.live
           injection hs' with hs'
           subst hs'
           obtain ⟨⟨xT, cT, xI, cI, xF, cF, xB, cB, xM, cM, xG, cG, xX, cX, xE, cE, xC, cC, xD, cD, hvs, hin⟩⟩ := hso.vals
           have hx : ∀ i, i < 11 → x2[i]? = ([.slice xT so.m.types.length cT, .slice xI so.m.imports.length cI, .slice xF so.m.funcs.length cF, .slice xB so.m.tables.length cB, .slice xM so.m.mems.length cM, .slice xG so.m.globals.length cG, .slice xX so.m.exports.length cX, .int .i64 so.m.start, .slice xE so.m.elems.length cE, .slice xC so.m.codes.length cC, .slice xD so.m.datas.length cD] : List Value)[i]? := fun i hi => by
             rw [← hvs, List.getElem?_take, if_pos hi]
           have m0 := (t1.blk.cell 2).trans ((tkC_get _ x2 0).trans (hx 0 (by decide)))
           have m1 := (t1.blk.cell 3).trans ((tkC_get _ x2 1).trans (hx 1 (by decide)))
           have m2 := (t1.blk.cell 4).trans ((tkC_get _ x2 2).trans (hx 2 (by decide)))
           have m3 := (t1.blk.cell 5).trans ((tkC_get _ x2 3).trans (hx 3 (by decide)))
           have m4 := (t1.blk.cell 6).trans ((tkC_get _ x2 4).trans (hx 4 (by decide)))
           have m5 := (t1.blk.cell 7).trans ((tkC_get _ x2 5).trans (hx 5 (by decide)))
           have m6 := (t1.blk.cell 8).trans ((tkC_get _ x2 6).trans (hx 6 (by decide)))
           have m7 := (t1.blk.cell 9).trans ((tkC_get _ x2 7).trans (hx 7 (by decide)))
           have m8 := (t1.blk.cell 10).trans ((tkC_get _ x2 8).trans (hx 8 (by decide)))
           have m9 := (t1.blk.cell 11).trans ((tkC_get _ x2 9).trans (hx 9 (by decide)))
           have m10 := (t1.blk.cell 12).trans ((tkC_get _ x2 10).trans (hx 10 (by decide)))
           have HVS := Lib.hid hvs
           have HSO := Lib.hid hso
           have HR := Lib.hid hR
           clear hx hvs hin hso hR O1
         case' inr =>
           replace hflt : w1.cell? ⟨w.heap.size + 1, 1, none⟩ = some (.int .i64 f1) := hflt
           have e1 : (f1 != 0) = true := by simpa using hf1
           have HF := Lib.hid hf1
           clear hf1))
    · go_region
      go_wp2_with fail
      have KR : Kept (fun k => k = w.heap.size) w1 (((((((((((w1.setCell ⟨w.heap.size, 0, none⟩ (.slice none 0 0)).setCell ⟨w.heap.size, 1, none⟩ (.slice none 0 0)).setCell ⟨w.heap.size, 2, none⟩ (.slice none 0 0)).setCell ⟨w.heap.size, 3, none⟩ (.slice none 0 0)).setCell ⟨w.heap.size, 4, none⟩ (.slice none 0 0)).setCell ⟨w.heap.size, 5, none⟩ (.slice none 0 0)).setCell ⟨w.heap.size, 6, none⟩ (.slice none 0 0)).setCell ⟨w.heap.size, 7, none⟩ (.int .i64 0)).setCell ⟨w.heap.size, 8, none⟩ (.slice none 0 0)).setCell ⟨w.heap.size, 9, none⟩ (.slice none 0 0)).setCell ⟨w.heap.size, 10, none⟩ (.slice none 0 0)) := ((((((((((((Kept.refl (fun k => k = w.heap.size) w1).set (p := ⟨w.heap.size, 0, none⟩) rfl (.slice none 0 0)).set (p := ⟨w.heap.size, 1, none⟩) rfl (.slice none 0 0)).set (p := ⟨w.heap.size, 2, none⟩) rfl (.slice none 0 0)).set (p := ⟨w.heap.size, 3, none⟩) rfl (.slice none 0 0)).set (p := ⟨w.heap.size, 4, none⟩) rfl (.slice none 0 0)).set (p := ⟨w.heap.size, 5, none⟩) rfl (.slice none 0 0)).set (p := ⟨w.heap.size, 6, none⟩) rfl (.slice none 0 0)).set (p := ⟨w.heap.size, 7, none⟩) rfl (.int .i64 0)).set (p := ⟨w.heap.size, 8, none⟩) rfl (.slice none 0 0)).set (p := ⟨w.heap.size, 9, none⟩) rfl (.slice none 0 0)).set (p := ⟨w.heap.size, 10, none⟩) rfl (.slice none 0 0))
      have hbf : Below w.heap.size w (((((((((((w1.setCell ⟨w.heap.size, 0, none⟩ (.slice none 0 0)).setCell ⟨w.heap.size, 1, none⟩ (.slice none 0 0)).setCell ⟨w.heap.size, 2, none⟩ (.slice none 0 0)).setCell ⟨w.heap.size, 3, none⟩ (.slice none 0 0)).setCell ⟨w.heap.size, 4, none⟩ (.slice none 0 0)).setCell ⟨w.heap.size, 5, none⟩ (.slice none 0 0)).setCell ⟨w.heap.size, 6, none⟩ (.slice none 0 0)).setCell ⟨w.heap.size, 7, none⟩ (.int .i64 0)).setCell ⟨w.heap.size, 8, none⟩ (.slice none 0 0)).setCell ⟨w.heap.size, 9, none⟩ (.slice none 0 0)).setCell ⟨w.heap.size, 10, none⟩ (.slice none 0 0)) := (HB2.out.trans (K1.out.below (by have := HS2.out; omega) (fun k q => by omega))).trans (KR.below (by have := K1.out.size; have := HS2.out; omega) (fun k q => by omega))
      refine bodyPost_ret (v := .tuple #[.agg #[.slice none 0 0, .slice none 0 0, .slice none 0 0, .slice none 0 0, .slice none 0 0, .slice none 0 0, .slice none 0 0, .int .i64 0, .slice none 0 0, .slice none 0 0, .slice none 0 0], .int .i64 f1]) (by simp [results, Tryz.results12, go_sem, cr0, cr1, cr2, cr3, cr4, cr5, cr6, cr7, cr8, cr9, cr10]) rfl ⟨[.slice none 0 0, .slice none 0 0, .slice none 0 0, .slice none 0 0, .slice none 0 0, .slice none 0 0, .slice none 0 0, .int .i64 0, .slice none 0 0, .slice none 0 0, .slice none 0 0], f1, rfl, ?_, rfl, .inr ⟨?_, HF.out, noM_vals _⟩⟩
      · exact hbf.drew
      · rw [HT.out, O1.out.fault]
        rfl
    · have KR : Kept (fun k => k = w.heap.size) w1 (((((((((((w1.setCell ⟨w.heap.size, 0, none⟩ (.slice xT so.m.types.length cT)).setCell ⟨w.heap.size, 1, none⟩ (.slice xI so.m.imports.length cI)).setCell ⟨w.heap.size, 2, none⟩ (.slice xF so.m.funcs.length cF)).setCell ⟨w.heap.size, 3, none⟩ (.slice xB so.m.tables.length cB)).setCell ⟨w.heap.size, 4, none⟩ (.slice xM so.m.mems.length cM)).setCell ⟨w.heap.size, 5, none⟩ (.slice xG so.m.globals.length cG)).setCell ⟨w.heap.size, 6, none⟩ (.slice xX so.m.exports.length cX)).setCell ⟨w.heap.size, 7, none⟩ (.int .i64 so.m.start)).setCell ⟨w.heap.size, 8, none⟩ (.slice xE so.m.elems.length cE)).setCell ⟨w.heap.size, 9, none⟩ (.slice xC so.m.codes.length cC)).setCell ⟨w.heap.size, 10, none⟩ (.slice xD so.m.datas.length cD)) := ((((((((((((Kept.refl (fun k => k = w.heap.size) w1).set (p := ⟨w.heap.size, 0, none⟩) rfl (.slice xT so.m.types.length cT)).set (p := ⟨w.heap.size, 1, none⟩) rfl (.slice xI so.m.imports.length cI)).set (p := ⟨w.heap.size, 2, none⟩) rfl (.slice xF so.m.funcs.length cF)).set (p := ⟨w.heap.size, 3, none⟩) rfl (.slice xB so.m.tables.length cB)).set (p := ⟨w.heap.size, 4, none⟩) rfl (.slice xM so.m.mems.length cM)).set (p := ⟨w.heap.size, 5, none⟩) rfl (.slice xG so.m.globals.length cG)).set (p := ⟨w.heap.size, 6, none⟩) rfl (.slice xX so.m.exports.length cX)).set (p := ⟨w.heap.size, 7, none⟩) rfl (.int .i64 so.m.start)).set (p := ⟨w.heap.size, 8, none⟩) rfl (.slice xE so.m.elems.length cE)).set (p := ⟨w.heap.size, 9, none⟩) rfl (.slice xC so.m.codes.length cC)).set (p := ⟨w.heap.size, 10, none⟩) rfl (.slice xD so.m.datas.length cD))
      have hbf : Below w.heap.size w (((((((((((w1.setCell ⟨w.heap.size, 0, none⟩ (.slice xT so.m.types.length cT)).setCell ⟨w.heap.size, 1, none⟩ (.slice xI so.m.imports.length cI)).setCell ⟨w.heap.size, 2, none⟩ (.slice xF so.m.funcs.length cF)).setCell ⟨w.heap.size, 3, none⟩ (.slice xB so.m.tables.length cB)).setCell ⟨w.heap.size, 4, none⟩ (.slice xM so.m.mems.length cM)).setCell ⟨w.heap.size, 5, none⟩ (.slice xG so.m.globals.length cG)).setCell ⟨w.heap.size, 6, none⟩ (.slice xX so.m.exports.length cX)).setCell ⟨w.heap.size, 7, none⟩ (.int .i64 so.m.start)).setCell ⟨w.heap.size, 8, none⟩ (.slice xE so.m.elems.length cE)).setCell ⟨w.heap.size, 9, none⟩ (.slice xC so.m.codes.length cC)).setCell ⟨w.heap.size, 10, none⟩ (.slice xD so.m.datas.length cD)) := (HB2.out.trans (K1.out.below (by have := HS2.out; omega) (fun k q => by omega))).trans (KR.below (by have := K1.out.size; have := HS2.out; omega) (fun k q => by omega))
      refine bodyPost_ret (v := .tuple #[.agg #[.slice xT so.m.types.length cT, .slice xI so.m.imports.length cI, .slice xF so.m.funcs.length cF, .slice xB so.m.tables.length cB, .slice xM so.m.mems.length cM, .slice xG so.m.globals.length cG, .slice xX so.m.exports.length cX, .int .i64 so.m.start, .slice xE so.m.elems.length cE, .slice xC so.m.codes.length cC, .slice xD so.m.datas.length cD], .int .i64 0]) (by simp [results, Tryz.results12, go_sem, cr0, cr1, cr2, cr3, cr4, cr5, cr6, cr7, cr8, cr9, cr10]) rfl ⟨[.slice xT so.m.types.length cT, .slice xI so.m.imports.length cI, .slice xF so.m.funcs.length cF, .slice xB so.m.tables.length cB, .slice xM so.m.mems.length cM, .slice xG so.m.globals.length cG, .slice xX so.m.exports.length cX, .int .i64 so.m.start, .slice xE so.m.elems.length cE, .slice xC so.m.codes.length cC, .slice xD so.m.datas.length cD], 0, rfl, hbf, rfl, .inl ⟨so.m, ?_, rfl, ?_⟩⟩
      · rw [HT.out, HR.out]
        rfl
      · have := (HSO.out.after KR (by omega)).vals
        rw [HVS.out] at this
        exact this
end Go.Proofs.YtekonefnniaheaaGreat
namespace Go.Proofs.YtekonefnniaheaaGreat
open Go.RowKit

set_option maxHeartbeats 400000 in
set_option maxRecDepth 100000 in
theorem Same_view (a c : Option Addr) (n cap cap2 : Nat) (xs : List Int) (w : World) (hn : n ≤ 3000) (ha : View w a n xs) (hc : View w c n xs) :
    Calls Tryz.prog 15 #[.slice a n cap, .slice c n cap2] w fun e w' => e = .returned (.bool true) ∧ Below w.heap.size w w' := by
  have HA := Lib.hid ha
  have HC := Lib.hid hc
  have hne : ((n : Int) != (n : Int)) = false := by simp
  clear ha hc
  go_enter Tryz.func15, Tryz.ntmps15
  go_wp2_with fail
  go_loopw [5] (fun i wr => ∃ k : Nat, i = .int .i64 k ∧ k ≤ n ∧ Below w.heap.size w wr) (fun i _ => n - (intOf i).toNat)
  case atStart => exact ⟨0, rfl, by omega, Below.refl _ _⟩
  case round =>
    obtain ⟨k, rfl, hk, hb⟩ := hrel
    by_cases hlt : k < n
    · obtain ⟨b, off, rfl, hca⟩ := HA.out.resolve_left (by omega)
      obtain ⟨d, off2, rfl, hcc⟩ := HC.out.resolve_left (by omega)
      have h1 := hca k hlt
      have h2 := hcc k hlt
      have g1 := (hb.cell (p := ⟨b, off + k, none⟩) (World.block_lt_of_cell? w _ h1)).trans h1
      have g2 := (hb.cell (p := ⟨d, off2 + k, none⟩) (World.block_lt_of_cell? w _ h2)).trans h2
      clear hca hcc h1 h2
      revert g1 g2
      generalize xs.getD k 0 = z
      intro g1 g2
      go_wp2_with fail
      go_quiet (fail)
      go_wp2
      exact ⟨⟨k + 1, by go_num, by omega, below_drewN hb _⟩, by simp [intOf]; omega⟩
    · have hke : k = n := by omega
      subst hke
      go_wp2_with fail
      go_ret
      exact ⟨rfl, hb⟩
end Go.Proofs.YtekonefnniaheaaGreat
namespace Go.Proofs.YtekonefnniaheaaGreat
open Go.RowKit
open Leb (byt byt_lt byt_get)

theorem two_new (w : World) (X Y : Array Value) : BlkAt ((w.alloc (.cells X 50)).alloc (.cells Y 50)).drew w.heap.size X 50 ∧ BlkAt ((w.alloc (.cells X 50)).alloc (.cells Y 50)).drew (w.heap.size + 1) Y 50 ∧ Below w.heap.size w ((w.alloc (.cells X 50)).alloc (.cells Y 50)).drew := by
  have hbp : Below w.heap.size w (w.alloc (.cells X 50)) := (Below.refl _ _).alloc (Nat.le_refl _) _
  have hbz : Below (w.alloc (.cells X 50)).heap.size (w.alloc (.cells X 50)) ((w.alloc (.cells X 50)).alloc (.cells Y 50)) := (Below.refl _ _).alloc (Nat.le_refl _) _
  have hsz0 : (w.alloc (.cells X 50)).heap.size = w.heap.size + 1 := by simp
  exact ⟨(BlkAt.new w X _).below hbz.drew, hsz0 ▸ ((BlkAt.new (w.alloc (.cells X 50)) Y _).below (Below.refl _ _).drew), (hbp.trans (hbz.mono hbp.size)).drew⟩
set_option maxRecDepth 100000 in
set_option maxHeartbeats 4000000 in
theorem insSame_all (N : Nat) : ∀ (d : Nat) (ls : List Ins) (x y : Option Addr) (len cap cap2 : Nat) (w : World), SizeOf.sizeOf ls < N → okL d ls = true → InsIn w x len cap ls → InsIn w y len cap2 ls →
    Calls Tryz.prog 25 #[.slice x len cap, .slice y len cap2] w fun e w' => e = .returned (.bool true) ∧ Below w.heap.size w w' := by
  induction N with
  | zero => exact fun _ _ _ _ _ _ _ _ h => absurd h (by omega)
  | succ N ih =>
    intro d ls x y len cap cap2 w hN hok hx hy
    obtain ⟨hlen, hle, htop, hlx⟩ := hx
    obtain ⟨hlen2, hle2, htop2, hly⟩ := hy
    have HLEN := Lib.hid hlen
    have HX := Lib.hid hlx
    have HY := Lib.hid hly
    have HIH := Lib.hid ih
    have HNN := Lib.hid hN
    have HOK := Lib.hid hok
    have hne : ((len : Int) != (len : Int)) = false := by simp
    clear ih hlx hly hN hlen hlen2 hok
    go_enter Tryz.func25, Tryz.ntmps25
    go_wp2_with fail
    go_loopw [5] (fun iv wr => ∃ i : Nat, iv = .int .i64 i ∧ i ≤ len ∧ Below w.heap.size w wr) (fun iv _ => len - (intOf iv).toNat)
    case atStart => exact ⟨0, rfl, by omega, Below.refl _ _⟩
    case round =>
      obtain ⟨i, rfl, hi, hb⟩ := hrel
      by_cases hlt : i < len
      · have hil : i < ls.length := by rw [← HLEN.out]; exact hlt
        obtain ⟨bx, ox, rfl⟩ := LiesL.addr HX.out (by omega)
        obtain ⟨by', oy, rfl⟩ := LiesL.addr HY.out (by omega)
        have lx := (LiesL.at HX.out i hil).below hb
        have ly := (LiesL.at HY.out i hil).below hb
        have hoc := okL_at HOK.out hil
        have hsz : SizeOf.sizeOf (ls.getD i default) < SizeOf.sizeOf ls := by
          rw [List.getD_eq_getElem?_getD, List.getElem?_eq_getElem hil]
          exact List.sizeOf_lt_of_mem (List.getElem_mem hil)
        revert lx ly hoc hsz
        generalize ls.getD i default = c
        intro lx ly hoc hsz
        obtain ⟨xn, nc, xl, lc, xe, ec, c0, c1, c2, c3, c4, c5, c6, hvn, hnc, hncm, hl, he⟩ := lx.may
        obtain ⟨yn, md, yl, ld, ye, ed, d0, d1, d2, d3, d4, d5, d6, hvm, hmd, hmdm, hl2, he2⟩ := ly.may
        have HSL : Hid (SizeOf.sizeOf c.l < N ∧ SizeOf.sizeOf c.e < N) := Lib.hid (by
          have := HNN.out
          cases c with
          | mk op a b' m n' l' e' =>
            simp only [Ins.mk.sizeOf_spec] at hsz
            simp only [Ins.l, Ins.e]
            omega)
        have hbx : bx ≠ wr.heap.size ∧ bx ≠ wr.heap.size + 1 := by have h : bx < wr.heap.size := World.block_lt_of_cell? wr _ c0; exact ⟨by omega, by omega⟩
        have hby : by' ≠ wr.heap.size ∧ by' ≠ wr.heap.size + 1 := by have h : by' < wr.heap.size := World.block_lt_of_cell? wr _ d0; exact ⟨by omega, by omega⟩
        have hmay : mayI c = true := by
          rw [okI_eq, Bool.and_eq_true] at hoc
          exact hoc.1
        have hn3 : c.n.length ≤ 3000 := by have := (mayI_bounds hmay).2.2.1; omega
        have hsub : ∃ d', okL d' c.l = true ∧ okL d' c.e = true := by
          obtain ⟨_, m1, m2⟩ := mayI_parts hmay
          rw [okI_eq, Bool.and_eq_true] at hoc
          by_cases hbk : 2 ≤ c.op ∧ c.op ≤ 4
          · have := hoc.2
            rw [if_pos hbk, Bool.and_eq_true, Bool.and_eq_true] at this
            exact ⟨_, this.2⟩
          · rw [m1.resolve_left (fun q => hbk (shapeV_two q)), m2.resolve_left (fun q => hbk (by omega))]
            exact ⟨0, rfl, rfl⟩
        obtain ⟨d', hd1, hd2⟩ := hsub
        have HSV : Hid (∀ w', Below wr.heap.size wr w' → Calls Tryz.prog 15 #[.slice xn c.n.length nc, .slice yn c.n.length md] w' fun e w2 => e = .returned (.bool true) ∧ Below w'.heap.size w' w2) := Lib.hid fun w' h => Same_view xn yn c.n.length nc md c.n w' hn3 (hvn.below h) (hvm.below h)
        have HSL1 : Hid (∀ w', Below wr.heap.size wr w' → Calls Tryz.prog 25 #[.slice xl c.l.length lc, .slice yl c.l.length ld] w' fun e w2 => e = .returned (.bool true) ∧ Below w'.heap.size w' w2) := Lib.hid fun w' h => HIH.out d' c.l xl yl c.l.length lc ld w' HSL.out.1 hd1 (hl.below h) (hl2.below h)
        have HSE1 : Hid (∀ w', Below wr.heap.size wr w' → Calls Tryz.prog 25 #[.slice xe c.e.length ec, .slice ye c.e.length ed] w' fun e w2 => e = .returned (.bool true) ∧ Below w'.heap.size w' w2) := Lib.hid fun w' h => HIH.out d' c.e xe ye c.e.length ec ed w' HSL.out.2 hd2 (he.below h) (he2.below h)
        clear hmay hn3 hd1 hd2 hoc hsz hvn hvm hnc hmd hncm hmdm hl hl2 he he2 lx ly
        go_wp2_with fail
        go_region_held3 (fun w' => w'.cell? ⟨bx, ox + i * 7, none⟩ = some (.int .i64 c.op) ∧ w'.cell? ⟨bx, ox + i * 7 + 1, none⟩ = some (.int .i64 c.a) ∧ w'.cell? ⟨bx, ox + i * 7 + 2, none⟩ = some (.int .i64 c.b) ∧ w'.cell? ⟨bx, ox + i * 7 + 3, none⟩ = some (.int .i64 c.m) ∧ w'.cell? ⟨bx, ox + i * 7 + 4, none⟩ = some (.slice xn c.n.length nc) ∧ w'.cell? ⟨bx, ox + i * 7 + 5, none⟩ = some (.slice xl c.l.length lc) ∧ w'.cell? ⟨bx, ox + i * 7 + 6, none⟩ = some (.slice xe c.e.length ec) ∧ w'.cell? ⟨by', oy + i * 7, none⟩ = some (.int .i64 c.op) ∧ w'.cell? ⟨by', oy + i * 7 + 1, none⟩ = some (.int .i64 c.a) ∧ w'.cell? ⟨by', oy + i * 7 + 2, none⟩ = some (.int .i64 c.b) ∧ w'.cell? ⟨by', oy + i * 7 + 3, none⟩ = some (.int .i64 c.m) ∧ w'.cell? ⟨by', oy + i * 7 + 4, none⟩ = some (.slice yn c.n.length md) ∧ w'.cell? ⟨by', oy + i * 7 + 5, none⟩ = some (.slice yl c.l.length ld) ∧ w'.cell? ⟨by', oy + i * 7 + 6, none⟩ = some (.slice ye c.e.length ed)) (go_keep) (fail)
        · obtain ⟨B1, B2, hb2⟩ := two_new wr #[.int .i64 c.op, .int .i64 c.a, .int .i64 c.b, .int .i64 c.m, .slice xn c.n.length nc, .slice xl c.l.length lc, .slice xe c.e.length ec] #[.int .i64 c.op, .int .i64 c.a, .int .i64 c.b, .int .i64 c.m, .slice yn c.n.length md, .slice yl c.l.length ld, .slice ye c.e.length ed]
          have p0 := B1.cell 0; have p1 := B1.cell 1; have p2 := B1.cell 2; have p3 := B1.cell 3; have p4 := B1.cell 4; have p5 := B1.cell 5; have p6 := B1.cell 6; simp at p0 p1 p2 p3 p4 p5 p6; have q0 := B2.cell 0; have q1 := B2.cell 1; have q2 := B2.cell 2; have q3 := B2.cell 3; have q4 := B2.cell 4; have q5 := B2.cell 5; have q6 := B2.cell 6; simp at q0 q1 q2 q3 q4 q5 q6
          go_wp2_with (first
            | (go_at_call 15; refine (HSV.out _ hb2).mono ?_; rintro e w2 ⟨rfl, k2⟩; have B3 := B1.below k2; have B4 := B2.below k2; have hb3 := hb2.trans (k2.mono hb2.size); clear HSV; have r0 := B3.cell 0; have r1 := B3.cell 1; have r2 := B3.cell 2; have r3 := B3.cell 3; have r4 := B3.cell 4; have r5 := B3.cell 5; have r6 := B3.cell 6; simp at r0 r1 r2 r3 r4 r5 r6; have s0 := B4.cell 0; have s1 := B4.cell 1; have s2 := B4.cell 2; have s3 := B4.cell 3; have s4 := B4.cell 4; have s5 := B4.cell 5; have s6 := B4.cell 6; simp at s0 s1 s2 s3 s4 s5 s6)
            | (go_at_call 25; refine (HSL1.out _ hb3).mono ?_; rintro e w3 ⟨rfl, k3⟩; have B5 := B3.below k3; have B6 := B4.below k3; have hb4 := hb3.trans (k3.mono hb3.size); clear HSL1; have t0 := B5.cell 0; have t1 := B5.cell 1; have t2 := B5.cell 2; have t3 := B5.cell 3; have t4 := B5.cell 4; have t5 := B5.cell 5; have t6 := B5.cell 6; simp at t0 t1 t2 t3 t4 t5 t6; have u0 := B6.cell 0; have u1 := B6.cell 1; have u2 := B6.cell 2; have u3 := B6.cell 3; have u4 := B6.cell 4; have u5 := B6.cell 5; have u6 := B6.cell 6; simp at u0 u1 u2 u3 u4 u5 u6)
            | (go_at_call 25; refine (HSE1.out _ hb4).mono ?_; rintro e w4 ⟨rfl, k4⟩; have hb5 := hb4.trans (k4.mono hb4.size); clear HSE1))
          exact ⟨⟨i + 1, by go_num, by omega, hb.trans (hb5.mono hb.size)⟩, by simp [intOf]; omega⟩
        · obtain ⟨B2, B1, hb2⟩ := two_new wr #[.int .i64 c.op, .int .i64 c.a, .int .i64 c.b, .int .i64 c.m, .slice yn c.n.length md, .slice yl c.l.length ld, .slice ye c.e.length ed] #[.int .i64 c.op, .int .i64 c.a, .int .i64 c.b, .int .i64 c.m, .slice xn c.n.length nc, .slice xl c.l.length lc, .slice xe c.e.length ec]
          have p0 := B1.cell 0; have p1 := B1.cell 1; have p2 := B1.cell 2; have p3 := B1.cell 3; have p4 := B1.cell 4; have p5 := B1.cell 5; have p6 := B1.cell 6; simp at p0 p1 p2 p3 p4 p5 p6; have q0 := B2.cell 0; have q1 := B2.cell 1; have q2 := B2.cell 2; have q3 := B2.cell 3; have q4 := B2.cell 4; have q5 := B2.cell 5; have q6 := B2.cell 6; simp at q0 q1 q2 q3 q4 q5 q6
          go_wp2_with (first
            | (go_at_call 15; refine (HSV.out _ hb2).mono ?_; rintro e w2 ⟨rfl, k2⟩; have B3 := B1.below k2; have B4 := B2.below k2; have hb3 := hb2.trans (k2.mono hb2.size); clear HSV; have r0 := B3.cell 0; have r1 := B3.cell 1; have r2 := B3.cell 2; have r3 := B3.cell 3; have r4 := B3.cell 4; have r5 := B3.cell 5; have r6 := B3.cell 6; simp at r0 r1 r2 r3 r4 r5 r6; have s0 := B4.cell 0; have s1 := B4.cell 1; have s2 := B4.cell 2; have s3 := B4.cell 3; have s4 := B4.cell 4; have s5 := B4.cell 5; have s6 := B4.cell 6; simp at s0 s1 s2 s3 s4 s5 s6)
            | (go_at_call 25; refine (HSL1.out _ hb3).mono ?_; rintro e w3 ⟨rfl, k3⟩; have B5 := B3.below k3; have B6 := B4.below k3; have hb4 := hb3.trans (k3.mono hb3.size); clear HSL1; have t0 := B5.cell 0; have t1 := B5.cell 1; have t2 := B5.cell 2; have t3 := B5.cell 3; have t4 := B5.cell 4; have t5 := B5.cell 5; have t6 := B5.cell 6; simp at t0 t1 t2 t3 t4 t5 t6; have u0 := B6.cell 0; have u1 := B6.cell 1; have u2 := B6.cell 2; have u3 := B6.cell 3; have u4 := B6.cell 4; have u5 := B6.cell 5; have u6 := B6.cell 6; simp at u0 u1 u2 u3 u4 u5 u6)
            | (go_at_call 25; refine (HSE1.out _ hb4).mono ?_; rintro e w4 ⟨rfl, k4⟩; have hb5 := hb4.trans (k4.mono hb4.size); clear HSE1))
          exact ⟨⟨i + 1, by go_num, by omega, hb.trans (hb5.mono hb.size)⟩, by simp [intOf]; omega⟩
      · have hie : i = len := by omega
        subst hie
        go_wp2_with fail
        go_ret
        exact ⟨rfl, hb⟩
theorem insSame_any {d : Nat} {ls : List Ins} {x y : Option Addr} {len cap cap2 : Nat} {w : World} (hok : okL d ls = true) (hx : InsIn w x len cap ls) (hy : InsIn w y len cap2 ls) :
    Calls Tryz.prog 25 #[.slice x len cap, .slice y len cap2] w fun e w' => e = .returned (.bool true) ∧ Below w.heap.size w w' := insSame_all _ d ls x y len cap cap2 w (Nat.lt_succ_self _) hok hx hy
end Go.Proofs.YtekonefnniaheaaGreat
set_option linter.unusedVariables false
namespace Go.Proofs.YtekonefnniaheaaGreat
open Go.RowKit Go.Deep

theorem RowsIn.at {α : Type} [Inhabited α] {sz : Nat} {one : World → Nat → Nat → α → Prop} {w : World} {x : Option Addr} {len cap : Nat} {ts : List α} (h : RowsIn sz one w x len cap ts) {i : Nat} (hi : i < len) :
    ∃ b off, x = some ⟨b, off, none⟩ ∧ one w b (off + i * sz) (ts.getD i default) := by
  rcases h.lie with h0 | ⟨b, off, hx, hr⟩
  · omega
  · exact ⟨b, off, hx, hr i (by rw [← h.eq]; exact hi)⟩
set_option maxRecDepth 100000 in
set_option maxHeartbeats 400000 in
theorem sameLimits_any {x y : Option Addr} {len c1 c2 : Nat} {ts : List Lim} {w : World} (hx : RowsIn 2 limE w x len c1 ts) (hy : RowsIn 2 limE w y len c2 ts) :
    Calls Tryz.prog 71 #[.slice x len c1, .slice y len c2] w fun e w' => e = .returned (.bool true) ∧ Below w.heap.size w w' := by
  have hne : ((len : Int) != (len : Int)) = false := by simp
  have htop := hx.top
  have hle := hx.le
  have HX := Lib.hid hx
  have HY := Lib.hid hy
  clear hx hy
  go_enter Tryz.func71, Tryz.ntmps71
  go_wp2_with fail
  go_loopw [5] (fun iv wr => ∃ i : Nat, iv = .int .i64 i ∧ i ≤ len ∧ Below w.heap.size w wr) (fun iv _ => len - (intOf iv).toNat)
  case atStart => exact ⟨0, rfl, by omega, Below.refl _ _⟩
  case round =>
    obtain ⟨i, rfl, hi, hb⟩ := hrel
    by_cases hlt : i < len
    · obtain ⟨bx, ox, rfl, ⟨k1, k2⟩, _⟩ := HX.out.at hlt
      obtain ⟨by', oy, rfl, ⟨k3, k4⟩, _⟩ := HY.out.at hlt
      have g1 := (hb.cell (World.block_lt_of_cell? w _ k1)).trans k1
      have g2 := (hb.cell (World.block_lt_of_cell? w _ k2)).trans k2
      have g3 := (hb.cell (World.block_lt_of_cell? w _ k3)).trans k3
      have g4 := (hb.cell (World.block_lt_of_cell? w _ k4)).trans k4
      clear k1 k2 k3 k4
      revert g1 g2 g3 g4
      generalize ts.getD i default = t
      intro g1 g2 g3 g4
      have HB := Lib.hid hb
      go_wp2_with fail
      go_quiet (fail)
      go_wp2
      exact ⟨⟨i + 1, by go_num, by omega, below_drewN hb _⟩, by simp [intOf]; omega⟩
    · have hie : i = len := by omega
      subst hie
      go_wp2_with fail
      go_ret
      exact ⟨rfl, hb⟩
theorem IntsIn.view {w : World} {x : Option Addr} {len cap : Nat} {zs : List Int} (h : IntsIn w x len cap zs) : View w x len zs := h.lie
set_option maxHeartbeats 400000 in
set_option maxRecDepth 100000 in
theorem Same_long (a c : Option Addr) (n cap cap2 : Nat) (xs : List Int) (w : World) (hn : n ≤ 9223372036854775807) (ha : View w a n xs) (hc : View w c n xs) :
    Calls Tryz.prog 15 #[.slice a n cap, .slice c n cap2] w fun e w' => e = .returned (.bool true) ∧ Below w.heap.size w w' := by
  have HA := Lib.hid ha
  have HC := Lib.hid hc
  have hne : ((n : Int) != (n : Int)) = false := by simp
  clear ha hc
  go_enter Tryz.func15, Tryz.ntmps15
  go_wp2_with fail
  go_loopw [5] (fun i wr => ∃ k : Nat, i = .int .i64 k ∧ k ≤ n ∧ Below w.heap.size w wr) (fun i _ => n - (intOf i).toNat)
  case atStart => exact ⟨0, rfl, by omega, Below.refl _ _⟩
  case round =>
    obtain ⟨k, rfl, hk, hb⟩ := hrel
    by_cases hlt : k < n
    · obtain ⟨b, off, rfl, hca⟩ := HA.out.resolve_left (by omega)
      obtain ⟨d, off2, rfl, hcc⟩ := HC.out.resolve_left (by omega)
      have h1 := hca k hlt
      have h2 := hcc k hlt
      have g1 := (hb.cell (p := ⟨b, off + k, none⟩) (World.block_lt_of_cell? w _ h1)).trans h1
      have g2 := (hb.cell (p := ⟨d, off2 + k, none⟩) (World.block_lt_of_cell? w _ h2)).trans h2
      clear hca hcc h1 h2
      revert g1 g2
      generalize xs.getD k 0 = z
      intro g1 g2
      go_wp2_with fail
      go_quiet (fail)
      go_wp2
      exact ⟨⟨k + 1, by go_num, by omega, below_drewN hb _⟩, by simp [intOf]; omega⟩
    · have hke : k = n := by omega
      subst hke
      go_wp2_with fail
      go_ret
      exact ⟨rfl, hb⟩
theorem IntsIn.same {x y : Option Addr} {len c1 c2 : Nat} {ts : List Int} {w : World} (hx : IntsIn w x len c1 ts) (hy : IntsIn w y len c2 ts) (w' : World) (hb : Below w.heap.size w w') :
    Calls Tryz.prog 15 #[.slice x len c1, .slice y len c2] w' fun e w2 => e = .returned (.bool true) ∧ Below w'.heap.size w' w2 :=
  Same_long x y len c1 c2 ts w' (Nat.le_trans hx.le hx.top) (hx.view.below hb) (hy.view.below hb)
set_option maxRecDepth 100000 in
set_option maxHeartbeats 4000000 in
theorem SameTypes_any {x y : Option Addr} {len c1 c2 : Nat} {ts : List FT} {w : World} (hx : RowsIn 2 ftE w x len c1 ts) (hy : RowsIn 2 ftE w y len c2 ts) :
    Calls Tryz.prog 22 #[.slice x len c1, .slice y len c2] w fun e w' => e = .returned (.bool true) ∧ Below w.heap.size w w' := by
  have hne : ((len : Int) != (len : Int)) = false := by simp
  have htop := hx.top
  have hle := hx.le
  have HX := Lib.hid hx
  have HY := Lib.hid hy
  clear hx hy
  go_enter Tryz.func22, Tryz.ntmps22
  go_wp2_with fail
  go_loopw [5] (fun iv wr => ∃ i : Nat, iv = .int .i64 i ∧ i ≤ len ∧ Below w.heap.size w wr) (fun iv _ => len - (intOf iv).toNat)
  case atStart => exact ⟨0, rfl, by omega, Below.refl _ _⟩
  case round =>
    obtain ⟨i, rfl, hi, hb⟩ := hrel
    by_cases hlt : i < len
    · obtain ⟨bx, ox, rfl, xp, cp, xr, cr, ⟨k1, k2⟩, ip, ir⟩ := HX.out.at hlt
      obtain ⟨by', oy, rfl, yp, dp, yr, dr, ⟨k3, k4⟩, jp, jr⟩ := HY.out.at hlt
      revert k1 k2 k3 k4 ip ir jp jr
      generalize ts.getD i default = t
      intro k1 k2 ip ir k3 k4 jp jr
      have HC : Hid (∀ w', Below w.heap.size w w' → w'.cell? ⟨bx, ox + i * 2, none⟩ = some (.slice xp t.p.length cp) ∧ w'.cell? ⟨bx, ox + i * 2 + 1, none⟩ = some (.slice xr t.r.length cr) ∧ w'.cell? ⟨by', oy + i * 2, none⟩ = some (.slice yp t.p.length dp) ∧ w'.cell? ⟨by', oy + i * 2 + 1, none⟩ = some (.slice yr t.r.length dr)) :=
        Lib.hid fun w' h => ⟨below_cell h k1, below_cell h k2, below_cell h k3, below_cell h k4⟩
      have HP := Lib.hid (ip.same jp)
      have HR := Lib.hid (ir.same jr)
      have hb1 := hb.drew
      have D0 := Lib.hid (HC.out _ hb1)
      have HB0 := Lib.hid hb
      clear k1 k2 k3 k4 ip ir jp jr hb
      go_wp2_with fail
      go_region_held3 (fun w' => w'.cell? ⟨bx, ox + i * 2, none⟩ = some (.slice xp t.p.length cp) ∧ w'.cell? ⟨bx, ox + i * 2 + 1, none⟩ = some (.slice xr t.r.length cr) ∧ w'.cell? ⟨by', oy + i * 2, none⟩ = some (.slice yp t.p.length dp) ∧ w'.cell? ⟨by', oy + i * 2 + 1, none⟩ = some (.slice yr t.r.length dr))
        (first | exact D0.out | exact D1.out | exact D2.out)
        (first
          | (go_at_call 15; refine (HP.out _ hb1).mono ?_; rintro e w1 ⟨rfl, q1⟩; have hb2 := hb1.trans (q1.mono hb1.size); have D1 := Lib.hid (HC.out _ hb2); clear HP q1)
          | (go_at_call 15; refine (HR.out _ hb2).mono ?_; rintro e w2 ⟨rfl, q2⟩; have hb3 := hb2.trans (q2.mono hb2.size); have D2 := Lib.hid (HC.out _ hb3); clear HR q2))
      all_goals
        go_wp2_with fail
        exact ⟨⟨i + 1, by go_num, by omega, hb3⟩, by simp [intOf]; omega⟩
    · have hie : i = len := by omega
      subst hie
      go_wp2_with fail
      go_ret
      exact ⟨rfl, hb⟩
end Go.Proofs.YtekonefnniaheaaGreat
set_option linter.unusedVariables false
namespace Go.Proofs.YtekonefnniaheaaGreat
open Go.RowKit Go.Deep

section
variable {w w' : World} {b o : Nat}
theorem RowsIn.to {α : Type} [Inhabited α] {sz : Nat} {one : World → Nat → Nat → α → Prop} {x : Option Addr} {len cap : Nat} {ts : List α} (h : RowsIn sz one w x len cap ts) (f : ∀ b o t, one w b o t → one w' b o t) : RowsIn sz one w' x len cap ts :=
  ⟨h.eq, h.le, h.top, h.lie.imp id fun ⟨b, off, e, k⟩ => ⟨b, off, e, fun i hi => f _ _ _ (k i hi)⟩⟩
theorem InsV.below {c : Ins} {xn : Option Addr} {nc : Nat} {xl : Option Addr} {lc : Nat} {xe : Option Addr} {ec : Nat} (h : InsV w c xn nc xl lc xe ec) (hb : Below w.heap.size w w') : InsV w' c xn nc xl lc xe ec := ⟨h.n.below hb, h.nle, h.l.below hb, h.e.below hb⟩
theorem insC_below {c : Ins} {xn : Option Addr} {nc : Nat} {xl : Option Addr} {lc : Nat} {xe : Option Addr} {ec : Nat} (hb : Below w.heap.size w w') (h : insC w b o c xn nc xl lc xe ec) : insC w' b o c xn nc xl lc xe ec := by
  obtain ⟨h0, h1, h2, h3, h4, h5, h6⟩ := h
  exact ⟨below_cell hb h0, below_cell hb h1, below_cell hb h2, below_cell hb h3, below_cell hb h4, below_cell hb h5, below_cell hb h6⟩
theorem limE_below (hb : Below w.heap.size w w') (t : Lim) (h : limE w b o t) : limE w' b o t := ⟨⟨below_cell hb h.1.1, below_cell hb h.1.2⟩, h.2⟩
theorem ftE_below (hb : Below w.heap.size w w') (t : FT) (h : ftE w b o t) : ftE w' b o t := by
  obtain ⟨xp, cp, xr, cr, ⟨h0, h1⟩, h2, h3⟩ := h
  exact ⟨xp, cp, xr, cr, ⟨below_cell hb h0, below_cell hb h1⟩, h2.below hb, h3.below hb⟩
theorem impE_below (hb : Below w.heap.size w w') (t : Imp) (h : impE w b o t) : impE w' b o t := by
  obtain ⟨⟨h0, h1, h2, h3, h4, h5, h6⟩, r⟩ := h
  exact ⟨⟨below_cell hb h0, below_cell hb h1, below_cell hb h2, below_cell hb h3, below_cell hb h4, below_cell hb h5, below_cell hb h6⟩, r⟩
theorem expE_below (hb : Below w.heap.size w w') (t : Exp) (h : expE w b o t) : expE w' b o t := by
  obtain ⟨⟨h0, h1, h2⟩, r⟩ := h
  exact ⟨⟨below_cell hb h0, below_cell hb h1, below_cell hb h2⟩, r⟩
theorem gloE_below (hb : Below w.heap.size w w') (t : Glo) (h : gloE w b o t) : gloE w' b o t := by
  obtain ⟨xn, nc, xl, lc, xe, ec, ⟨h0, h1⟩, hc, hv, hw⟩ := h
  exact ⟨xn, nc, xl, lc, xe, ec, ⟨below_cell hb h0, below_cell hb h1⟩, insC_below hb hc, hv.below hb, hw⟩
theorem datE_below (hb : Below w.heap.size w w') (t : Dat) (h : datE w b o t) : datE w' b o t := by
  obtain ⟨xn, nc, xl, lc, xe, ec, ⟨h0, h1⟩, hc, hv, hw⟩ := h
  exact ⟨xn, nc, xl, lc, xe, ec, ⟨below_cell hb h0, below_cell hb h1⟩, insC_below hb hc, hv.below hb, hw⟩
theorem eleE_below (hb : Below w.heap.size w w') (t : Ele) (h : eleE w b o t) : eleE w' b o t := by
  obtain ⟨xn, nc, xl, lc, xe, ec, xf, cf, ⟨h0, h1⟩, hc, hv, hw, hf, hr⟩ := h
  exact ⟨xn, nc, xl, lc, xe, ec, xf, cf, ⟨below_cell hb h0, below_cell hb h1⟩, insC_below hb hc, hv.below hb, hw, hf.below hb, hr⟩
theorem codE_below (hb : Below w.heap.size w w') (t : Cod) (h : codE w b o t) : codE w' b o t := by
  obtain ⟨xs, cs, xl, cl, ⟨h0, h1⟩, hi, hl, r⟩ := h
  exact ⟨xs, cs, xl, cl, ⟨below_cell hb h0, below_cell hb h1⟩, hi.below hb, hl.below hb, r⟩
theorem MdlIn.below {m : Mdl} {xT : Option Addr} {cT : Nat} {xI : Option Addr} {cI : Nat} {xF : Option Addr} {cF : Nat} {xB : Option Addr} {cB : Nat} {xM : Option Addr} {cM : Nat} {xG : Option Addr} {cG : Nat} {xX : Option Addr} {cX : Nat} {xE : Option Addr} {cE : Nat} {xC : Option Addr} {cC : Nat} {xD : Option Addr} {cD : Nat}
    (h : MdlIn w m xT cT xI cI xF cF xB cB xM cM xG cG xX cX xE cE xC cC xD cD) (hb : Below w.heap.size w w') : MdlIn w' m xT cT xI cI xF cF xB cB xM cM xG cG xX cX xE cE xC cC xD cD :=
  ⟨h.hT.to fun _ _ t => ftE_below hb t, h.hI.to fun _ _ t => impE_below hb t, h.hF.below hb, h.hB.to fun _ _ t => limE_below hb t, h.hM.to fun _ _ t => limE_below hb t, h.hG.to fun _ _ t => gloE_below hb t, h.hX.to fun _ _ t => expE_below hb t, h.hE.to fun _ _ t => eleE_below hb t, h.hC.to fun _ _ t => codE_below hb t, h.hD.to fun _ _ t => datE_below hb t, h.hS⟩
end
set_option maxRecDepth 100000 in
set_option maxHeartbeats 4000000 in
theorem sameInstr_any {d : Nat} (c : Ins) (xn : Option Addr) (nc : Nat) (xl : Option Addr) (lc : Nat) (xe : Option Addr) (ec : Nat) (yn : Option Addr) (nd : Nat) (yl : Option Addr) (ld : Nat) (ye : Option Addr) (ed : Nat) (w : World) (hok : okL d [c] = true) (hx : InsV w c xn nc xl lc xe ec) (hy : InsV w c yn nd yl ld ye ed) :
    Calls Tryz.prog 24 #[.agg #[.int .i64 c.op, .int .i64 c.a, .int .i64 c.b, .int .i64 c.m, .slice xn c.n.length nc, .slice xl c.l.length lc, .slice xe c.e.length ec], .agg #[.int .i64 c.op, .int .i64 c.a, .int .i64 c.b, .int .i64 c.m, .slice yn c.n.length nd, .slice yl c.l.length ld, .slice ye c.e.length ed]] w fun e w' => e = .returned (.bool true) ∧ Below w.heap.size w w' := by
  have b1 := BlkAt.new w #[.int .i64 c.op, .int .i64 c.a, .int .i64 c.b, .int .i64 c.m, .slice xn c.n.length nc, .slice xl c.l.length lc, .slice xe c.e.length ec] 50
  have hs1 : (w.alloc (.cells #[.int .i64 c.op, .int .i64 c.a, .int .i64 c.b, .int .i64 c.m, .slice xn c.n.length nc, .slice xl c.l.length lc, .slice xe c.e.length ec] 50)).heap.size = w.heap.size + 1 := by simp
  have bb1 := (Below.refl w.heap.size w).alloc (Nat.le_refl _) (.cells #[.int .i64 c.op, .int .i64 c.a, .int .i64 c.b, .int .i64 c.m, .slice xn c.n.length nc, .slice xl c.l.length lc, .slice xe c.e.length ec] 50)
  revert b1 hs1 bb1
  generalize hw1 : w.alloc (.cells #[.int .i64 c.op, .int .i64 c.a, .int .i64 c.b, .int .i64 c.m, .slice xn c.n.length nc, .slice xl c.l.length lc, .slice xe c.e.length ec] 50) = w1
  intro b1 hs1 bb1
  have b2 := BlkAt.new w1 #[.int .i64 c.op, .int .i64 c.a, .int .i64 c.b, .int .i64 c.m, .slice yn c.n.length nd, .slice yl c.l.length ld, .slice ye c.e.length ed] 50
  have hs2 : (w1.alloc (.cells #[.int .i64 c.op, .int .i64 c.a, .int .i64 c.b, .int .i64 c.m, .slice yn c.n.length nd, .slice yl c.l.length ld, .slice ye c.e.length ed] 50)).heap.size = w1.heap.size + 1 := by simp
  have bb2 := (Below.refl w1.heap.size w1).alloc (Nat.le_refl _) (.cells #[.int .i64 c.op, .int .i64 c.a, .int .i64 c.b, .int .i64 c.m, .slice yn c.n.length nd, .slice yl c.l.length ld, .slice ye c.e.length ed] 50)
  revert b2 hs2 bb2
  generalize hw2 : w1.alloc (.cells #[.int .i64 c.op, .int .i64 c.a, .int .i64 c.b, .int .i64 c.m, .slice yn c.n.length nd, .slice yl c.l.length ld, .slice ye c.e.length ed] 50) = w2
  intro b2 hs2 bb2
  have b3 := BlkAt.new w2 #[.int .i64 c.op, .int .i64 c.a, .int .i64 c.b, .int .i64 c.m, .slice xn c.n.length nc, .slice xl c.l.length lc, .slice xe c.e.length ec] 50
  have hs3 : (w2.alloc (.cells #[.int .i64 c.op, .int .i64 c.a, .int .i64 c.b, .int .i64 c.m, .slice xn c.n.length nc, .slice xl c.l.length lc, .slice xe c.e.length ec] 50)).heap.size = w2.heap.size + 1 := by simp
  have bb3 := (Below.refl w2.heap.size w2).alloc (Nat.le_refl _) (.cells #[.int .i64 c.op, .int .i64 c.a, .int .i64 c.b, .int .i64 c.m, .slice xn c.n.length nc, .slice xl c.l.length lc, .slice xe c.e.length ec] 50)
  revert b3 hs3 bb3
  generalize hw3 : w2.alloc (.cells #[.int .i64 c.op, .int .i64 c.a, .int .i64 c.b, .int .i64 c.m, .slice xn c.n.length nc, .slice xl c.l.length lc, .slice xe c.e.length ec] 50) = w3
  intro b3 hs3 bb3
  have b4 := BlkAt.new w3 #[.int .i64 c.op, .int .i64 c.a, .int .i64 c.b, .int .i64 c.m, .slice yn c.n.length nd, .slice yl c.l.length ld, .slice ye c.e.length ed] 50
  have bb4 := (Below.refl w3.heap.size w3).alloc (Nat.le_refl _) (.cells #[.int .i64 c.op, .int .i64 c.a, .int .i64 c.b, .int .i64 c.m, .slice yn c.n.length nd, .slice yl c.l.length ld, .slice ye c.e.length ed] 50)
  revert b4 bb4
  generalize hw4 : w3.alloc (.cells #[.int .i64 c.op, .int .i64 c.a, .int .i64 c.b, .int .i64 c.m, .slice yn c.n.length nd, .slice yl c.l.length ld, .slice ye c.e.length ed] 50) = w4
  intro b4 bb4
  have B13 := bb1.trans ((bb2.trans (bb3.mono (by omega))).mono (by omega))
  have B14 : Below w.heap.size w w4 := B13.trans (bb4.mono (by omega))
  obtain ⟨c0, c1, c2, c3, c4, c5, c6⟩ := (b1.below bb2).seven'
  obtain ⟨d0, d1, d2, d3, d4, d5, d6⟩ := (b2.below bb3).seven'
  have HI := hx.lies B14 (b3.below bb4)
  have HJ := hy.lies B14 b4
  have HR := insSame_any hok HI HJ
  rw [hs3, hs2, hs1] at HR
  rw [hs1] at d0 d1 d2 d3 d4 d5 d6
  have hs2' : w2.heap.size = w.heap.size + 1 + 1 := by rw [hs2, hs1]
  clear hok hx hy HI HJ b1 b2 b3 b4 bb1 bb2 bb3 bb4 B13 hs1 hs2 hs3
  have HB := Lib.hid B14
  clear B14
  subst hw1 hw2
  subst hw3 hw4
  replace HR := Lib.hid HR
  clear hs2'
  go_enter Tryz.func24, Tryz.ntmps24
  go_wp2_with (go_at_call 25; refine HR.out.mono ?_; rintro e wz ⟨rfl, kz⟩)
  go_ret
  exact ⟨rfl, HB.out.trans (kz.mono HB.out.size)⟩
end Go.Proofs.YtekonefnniaheaaGreat
