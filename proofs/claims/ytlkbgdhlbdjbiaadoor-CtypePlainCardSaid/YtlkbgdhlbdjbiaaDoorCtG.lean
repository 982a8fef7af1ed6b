/- ctype: the project's look at a type, one level of it; Check. -/
import Derived.Test.YtlkbgdhlbdjbiaaDoorCtF
set_option linter.unusedVariables false
set_option linter.unusedSimpArgs false
namespace Go.Proofs.YtlkbgdhlbdjbiaaDoor
open Go.RowKit
open Lex Ct

theorem boxT_cells {w : World} {b : Nat} {t : Ty} {an : Option Addr} {cn : Nat} {al : Option Addr} {cl : Nat} (h : BlkAt w b #[.int .i64 t.kind, .slice an t.names.length cn, .slice al t.l.length cl, .int .i64 t.r] 25) :
    w.cell? ⟨b, 0, none⟩ = some (.int .i64 t.kind) ∧ w.cell? ⟨b, 1, none⟩ = some (.slice an t.names.length cn) ∧ w.cell? ⟨b, 2, none⟩ = some (.slice al t.l.length cl) ∧ w.cell? ⟨b, 3, none⟩ = some (.int .i64 t.r) :=
  ⟨h.cell 0, h.cell 1, h.cell 2, h.cell 3⟩
theorem mayAll_nil {f : Ty → Nat → Option Nat} {mn : Bool} {l : List Ty} {i c : Nat} (h : l.length ≤ i) : mayAll f mn (l.drop i) c = some c := by
  rw [List.drop_eq_nil_of_le h]
  rfl
theorem mayAll_skip {f : Ty → Nat → Option Nat} {mn : Bool} {l : List Ty} {i c : Nat} {x : Ty} (hx : l[i]? = some x) (h : (mn && isNone x) = true) : mayAll f mn (l.drop i) c = mayAll f mn (l.drop (i + 1)) c := by
  obtain ⟨hi, rfl⟩ := List.getElem?_eq_some_iff.1 hx
  rw [List.drop_eq_getElem_cons hi, mayAll, if_pos h]
theorem mayAll_stop {f : Ty → Nat → Option Nat} {mn : Bool} {l : List Ty} {i c : Nat} {x : Ty} (hx : l[i]? = some x) (h : (mn && isNone x) = false) (hf : f x c = none) : mayAll f mn (l.drop i) c = none := by
  obtain ⟨hi, rfl⟩ := List.getElem?_eq_some_iff.1 hx
  rw [List.drop_eq_getElem_cons hi, mayAll, if_neg (by rw [h]; decide), hf]
theorem mayAll_go {f : Ty → Nat → Option Nat} {mn : Bool} {l : List Ty} {i c d : Nat} {x : Ty} (hx : l[i]? = some x) (h : (mn && isNone x) = false) (hf : f x c = some d) : mayAll f mn (l.drop i) c = mayAll f mn (l.drop (i + 1)) d := by
  obtain ⟨hi, rfl⟩ := List.getElem?_eq_some_iff.1 hx
  rw [List.drop_eq_getElem_cons hi, mayAll, if_neg (by rw [h]; decide), hf]
set_option maxRecDepth 100000 in
set_option maxHeartbeats 8000000 in
theorem may_succ {k : Nat} (hk : k + 1 ≤ 16) (IH : MayAt k) : MayAt (k + 1) := by
  intro b t an cn al cl c w ht hf hb hc
  have hD0 : (16 - ((k + 1 : Nat) : Int)) < 16 := by omega
  have hDl : 0 ≤ (16 - ((k + 1 : Nat) : Int)) := by omega
  have hDw : (16 - (k : Int)) = (16 - ((k + 1 : Nat) : Int)) + 1 := by omega
  have HI : Hid (∀ (x : Ty) (an : Option Addr) (cn : Nat) (al : Option Addr) (cl c : Nat) (w : World), TyP (· < b) w x an cn al cl → FineT x → BlkAt w b #[.int .i64 (c : Nat)] 58 → c ≤ 500 →
      Calls Tryd.prog 41 #[.pointer (some ⟨b, 0, none⟩), tyV x an cn al cl, .int .i64 (16 - ((k + 1 : Nat) : Int) + 1)] w (MayR (mayK k x c) b w)) := Lib.hid fun x an cn al cl c w h1 h2 h3 h4 => by
    rw [← hDw]
    exact IH b x an cn al cl c w h1 h2 h3 h4
  clear IH hDw
  revert HI
  generalize (16 - ((k + 1 : Nat) : Int)) = D at hD0 hDl
  intro HI
  by_cases h500 : 500 < c + 1
  · have e : mayK (k + 1) t c = none := by unfold mayK; rw [if_pos h500]
    rw [e]
    exact may_over D b t an cn al cl c w hb hc (.inl h500)
  · have e0 : mayK (k + 1) t c = if shapedB t = false then none else if difL t.names = false then none else mayAll (mayK k) (orN t.kind) t.l (c + 1) := by
      rw [mayK, if_neg h500]
    rw [e0]
    have kb : Kept (· = b) w (w.alloc (.cells #[.int .i64 t.kind, .slice an t.names.length cn, .slice al t.l.length cl, .int .i64 t.r] 25)) := (Kept.refl _ _).new _
    have hblt := hb.lt
    have B0 := hb.kept (F := fun _ => False) ((Kept.refl _ _).new (.cells #[.int .i64 t.kind, .slice an t.names.length cn, .slice al t.l.length cl, .int .i64 t.r] 25)) id
    have T0 := BlkAt.new w #[.int .i64 t.kind, .slice an t.names.length cn, .slice al t.l.length cl, .int .i64 t.r] 25
    have T1 := T0.other (b' := b) (by omega) 0 (.int .i64 ((c : Int) + 1))
    have m0 := B0.cell 0
    have z0 := B0.frozen 0
    have B1 := B0.put 0 (.int .i64 ((c : Int) + 1))
    have m1 := B1.cell 0
    simp at m0 m1
    have kb1 := kb.set (p := ⟨b, 0, none⟩) rfl (.int .i64 ((c : Int) + 1))
    have h5 : decide ((c : Int) + 1 > 500) = false := by simp; omega
    have h6 : decide (D ≥ 16) = false := by simp; omega
    have hT := Lib.hid T1
    have HB := Lib.hid B1
    have HK := Lib.hid kb1
    obtain ⟨t0, t1, t2, t3⟩ := boxT_cells T1
    have HS := Lib.hid (fun w => rdShaped t an cn al cl w)
    have hty := ht.past HK.out (fun i e => by omega)
    have HN : Hid (∀ w' F, Kept F w w' → (∀ i, F i → b ≤ i) → Calls Tryd.prog 53 #[.slice an t.names.length cn] w' fun y w'' => y = .returned (.bool (difL t.names)) ∧ Kept (fun _ => False) w' w'') := Lib.hid fun w' F kk hF => rdDiffer t.names an cn w' (ht.past kk hF).any.nms hf.names
    have hbd := row_bound ht.l
    have hlen : (t.l.length : Int) ≤ 9223372036854775807 := by omega
    have HTL := Lib.hid ht
    have HF := Lib.hid hf
    clear hb kb B0 T0 T1 B1 kb1 hty ht hf hbd e0 hblt
    cases hs : shapedB t
    · rw [if_pos rfl]
      rw [hs] at HS
      unfold MayR
      clear hs
      go_enter Tryd.func41, Tryd.ntmps41
      go_wp2_with (first
        | (go_at_call 52; refine (HS.out _).mono ?_; rintro y w1 ⟨rfl, k1⟩))
      go_ret
      exact ⟨rfl, ⟨_, HB.out.kept k1 id⟩, HK.out.trans k1.any⟩
    · rw [if_neg (by decide)]
      rw [hs] at HS
      clear hs
      cases hn : difL t.names
      · rw [if_pos rfl]
        rw [hn] at HN
        unfold MayR
        clear hn
        go_enter Tryd.func41, Tryd.ntmps41
        go_wp2_with (first
          | (go_at_call 53; refine (HN.out _ (· = b) (HK.out.trans k1.any) (fun i e => by omega)).mono ?_; rintro y w2 ⟨rfl, k2⟩)
          | (go_at_call 52; refine (HS.out _).mono ?_; rintro y w1 ⟨rfl, k1⟩; have T2 := hT.out.kept k1 id; obtain ⟨u0, u1, u2, u3⟩ := boxT_cells T2; clear t0 t1 t2 t3 HS))
        go_ret
        exact ⟨rfl, ⟨_, (HB.out.kept k1 id).kept k2 id⟩, (HK.out.trans k1.any).trans k2.any⟩
      · rw [if_neg (by decide)]
        rw [hn] at HN
        clear hn
        obtain ⟨R, hR⟩ : ∃ R, R = mayAll (mayK k) (orN t.kind) t.l (c + 1) := ⟨_, rfl⟩
        rw [← hR]
        have HR := Lib.hid hR
        have hmn : ∃ mn : Bool, orN t.kind = mn ∧ (((t.kind == 15) = true ∧ mn = true) ∨ ((t.kind == 15) = false ∧ (t.kind == 18) = true ∧ mn = true) ∨ ((t.kind == 15) = false ∧ (t.kind == 18) = false ∧ mn = false)) := by
          refine ⟨_, rfl, ?_⟩
          unfold orN
          cases (t.kind == 15) <;> cases (t.kind == 18) <;> simp
        obtain ⟨mn, hmn1, hmn⟩ := hmn
        rw [hmn1] at HR
        clear hR hmn1
        rcases hmn with ⟨q1, q3⟩ | ⟨q1, q2, q3⟩ | ⟨q1, q2, q3⟩
        all_goals
          have HM := Lib.hid q3
          clear q3
          go_enter Tryd.func41, Tryd.ntmps41
          go_wp2_with (first
            | (go_at_call 53; refine (HN.out _ (· = b) (HK.out.trans k1.any) (fun i e => by omega)).mono ?_; rintro y w2 ⟨rfl, k2⟩; have T3 := T2.kept k2 id; obtain ⟨v0, v1, v2, v3⟩ := boxT_cells T3; clear u0 u1 u2 u3 HN)
            | (go_at_call 52; refine (HS.out _).mono ?_; rintro y w1 ⟨rfl, k1⟩; have T2 := hT.out.kept k1 id; obtain ⟨u0, u1, u2, u3⟩ := boxT_cells T2; clear t0 t1 t2 t3 HS))
          have HK2 := Lib.hid ((HK.out.trans k1.any).trans k2.any)
          have HB2 := Lib.hid ((HB.out.kept k1 id).kept k2 id)
          clear v0 v1 v2 v3 T2 T3 k1 k2 hT HB HK m0 m1 z0
          go_loopw [48] (fun v wr => ∃ i ci : Nat, v = .int .i64 i ∧ i ≤ t.l.length ∧ ci ≤ 500 ∧ Hid (Kept (· = b) w wr ∧ BlkAt wr b #[.int .i64 (ci : Nat)] 58 ∧ R = mayAll (mayK k) mn (t.l.drop i) ci)) (fun v _ => t.l.length - (intOf v).toNat)
          case atStart => exact ⟨0, c + 1, rfl, Nat.zero_le _, by omega, Lib.hid ⟨HK2.out, HB2.out, HR.out⟩⟩
          case round =>
            clear HK2 HB2
            obtain ⟨i, ci, rfl, hi, hci, hst⟩ := hrel
            by_cases hlt : i < t.l.length
            · obtain ⟨x, hx⟩ : ∃ x, t.l[i]? = some x := ⟨_, List.getElem?_eq_getElem hlt⟩
              obtain ⟨g, o, ax, cx, ay, cy, rfl, _, hgl, htx, c0, c1, c2, c3⟩ := row_in (HTL.out.l.past hst.out.1 (fun i e => by omega)) hx
              have hxm : x ∈ t.l := List.mem_of_getElem? hx
              have kx : Kept (fun _ => False) wr (wr.alloc (.cells #[.int .i64 x.kind, .slice ax x.names.length cx, .slice ay x.l.length cy, .int .i64 x.r] 25)) := (Kept.refl _ _).new _
              have HKX := Lib.hid kx
              have BX := BlkAt.new wr #[.int .i64 x.kind, .slice ax x.names.length cx, .slice ay x.l.length cy, .int .i64 x.r] 25
              have HX : Hid (∀ w', Kept (fun _ => False) wr w' → Calls Tryd.prog 41 #[.pointer (some ⟨b, 0, none⟩), tyV x ax cx ay cy, .int .i64 (D + 1)] w' (MayR (mayK k x ci) b w')) := Lib.hid fun w' k' =>
                HI.out x ax cx ay cy ci w' (htx.past k' (fun _ e => e.elim)) (HF.out.l x hxm) (hst.out.2.1.kept k' id) hci
              have HNx := Lib.hid (fun w => rdNone x ax cx ay cy w)
              have HSK := Lib.hid (fun h => mayAll_skip (f := mayK k) (mn := mn) (c := ci) hx h)
              have HST := Lib.hid (fun h h2 => mayAll_stop (f := mayK k) (mn := mn) (c := ci) hx h h2)
              have HGO := Lib.hid (fun d h h2 => mayAll_go (f := mayK k) (mn := mn) (c := ci) (d := d) hx h h2)
              have hltI : ((i : Int) < (t.l.length : Int)) = True := by simp; omega
              clear hx hxm htx kx hgl
              cases hsk : (mn && isNone x)
              · have hnx : mn = true → isNone x = false := fun e => by rw [e] at hsk; exact hsk
                have HNO := Lib.hid hnx
                have HSKP := Lib.hid hsk
                clear hnx hsk
                try (have hnx2 := HNO.out HM.out; rw [hnx2] at HNx; clear hnx2)
                cases hmx : mayK k x ci with
                | none =>
                  rw [hmx] at HX
                  unfold MayR at HX
                  have HRN : Hid (R = none) := Lib.hid (by rw [hst.out.2.2]; exact HST.out HSKP.out hmx)
                  clear hmx
                  go_wp2_with (first
                    | (go_at_call 41; refine (HX.out _ (by first | exact (HKX.out.trans k1) | exact HKX.out)).mono ?_; rintro y w2 ⟨rfl, hb2, k2⟩)
                    | (go_at_call 54; refine (HNx.out _).mono ?_; rintro y w1 ⟨rfl, k1⟩; have B1 := BX.kept (F := fun _ => False) k1 id; obtain ⟨t0, t1, t2, t3⟩ := boxT_cells B1; clear HNx BX))
                  go_ret
                  rw [HRN.out]
                  exact ⟨rfl, hb2, by first | exact hst.out.1.trans ((HKX.out.trans k1).any.trans k2) | exact hst.out.1.trans (HKX.out.any.trans k2)⟩
                | some d =>
                  rw [hmx] at HX
                  unfold MayR at HX
                  have HRN : Hid (R = mayAll (mayK k) mn (t.l.drop (i + 1)) d) := Lib.hid (by rw [hst.out.2.2]; exact HGO.out d HSKP.out hmx)
                  have hd5 := mayK_le hmx
                  clear hmx
                  go_wp2_with (first
                    | (go_at_call 41; refine (HX.out _ (by first | exact (HKX.out.trans k1) | exact HKX.out)).mono ?_; rintro y w2 ⟨rfl, hb2, k2⟩)
                    | (go_at_call 54; refine (HNx.out _).mono ?_; rintro y w1 ⟨rfl, k1⟩; have B1 := BX.kept (F := fun _ => False) k1 id; obtain ⟨t0, t1, t2, t3⟩ := boxT_cells B1; clear HNx BX))
                  exact ⟨⟨i + 1, d, by go_num, by omega, hd5, Lib.hid ⟨by first | exact hst.out.1.trans ((HKX.out.trans k1).any.trans k2) | exact hst.out.1.trans (HKX.out.any.trans k2), hb2, HRN.out⟩⟩, by simp [intOf]; omega⟩
              · first
                | (exfalso; have e := HM.out; rw [e] at hsk; cases hsk)
                | skip
                  have hnx : isNone x = true := by simp at hsk; exact hsk.2
                  rw [hnx] at HNx
                  have HRN : Hid (R = mayAll (mayK k) mn (t.l.drop (i + 1)) ci) := Lib.hid (by rw [hst.out.2.2]; exact HSK.out hsk)
                  clear hnx hsk
                  go_wp2_with (first
                    | (go_at_call 54; refine (HNx.out _).mono ?_; rintro y w1 ⟨rfl, k1⟩))
                  exact ⟨⟨i + 1, ci, by go_num, by omega, hci, Lib.hid ⟨hst.out.1.trans (HKX.out.trans k1).any, (hst.out.2.1.kept HKX.out id).kept k1 id, HRN.out⟩⟩, by simp [intOf]; omega⟩
            · have hie : i = t.l.length := by omega
              have HRN : Hid (R = some ci) := Lib.hid (by rw [hst.out.2.2]; exact mayAll_nil (by omega))
              subst hie
              clear hlt
              go_wp2_with fail
              go_ret
              rw [HRN.out]
              exact ⟨rfl, hst.out.2.1, hst.out.1⟩
theorem may_all : ∀ k, k ≤ 16 → MayAt k
  | 0, _ => by
    intro b t an cn al cl c w ht hf hb hc
    have e : mayK 0 t c = none := rfl
    rw [e]
    exact may_over (16 - ((0 : Nat) : Int)) b t an cn al cl c w hb hc (by omega)
  | k + 1, h => may_succ h (may_all k (by omega))
set_option maxRecDepth 100000 in
set_option maxHeartbeats 4000000 in
/-- CHECK. -/
theorem rdCheck (t : Ty) (an : Option Addr) (cn : Nat) (al : Option Addr) (cl : Nat) (w : World) (h : TyAt w t an cn al cl) (hf : FineT t) :
    Calls Tryd.prog 28 #[tyV t an cn al cl] w fun y w' => y = .returned (.int .i64 (if okT t = true then 0 else 1)) ∧ Kept (fun _ => False) w w' := by
  have k0 : Kept (fun _ => False) w (w.alloc (.cells #[.int .i64 t.kind, .slice an t.names.length cn, .slice al t.l.length cl, .int .i64 t.r] 25)) := (Kept.refl _ _).new _
  have k1 := k0.new (.cells #[.int .i64 0] 58)
  have HX : Hid (∀ w', Kept (fun _ => False) w w' → ∀ b, w.heap.size ≤ b → BlkAt w' b #[.int .i64 0] 58 → Calls Tryd.prog 41 #[.pointer (some ⟨b, 0, none⟩), tyV t an cn al cl, .int .i64 0] w' (MayR (mayK 16 t 0) b w')) := Lib.hid fun w' k' b hb h0 =>
    may_all 16 (Nat.le_refl _) b t an cn al cl 0 w' ⟨LiesU.next (fun _ _ _ => rfl) (Nat.le_refl _) (fun _ hk _ => by omega) ((h.now.past k' (fun _ e => e.elim)).n), LiesU.next (fun _ _ _ => rfl) (Nat.le_refl _) (fun _ hk _ => by omega) ((h.now.past k' (fun _ e => e.elim)).l)⟩ hf h0 (by omega)
  have HB := BlkAt.new (w.alloc (.cells #[.int .i64 t.kind, .slice an t.names.length cn, .slice al t.l.length cl, .int .i64 t.r] 25)) #[.int .i64 0] 58
  rw [World.size_alloc] at HB
  have HB2 := Lib.hid HB
  have HK1 := Lib.hid k1
  clear HB k0 k1
  have hok : okT t = (mayK 16 t 0).isSome := rfl
  rw [hok]
  clear h hf hok
  cases hm : mayK 16 t 0 with
  | none =>
    rw [hm] at HX
    unfold MayR at HX
    clear hm
    show Calls _ _ _ _ fun y w' => y = .returned (.int .i64 1) ∧ _
    go_enter Tryd.func28, Tryd.ntmps28
    go_wp2_with (first
      | (go_at_call 41; refine (HX.out _ HK1.out (w.heap.size + 1) (by omega) HB2.out).mono ?_; rintro y w2 ⟨rfl, hb2, k2⟩))
    go_ret
    exact ⟨rfl, (HK1.out.any.trans k2).clear (fun i hi e => by omega)⟩
  | some d =>
    rw [hm] at HX
    unfold MayR at HX
    clear hm
    show Calls _ _ _ _ fun y w' => y = .returned (.int .i64 0) ∧ _
    go_enter Tryd.func28, Tryd.ntmps28
    go_wp2_with (first
      | (go_at_call 41; refine (HX.out _ HK1.out (w.heap.size + 1) (by omega) HB2.out).mono ?_; rintro y w2 ⟨rfl, hb2, k2⟩))
    go_ret
    exact ⟨rfl, (HK1.out.any.trans k2).clear (fun i hi e => by omega)⟩
end Go.Proofs.YtlkbgdhlbdjbiaaDoor
