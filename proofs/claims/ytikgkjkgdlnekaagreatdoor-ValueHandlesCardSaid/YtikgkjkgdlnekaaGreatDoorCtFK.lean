/- ctype F to K -/
import Derived.Test.YtikgkjkgdlnekaaGreatDoorCtAD
/- ctype: the project's look at a type: (*counter).may, Check. -/
set_option linter.unusedVariables false
set_option linter.unusedSimpArgs false
namespace Go.Proofs.YtikgkjkgdlnekaaGreatDoor
open Go.RowKit
open Lex Ct

/-- A type, as a struct that leans on these blocks alone. -/
structure TyP (P : Nat → Prop) (w : World) (t : Ty) (an : Option Addr) (cn : Nat) (al : Option Addr) (cl : Nat) : Prop where
  n : LiesU P w (strsU t.names) (.slice an t.names.length cn)
  l : LiesU P w (tysU t.l) (.slice al t.l.length cl)
theorem TyP.any {P : Nat → Prop} {w : World} {t : Ty} {an : Option Addr} {cn : Nat} {al : Option Addr} {cl : Nat} (h : TyP P w t an cn al cl) : TyAt w t an cn al cl := ⟨h.n.wide, h.l.wide⟩
theorem TyAt.now {w : World} {t : Ty} {an : Option Addr} {cn : Nat} {al : Option Addr} {cl : Nat} (h : TyAt w t an cn al cl) : TyP (· < w.heap.size) w t an cn al cl := ⟨h.n.now, h.l.now⟩
theorem TyP.past {B : Nat} {F : Nat → Prop} {w w' : World} {t : Ty} {an : Option Addr} {cn : Nat} {al : Option Addr} {cl : Nat} (h : TyP (· < B) w t an cn al cl) (k : Kept F w w') (hf : ∀ i, F i → B ≤ i) : TyP (· < B) w' t an cn al cl := ⟨h.n.past k hf, h.l.past k hf⟩
/-- What lies at a place of a row of types. -/
theorem row_in {P : Nat → Prop} {w : World} {l : List Ty} {a : Option Addr} {cap : Nat} (h : LiesU P w (tysU l) (.slice a l.length cap)) {i : Nat} {x : Ty} (hx : l[i]? = some x) :
    ∃ g o an cn al cl, a = some ⟨g, o, none⟩ ∧ P g ∧ g < w.heap.size ∧ TyP P w x an cn al cl ∧ w.cell? ⟨g, o + i * 4, none⟩ = some (.int .i64 x.kind) ∧ w.cell? ⟨g, o + i * 4 + 1, none⟩ = some (.slice an x.names.length cn) ∧ w.cell? ⟨g, o + i * 4 + 2, none⟩ = some (.slice al x.l.length cl) ∧ w.cell? ⟨g, o + i * 4 + 3, none⟩ = some (.int .i64 x.r) := by
  unfold LiesU at h
  obtain ⟨a', cap', vs, hv, hc, hcm, hlen, hlv, hg⟩ := h
  obtain ⟨rfl, _, rfl⟩ : a = a' ∧ l.length = l.length ∧ cap = cap' := by simpa using hv
  have hi := (List.getElem?_eq_some_iff.1 hx).1
  rcases hg with hg | ⟨g, o, rfl, hp, hgl, hcl⟩
  · omega
  · rw [encTys_flat] at hlv
    have hrow := row_at (enc := encTy) encTy_length hlv hx
    have hcs := hcl.sub (i * 4) 4
    generalize (vs.drop (i * 4)).take 4 = us at hrow hcs
    cases x with
    | mk k n l r =>
      unfold encTy at hrow
      obtain ⟨v0, t0, rfl, h0, h⟩ := hrow.inv
      obtain ⟨v1, t1, rfl, h1, h⟩ := h.inv
      obtain ⟨v2, t2, rfl, h2, h⟩ := h.inv
      obtain ⟨v3, t3, rfl, h3, h⟩ := h.inv
      have e := h.inv_nil
      obtain ⟨an, cn, e1⟩ := lies_slice h1
      obtain ⟨al, cl, e2⟩ := lies_slice h2
      subst e e1 e2
      rw [h0.int, h3.int] at hcs
      exact ⟨g, o, an, cn, al, cl, rfl, hp, hgl, ⟨h1, h2⟩, hcs 0 _ rfl, hcs 1 _ rfl, hcs 2 _ rfl, hcs 3 _ rfl⟩
theorem row_bound {P : Nat → Prop} {w : World} {l : List Ty} {a : Option Addr} {cap : Nat} (h : LiesU P w (tysU l) (.slice a l.length cap)) : l.length ≤ cap ∧ cap ≤ 9223372036854775807 := by
  unfold LiesU at h
  obtain ⟨a', cap', vs, hv, hc, hcm, _⟩ := h
  obtain ⟨rfl, _, rfl⟩ : a = a' ∧ l.length = l.length ∧ cap = cap' := by simpa using hv
  exact ⟨hc, hcm⟩
/-- What a look at a type leaves in the counter's block. -/
def MayR (o : Option Nat) (b : Nat) (w : World) (y : Ending) (w' : World) : Prop :=
  match o with
  | none => y = .returned (.bool false) ∧ (∃ z, BlkAt w' b #[.int .i64 z] 76) ∧ Kept (· = b) w w'
  | some c => y = .returned (.bool true) ∧ BlkAt w' b #[.int .i64 (c : Nat)] 76 ∧ Kept (· = b) w w'
def MayAt (k : Nat) : Prop := ∀ (b : Nat) (t : Ty) (an : Option Addr) (cn : Nat) (al : Option Addr) (cl c : Nat) (w : World), TyP (· < b) w t an cn al cl → FineT t → BlkAt w b #[.int .i64 (c : Nat)] 76 → c ≤ 500 →
  Calls Tryz.prog 47 #[.pointer (some ⟨b, 0, none⟩), tyV t an cn al cl, .int .i64 (16 - k : Int)] w (MayR (mayK k t c) b w)
theorem mayK_le {k : Nat} {t : Ty} {c d : Nat} (h : mayK k t c = some d) : d ≤ 500 := by
  rw [mayK_eq] at h
  split at h
  · cases h; omega
  · cases h
set_option maxRecDepth 100000 in
set_option maxHeartbeats 4000000 in
theorem may_over (D : Int) (b : Nat) (t : Ty) (an : Option Addr) (cn : Nat) (al : Option Addr) (cl c : Nat) (w : World) (hb : BlkAt w b #[.int .i64 (c : Nat)] 76) (hc : c ≤ 500) (h : 500 < c + 1 ∨ (c + 1 ≤ 500 ∧ 16 ≤ D)) :
    Calls Tryz.prog 47 #[.pointer (some ⟨b, 0, none⟩), tyV t an cn al cl, .int .i64 D] w (MayR none b w) := by
  unfold MayR
  have kb : Kept (· = b) w (w.alloc (.cells #[.int .i64 t.kind, .slice an t.names.length cn, .slice al t.l.length cl, .int .i64 t.r] 25)) := (Kept.refl _ _).new _
  have B0 := hb.kept (F := fun _ => False) ((Kept.refl _ _).new (.cells #[.int .i64 t.kind, .slice an t.names.length cn, .slice al t.l.length cl, .int .i64 t.r] 25)) id
  have m0 := B0.cell 0
  have z0 := B0.frozen 0
  have B1 := B0.put 0 (.int .i64 ((c : Int) + 1))
  have m1 := B1.cell 0
  simp at m0 m1
  have kb1 := kb.set (p := ⟨b, 0, none⟩) rfl (.int .i64 ((c : Int) + 1))
  rcases h with h | ⟨h, hD⟩
  · have h5 : decide ((c : Int) + 1 > 500) = true := by simp; omega
    have HB := Lib.hid B1
    have HK := Lib.hid kb1
    clear hb kb B0 B1 kb1
    go_enter Tryz.func47, Tryz.ntmps47
    go_wp2_with fail
    go_ret
    exact ⟨rfl, ⟨_, HB.out⟩, HK.out⟩
  · have h5 : decide ((c : Int) + 1 > 500) = false := by simp; omega
    have h6 : decide (D ≥ 16) = true := by simp; omega
    have HB := Lib.hid B1
    have HK := Lib.hid kb1
    clear hb kb B0 B1 kb1
    go_enter Tryz.func47, Tryz.ntmps47
    go_wp2_with fail
    go_ret
    exact ⟨rfl, ⟨_, HB.out⟩, HK.out⟩
end Go.Proofs.YtikgkjkgdlnekaaGreatDoor

/- ctype: the project's look at a type, one level of it; Check. -/
set_option linter.unusedVariables false
set_option linter.unusedSimpArgs false
namespace Go.Proofs.YtikgkjkgdlnekaaGreatDoor
open Go.RowKit
open Lex Ct

theorem boxT_cells {w : World} {b : Nat} {t : Ty} {an : Option Addr} {cn : Nat} {al : Option Addr} {cl : Nat} (h : BlkAt w b #[.int .i64 t.kind, .slice an t.names.length cn, .slice al t.l.length cl, .int .i64 t.r] 25) :
    w.cell? ⟨b, 0, none⟩ = some (.int .i64 t.kind) ∧ w.cell? ⟨b, 1, none⟩ = some (.slice an t.names.length cn) ∧ w.cell? ⟨b, 2, none⟩ = some (.slice al t.l.length cl) ∧ w.cell? ⟨b, 3, none⟩ = some (.int .i64 t.r) :=
  ⟨h.cell 0, h.cell 1, h.cell 2, h.cell 3⟩
theorem mayAll_nil {f : Ty → Nat → Option Nat} {mn : Bool} {l : List Ty} {i c : Nat} (h : l.length ≤ i) : mayAll f mn (l.drop i) c = some c := by
  rw [List.drop_eq_nil_of_le h]
  rfl
theorem mayAll_skip {f : Ty → Nat → Option Nat} {mn : Bool} {l : List Ty} {i c : Nat} {x : Ty} (hx : l[i]? = some x) (h : (mn && isNone x) = true) : mayAll f mn (l.drop i) c = mayAll f mn (l.drop (i + 1)) c := by
  obtain ⟨hi, rfl⟩ := List.getElem?_eq_some_iff.1 hx
  rw [List.drop_eq_getElem_cons hi, mayAll, if_pos h]
theorem mayAll_stop {f : Ty → Nat → Option Nat} {mn : Bool} {l : List Ty} {i c : Nat} {x : Ty} (hx : l[i]? = some x) (h : (mn && isNone x) = false) (hf : f x c = none) : mayAll f mn (l.drop i) c = none := by
  obtain ⟨hi, rfl⟩ := List.getElem?_eq_some_iff.1 hx
  rw [List.drop_eq_getElem_cons hi, mayAll, if_neg (by rw [h]; decide), hf]
theorem mayAll_go {f : Ty → Nat → Option Nat} {mn : Bool} {l : List Ty} {i c d : Nat} {x : Ty} (hx : l[i]? = some x) (h : (mn && isNone x) = false) (hf : f x c = some d) : mayAll f mn (l.drop i) c = mayAll f mn (l.drop (i + 1)) d := by
  obtain ⟨hi, rfl⟩ := List.getElem?_eq_some_iff.1 hx
  rw [List.drop_eq_getElem_cons hi, mayAll, if_neg (by rw [h]; decide), hf]
set_option maxRecDepth 100000 in
set_option maxHeartbeats 8000000 in
theorem may_succ {k : Nat} (hk : k + 1 ≤ 16) (IH : MayAt k) : MayAt (k + 1) := by
  intro b t an cn al cl c w ht hf hb hc
  have hD0 : (16 - ((k + 1 : Nat) : Int)) < 16 := by omega
  have hDl : 0 ≤ (16 - ((k + 1 : Nat) : Int)) := by omega
  have hDw : (16 - (k : Int)) = (16 - ((k + 1 : Nat) : Int)) + 1 := by omega
  have HI : Hid (∀ (x : Ty) (an : Option Addr) (cn : Nat) (al : Option Addr) (cl c : Nat) (w : World), TyP (· < b) w x an cn al cl → FineT x → BlkAt w b #[.int .i64 (c : Nat)] 76 → c ≤ 500 →
      Calls Tryz.prog 47 #[.pointer (some ⟨b, 0, none⟩), tyV x an cn al cl, .int .i64 (16 - ((k + 1 : Nat) : Int) + 1)] w (MayR (mayK k x c) b w)) := Lib.hid fun x an cn al cl c w h1 h2 h3 h4 => by
    rw [← hDw]
    exact IH b x an cn al cl c w h1 h2 h3 h4
  clear IH hDw
  revert HI
  generalize (16 - ((k + 1 : Nat) : Int)) = D at hD0 hDl
  intro HI
  by_cases h500 : 500 < c + 1
  · have e : mayK (k + 1) t c = none := by unfold mayK; rw [if_pos h500]
    rw [e]
    exact may_over D b t an cn al cl c w hb hc (.inl h500)
  · have e0 : mayK (k + 1) t c = if shapedB t = false then none else if difL t.names = false then none else mayAll (mayK k) (orN t.kind) t.l (c + 1) := by
      rw [mayK, if_neg h500]
    rw [e0]
    have kb : Kept (· = b) w (w.alloc (.cells #[.int .i64 t.kind, .slice an t.names.length cn, .slice al t.l.length cl, .int .i64 t.r] 25)) := (Kept.refl _ _).new _
    have hblt := hb.lt
    have B0 := hb.kept (F := fun _ => False) ((Kept.refl _ _).new (.cells #[.int .i64 t.kind, .slice an t.names.length cn, .slice al t.l.length cl, .int .i64 t.r] 25)) id
    have T0 := BlkAt.new w #[.int .i64 t.kind, .slice an t.names.length cn, .slice al t.l.length cl, .int .i64 t.r] 25
    have T1 := T0.other (b' := b) (by omega) 0 (.int .i64 ((c : Int) + 1))
    have m0 := B0.cell 0
    have z0 := B0.frozen 0
    have B1 := B0.put 0 (.int .i64 ((c : Int) + 1))
    have m1 := B1.cell 0
    simp at m0 m1
    have kb1 := kb.set (p := ⟨b, 0, none⟩) rfl (.int .i64 ((c : Int) + 1))
    have h5 : decide ((c : Int) + 1 > 500) = false := by simp; omega
    have h6 : decide (D ≥ 16) = false := by simp; omega
    have hT := Lib.hid T1
    have HB := Lib.hid B1
    have HK := Lib.hid kb1
    obtain ⟨t0, t1, t2, t3⟩ := boxT_cells T1
    have HS := Lib.hid (fun w => rdShaped t an cn al cl w)
    have hty := ht.past HK.out (fun i e => by omega)
    have HN : Hid (∀ w' F, Kept F w w' → (∀ i, F i → b ≤ i) → Calls Tryz.prog 67 #[.slice an t.names.length cn] w' fun y w'' => y = .returned (.bool (difL t.names)) ∧ Kept (fun _ => False) w' w'') := Lib.hid fun w' F kk hF => rdDiffer t.names an cn w' (ht.past kk hF).any.nms hf.names
    have hbd := row_bound ht.l
    have hlen : (t.l.length : Int) ≤ 9223372036854775807 := by omega
    have HTL := Lib.hid ht
    have HF := Lib.hid hf
    clear hb kb B0 T0 T1 B1 kb1 hty ht hf hbd e0 hblt
    cases hs : shapedB t
    · rw [if_pos rfl]
      rw [hs] at HS
      unfold MayR
      clear hs
      go_enter Tryz.func47, Tryz.ntmps47
      go_wp2_with (first
        | (go_at_call 66; refine (HS.out _).mono ?_; rintro y w1 ⟨rfl, k1⟩))
      go_ret
      exact ⟨rfl, ⟨_, HB.out.kept k1 id⟩, HK.out.trans k1.any⟩
    · rw [if_neg (by decide)]
      rw [hs] at HS
      clear hs
      cases hn : difL t.names
      · rw [if_pos rfl]
        rw [hn] at HN
        unfold MayR
        clear hn
        go_enter Tryz.func47, Tryz.ntmps47
        go_wp2_with (first
          | (go_at_call 67; refine (HN.out _ (· = b) (HK.out.trans k1.any) (fun i e => by omega)).mono ?_; rintro y w2 ⟨rfl, k2⟩)
          | (go_at_call 66; refine (HS.out _).mono ?_; rintro y w1 ⟨rfl, k1⟩; have T2 := hT.out.kept k1 id; obtain ⟨u0, u1, u2, u3⟩ := boxT_cells T2; clear t0 t1 t2 t3 HS))
        go_ret
        exact ⟨rfl, ⟨_, (HB.out.kept k1 id).kept k2 id⟩, (HK.out.trans k1.any).trans k2.any⟩
      · rw [if_neg (by decide)]
        rw [hn] at HN
        clear hn
        obtain ⟨R, hR⟩ : ∃ R, R = mayAll (mayK k) (orN t.kind) t.l (c + 1) := ⟨_, rfl⟩
        rw [← hR]
        have HR := Lib.hid hR
        have hmn : ∃ mn : Bool, orN t.kind = mn ∧ (((t.kind == 15) = true ∧ mn = true) ∨ ((t.kind == 15) = false ∧ (t.kind == 18) = true ∧ mn = true) ∨ ((t.kind == 15) = false ∧ (t.kind == 18) = false ∧ mn = false)) := by
          refine ⟨_, rfl, ?_⟩
          unfold orN
          cases (t.kind == 15) <;> cases (t.kind == 18) <;> simp
        obtain ⟨mn, hmn1, hmn⟩ := hmn
        rw [hmn1] at HR
        clear hR hmn1
        rcases hmn with ⟨q1, q3⟩ | ⟨q1, q2, q3⟩ | ⟨q1, q2, q3⟩
        all_goals
          have HM := Lib.hid q3
          clear q3
          go_enter Tryz.func47, Tryz.ntmps47
          go_wp2_with (first
            | (go_at_call 67; refine (HN.out _ (· = b) (HK.out.trans k1.any) (fun i e => by omega)).mono ?_; rintro y w2 ⟨rfl, k2⟩; have T3 := T2.kept k2 id; obtain ⟨v0, v1, v2, v3⟩ := boxT_cells T3; clear u0 u1 u2 u3 HN)
            | (go_at_call 66; refine (HS.out _).mono ?_; rintro y w1 ⟨rfl, k1⟩; have T2 := hT.out.kept k1 id; obtain ⟨u0, u1, u2, u3⟩ := boxT_cells T2; clear t0 t1 t2 t3 HS))
          have HK2 := Lib.hid ((HK.out.trans k1.any).trans k2.any)
          have HB2 := Lib.hid ((HB.out.kept k1 id).kept k2 id)
          clear v0 v1 v2 v3 T2 T3 k1 k2 hT HB HK m0 m1 z0
          go_loopw [48] (fun v wr => ∃ i ci : Nat, v = .int .i64 i ∧ i ≤ t.l.length ∧ ci ≤ 500 ∧ Hid (Kept (· = b) w wr ∧ BlkAt wr b #[.int .i64 (ci : Nat)] 76 ∧ R = mayAll (mayK k) mn (t.l.drop i) ci)) (fun v _ => t.l.length - (intOf v).toNat)
          case atStart => exact ⟨0, c + 1, rfl, Nat.zero_le _, by omega, Lib.hid ⟨HK2.out, HB2.out, HR.out⟩⟩
          case round =>
            clear HK2 HB2
            obtain ⟨i, ci, rfl, hi, hci, hst⟩ := hrel
            by_cases hlt : i < t.l.length
            · obtain ⟨x, hx⟩ : ∃ x, t.l[i]? = some x := ⟨_, List.getElem?_eq_getElem hlt⟩
              obtain ⟨g, o, ax, cx, ay, cy, rfl, _, hgl, htx, c0, c1, c2, c3⟩ := row_in (HTL.out.l.past hst.out.1 (fun i e => by omega)) hx
              have hxm : x ∈ t.l := List.mem_of_getElem? hx
              have kx : Kept (fun _ => False) wr (wr.alloc (.cells #[.int .i64 x.kind, .slice ax x.names.length cx, .slice ay x.l.length cy, .int .i64 x.r] 25)) := (Kept.refl _ _).new _
              have HKX := Lib.hid kx
              have BX := BlkAt.new wr #[.int .i64 x.kind, .slice ax x.names.length cx, .slice ay x.l.length cy, .int .i64 x.r] 25
              have HX : Hid (∀ w', Kept (fun _ => False) wr w' → Calls Tryz.prog 47 #[.pointer (some ⟨b, 0, none⟩), tyV x ax cx ay cy, .int .i64 (D + 1)] w' (MayR (mayK k x ci) b w')) := Lib.hid fun w' k' =>
                HI.out x ax cx ay cy ci w' (htx.past k' (fun _ e => e.elim)) (HF.out.l x hxm) (hst.out.2.1.kept k' id) hci
              have HNx := Lib.hid (fun w => rdNone x ax cx ay cy w)
              have HSK := Lib.hid (fun h => mayAll_skip (f := mayK k) (mn := mn) (c := ci) hx h)
              have HST := Lib.hid (fun h h2 => mayAll_stop (f := mayK k) (mn := mn) (c := ci) hx h h2)
              have HGO := Lib.hid (fun d h h2 => mayAll_go (f := mayK k) (mn := mn) (c := ci) (d := d) hx h h2)
              have hltI : ((i : Int) < (t.l.length : Int)) = True := by simp; omega
              clear hx hxm htx kx hgl
              cases hsk : (mn && isNone x)
              · have hnx : mn = true → isNone x = false := fun e => by rw [e] at hsk; exact hsk
                have HNO := Lib.hid hnx
                have HSKP := Lib.hid hsk
                clear hnx hsk
                try (have hnx2 := HNO.out HM.out; rw [hnx2] at HNx; clear hnx2)
                cases hmx : mayK k x ci with
                | none =>
                  rw [hmx] at HX
                  unfold MayR at HX
                  have HRN : Hid (R = none) := Lib.hid (by rw [hst.out.2.2]; exact HST.out HSKP.out hmx)
                  clear hmx
                  go_wp2_with (first
                    | (go_at_call 47; refine (HX.out _ (by first | exact (HKX.out.trans k1) | exact HKX.out)).mono ?_; rintro y w2 ⟨rfl, hb2, k2⟩)
                    | (go_at_call 68; refine (HNx.out _).mono ?_; rintro y w1 ⟨rfl, k1⟩; have B1 := BX.kept (F := fun _ => False) k1 id; obtain ⟨t0, t1, t2, t3⟩ := boxT_cells B1; clear HNx BX))
                  go_ret
                  rw [HRN.out]
                  exact ⟨rfl, hb2, by first | exact hst.out.1.trans ((HKX.out.trans k1).any.trans k2) | exact hst.out.1.trans (HKX.out.any.trans k2)⟩
                | some d =>
                  rw [hmx] at HX
                  unfold MayR at HX
                  have HRN : Hid (R = mayAll (mayK k) mn (t.l.drop (i + 1)) d) := Lib.hid (by rw [hst.out.2.2]; exact HGO.out d HSKP.out hmx)
                  have hd5 := mayK_le hmx
                  clear hmx
                  go_wp2_with (first
                    | (go_at_call 47; refine (HX.out _ (by first | exact (HKX.out.trans k1) | exact HKX.out)).mono ?_; rintro y w2 ⟨rfl, hb2, k2⟩)
                    | (go_at_call 68; refine (HNx.out _).mono ?_; rintro y w1 ⟨rfl, k1⟩; have B1 := BX.kept (F := fun _ => False) k1 id; obtain ⟨t0, t1, t2, t3⟩ := boxT_cells B1; clear HNx BX))
                  exact ⟨⟨i + 1, d, by go_num, by omega, hd5, Lib.hid ⟨by first | exact hst.out.1.trans ((HKX.out.trans k1).any.trans k2) | exact hst.out.1.trans (HKX.out.any.trans k2), hb2, HRN.out⟩⟩, by simp [intOf]; omega⟩
              · first
                | (exfalso; have e := HM.out; rw [e] at hsk; cases hsk)
                | skip
                  have hnx : isNone x = true := by simp at hsk; exact hsk.2
                  rw [hnx] at HNx
                  have HRN : Hid (R = mayAll (mayK k) mn (t.l.drop (i + 1)) ci) := Lib.hid (by rw [hst.out.2.2]; exact HSK.out hsk)
                  clear hnx hsk
                  go_wp2_with (first
                    | (go_at_call 68; refine (HNx.out _).mono ?_; rintro y w1 ⟨rfl, k1⟩))
                  exact ⟨⟨i + 1, ci, by go_num, by omega, hci, Lib.hid ⟨hst.out.1.trans (HKX.out.trans k1).any, (hst.out.2.1.kept HKX.out id).kept k1 id, HRN.out⟩⟩, by simp [intOf]; omega⟩
            · have hie : i = t.l.length := by omega
              have HRN : Hid (R = some ci) := Lib.hid (by rw [hst.out.2.2]; exact mayAll_nil (by omega))
              subst hie
              clear hlt
              go_wp2_with fail
              go_ret
              rw [HRN.out]
              exact ⟨rfl, hst.out.2.1, hst.out.1⟩
theorem may_all : ∀ k, k ≤ 16 → MayAt k
  | 0, _ => by
    intro b t an cn al cl c w ht hf hb hc
    have e : mayK 0 t c = none := rfl
    rw [e]
    exact may_over (16 - ((0 : Nat) : Int)) b t an cn al cl c w hb hc (by omega)
  | k + 1, h => may_succ h (may_all k (by omega))
set_option maxRecDepth 100000 in
set_option maxHeartbeats 4000000 in
/-- CHECK. -/
theorem rdCheck (t : Ty) (an : Option Addr) (cn : Nat) (al : Option Addr) (cl : Nat) (w : World) (h : TyAt w t an cn al cl) (hf : FineT t) :
    Calls Tryz.prog 30 #[tyV t an cn al cl] w fun y w' => y = .returned (.int .i64 (if okT t = true then 0 else 1)) ∧ Kept (fun _ => False) w w' := by
  have k0 : Kept (fun _ => False) w (w.alloc (.cells #[.int .i64 t.kind, .slice an t.names.length cn, .slice al t.l.length cl, .int .i64 t.r] 25)) := (Kept.refl _ _).new _
  have k1 := k0.new (.cells #[.int .i64 0] 76)
  have HX : Hid (∀ w', Kept (fun _ => False) w w' → ∀ b, w.heap.size ≤ b → BlkAt w' b #[.int .i64 0] 76 → Calls Tryz.prog 47 #[.pointer (some ⟨b, 0, none⟩), tyV t an cn al cl, .int .i64 0] w' (MayR (mayK 16 t 0) b w')) := Lib.hid fun w' k' b hb h0 =>
    may_all 16 (Nat.le_refl _) b t an cn al cl 0 w' ⟨LiesU.next (fun _ _ _ => rfl) (Nat.le_refl _) (fun _ hk _ => by omega) ((h.now.past k' (fun _ e => e.elim)).n), LiesU.next (fun _ _ _ => rfl) (Nat.le_refl _) (fun _ hk _ => by omega) ((h.now.past k' (fun _ e => e.elim)).l)⟩ hf h0 (by omega)
  have HB := BlkAt.new (w.alloc (.cells #[.int .i64 t.kind, .slice an t.names.length cn, .slice al t.l.length cl, .int .i64 t.r] 25)) #[.int .i64 0] 76
  rw [World.size_alloc] at HB
  have HB2 := Lib.hid HB
  have HK1 := Lib.hid k1
  clear HB k0 k1
  have hok : okT t = (mayK 16 t 0).isSome := rfl
  rw [hok]
  clear h hf hok
  cases hm : mayK 16 t 0 with
  | none =>
    rw [hm] at HX
    unfold MayR at HX
    clear hm
    show Calls _ _ _ _ fun y w' => y = .returned (.int .i64 1) ∧ _
    go_enter Tryz.func30, Tryz.ntmps30
    go_wp2_with (first
      | (go_at_call 47; refine (HX.out _ HK1.out (w.heap.size + 1) (by omega) HB2.out).mono ?_; rintro y w2 ⟨rfl, hb2, k2⟩))
    go_ret
    exact ⟨rfl, (HK1.out.any.trans k2).clear (fun i hi e => by omega)⟩
  | some d =>
    rw [hm] at HX
    unfold MayR at HX
    clear hm
    show Calls _ _ _ _ fun y w' => y = .returned (.int .i64 0) ∧ _
    go_enter Tryz.func30, Tryz.ntmps30
    go_wp2_with (first
      | (go_at_call 47; refine (HX.out _ HK1.out (w.heap.size + 1) (by omega) HB2.out).mono ?_; rintro y w2 ⟨rfl, hb2, k2⟩))
    go_ret
    exact ⟨rfl, (HK1.out.any.trans k2).clear (fun i hi e => by omega)⟩
end Go.Proofs.YtikgkjkgdlnekaaGreatDoor

/- ctype: the reference's look at a type: deep, parts, May. -/
set_option linter.unusedVariables false
set_option linter.unusedSimpArgs false
namespace Go.Proofs.YtikgkjkgdlnekaaGreatDoor
open Go.RowKit
open Lex Ct

def DeepAt (k : Nat) : Prop := ∀ (t : Ty) (an : Option Addr) (cn : Nat) (al : Option Addr) (cl : Nat) (w : World), TyAt w t an cn al cl → FineT t →
  Calls Tryz.prog 34 #[tyV t an cn al cl, .int .i64 (16 - k : Int)] w fun y w' => y = .returned (.bool (deepK k t)) ∧ Kept (fun _ => False) w w'
theorem all_step {F : Ty → Bool} {l : List Ty} {i : Nat} {x : Ty} (hx : l[i]? = some x) : (l.drop i).all F = (F x && (l.drop (i + 1)).all F) := by
  obtain ⟨hi, rfl⟩ := List.getElem?_eq_some_iff.1 hx
  rw [List.drop_eq_getElem_cons hi, List.all_cons]
set_option maxRecDepth 100000 in
set_option maxHeartbeats 8000000 in
theorem deep_zero : DeepAt 0 := by
  intro t an cn al cl w h hf
  show Calls _ _ #[_, .int .i64 16] _ fun y w' => y = .returned (.bool false) ∧ _
  go_enter Tryz.func34, Tryz.ntmps34
  go_wp2_with fail
  go_ret
  exact ⟨rfl, (Kept.refl _ w).new _⟩
set_option maxRecDepth 100000 in
set_option maxHeartbeats 8000000 in
theorem deep_succ {k : Nat} (hk : k + 1 ≤ 16) (IH : DeepAt k) : DeepAt (k + 1) := by
  intro t an cn al cl w ht hf
  have hD0 : (16 - ((k + 1 : Nat) : Int)) < 16 := by omega
  have hDl : 0 ≤ (16 - ((k + 1 : Nat) : Int)) := by omega
  have hDw : (16 - (k : Int)) = (16 - ((k + 1 : Nat) : Int)) + 1 := by omega
  have HI : Hid (∀ (x : Ty) (an : Option Addr) (cn : Nat) (al : Option Addr) (cl : Nat) (w : World), TyAt w x an cn al cl → FineT x →
      Calls Tryz.prog 34 #[tyV x an cn al cl, .int .i64 (16 - ((k + 1 : Nat) : Int) + 1)] w fun y w' => y = .returned (.bool (deepK k x)) ∧ Kept (fun _ => False) w w') := Lib.hid fun x an cn al cl w h1 h2 => by
    rw [← hDw]
    exact IH x an cn al cl w h1 h2
  clear IH hDw
  revert HI
  generalize (16 - ((k + 1 : Nat) : Int)) = D at hD0 hDl
  intro HI
  have h6 : decide (D ≥ 16) = false := by simp; omega
  have k0 : Kept (fun _ => False) w (w.alloc (.cells #[.int .i64 t.kind, .slice an t.names.length cn, .slice al t.l.length cl, .int .i64 t.r] 25)) := (Kept.refl _ _).new _
  have T0 := BlkAt.new w #[.int .i64 t.kind, .slice an t.names.length cn, .slice al t.l.length cl, .int .i64 t.r] 25
  have HO : Hid (∀ w', Kept (fun _ => False) w w' → Calls Tryz.prog 60 #[tyV t an cn al cl] w' fun y w'' => y = .returned (.bool (shapedB t && difL t.names)) ∧ Kept (fun _ => False) w' w'') := Lib.hid fun w' k' => rdOwn t an cn al cl w' (ht.kept k') hf
  have hbd := ht.row.bound
  have hlen : (t.l.length : Int) ≤ 9223372036854775807 := by omega
  have HTL := Lib.hid ht
  have HF := Lib.hid hf
  have HK0 := Lib.hid k0
  have HT0 := Lib.hid T0
  clear ht hf hbd k0 T0
  have he : deepK (k + 1) t = ((shapedB t && difL t.names) && t.l.all fun x => (orN t.kind && isNone x) || deepK k x) := rfl
  rw [he]
  clear he
  revert HO
  generalize (shapedB t && difL t.names) = ob
  intro HO
  cases ob
  · rw [Bool.false_and]
    go_enter Tryz.func34, Tryz.ntmps34
    go_wp2_with (first
      | (go_at_call 60; refine (HO.out _ HK0.out).mono ?_; rintro y w1 ⟨rfl, k1⟩))
    go_ret
    exact ⟨rfl, HK0.out.trans k1⟩
  · rw [Bool.true_and]
    obtain ⟨R, hR⟩ : ∃ R, R = t.l.all fun x => (orN t.kind && isNone x) || deepK k x := ⟨_, rfl⟩
    rw [← hR]
    have HR := Lib.hid hR
    have hmn : ∃ mn : Bool, orN t.kind = mn ∧ (((t.kind == 15) = true ∧ mn = true) ∨ ((t.kind == 15) = false ∧ (t.kind == 18) = true ∧ mn = true) ∨ ((t.kind == 15) = false ∧ (t.kind == 18) = false ∧ mn = false)) := by
      refine ⟨_, rfl, ?_⟩
      unfold orN
      cases (t.kind == 15) <;> cases (t.kind == 18) <;> simp
    obtain ⟨mn, hmn1, hmn⟩ := hmn
    rw [hmn1] at HR
    clear hR hmn1
    rcases hmn with ⟨q1, q3⟩ | ⟨q1, q2, q3⟩ | ⟨q1, q2, q3⟩
    all_goals
      have HM := Lib.hid q3
      clear q3
      go_enter Tryz.func34, Tryz.ntmps34
      go_wp2_with (first
        | (go_at_call 60; refine (HO.out _ HK0.out).mono ?_; rintro y w1 ⟨rfl, k1⟩; have HK1 := Lib.hid (HK0.out.trans k1); have HT1 := Lib.hid (HT0.out.kept (F := fun _ => False) k1 id); clear HO HK0 HT0 k1))
      go_loopw [5] (fun v wr => ∃ i : Nat, v = .int .i64 i ∧ i ≤ t.l.length ∧ Hid (Kept (fun _ => False) w wr ∧ BlkAt wr w.heap.size #[.int .i64 t.kind, .slice an t.names.length cn, .slice al t.l.length cl, .int .i64 t.r] 25 ∧ R = (t.l.drop i).all fun x => (mn && isNone x) || deepK k x)) (fun v _ => t.l.length - (intOf v).toNat)
      case atStart => exact ⟨0, rfl, Nat.zero_le _, Lib.hid ⟨HK1.out, HT1.out, HR.out⟩⟩
      case round =>
        clear HK1 HT1
        obtain ⟨i, rfl, hi, hst⟩ := hrel
        obtain ⟨t0, t1, t2, t3⟩ := boxT_cells hst.out.2.1
        by_cases hlt : i < t.l.length
        · obtain ⟨x, hx⟩ : ∃ x, t.l[i]? = some x := ⟨_, List.getElem?_eq_getElem hlt⟩
          obtain ⟨g, o, ax, cx, ay, cy, rfl, hgl, htx, c0, c1, c2, c3⟩ := (HTL.out.kept hst.out.1).row.at hx
          have hxm : x ∈ t.l := List.mem_of_getElem? hx
          have HX : Hid (∀ w', Kept (fun _ => False) wr w' → Calls Tryz.prog 34 #[tyV x ax cx ay cy, .int .i64 (D + 1)] w' fun y w'' => y = .returned (.bool (deepK k x)) ∧ Kept (fun _ => False) w' w'') := Lib.hid fun w' k' => HI.out x ax cx ay cy w' (htx.kept k') (HF.out.l x hxm)
          have HNx := Lib.hid (fun w => rdRefNone x ax cx ay cy w)
          have HAL := Lib.hid (all_step (F := fun x => (mn && isNone x) || deepK k x) hx)
          have hltI : ((i : Int) < (t.l.length : Int)) = True := by simp; omega
          have HCL : Hid (∀ w', Kept (fun _ => False) wr w' → w'.cell? ⟨g, o + i * 4, none⟩ = some (.int .i64 x.kind) ∧ w'.cell? ⟨g, o + i * 4 + 1, none⟩ = some (.slice ax x.names.length cx) ∧ w'.cell? ⟨g, o + i * 4 + 2, none⟩ = some (.slice ay x.l.length cy) ∧ w'.cell? ⟨g, o + i * 4 + 3, none⟩ = some (.int .i64 x.r)) := Lib.hid fun w' k' => by
            have hb := k'.block g hgl id
            exact ⟨(cell_of hb).trans c0, (cell_of hb).trans c1, (cell_of hb).trans c2, (cell_of hb).trans c3⟩
          clear hx hxm htx hgl
          cases hsk : (mn && isNone x)
          · have hnx : mn = true → isNone x = false := fun e => by rw [e] at hsk; exact hsk
            have HNO := Lib.hid hnx
            have HSKP := Lib.hid hsk
            clear hnx hsk
            try (have hnx2 := HNO.out HM.out; rw [hnx2] at HNx; clear hnx2)
            cases hmx : deepK k x
            · rw [hmx] at HX
              have HRN : Hid (R = false) := Lib.hid (by rw [hst.out.2.2, HAL.out, HSKP.out, hmx]; rfl)
              clear hmx
              go_wp2_with (first
                | (go_at_call 34; refine (HX.out _ (by first | exact k1 | exact Kept.refl _ _)).mono ?_; rintro y w2 ⟨rfl, k2⟩)
                | (go_at_call 61; refine (HNx.out _).mono ?_; rintro y w1 ⟨rfl, k1⟩; have B1 := hst.out.2.1.kept (F := fun _ => False) k1 id; obtain ⟨u0, u1, u2, u3⟩ := boxT_cells B1; obtain ⟨d0, d1, d2, d3⟩ := HCL.out _ k1; clear HNx))
              go_ret
              rw [HRN.out]
              exact ⟨rfl, by first | exact hst.out.1.trans (k1.trans k2) | exact hst.out.1.trans k2⟩
            · rw [hmx] at HX
              have HRN : Hid (R = (t.l.drop (i + 1)).all fun x => (mn && isNone x) || deepK k x) := Lib.hid (by rw [hst.out.2.2, HAL.out, HSKP.out, hmx]; rfl)
              clear hmx
              go_wp2_with (first
                | (go_at_call 34; refine (HX.out _ (by first | exact k1 | exact Kept.refl _ _)).mono ?_; rintro y w2 ⟨rfl, k2⟩)
                | (go_at_call 61; refine (HNx.out _).mono ?_; rintro y w1 ⟨rfl, k1⟩; have B1 := hst.out.2.1.kept (F := fun _ => False) k1 id; obtain ⟨u0, u1, u2, u3⟩ := boxT_cells B1; obtain ⟨d0, d1, d2, d3⟩ := HCL.out _ k1; clear HNx))
              exact ⟨⟨i + 1, by go_num, by omega, Lib.hid ⟨by first | exact hst.out.1.trans (k1.trans k2) | exact hst.out.1.trans k2, by first | exact (hst.out.2.1.kept k1 id).kept k2 id | exact hst.out.2.1.kept k2 id, HRN.out⟩⟩, by simp [intOf]; omega⟩
          · first
            | (exfalso; have e := HM.out; rw [e] at hsk; cases hsk)
            | skip
              have hnx : isNone x = true := by simp at hsk; exact hsk.2
              rw [hnx] at HNx
              have HRN : Hid (R = (t.l.drop (i + 1)).all fun x => (mn && isNone x) || deepK k x) := Lib.hid (by rw [hst.out.2.2, HAL.out, hsk]; rfl)
              clear hnx hsk
              go_wp2_with (first
                | (go_at_call 61; refine (HNx.out _).mono ?_; rintro y w1 ⟨rfl, k1⟩))
              exact ⟨⟨i + 1, by go_num, by omega, Lib.hid ⟨hst.out.1.trans k1, hst.out.2.1.kept k1 id, HRN.out⟩⟩, by simp [intOf]; omega⟩
        · have hie : i = t.l.length := by omega
          have HRN : Hid (R = true) := Lib.hid (by rw [hst.out.2.2, List.drop_eq_nil_of_le (by omega)]; rfl)
          subst hie
          clear hlt
          go_wp2_with fail
          go_ret
          rw [HRN.out]
          exact ⟨rfl, hst.out.1⟩
theorem deep_all : ∀ k, k ≤ 16 → DeepAt k
  | 0, _ => deep_zero
  | k + 1, h => deep_succ h (deep_all k (by omega))
end Go.Proofs.YtikgkjkgdlnekaaGreatDoor

/- ctype: the reference's count, and May. -/
set_option linter.unusedVariables false
set_option linter.unusedSimpArgs false
namespace Go.Proofs.YtikgkjkgdlnekaaGreatDoor
open Go.RowKit
open Lex Ct

theorem prtL_bound {f : Ty → Nat} {B : Nat} (h : ∀ x, f x ≤ B) : ∀ (l : List Ty) (n : Nat), n ≤ 500 + B → prtL f l n ≤ 500 + B
  | [], n, hn => hn
  | x :: r, n, hn => by
    unfold prtL
    split
    · split
      · exact prtL_bound h r n hn
      · exact prtL_bound h r _ (by have := h x; omega)
    · exact hn
theorem prtK_bound : ∀ (k : Nat) (t : Ty), prtK k t ≤ 501 * k + 1
  | 0, t => by unfold prtK; omega
  | k + 1, t => by
    unfold prtK
    have := prtL_bound (f := prtK k) (B := 501 * k + 1) (prtK_bound k) t.l 1 (by omega)
    omega
theorem prt_stop {f : Ty → Nat} {l : List Ty} {i n : Nat} (h : i < l.length) (hn : 500 < n) : prtL f (l.drop i) n = n := by
  rw [List.drop_eq_getElem_cons h, prtL, if_neg (by omega)]
theorem prt_end {f : Ty → Nat} {l : List Ty} {i n : Nat} (h : l.length ≤ i) : prtL f (l.drop i) n = n := by
  rw [List.drop_eq_nil_of_le h]
  rfl
theorem prt_zero {f : Ty → Nat} {l : List Ty} {i n : Nat} {x : Ty} (hx : l[i]? = some x) (hn : n ≤ 500) (hk : x.kind = 0) : prtL f (l.drop i) n = prtL f (l.drop (i + 1)) n := by
  obtain ⟨h, rfl⟩ := List.getElem?_eq_some_iff.1 hx
  rw [List.drop_eq_getElem_cons h, prtL, if_pos hn, if_pos hk]
theorem prt_one {f : Ty → Nat} {l : List Ty} {i n : Nat} {x : Ty} (hx : l[i]? = some x) (hn : n ≤ 500) (hk : x.kind ≠ 0) : prtL f (l.drop i) n = prtL f (l.drop (i + 1)) (n + f x) := by
  obtain ⟨h, rfl⟩ := List.getElem?_eq_some_iff.1 hx
  rw [List.drop_eq_getElem_cons h, prtL, if_pos hn, if_neg hk]
theorem deep_child {k : Nat} {t x : Ty} (h : deepK (k + 1) t = true) (hx : x ∈ t.l) (hk : x.kind ≠ 0) : deepK k x = true := by
  unfold deepK at h
  simp only [Bool.and_eq_true, List.all_eq_true, Bool.or_eq_true] at h
  rcases h.2 x hx with h1 | h1
  · exact absurd (isNone_kind h1.2) hk
  · exact h1
def PrtAt (k : Nat) : Prop := ∀ (t : Ty) (an : Option Addr) (cn : Nat) (al : Option Addr) (cl : Nat) (w : World), TyAt w t an cn al cl → deepK k t = true →
  Calls Tryz.prog 35 #[tyV t an cn al cl] w fun y w' => y = .returned (.int .i64 (prtK k t : Nat)) ∧ Kept (fun _ => False) w w'
set_option maxRecDepth 100000 in
set_option maxHeartbeats 8000000 in
theorem prt_succ {k : Nat} (hk : k + 1 ≤ 16) (IH : PrtAt k) : PrtAt (k + 1) := by
  intro t an cn al cl w ht hd
  have k0 : Kept (fun _ => False) w (w.alloc (.cells #[.int .i64 t.kind, .slice an t.names.length cn, .slice al t.l.length cl, .int .i64 t.r] 25)) := (Kept.refl _ _).new _
  have T0 := BlkAt.new w #[.int .i64 t.kind, .slice an t.names.length cn, .slice al t.l.length cl, .int .i64 t.r] 25
  have hbd := ht.row.bound
  have hlen : (t.l.length : Int) ≤ 9223372036854775807 := by omega
  have hbk := prtK_bound k
  have HBK := Lib.hid hbk
  obtain ⟨R, hR⟩ : ∃ R, R = prtK (k + 1) t := ⟨_, rfl⟩
  rw [← hR]
  have HR : Hid (R = prtL (prtK k) t.l 1) := Lib.hid (by rw [hR]; rfl)
  have HTL := Lib.hid ht
  have HK0 := Lib.hid k0
  have HT0 := Lib.hid T0
  have HD := Lib.hid hd
  have HI := Lib.hid IH
  clear ht hd k0 T0 hbd hR IH hbk
  go_enter Tryz.func35, Tryz.ntmps35
  go_wp2_with fail
  go_loopw [3, 4] (fun v u wr => ∃ i n : Nat, v = .int .i64 n ∧ u = .int .i64 i ∧ i ≤ t.l.length ∧ n ≤ 9000 ∧ Hid (Kept (fun _ => False) w wr ∧ BlkAt wr w.heap.size #[.int .i64 t.kind, .slice an t.names.length cn, .slice al t.l.length cl, .int .i64 t.r] 25 ∧ R = prtL (prtK k) (t.l.drop i) n)) (fun _ u _ => t.l.length - (intOf u).toNat)
  case atStart => exact ⟨0, 1, rfl, rfl, Nat.zero_le _, by omega, Lib.hid ⟨HK0.out, HT0.out, HR.out⟩⟩
  case round =>
    clear HK0 HT0
    obtain ⟨i, n, rfl, rfl, hi, hn9, hst⟩ := hrel
    obtain ⟨t0, t1, t2, t3⟩ := boxT_cells hst.out.2.1
    by_cases hlt : i < t.l.length
    · have hltI : ((i : Int) < (t.l.length : Int)) = True := by simp; omega
      by_cases hn : n ≤ 500
      · obtain ⟨x, hx⟩ : ∃ x, t.l[i]? = some x := ⟨_, List.getElem?_eq_getElem hlt⟩
        obtain ⟨g, o, ax, cx, ay, cy, rfl, hgl, htx, c0, c1, c2, c3⟩ := (HTL.out.kept hst.out.1).row.at hx
        have hxm : x ∈ t.l := List.mem_of_getElem? hx
        have hb5 : decide ((n : Int) ≤ 500) = true := by simp; omega
        by_cases hk0 : x.kind = 0
        · have HRN : Hid (R = prtL (prtK k) (t.l.drop (i + 1)) n) := Lib.hid (by rw [hst.out.2.2, prt_zero hx hn hk0])
          have hkb : (x.kind != 0) = false := by rw [hk0]; rfl
          clear hx hxm htx hgl hk0
          go_wp2_with fail
          exact ⟨⟨i + 1, n, by first | rfl | trivial, by go_num, by omega, hn9, Lib.hid ⟨hst.out.1, hst.out.2.1, HRN.out⟩⟩, by simp [intOf]; omega⟩
        · have HRN : Hid (R = prtL (prtK k) (t.l.drop (i + 1)) (n + prtK k x)) := Lib.hid (by rw [hst.out.2.2, prt_one hx hn hk0])
          have HX : Hid (∀ w', Kept (fun _ => False) wr w' → Calls Tryz.prog 35 #[tyV x ax cx ay cy] w' fun y w'' => y = .returned (.int .i64 (prtK k x : Nat)) ∧ Kept (fun _ => False) w' w'') := Lib.hid fun w' k' => HI.out x ax cx ay cy w' (htx.kept k') (deep_child HD.out hxm hk0)
          have hkb : (x.kind != 0) = true := by simp; exact hk0
          have hpb := HBK.out x
          have hp9 : prtK k x ≤ 8000 := by omega
          clear hx hxm htx hgl hk0 hpb
          revert HRN HX hp9
          generalize prtK k x = p
          intro HRN HX hp9
          go_wp2_with (first
            | (go_at_call 35; refine (HX.out _ (Kept.refl _ _)).mono ?_; rintro y w2 ⟨rfl, k2⟩))
          exact ⟨⟨i + 1, n + p, by go_num, by go_num, by omega, by omega, Lib.hid ⟨hst.out.1.trans k2, hst.out.2.1.kept k2 id, HRN.out⟩⟩, by simp [intOf]; omega⟩
      · have hb5 : decide ((n : Int) ≤ 500) = false := by simp; omega
        have HRN : Hid (R = n) := Lib.hid (by rw [hst.out.2.2, prt_stop hlt (by omega)])
        clear hn
        go_wp2_with fail
        go_ret
        rw [HRN.out]
        exact ⟨rfl, hst.out.1⟩
    · have hie : i = t.l.length := by omega
      have HRN : Hid (R = n) := Lib.hid (by rw [hst.out.2.2, prt_end (by omega)])
      subst hie
      clear hlt
      go_wp2_with fail
      all_goals go_ret
      all_goals rw [HRN.out]
      all_goals exact ⟨rfl, hst.out.1⟩
theorem prt_all : ∀ k, k ≤ 16 → PrtAt k
  | 0, _ => fun t an cn al cl w _ hd => by cases hd
  | k + 1, h => prt_succ h (prt_all k (by omega))
set_option maxRecDepth 100000 in
set_option maxHeartbeats 4000000 in
/-- MAY. -/
theorem rdMay (t : Ty) (an : Option Addr) (cn : Nat) (al : Option Addr) (cl : Nat) (w : World) (h : TyAt w t an cn al cl) (hf : FineT t) :
    Calls Tryz.prog 19 #[tyV t an cn al cl] w fun y w' => y = .returned (.bool (okT t)) ∧ Kept (fun _ => False) w w' := by
  rw [okT_eq]
  have k0 : Kept (fun _ => False) w (w.alloc (.cells #[.int .i64 t.kind, .slice an t.names.length cn, .slice al t.l.length cl, .int .i64 t.r] 25)) := (Kept.refl _ _).new _
  have T0 := BlkAt.new w #[.int .i64 t.kind, .slice an t.names.length cn, .slice al t.l.length cl, .int .i64 t.r] 25
  have HK0 := Lib.hid k0
  have HT0 := Lib.hid T0
  have HX : Hid (∀ w', Kept (fun _ => False) w w' → Calls Tryz.prog 34 #[tyV t an cn al cl, .int .i64 0] w' fun y w'' => y = .returned (.bool (deepK 16 t)) ∧ Kept (fun _ => False) w' w'') := Lib.hid fun w' k' => deep_all 16 (Nat.le_refl _) t an cn al cl w' (h.kept k') hf
  have HP : Hid (deepK 16 t = true → ∀ w', Kept (fun _ => False) w w' → Calls Tryz.prog 35 #[tyV t an cn al cl] w' fun y w'' => y = .returned (.int .i64 (prtK 16 t : Nat)) ∧ Kept (fun _ => False) w' w'') := Lib.hid fun hd w' k' => prt_all 16 (Nat.le_refl _) t an cn al cl w' (h.kept k') hd
  unfold okR
  clear h hf k0 T0
  revert HX HP
  generalize deepK 16 t = d
  intro HX HP
  cases d
  · rw [Bool.false_and]
    go_enter Tryz.func19, Tryz.ntmps19
    go_wp2_with (first
      | (go_at_call 34; refine (HX.out _ HK0.out).mono ?_; rintro y w1 ⟨rfl, k1⟩))
    go_ret
    exact ⟨rfl, HK0.out.trans k1⟩
  · rw [Bool.true_and]
    have HP2 := Lib.hid (HP.out rfl)
    clear HP
    revert HP2
    generalize prtK 16 t = p
    intro HP2
    go_enter Tryz.func19, Tryz.ntmps19
    go_wp2_with (first
      | (go_at_call 35; refine (HP2.out _ (HK0.out.trans k1)).mono ?_; rintro y w2 ⟨rfl, k2⟩)
      | (go_at_call 34; refine (HX.out _ HK0.out).mono ?_; rintro y w1 ⟨rfl, k1⟩; have T1 := HT0.out.kept (F := fun _ => False) k1 id; obtain ⟨t0, t1, t2, t3⟩ := boxT_cells T1; clear HX))
    go_ret
    exact ⟨by first | rfl | (simp; done) | (simp; omega), (HK0.out.trans k1).trans k2⟩
end Go.Proofs.YtikgkjkgdlnekaaGreatDoor

/- ctype: a function's types: CheckSig and MaySig. -/
set_option linter.unusedVariables false
set_option linter.unusedSimpArgs false
namespace Go.Proofs.YtikgkjkgdlnekaaGreatDoor
open Go.RowKit
open Lex Ct

/-- A function's types, as a struct of these cells. -/
structure SgAt (w : World) (s : Sg) (ap : Option Addr) (cp : Nat) (aq : Option Addr) (cq : Nat) (an : Option Addr) (cn : Nat) (al : Option Addr) (cl : Nat) : Prop where
  p : NmsAt w s.p ap cp
  t : RowAt w s.t aq cq
  r : TyAt w s.r an cn al cl
theorem SgAt.kept {w w' : World} {s : Sg} {ap : Option Addr} {cp : Nat} {aq : Option Addr} {cq : Nat} {an : Option Addr} {cn : Nat} {al : Option Addr} {cl : Nat} (h : SgAt w s ap cp aq cq an cn al cl) (k : Kept (fun _ => False) w w') : SgAt w' s ap cp aq cq an cn al cl := ⟨h.p.kept k, h.t.kept k, h.r.kept k⟩
abbrev sgC (s : Sg) (ap : Option Addr) (cp : Nat) (aq : Option Addr) (cq : Nat) (an : Option Addr) (cn : Nat) (al : Option Addr) (cl : Nat) : Array Value := #[.string (strOfNums s.name), .slice ap s.p.length cp, .slice aq s.t.length cq, .int .i64 s.r.kind, .slice an s.r.names.length cn, .slice al s.r.l.length cl, .int .i64 s.r.r]
abbrev sgV (s : Sg) (ap : Option Addr) (cp : Nat) (aq : Option Addr) (cq : Nat) (an : Option Addr) (cn : Nat) (al : Option Addr) (cl : Nat) : Value := .agg (sgC s ap cp aq cq an cn al cl)
structure FineS (s : Sg) : Prop where
  p : ∀ b ∈ s.p, NmOk b
  t : ∀ t ∈ s.t, FineT t
  r : FineT s.r
theorem rdCheck_ok (t : Ty) (an : Option Addr) (cn : Nat) (al : Option Addr) (cl : Nat) (w : World) (h : TyAt w t an cn al cl) (hf : FineT t) (ho : okT t = true) :
    Calls Tryz.prog 30 #[tyV t an cn al cl] w fun y w' => y = .returned (.int .i64 0) ∧ Kept (fun _ => False) w w' := by
  have := rdCheck t an cn al cl w h hf
  rw [ho, if_pos rfl] at this
  exact this
theorem rdCheck_no (t : Ty) (an : Option Addr) (cn : Nat) (al : Option Addr) (cl : Nat) (w : World) (h : TyAt w t an cn al cl) (hf : FineT t) (ho : okT t = false) :
    Calls Tryz.prog 30 #[tyV t an cn al cl] w fun y w' => y = .returned (.int .i64 1) ∧ Kept (fun _ => False) w w' := by
  have := rdCheck t an cn al cl w h hf
  rw [ho, if_neg (by decide)] at this
  exact this
end Go.Proofs.YtikgkjkgdlnekaaGreatDoor

/- ctype: the reference's look at a function's types. -/
set_option linter.unusedVariables false
set_option linter.unusedSimpArgs false
namespace Go.Proofs.YtikgkjkgdlnekaaGreatDoor
open Go.RowKit
open Lex Ct

/-- The same, in the reference's order. -/
theorem okS_ref (s : Sg) : okS s = ((s.p.length == s.t.length && (s.p.length == 0 || (difL s.p && (decide (1 ≤ s.p.length) && decide ((s.p.length : Int) ≤ 64))))) && ((isNone s.r || okT s.r) && s.t.all okT)) := by
  unfold okS
  by_cases h0 : s.p.length = 0
  · have hp : s.p = [] := List.length_eq_zero_iff.1 h0
    rw [hp]
    rw [Bool.eq_iff_iff]
    simp
    constructor
    · rintro ⟨h1, h2, h3, h4⟩
      exact ⟨by rw [h1]; rfl, h4, h3⟩
    · rintro ⟨h1, h2, h3⟩
      exact ⟨List.length_eq_zero_iff.1 h1.symm, rfl, h3, h2⟩
  · rw [Bool.eq_iff_iff]
    simp
    constructor
    · rintro ⟨h1, h2, h3, h4, h5⟩
      exact ⟨⟨h2.symm, .inr ⟨h3, by omega, by omega⟩⟩, h5, h4⟩
    · rintro ⟨⟨h1, h2⟩, h3, h4⟩
      rcases h2 with h2 | ⟨h2, h5, h6⟩
      · rw [h2] at h0; exact absurd rfl h0
      · exact ⟨by omega, h1.symm, h2, h4, h3⟩
/-- Behind the names: what is told of the result. -/
theorem rdMay_is (t : Ty) (an : Option Addr) (cn : Nat) (al : Option Addr) (cl : Nat) (w : World) (h : TyAt w t an cn al cl) (hf : FineT t) (b : Bool) (hb : okT t = b) :
    Calls Tryz.prog 19 #[tyV t an cn al cl] w fun y w' => y = .returned (.bool b) ∧ Kept (fun _ => False) w w' := by
  subst hb
  exact rdMay t an cn al cl w h hf
end Go.Proofs.YtikgkjkgdlnekaaGreatDoor
