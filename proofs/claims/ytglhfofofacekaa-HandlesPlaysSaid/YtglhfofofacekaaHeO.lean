/- handles: with a trap nothing is done; a copy goes its own way. -/
import Derived.Test.YtglhfofofacekaaHeL
import Derived.Test.YtglhfofofacekaaHeM
import Derived.Test.YtglhfofofacekaaHeN
import Derived.Deep.Cut
import Derived.Deep.CutRange
import Derived.Deep.DeepCutAuto
import Derived.Deep.QuietTactic
import Derived.BigQuiet
set_option linter.unusedVariables false
set_option linter.unusedSimpArgs false
namespace Go.Proofs.Ytglhfofofacekaa
open Go.RowKit

theorem aimedD_eqT (d : Dh) (T : List Hd) : aimedD d T = ⟨d.kind, d.i, (aimedD d T).r, (aimedD d T).h, d.near⟩ := by
  unfold aimedD
  split <;> rfl
theorem aimedY (d : Dh) {B : Nat} {v : Value} {T : List Hd} {w : World} (hT : Hds B v T w) (hl : T.length ≤ 256) :
    Calls Try.prog 9 #[d.v, v] w fun e w' => (∃ r' h', e = .returned (.agg #[.int .i64 d.kind, .int .i64 d.i, .int .i64 r', .int .i64 h', .bool d.near]) ∧ aimedD d T = ⟨d.kind, d.i, r', h', d.near⟩) ∧ Below w.heap.size w w' := by
  refine (aimed d hT hl).mono ?_
  rintro e w' ⟨rfl, hb⟩
  refine ⟨⟨(aimedD d T).r, (aimedD d T).h, ?_, aimedD_eqT d T⟩, hb⟩
  have := aimedD_eqT d T
  generalize (aimedD d T).r = r at this ⊢
  generalize (aimedD d T).h = h at this ⊢
  rw [this]
theorem box5K {F : Nat → Prop} {b : Nat} {w2 w3 : World} {T : TypeId} {c0 c1 c2 c3 c4 : Value} (q : BlkAt w3 b #[c0, c1, c2, c3, c4] T) (hb : Kept F w2 w3) (hn : F b) (v0 v1 v2 v3 v4 : Value) :
    BlkAt (((((w3.setCell ⟨b, 0, none⟩ v0).setCell ⟨b, 1, none⟩ v1).setCell ⟨b, 2, none⟩ v2).setCell ⟨b, 3, none⟩ v3).setCell ⟨b, 4, none⟩ v4) b #[v0, v1, v2, v3, v4] T ∧
      Kept F w2 (((((w3.setCell ⟨b, 0, none⟩ v0).setCell ⟨b, 1, none⟩ v1).setCell ⟨b, 2, none⟩ v2).setCell ⟨b, 3, none⟩ v3).setCell ⟨b, 4, none⟩ v4) :=
  ⟨((((q.put 0 v0).put 1 v1).put 2 v2).put 3 v3).put 4 v4, ((((hb.set (p := ⟨b, 0, none⟩) hn v0).set (p := ⟨b, 1, none⟩) hn v1).set (p := ⟨b, 2, none⟩) hn v2).set (p := ⟨b, 3, none⟩) hn v3).set (p := ⟨b, 4, none⟩) hn v4⟩
/-- Blocks of the first tables: from n0 on, but not the copy's. -/
def FT (n0 n1 n2 : Nat) (k : Nat) : Prop := n0 ≤ k ∧ ¬ (n1 ≤ k ∧ k < n2)

theorem traps_ready {n0 a b bx : Nat} {w1 w2 wc : World} {S : Tb} (T1 : Two n0 a w1 S 150) (W2 : TbAt (w1.heap.size ≤ ·) b w2 S) (B2 : Below w1.heap.size w1 w2) (hbx : bx < n0) (K : Kept (· = bx) w2 wc) :
    StF (FT n0 w1.heap.size w2.heap.size) a wc S 150 ∧ TbAt (fun k => w1.heap.size ≤ k ∧ k < w2.heap.size) b wc S := by
  obtain ⟨H, h1⟩ := T1.st.at'
  obtain ⟨J, h2⟩ := W2
  have hs := T1.st.size
  have hs2 := B2.size
  have hs3 := K.size
  refine ⟨⟨⟨H, ((h1.low.below B2).kept K (fun k hk e => by have := hk.1; omega)).mono (fun k hk => ⟨hk.1, fun e => by have := hk.2; omega⟩)⟩, T1.st.ok, fun k hk => ⟨by omega, fun e => by omega⟩, by omega⟩, ⟨J, h2.low.kept K (fun k hk e => by have := hk.1; omega)⟩⟩
theorem traps_beside {n0 n1 n2 b : Nat} {wc w5 : World} {S : Tb} (h : TbAt (fun k => n1 ≤ k ∧ k < n2) b wc S) (K : Kept (FT n0 n1 n2) wc w5) : TbAt (fun k => n1 ≤ k ∧ k < n2) b w5 S := h.kept K (fun k hk e => e.2 hk)
theorem TbAt.belowA {F : Nat → Prop} {a : Nat} {w w' : World} {S : Tb} (h : TbAt F a w S) (hb : Below w.heap.size w w') : TbAt F a w' S := by
  obtain ⟨H, h⟩ := h
  exact ⟨H, h.below hb⟩
theorem TbAt.clone {F : Nat → Prop} {a : Nat} {w : World} {S : Tb} (h : TbAt F a w S) {N : Nat} (ok : TbOk N S) :
    Calls Try.prog 15 #[.pointer (some ⟨a, 0, none⟩)] w fun e w' => ∃ b, e = .returned (.pointer (some ⟨b, 0, none⟩)) ∧ TbAt (w.heap.size ≤ ·) b w' S ∧ Below w.heap.size w w' := by
  obtain ⟨H, h⟩ := h
  exact h.clone ok

set_option maxRecDepth 100000 in
set_option maxHeartbeats 8000000 in
theorem HandlesTraps_walk (x : Option Addr) (len cap : Nat) (ds : List Dh) (d : Dh) (hw : wf64 d.h) (w : World) (hd : DhIn w x len cap ds) :
    Calls Try.prog 4 #[.slice x len cap, d.v] w fun e w' => e = .returned (.bool true) ∧ Below w.heap.size w w' := by
  obtain ⟨dk, di, dr, dh, dn⟩ := d
  dsimp only at hw
  have B0 : Below w.heap.size w (w.alloc (.cells #[.int .i64 dk, .int .i64 di, .int .i64 dr, .int .i64 dh, .bool dn] 34)) := (Below.refl _ w).alloc (Nat.le_refl _) _
  have HM := made x len cap ds _ (hd.below B0)
  have Q0 := Lib.hid (BlkAt.new w #[.int .i64 dk, .int .i64 di, .int .i64 dr, .int .i64 dh, .bool dn] 34)
  have HS0 : Hid ((w.alloc (.cells #[.int .i64 dk, .int .i64 di, .int .i64 dr, .int .i64 dh, .bool dn] 34)).heap.size = w.heap.size + 1) := Lib.hid (by simp)
  have HB0 := Lib.hid B0
  have HW := Lib.hid hw
  clear hd B0 hw
  go_enter Try.func4, Try.ntmps4
  generalize hw0 : (w.alloc (.cells #[.int .i64 dk, .int .i64 di, .int .i64 dr, .int .i64 dh, .bool dn] 34)) = w0 at HM Q0 HS0 HB0
  subst hw0
  go_wp2_with (first
    | (go_at_call 15; refine (H1.out.clone T1.out.st.ok).mono ?_; rintro e w2 ⟨b, rfl, t2, b2⟩; have W2 := Lib.hid t2; have B2 := Lib.hid b2; clear t2 b2)
    | (go_at_call 14; refine HM.mono ?_; rintro e w1 ⟨a, S, rfl, t1, b1⟩; have T1 := Lib.hid t1; have B1 := Lib.hid b1; obtain ⟨H, h1⟩ := t1.st.at'; have H1 := Lib.hid h1; clear t1 b1 h1))
  have X2 := Lib.hid ((Q0.out.below B1.out).below B2.out)
  have HBX : Hid (w.heap.size < (w.alloc (.cells #[.int .i64 dk, .int .i64 di, .int .i64 dr, .int .i64 dh, .bool dn] 34)).heap.size) := Lib.hid (by rw [HS0.out]; omega)
  have HK0 : Hid (Below w.heap.size w w2) := Lib.hid ((HB0.out.trans (B1.out.mono HB0.out.size)).trans (B2.out.mono (by have h1 := HB0.out.size; have h2 := B1.out.size; omega)))
  generalize (w.alloc (.cells #[.int .i64 dk, .int .i64 di, .int .i64 dr, .int .i64 dh, .bool dn] 34)) = w0 at T1 B1 H1 HBX
  have HREADY : Hid (∀ wc, Kept (· = w.heap.size) w2 wc → StF (FT w0.heap.size w1.heap.size w2.heap.size) a wc S 150 ∧ TbAt (fun k => w1.heap.size ≤ k ∧ k < w2.heap.size) b wc S) := Lib.hid (fun wc K => traps_ready T1.out W2.out B2.out HBX.out K)
  have HF0 : Hid (∀ k, FT w0.heap.size w1.heap.size w2.heap.size k → w.heap.size < k) := Lib.hid (fun k hk => by have := HBX.out; have := hk.1; omega)
  have HSW := Lib.hid (handlesS_wf T1.out.st.ok)
  have HSL := Lib.hid (fun i => (handlesS_ok T1.out.st.ok i).1)
  have HOK := Lib.hid T1.out.st.ok
  clear T1 B1 H1 W2 B2 HB0 HS0 HM Q0
  generalize w0.heap.size = n0 at HBX HREADY HF0
  generalize w1.heap.size = n1 at HREADY HF0
  have HST2 : Hid (StF (FT n0 n1 w2.heap.size) a w2.drew S 150) := Lib.hid (HREADY.out w2.drew (Kept.refl _ _).drew).1
  generalize hn2 : w2.heap.size = n2 at HREADY HF0 HST2
  have HBD : Hid (Below w2.heap.size w2 w2.drew) := Lib.hid (Below.refl _ w2).drew
  have D0 : Hid (∀ W', Below w2.heap.size w2 W' → W'.cell? ⟨w.heap.size, 0, none⟩ = some (.int .i64 dk) ∧ W'.cell? ⟨w.heap.size, 1, none⟩ = some (.int .i64 di) ∧ W'.cell? ⟨w.heap.size, 2, none⟩ = some (.int .i64 dr) ∧ W'.cell? ⟨w.heap.size, 3, none⟩ = some (.int .i64 dh) ∧ W'.cell? ⟨w.heap.size, 4, none⟩ = some (.bool dn)) := Lib.hid (fun W' hb => by
    have q := X2.out.below hb
    exact ⟨q.cell 0, q.cell 1, q.cell 2, q.cell 3, q.cell 4⟩)
  have F0 : Hid (∀ W', Below w2.heap.size w2 W' → W'.frozen? ⟨w.heap.size, 0, none⟩ = false ∧ W'.frozen? ⟨w.heap.size, 1, none⟩ = false ∧ W'.frozen? ⟨w.heap.size, 2, none⟩ = false ∧ W'.frozen? ⟨w.heap.size, 3, none⟩ = false ∧ W'.frozen? ⟨w.heap.size, 4, none⟩ = false) := Lib.hid (fun W' hb => by
    have q := X2.out.below hb
    exact ⟨q.frozen 0, q.frozen 1, q.frozen 2, q.frozen 3, q.frozen 4⟩)
  obtain ⟨x0, x1, x2, x3, x4⟩ := D0.out w2.drew (Below.refl _ w2).drew
  have HN2 := Lib.hid hn2
  clear hn2
  go_cut [3, 5, 6] (fun s3 s5 s6 wc => s3 = .pointer (some ⟨w.heap.size, 0, none⟩) ∧ s5 = .pointer (some ⟨a, 0, none⟩) ∧ s6 = .pointer (some ⟨b, 0, none⟩) ∧ Hid (∃ r' h', aimedD ⟨dk, di, dr, dh, dn⟩ (handlesS S di) = ⟨dk, di, r', h', dn⟩ ∧ BlkAt wc w.heap.size #[.int .i64 dk, .int .i64 di, .int .i64 r', .int .i64 h', .bool dn] 34 ∧ Kept (· = w.heap.size) w2 wc))
  case first =>
    go_region_with (first
      | (go_at_call 16; refine (HST2.out.handles _).mono ?_; rintro e w3 ⟨v, rfl, hv, b2⟩; have HV := Lib.hid hv; have B2 := Lib.hid (HBD.out.trans b2); clear hv b2; obtain ⟨y0, y1, y2, y3, y4⟩ := D0.out w3 B2.out)
      | (go_at_call 9; refine (aimedY ⟨dk, _, _, dh, dn⟩ HV.out (HSL.out _)).mono ?_; rintro e w4 ⟨⟨r', h', rfl, hd'⟩, b3⟩; have AD := Lib.hid hd'; have B3 := Lib.hid (B2.out.trans (b3.mono B2.out.size)); clear b3 hd'; obtain ⟨z0, z1, z2, z3, z4⟩ := D0.out w4 B3.out; obtain ⟨f0, f1, f2, f3, f4⟩ := F0.out w4 B3.out))
    all_goals
      go_wp2_with fail
      go_meet
      case rel =>
        have hb := box5K (F := (· = w.heap.size)) (X2.out.below B3.out) (Kept.of_below B3.out) rfl (.int .i64 dk) (.int .i64 di) (.int .i64 r') (.int .i64 h') (.bool dn)
        exact ⟨rfl, rfl, rfl, Lib.hid ⟨r', h', AD.out, hb.1, hb.2⟩⟩
  case rest =>
    obtain ⟨rfl, rfl, rfl, HCUT⟩ := hcut
    obtain ⟨r', h', hAD, hQ, hK⟩ := HCUT.out
    have HWF : Hid (wf64 h') := Lib.hid (by have := aimed_wf (d := ⟨dk, di, dr, dh, dn⟩) HW.out (HSW.out di); rw [hAD] at this; exact this)
    have HR2 := Lib.hid (HREADY.out wc hK).2
    have hdo := doesF (HREADY.out wc hK).1 (by decide) ⟨dk, di, r', h', dn⟩ HWF.out
    have hdc : ∀ (B c : Nat) (w7 : World), St B c w7 S 150 → _ := fun B c w7 h7 => does h7 (by decide) ⟨dk, di, r', h', dn⟩ HWF.out
    have htr := doesS_trap S ⟨dk, di, r', h', dn⟩
    obtain ⟨n5, t5, o5, S5, hds⟩ : ∃ n t o S', doesS S ⟨dk, di, r', h', dn⟩ = (n, t, o, S') := ⟨_, _, _, _, rfl⟩
    rw [hds] at hdo hdc htr
    dsimp only at hdo hdc htr
    have HDO := Lib.hid hdo
    have HDC := Lib.hid hdc
    have HKC : Hid (Below w.heap.size w wc) := Lib.hid (HK0.out.trans (hK.below HK0.out.size (fun k e => Nat.le_of_eq e.symm)))
    have q0 := hQ.cell 0
    have q1 := hQ.cell 1
    have q2 := hQ.cell 2
    have q3 := hQ.cell 3
    have q4 := hQ.cell 4
    simp at q0 q1 q2 q3 q4
    have HQ := Lib.hid hQ
    clear hdo hdc hds hQ hK hAD HCUT x0 x1 x2 x3 x4 D0 F0 HBD HST2 X2 HN2
    by_cases e1 : t5 = 0
    · subst e1
      clear htr
      go_wp2_with (first
        | (go_at_call 7; refine (awake16 _).mono ?_; rintro e w10 ⟨rfl, b10⟩; have B10 := Lib.hid (B9.out.trans (b10.mono B9.out.size)); clear b10)
        | (go_at_call 17; refine (alike_yes T8.out.at' TA8.out T8.out.ok).mono ?_; rintro e w9 ⟨rfl, b9⟩; have B9 := Lib.hid (B8.out.trans (b9.mono B8.out.size)); clear b9)
        | (go_at_call 11; refine (HDC.out _ _ _ T7.out).mono ?_; rintro e w8 ⟨rfl, t8, b8⟩; have T8 := Lib.hid t8; have B8 := Lib.hid (B7.out.trans (b8.mono B57.out)); have TA8 := Lib.hid (TA5.out.belowA (HB7.out.trans b8)); clear t8 b8)
        | (go_at_call 15; refine (W5.out.clone HOK.out).mono ?_; rintro e w7 ⟨c, rfl, t7, b7⟩; have T7 := Lib.hid (show St w5.heap.size c w7 _ 150 from ⟨t7, HOK.out, b7.size, by decide⟩); have HB7 := Lib.hid b7; have B7 := Lib.hid (B5.out.trans (b7.mono B5.out.size)); have Q7 := Lib.hid (Q5.out.below b7); clear t7 b7; have y0 := Q7.out.cell 0; have y1 := Q7.out.cell 1; have y2 := Q7.out.cell 2; have y3 := Q7.out.cell 3; have y4 := Q7.out.cell 4; simp at y0 y1 y2 y3 y4)
        | (go_at_call 11; refine HDO.out.mono ?_; rintro e w5 ⟨rfl, st5, k5⟩; have ST5 := Lib.hid st5; have W5 := Lib.hid (traps_beside HR2.out k5); have Q5 := Lib.hid (HQ.out.kept k5 (fun e => Nat.lt_irrefl _ (HF0.out _ e))); have B5 := Lib.hid (HKC.out.trans (k5.below HKC.out.size (fun k hk => Nat.le_of_lt (HF0.out k hk)))); clear st5 k5; have z0 := Q5.out.cell 0; have z1 := Q5.out.cell 1; have z2 := Q5.out.cell 2; have z3 := Q5.out.cell 3; have z4 := Q5.out.cell 4; simp at z0 z1 z2 z3 z4; have B57 : Hid (w.heap.size ≤ w5.heap.size) := Lib.hid B5.out.size; have TA5 := Lib.hid ST5.out.at'))
      go_ret
      exact ⟨rfl, B10.out⟩
    · obtain ⟨rfl, rfl, rfl⟩ := htr e1
      have e1' : (t5 != 0) = true := by simp [e1]
      clear htr e1
      go_wp2_with (first
        | (go_at_call 7; refine (awake16 _).mono ?_; rintro e w10 ⟨rfl, b10⟩; have B10 := Lib.hid (B9.out.trans (b10.mono B9.out.size)); clear b10)
        | (go_at_call 17; refine (alike_yes T8.out.at' TA8.out T8.out.ok).mono ?_; rintro e w9 ⟨rfl, b9⟩; have B9 := Lib.hid (B8.out.trans (b9.mono B8.out.size)); clear b9)
        | (go_at_call 11; refine (HDC.out _ _ _ T7.out).mono ?_; rintro e w8 ⟨rfl, t8, b8⟩; have T8 := Lib.hid t8; have B8 := Lib.hid (B7.out.trans (b8.mono B57.out)); have TA8 := Lib.hid (TA6.out.belowA (HB7.out.trans b8)); clear t8 b8)
        | (go_at_call 15; refine (W6.out.clone HOK.out).mono ?_; rintro e w7 ⟨c, rfl, t7, b7⟩; have T7 := Lib.hid (show St w6.heap.size c w7 _ 150 from ⟨t7, HOK.out, b7.size, by decide⟩); have HB7 := Lib.hid b7; have B7 := Lib.hid (B6.out.trans (b7.mono B6.out.size)); have Q7 := Lib.hid (Q6.out.below b7); clear t7 b7; have y0 := Q7.out.cell 0; have y1 := Q7.out.cell 1; have y2 := Q7.out.cell 2; have y3 := Q7.out.cell 3; have y4 := Q7.out.cell 4; simp at y0 y1 y2 y3 y4)
        | (go_at_call 17; refine (alike_yes ST5.out.at' W5.out ST5.out.ok).mono ?_; rintro e w6 ⟨rfl, b6⟩; have W6 := Lib.hid (W5.out.belowA b6); have TA6 := Lib.hid (ST5.out.at'.belowA b6); have Q6 := Lib.hid (Q5.out.below b6); have B6 := Lib.hid (B5.out.trans (b6.mono B5.out.size)); have B57 : Hid (w.heap.size ≤ w6.heap.size) := Lib.hid B6.out.size; clear b6)
        | (go_at_call 11; refine HDO.out.mono ?_; rintro e w5 ⟨rfl, st5, k5⟩; have ST5 := Lib.hid st5; have W5 := Lib.hid (traps_beside HR2.out k5); have Q5 := Lib.hid (HQ.out.kept k5 (fun e => Nat.lt_irrefl _ (HF0.out _ e))); have B5 := Lib.hid (HKC.out.trans (k5.below HKC.out.size (fun k hk => Nat.le_of_lt (HF0.out k hk)))); clear st5 k5; have z0 := Q5.out.cell 0; have z1 := Q5.out.cell 1; have z2 := Q5.out.cell 2; have z3 := Q5.out.cell 3; have z4 := Q5.out.cell 4; simp at z0 z1 z2 z3 z4))
      go_ret
      exact ⟨rfl, B10.out⟩
end Go.Proofs.Ytglhfofofacekaa
