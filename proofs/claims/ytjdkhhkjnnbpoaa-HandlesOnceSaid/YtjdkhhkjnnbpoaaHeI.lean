/- handles: what is made is owned by one handle. -/
import Derived.Test.YtjdkhhkjnnbpoaaHeH
import Derived.Deep.Cut
import Derived.Deep.CutRange
import Derived.Deep.DeepCutAuto
import Derived.Deep.QuietTactic
import Derived.BigQuiet
set_option linter.unusedVariables false
set_option linter.unusedSimpArgs false
namespace Go.Proofs.Ytjdkhhkjnnbpoaa
open Go.RowKit

theorem aimedD_eq (d : Dh) (T : List Hd) : aimedD d T = ⟨d.kind, d.i, (aimedD d T).r, (aimedD d T).h, d.near⟩ := by
  unfold aimedD
  split <;> rfl
theorem aimedX (d : Dh) {B : Nat} {v : Value} {T : List Hd} {w : World} (hT : Hds B v T w) (hl : T.length ≤ 256) :
    Calls Try.prog 14 #[d.v, v] w fun e w' => (∃ r' h', e = .returned (.agg #[.int .i64 d.kind, .int .i64 d.i, .int .i64 r', .int .i64 h', .bool d.near]) ∧ aimedD d T = ⟨d.kind, d.i, r', h', d.near⟩) ∧ Below w.heap.size w w' := by
  refine (aimed d hT hl).mono ?_
  rintro e w' ⟨rfl, hb⟩
  refine ⟨⟨(aimedD d T).r, (aimedD d T).h, ?_, aimedD_eq d T⟩, hb⟩
  have := aimedD_eq d T
  generalize (aimedD d T).r = r at this ⊢
  generalize (aimedD d T).h = h at this ⊢
  rw [this]
theorem cnt_le (T : List Hd) : cnt T ≤ T.length := List.countP_le_length
theorem ownN_le {N : Nat} {S : Tb} (ok : TbOk N S) (htl : S.tb.length = 2) : ownN S ≤ 512 := by
  have h0 := cnt_le (S.tb.getD 0 [])
  have h1 := cnt_le (S.tb.getD 1 [])
  have l0 := ok.len 0 (by omega)
  have l1 := ok.len 1 (by omega)
  unfold ownN
  omega
/-- The owned ones of the first instances. -/
def partN (S : Tb) : Nat → Nat
  | 0 => 0
  | i + 1 => partN S i + cnt (S.tb.getD i [])
theorem partN_two (S : Tb) : partN S 2 = ownN S := by simp [partN, ownN]
theorem below_drewN {n q : Nat} {a b : World} (h : Below n a b) : Below n a (b.drewN q) := ⟨h.os, h.tape, h.output, h.size, fun k hk => h.block k hk⟩
theorem partN_le {N : Nat} {S : Tb} (ok : TbOk N S) (htl : S.tb.length = 2) (i : Nat) (hi : i < 2) : partN S i ≤ 512 := by
  have h := ownN_le ok htl
  rw [← partN_two] at h
  have : i = 0 ∨ i = 1 := by omega
  rcases this with rfl | rfl
  · simp [partN]
  · simp [partN] at h ⊢
    omega
theorem rise_get {T : List Hd} (h : Rise T) {i j : Nat} (hij : i < j) (hj : j < T.length) : (T.getD i Hd.zero).h < (T.getD j Hd.zero).h := by
  have := List.pairwise_iff_getElem.1 h i j (by omega) hj hij
  simpa [List.getD_eq_getElem?_getD, List.getElem?_eq_getElem hj, List.getElem?_eq_getElem (show i < T.length by omega)] using this
theorem cnt_take (T : List Hd) (j : Nat) (h : j < T.length) : cnt (T.take (j + 1)) = cnt (T.take j) + (if (T.getD j Hd.zero).own = true then 1 else 0) := by
  rw [List.take_add_one, List.getElem?_eq_getElem h, List.getD_eq_getElem?_getD, List.getElem?_eq_getElem h]
  unfold cnt
  rw [List.countP_append]
  simp
theorem box5 {n b : Nat} {wr w3 : World} {T : TypeId} {c0 c1 c2 c3 c4 : Value} (q : BlkAt w3 b #[c0, c1, c2, c3, c4] T) (hb : Below n wr w3) (hn : n ≤ b) (v0 v1 v2 v3 v4 : Value) :
    BlkAt (((((w3.setCell ⟨b, 0, none⟩ v0).setCell ⟨b, 1, none⟩ v1).setCell ⟨b, 2, none⟩ v2).setCell ⟨b, 3, none⟩ v3).setCell ⟨b, 4, none⟩ v4) b #[v0, v1, v2, v3, v4] T ∧
      Below n wr (((((w3.setCell ⟨b, 0, none⟩ v0).setCell ⟨b, 1, none⟩ v1).setCell ⟨b, 2, none⟩ v2).setCell ⟨b, 3, none⟩ v3).setCell ⟨b, 4, none⟩ v4) :=
  ⟨((((q.put 0 v0).put 1 v1).put 2 v2).put 3 v3).put 4 v4, ((((hb.setCell (p := ⟨b, 0, none⟩) hn v0).setCell (p := ⟨b, 1, none⟩) hn v1).setCell (p := ⟨b, 2, none⟩) hn v2).setCell (p := ⟨b, 3, none⟩) hn v3).setCell (p := ⟨b, 4, none⟩) hn v4⟩
set_option maxRecDepth 100000 in
set_option maxHeartbeats 8000000 in
theorem HandlesOnce_walk (x : Option Addr) (len cap : Nat) (ds : List Dh) (w : World) (h : DhIn w x len cap ds) :
    Calls Try.prog 6 #[.slice x len cap] w fun e w' => e = .returned (.bool true) ∧ Below w.heap.size w w' := by
  have B0 : Below w.heap.size w (w.alloc (.cells #[.int .i64 0, .int .i64 1] 3)) := (Below.refl _ w).alloc (Nat.le_refl _) _
  have N0 := St.new 2 _ 2 2 [0, 1] _ (two_in w 0 1) rfl
  have HB := Lib.hid B0
  have HH := Lib.hid h
  clear B0 h
  go_enter Try.func6, Try.ntmps6
  go_wp2_with (first
    | (go_at_call 10; refine N0.mono ?_; rintro e w0 ⟨a, rfl, t0, b0⟩; have T0 := Lib.hid t0; have C0 := Lib.hid (HB.out.trans (b0.mono (show w.heap.size ≤ (w.alloc (.cells #[.int .i64 0, .int .i64 1] 3)).heap.size by simp))); clear t0 b0)
    | (go_at_call 13; refine (some16 x len cap ds _ (HH.out.below C0.out)).mono ?_; rintro e w1 ⟨⟨len', rfl, hd, h150⟩, rfl⟩; have HD := Lib.hid (show len' ≤ len by have h1 := hd.eq; have h2 := HH.out.eq; rw [List.length_take] at h1; omega); have H150 := Lib.hid h150; clear hd h150))
  have R0 : Hid (Two w.heap.size a w0 ⟨[0, 1], List.replicate (2 : Int).toNat [], []⟩ 0) := Lib.hid ⟨⟨T0.out.at'.mono (fun b hb => Nat.le_trans HB.out.size hb), T0.out.ok, C0.out.size, by omega⟩, rfl, rfl⟩
  clear N0 HB T0
  go_loopw [5, 6] (fun nv kv wr => ∃ (k : Nat) (S : Tb), kv = .int .i64 k ∧ nv = .int .i64 (ownN S : Nat) ∧ k ≤ len' ∧ Hid (Two w.heap.size a wr S k ∧ Below w.heap.size w wr)) (fun _ kv _ => len' - (intOf kv).toNat)
  case atStart => exact ⟨0, _, rfl, rfl, Nat.zero_le _, Lib.hid ⟨R0.out, C0.out⟩⟩
  case round =>
    obtain ⟨k, S, rfl, rfl, hk, HR⟩ := hrel
    by_cases hlt : k < len'
    · obtain ⟨g, o, rfl, hc⟩ := HH.out.row.resolve_left (by have := HD.out; omega)
      obtain ⟨c0, c1, c2, c3, c4⟩ := (hc k (by have := HD.out; omega)).below HR.out.2
      have HW : Hid (wf64 (ds.getD k default).h) := Lib.hid (HH.out.ok _ (mem_getD (by have := HD.out; have := HH.out.eq; omega)))
      generalize ds.getD k default = d at c0 c1 c2 c3 c4 HW
      obtain ⟨dk, di, dr, dh, dn⟩ := d
      dsimp only at c0 c1 c2 c3 c4
      have HL := Lib.hid hlt
      have HS := Lib.hid (handlesS_ok HR.out.1.st.ok)
      have HSW := Lib.hid (handlesS_wf HR.out.1.st.ok)
      clear hc hk
      go_wp2_with fail
      have HB1 : Hid (Below wr.heap.size wr (wr.alloc (.cells #[.int .i64 dk, .int .i64 (bits BinOp.and .i64 di 1), .int .i64 dr, .int .i64 dh, .bool dn] 34))) := Lib.hid ((Below.refl _ wr).alloc (Nat.le_refl _) _)
      have ST1 : Hid (St w.heap.size a (wr.alloc (.cells #[.int .i64 dk, .int .i64 (bits BinOp.and .i64 di 1), .int .i64 dr, .int .i64 dh, .bool dn] 34)).drew S k) := Lib.hid (HR.out.1.st.below ((Below.refl _ wr).alloc (Nat.le_refl _) _).drew).1
      have Q0 := BlkAt.new wr #[.int .i64 dk, .int .i64 (bits BinOp.and .i64 di 1), .int .i64 dr, .int .i64 dh, .bool dn] 34
      generalize bits BinOp.and .i64 di 1 = qi at HB1 ST1 Q0 ⊢
      generalize (wr.alloc (.cells #[.int .i64 dk, .int .i64 qi, .int .i64 dr, .int .i64 dh, .bool dn] 34)) = W1 at HB1 ST1 Q0 ⊢
      have D0 : Hid (∀ W', Below W1.heap.size W1 W' → W'.cell? ⟨wr.heap.size, 0, none⟩ = some (.int .i64 dk) ∧ W'.cell? ⟨wr.heap.size, 1, none⟩ = some (.int .i64 qi) ∧ W'.cell? ⟨wr.heap.size, 2, none⟩ = some (.int .i64 dr) ∧ W'.cell? ⟨wr.heap.size, 3, none⟩ = some (.int .i64 dh) ∧ W'.cell? ⟨wr.heap.size, 4, none⟩ = some (.bool dn)) := Lib.hid (fun W' hb => by
        have q := Q0.below hb
        exact ⟨q.cell 0, q.cell 1, q.cell 2, q.cell 3, q.cell 4⟩)
      have F0 : Hid (∀ W', Below W1.heap.size W1 W' → W'.frozen? ⟨wr.heap.size, 0, none⟩ = false ∧ W'.frozen? ⟨wr.heap.size, 1, none⟩ = false ∧ W'.frozen? ⟨wr.heap.size, 2, none⟩ = false ∧ W'.frozen? ⟨wr.heap.size, 3, none⟩ = false ∧ W'.frozen? ⟨wr.heap.size, 4, none⟩ = false) := Lib.hid (fun W' hb => by
        have q := Q0.below hb
        exact ⟨q.frozen 0, q.frozen 1, q.frozen 2, q.frozen 3, q.frozen 4⟩)
      have QQ := Lib.hid Q0
      obtain ⟨x0, x1, x2, x3, x4⟩ := D0.out W1.drew (Below.refl _ W1).drew
      have HBD : Hid (Below W1.heap.size W1 W1.drew) := Lib.hid (Below.refl _ W1).drew
      clear Q0 c0 c1 c2 c3 c4
      have HC0 : Hid (wr.heap.size < W1.heap.size) := Lib.hid QQ.out.lt
      go_cut [5, 6, 7] (fun s5 s6 s7 wc => s5 = .int .i64 (ownN S : Nat) ∧ s6 = .int .i64 k ∧ s7 = .pointer (some ⟨wr.heap.size, 0, none⟩) ∧ Hid (∃ r' h', aimedD ⟨dk, qi, dr, dh, dn⟩ (handlesS S qi) = ⟨dk, qi, r', h', dn⟩ ∧ BlkAt wc wr.heap.size #[.int .i64 dk, .int .i64 qi, .int .i64 r', .int .i64 h', .bool dn] 34 ∧ Below wr.heap.size wr wc))
      case first =>
        go_region_with (first
          | (go_at_call 21; refine (ST1.out.handles _).mono ?_; rintro e w2 ⟨v, rfl, hv, st2, b2⟩; have HV := Lib.hid hv; have B2 := Lib.hid (HBD.out.trans (b2.mono HBD.out.size)); clear hv st2 b2; obtain ⟨y0, y1, y2, y3, y4⟩ := D0.out w2 B2.out)
          | (go_at_call 14; refine (aimedX ⟨dk, _, _, dh, dn⟩ HV.out (HS.out _).1).mono ?_; rintro e w3 ⟨⟨r', h', rfl, hd'⟩, b3⟩; have AD := Lib.hid hd'; have B3 := Lib.hid (B2.out.trans (b3.mono B2.out.size)); clear b3 hd'; obtain ⟨z0, z1, z2, z3, z4⟩ := D0.out w3 B3.out; obtain ⟨f0, f1, f2, f3, f4⟩ := F0.out w3 B3.out))
        all_goals
          go_wp2_with fail
          go_meet
          case rel =>
            have hb := box5 (QQ.out.below B3.out) (HB1.out.trans (B3.out.mono HB1.out.size)) (Nat.le_refl _) (.int .i64 dk) (.int .i64 qi) (.int .i64 r') (.int .i64 h') (.bool dn)
            exact ⟨rfl, rfl, rfl, Lib.hid ⟨r', h', AD.out, hb.1, hb.2⟩⟩
      case rest =>
        obtain ⟨rfl, rfl, rfl, HCUT⟩ := hcut
        obtain ⟨r', h', hAD, hQ, hB⟩ := HCUT.out
        have HWF : Hid (wf64 h') := Lib.hid (by have := aimed_wf (d := ⟨dk, qi, dr, dh, dn⟩) HW.out (HSW.out qi); rw [hAD] at this; exact this)
        have HDO := doesX (HR.out.1.st.beside hB (Nat.le_refl _) hQ.lt) (by have := H150.out; have := HL.out; omega) ⟨dk, qi, r', h', dn⟩ HWF.out
        have how := does_own HR.out.1.st.ok HR.out.1.tl ⟨dk, qi, r', h', dn⟩
        have hms5 := (doesS_ms S ⟨dk, qi, r', h', dn⟩).trans HR.out.1.ms
        have htl5 := (doesS_tl S ⟨dk, qi, r', h', dn⟩).trans HR.out.1.tl
        obtain ⟨n5, t5, o5, S5, hds⟩ : ∃ n t o S', doesS S ⟨dk, qi, r', h', dn⟩ = (n, t, o, S') := ⟨_, _, _, _, rfl⟩
        rw [hds] at HDO how hms5 htl5
        dsimp only at HDO how hms5 htl5
        have HOW := Lib.hid how
        have HM5 := Lib.hid (And.intro hms5 htl5)
        have HBC := Lib.hid (HR.out.2.trans (hB.mono HR.out.2.size))
        have HON := Lib.hid (ownN_le HR.out.1.st.ok HR.out.1.tl)
        have q0 := hQ.cell 0
        have q1 := hQ.cell 1
        have q2 := hQ.cell 2
        have q3 := hQ.cell 3
        have q4 := hQ.cell 4
        simp at q0 q1 q2 q3 q4
        have HQ := Lib.hid hQ
        clear how hms5 htl5 hds hQ hB hAD HCUT
        go_upto_region 13 with (go_at_call 16; refine HDO.mono ?_; rintro e w5 ⟨rfl, st5, k5⟩; have ST5 := Lib.hid st5.st; have Q5 := Lib.hid (HQ.out.beside k5); have B5 := Lib.hid (HBC.out.trans (k5.below HBC.out.size (fun k hk => hk.1))); clear st5 k5; have z0 := Q5.out.cell 0; simp at z0)
        go_cut [5, 6, 7, 9, 10, 66] (fun s5 s6 s7 s9 s10 s66 wc' => s5 = .int .i64 (ownN S : Nat) ∧ s6 = .int .i64 k ∧ s7 = .pointer (some ⟨wr.heap.size, 0, none⟩) ∧ s9 = .int .i64 t5 ∧ s10 = .bool o5 ∧ s66 = .bool (moreB ⟨dk, qi, r', h', dn⟩ t5) ∧ w5 = wc')
        case first =>
          by_cases e1 : t5 = 0
          · subst e1
            by_cases e2 : dk = 0
            · subst e2
              go_wp2_with fail
              go_meet
              case rel => exact ⟨rfl, rfl, rfl, rfl, rfl, rfl, rfl⟩
            · have e2' : (dk == 0) = false := by simp [e2]
              by_cases e3 : dk = 5
              · subst e3
                clear e2 e2'
                go_wp2_with fail
                go_meet
                case rel => exact ⟨rfl, rfl, rfl, rfl, rfl, rfl, rfl⟩
              · have e3' : (dk == 5) = false := by simp [e3]
                have E23 := Lib.hid (And.intro e2 e3)
                clear e2 e3
                go_wp2_with fail
                go_meet
                case rel => exact ⟨rfl, rfl, rfl, rfl, rfl, by simp [moreB, E23.out.1, E23.out.2], rfl⟩
          · have e1' : (t5 == 0) = false := by simp [e1]
            have E1 := Lib.hid e1
            clear e1
            go_wp2_with fail
            go_meet
            case rel => exact ⟨rfl, rfl, rfl, rfl, rfl, by simp [moreB, E1.out], rfl⟩
        case rest =>
          obtain ⟨rfl, rfl, rfl, rfl, rfl, rfl, rfl⟩ := hcut
          generalize hmb : moreB ⟨dk, qi, r', h', dn⟩ t5 = mb at HOW ⊢
          clear hmb
          go_upto_if 66 with fail
          go_cut [5, 6, 7, 9, 10] (fun s5 s6 s7 s9 s10 wc' => s5 = .int .i64 ((ownN S + (if mb = true then 1 else 0) : Nat) : Int) ∧ s6 = .int .i64 k ∧ s7 = .pointer (some ⟨wr.heap.size, 0, none⟩) ∧ s9 = .int .i64 t5 ∧ s10 = .bool o5 ∧ w5 = wc')
          case first =>
            have hwn : wrap64 ((ownN S : Int) + 1) = ((ownN S + 1 : Nat) : Int) := by have := HON.out; unfold wrap64; omega
            cases mb
            · go_wp2_with fail
              go_meet
              case rel => exact ⟨rfl, rfl, rfl, rfl, rfl, rfl⟩
            · go_wp2_with fail
              go_meet
              case rel => exact ⟨by first | (rw [hwn]; rfl) | rfl, rfl, rfl, rfl, rfl, rfl⟩
          case rest =>
            obtain ⟨rfl, rfl, rfl, rfl, rfl, rfl⟩ := hcut
            have hm1 : (if mb = true then 1 else 0) ≤ 1 := by split <;> omega
            have HMM := Lib.hid hm1
            clear hm1
            generalize (if mb = true then 1 else 0) = mm at HOW HMM ⊢
            go_upto_region 15 with fail
            go_cut [5, 6, 7, 78] (fun s5 s6 s7 s78 wc' => s5 = .int .i64 ((ownN S + mm : Nat) : Int) ∧ s6 = .int .i64 k ∧ s7 = .pointer (some ⟨wr.heap.size, 0, none⟩) ∧ s78 = .bool (fewerB ⟨dk, qi, r', h', dn⟩ t5 o5) ∧ w5 = wc')
            case first =>
              by_cases e1 : t5 = 0
              · subst e1
                by_cases e2 : dk = 4
                · subst e2
                  go_wp2_with fail
                  go_meet
                  case rel => exact ⟨rfl, rfl, rfl, rfl, rfl⟩
                · have e2' : (dk == 4) = false := by simp [e2]
                  have E2 := Lib.hid e2
                  clear e2
                  go_wp2_with fail
                  go_meet
                  case rel => exact ⟨rfl, rfl, rfl, by simp [fewerB, E2.out], rfl⟩
              · have e1' : (t5 == 0) = false := by simp [e1]
                have E1 := Lib.hid e1
                clear e1
                go_wp2_with fail
                go_meet
                case rel => exact ⟨rfl, rfl, rfl, by simp [fewerB, E1.out], rfl⟩
            case rest =>
              obtain ⟨rfl, rfl, rfl, rfl, rfl⟩ := hcut
              generalize hfb : fewerB ⟨dk, qi, r', h', dn⟩ t5 o5 = fb at HOW ⊢
              clear hfb
              go_upto_if 78 with fail
              go_cut [5, 6, 7] (fun s5 s6 s7 wc' => s5 = .int .i64 (ownN S5 : Nat) ∧ s6 = .int .i64 k ∧ s7 = .pointer (some ⟨wr.heap.size, 0, none⟩) ∧ w5 = wc')
              case first =>
                cases fb
                · have hw : ((ownN S + mm : Nat) : Int) = (ownN S5 : Nat) := by
                    have h1 := HOW.out
                    simp at h1
                    omega
                  go_wp2_with fail
                  go_meet
                  case rel => exact ⟨by rw [hw], rfl, rfl, rfl⟩
                · have hw : wrap64 (((ownN S + mm : Nat) : Int) - 1) = (ownN S5 : Nat) := by
                    have h1 := HOW.out
                    have h2 := HON.out
                    have h3 := HMM.out
                    simp at h1
                    unfold wrap64
                    omega
                  have HWW := Lib.hid hw
                  clear hw
                  go_wp2_with fail
                  go_meet
                  case rel => exact ⟨congrArg (Value.int .i64) (by first | exact HWW.out | (have := HWW.out; rw [← this]; push_cast; rfl)), rfl, rfl, rfl⟩
              case rest =>
                obtain ⟨rfl, rfl, rfl, rfl⟩ := hcut
                clear HDO q0 q1 q2 q3 q4 z0
                go_wp2_with fail
                go_loopw [11, 12] (fun ov iv wr2 => ∃ i : Nat, iv = .int .i64 i ∧ ov = .int .i64 (partN S5 i : Nat) ∧ i ≤ 2 ∧ Hid (St w.heap.size a wr2 S5 (k + 1) ∧ Below w.heap.size w wr2)) (fun _ iv _ => 2 - (intOf iv).toNat)
                case atStart => exact ⟨0, rfl, rfl, by omega, Lib.hid ⟨ST5.out, B5.out⟩⟩
                case round =>
                  obtain ⟨i, rfl, rfl, hi, HI⟩ := hrel
                  by_cases hi2 : i < 2
                  · have HI2 := Lib.hid hi2
                    have hdec : decide ((i : Int) < 2) = true := decide_eq_true (by omega)
                    have hgt : handlesS S5 (i : Int) = S5.tb.getD i [] := by
                      unfold handlesS
                      rw [if_pos (by rw [HM5.out.2]; simp [hasB]; omega)]
                      rfl
                    have HP : Hid (partN S5 (i + 1) = partN S5 i + cnt (handlesS S5 (i : Int))) := Lib.hid (by rw [hgt]; rfl)
                    have HPB : Hid (partN S5 i ≤ 512) := Lib.hid (partN_le HI.out.1.ok HM5.out.2 i hi2)
                    have HTO := Lib.hid (handlesS_ok HI.out.1.ok (i : Int))
                    clear hgt hi hi2
                    go_wp2_with (go_at_call 21; refine (HI.out.1.handles _).mono ?_; rintro e w6 ⟨v, rfl, hv, st6, b6⟩; obtain ⟨ta, tc, rfl, hrow⟩ := hv.row; have HR6 := Lib.hid hrow; have ST6 := Lib.hid st6; have B6 := Lib.hid (HI.out.2.trans (b6.mono HI.out.2.size)); clear hv st6 b6 hrow)
                    generalize handlesS S5 (i : Int) = T at HR6 HP HTO ⊢
                    have HT256 := Lib.hid HTO.out.1
                    generalize hpp : partN S5 i = pn at HP HPB ⊢
                    clear hpp
                    go_loopw [11, 14] (fun ov jv wr3 => ∃ j : Nat, jv = .int .i64 j ∧ ov = .int .i64 ((pn + cnt (T.take j) : Nat) : Int) ∧ j ≤ T.length ∧ Hid (Below w6.heap.size w6 wr3)) (fun _ jv _ => T.length - (intOf jv).toNat)
                    case atStart => exact ⟨0, rfl, by simp [cnt], Nat.zero_le _, Lib.hid (Below.refl _ _)⟩
                    case round =>
                      obtain ⟨j, rfl, rfl, hj, HB6⟩ := hrel
                      by_cases hjt : j < T.length
                      · obtain ⟨g6, o6, rfl, hc6⟩ := HR6.out.resolve_left (by omega)
                        obtain ⟨y0, y1, y2, y3, y4, y5⟩ := (hc6 j hjt).below HB6.out
                        obtain ⟨z0, z1, z2, z3, z4, z5⟩ := (hc6 j hjt).below HB6.out.drew
                        have HY := Lib.hid (HTO.out.2.2 _ (mem_getD (d := Hd.zero) hjt))
                        have HC := Lib.hid (cnt_take T j hjt)
                        have HJT := Lib.hid hjt
                        by_cases hjp : 0 < j
                        · obtain ⟨jm, hjm⟩ : ∃ jm, jm + 1 = j := ⟨j - 1, by omega⟩
                          have hjml : jm < T.length := by omega
                          have hw1 : wrap64 ((j : Int) - 1) = (jm : Int) := by have := HT256.out; unfold wrap64; omega
                          have hw2 : (j : Int) - 1 = (jm : Int) := by omega
                          have hw3 : IntKind.i64.wrap (jm : Int) = (jm : Int) := by have := HT256.out; rw [IntKind.wrap_i64]; omega
                          have hlt6 := rise_get HTO.out.2.1 (show jm < j by omega) hjt
                          obtain ⟨x0, x1, x2, x3, x4, x5⟩ := (hc6 jm hjml).below HB6.out
                          have hjd : decide (0 < j) = true := decide_eq_true hjp
                          generalize T.getD jm Hd.zero = pv at hlt6 x0
                          generalize T.getD j Hd.zero = y at y0 y1 y2 y3 y4 y5 z0 z1 z2 z3 z4 z5 HY HC hlt6
                          obtain ⟨yh, yr, yp, yown, yl, yc⟩ := y
                          obtain ⟨ph, pr, pp, pown, pl, pc⟩ := pv
                          dsimp only at y0 y1 y2 y3 y4 y5 z0 z1 z2 z3 z4 z5 x0 hlt6
                          have a1 : decide (yh ≤ ph) = false := decide_eq_false (by omega)
                          have a2 : decide (yh < 1) = false := decide_eq_false (by have : 1 ≤ yh := HY.out.h1; omega)
                          have HO : Hid (yown = decide (yc = 0)) := Lib.hid HY.out.o
                          clear hc6 hlt6 hjm hj x1 x2 x3 x4 x5
                          cases yown
                          · have a3 : (yc == 0) = false := by have := HO.out; simpa using this.symm
                            go_wp2_with fail
                            go_quiet (fail)
                            all_goals go_wp2_with fail
                            all_goals (try rw [show wrap64 ((j : Int) + 1) = (j : Int) + 1 by have := HT256.out; have := HJT.out; unfold wrap64; omega])
                            all_goals refine ⟨⟨j + 1, by simp, by rw [HC.out]; simp, by have := HJT.out; omega, Lib.hid (below_drewN HB6.out)⟩, by have := HJT.out; simp [intOf]; omega⟩
                          · have a3 : (yc == 0) = true := by have := HO.out; simpa using this.symm
                            have hwo : wrap64 (((pn + cnt (T.take j) : Nat) : Int) + 1) = ((pn + (cnt (T.take j) + 1) : Nat) : Int) := by
                              have h1 := cnt_le (T.take j)
                              have h2 := HT256.out
                              have h3 := HPB.out
                              rw [List.length_take] at h1
                              unfold wrap64
                              omega
                            have HWO := Lib.hid hwo
                            go_wp2_with fail
                            go_quiet (fail)
                            all_goals go_wp2_with fail
                            all_goals (try rw [show wrap64 ((j : Int) + 1) = (j : Int) + 1 by have := HT256.out; have := HJT.out; unfold wrap64; omega])
                            all_goals refine ⟨⟨j + 1, by simp, by rw [HC.out]; first | exact congrArg (Value.int .i64) HWO.out | (have h9 := HWO.out; simp at h9 ⊢; first | exact h9 | omega) | (simp; omega), by have := HJT.out; omega, Lib.hid (below_drewN HB6.out)⟩, by have := HJT.out; simp [intOf]; omega⟩
                        · have hjd : decide (0 < j) = false := decide_eq_false hjp
                          generalize T.getD j Hd.zero = y at y0 y1 y2 y3 y4 y5 z0 z1 z2 z3 z4 z5 HY HC
                          obtain ⟨yh, yr, yp, yown, yl, yc⟩ := y
                          dsimp only at y0 y1 y2 y3 y4 y5 z0 z1 z2 z3 z4 z5
                          have a2 : decide (yh < 1) = false := decide_eq_false (by have : 1 ≤ yh := HY.out.h1; omega)
                          have HO : Hid (yown = decide (yc = 0)) := Lib.hid HY.out.o
                          clear hc6 hj
                          cases yown
                          · have a3 : (yc == 0) = false := by have := HO.out; simpa using this.symm
                            go_wp2_with fail
                            go_quiet (fail)
                            all_goals go_wp2_with fail
                            all_goals (try rw [show wrap64 ((j : Int) + 1) = (j : Int) + 1 by have := HT256.out; have := HJT.out; unfold wrap64; omega])
                            all_goals refine ⟨⟨j + 1, by simp, by rw [HC.out]; simp, by have := HJT.out; omega, Lib.hid (below_drewN HB6.out)⟩, by have := HJT.out; simp [intOf]; omega⟩
                          · have a3 : (yc == 0) = true := by have := HO.out; simpa using this.symm
                            have hwo : wrap64 (((pn + cnt (T.take j) : Nat) : Int) + 1) = ((pn + (cnt (T.take j) + 1) : Nat) : Int) := by
                              have h1 := cnt_le (T.take j)
                              have h2 := HT256.out
                              have h3 := HPB.out
                              rw [List.length_take] at h1
                              unfold wrap64
                              omega
                            have HWO := Lib.hid hwo
                            go_wp2_with fail
                            go_quiet (fail)
                            all_goals go_wp2_with fail
                            all_goals (try rw [show wrap64 ((j : Int) + 1) = (j : Int) + 1 by have := HT256.out; have := HJT.out; unfold wrap64; omega])
                            all_goals refine ⟨⟨j + 1, by simp, by rw [HC.out]; first | exact congrArg (Value.int .i64) HWO.out | (have h9 := HWO.out; simp at h9 ⊢; first | exact h9 | omega) | (simp; omega), by have := HJT.out; omega, Lib.hid (below_drewN HB6.out)⟩, by have := HJT.out; simp [intOf]; omega⟩
                      · have hje : j = T.length := by omega
                        subst hje
                        clear hjt hj
                        go_wp2_with fail
                        rw [show wrap64 ((i : Int) + 1) = (i : Int) + 1 by have := HI2.out; unfold wrap64; omega]
                        refine ⟨⟨i + 1, by simp, by rw [HP.out, List.take_length], by have := HI2.out; omega, Lib.hid ⟨(ST6.out.below HB6.out).1, B6.out.trans (HB6.out.mono B6.out.size)⟩⟩, by have := HI2.out; simp [intOf]; omega⟩
                  · have hie : i = 2 := by omega
                    subst hie
                    have hpt := partN_two S5
                    clear hi2 hi
                    rw [hpt]
                    clear hpt
                    go_wp2_with fail
                    rw [show wrap64 ((k : Int) + 1) = (k : Int) + 1 by have := H150.out; have := HL.out; unfold wrap64; omega]
                    refine ⟨⟨k + 1, S5, by simp, rfl, by have := HL.out; omega, Lib.hid ⟨⟨HI.out.1, HM5.out.1, HM5.out.2⟩, HI.out.2⟩⟩, by have := HL.out; simp [intOf]; omega⟩
    · have hke : k = len' := by omega
      subst hke
      clear hlt hk
      go_wp2_with (go_at_call 12; refine (awake16 _).mono ?_; rintro e w9 ⟨rfl, b9⟩; have B9 := Lib.hid (HR.out.2.trans (b9.mono HR.out.2.size)); clear b9)
      go_ret
      exact ⟨rfl, B9.out⟩
end Go.Proofs.Ytjdkhhkjnnbpoaa
