/- handles: whatever is done, each answer, all tables and calls are the reference's. -/
import Derived.Test.YtglhfofofacekaaHfO
set_option linter.unusedVariables false
set_option linter.unusedSimpArgs false
namespace Go.Proofs.Ytglhfofofacekaa
open Go.RowKit

theorem Rel.new (n : Nat) (ms : List Int) : Rel 0 ⟨ms, List.replicate n [], []⟩ ⟨n, ms, [], [], []⟩ := by
  refine { n := by simp, ms := rfl, cs := rfl, a1 := fun p hp => by simp at hp, a2 := ?_, nd := List.Pairwise.nil, e1 := fun j hj => by simp at hj, e2 := fun t ht => by simp at ht, ll := Nat.le_refl _, le := Nat.le_refl _ }
  intro k hk x hx
  exfalso
  have hk' : k < n := by simpa using hk
  have e : (List.replicate n ([] : List Hd)).getD k [] = [] := by
    simp [List.getD_eq_getElem?_getD, List.getElem?_replicate]
    split <;> rfl
  have hx' : x ∈ (List.replicate n ([] : List Hd)).getD k [] := hx
  rw [e] at hx'
  simp at hx'
/-- Both, new. -/
theorem Mid.new {w w1 : World} {a : Nat} {n : Int} {ca : Option Addr} {c m : Nat} {ms : List Int} (hi : IntsIn w ca m c ms) (hyes : newB n ms = true) (h1 : St w.heap.size a w1 ⟨ms, List.replicate n.toNat [], []⟩ 0) (hb : Below w.heap.size w w1) :
    Mid w a w1.heap.size (fun _ => False) (w1.alloc (.cells #[.int .i64 n, .slice ca m c, .slice none 0 0, .slice none 0 0, .slice none 0 0] 60)) ⟨ms, List.replicate n.toNat [], []⟩ ⟨ms, List.replicate n.toNat [], []⟩ 0 0 := by
  obtain ⟨H, hH⟩ := h1.at'
  have hn : 1 ≤ n := by
    unfold newB at hyes
    simp only [Bool.not_eq_true', Bool.or_eq_false_iff, decide_eq_false_iff_not] at hyes
    omega
  have hB : Below w1.heap.size w1 (w1.alloc (.cells #[.int .i64 n, .slice ca m c, .slice none 0 0, .slice none 0 0, .slice none 0 0] 60)) := (Below.refl _ _).alloc (Nat.le_refl _) _
  have hB2 : Below w.heap.size w (w1.alloc (.cells #[.int .i64 n, .slice ca m c, .slice none 0 0, .slice none 0 0, .slice none 0 0] 60)) := hb.trans (hB.mono hb.size)
  have hsz : (w1.alloc (.cells #[.int .i64 n, .slice ca m c, .slice none 0 0, .slice none 0 0, .slice none 0 0] 60)).heap.size = w1.heap.size + 1 := by simp
  have hnew := BlkAt.new w1 #[.int .i64 n, .slice ca m c, .slice none 0 0, .slice none 0 0, .slice none 0 0] 60
  refine ⟨⟨fun k => w.heap.size ≤ k ∧ k < w1.heap.size, (· = w1.heap.size), ⟨H, (hH.low.below hB)⟩, ⟨⟨n.toNat, ms, [], [], []⟩, ⟨ca, c, .slice none 0 0, .slice none 0 0, .slice none 0 0⟩, ⟨?_, ?_, hB2, fun k e => by have := hb.size; omega, World.ownsRow_nil _ _ _ _, World.ownsRow_nil _ _ _ _, World.ownsRow_nil _ _ _ _, rfl, ?_, ?_, ?_⟩, Rel.new _ _⟩, fun k h1 e => by omega, fun k hk => ⟨hk.1, by have := hk.2; omega, fun e => e⟩, fun k e => ⟨by omega, fun e => e⟩⟩, h1.ok, h1.ok, hB2, by decide⟩
  · show BlkAt _ _ #[.int .i64 (n.toNat : Int), .slice ca ms.length c, .slice none 0 0, .slice none 0 0, .slice none 0 0] _
    rw [hi.len, Int.toNat_of_nonneg (by omega)]
    exact hnew
  · show View w ca ms.length ms
    rw [hi.len]
    exact hi.view
  · intro g hg; cases hg
  · intro g hg; cases hg
  · intro g hg; cases hg

set_option maxRecDepth 100000 in
set_option maxHeartbeats 16000000 in
theorem HandlesPlays_walk (n : Int) (ca : Option Addr) (m c : Nat) (ms : List Int) (x : Option Addr) (len cap : Nat) (ds : List Dh) (w : World) (hi : IntsIn w ca m c ms) (hd : DhIn w x len cap ds) :
    Calls Try.prog 3 #[.int .i64 n, .slice ca m c, .slice x len cap] w fun e w' => e = .returned (.bool true) ∧ Below w.heap.size w w' := by
  have HI := Lib.hid hi
  have HH := Lib.hid hd
  cases hy : newB n ms
  · have HN := new_no n ca c m ms w hi hy
    have HY := Lib.hid hy
    clear hi hd hy
    go_enter Try.func3, Try.ntmps3
    go_wp2_with (first
      | (go_at_call 7; refine (awake16 _).mono ?_; rintro e w3 ⟨rfl, b3⟩; have B3 := Lib.hid (B1.out.trans (b3.mono B1.out.size)); clear b3)
      | (go_at_call 6; refine (refNew n ca c m ms _ ⟨HI.out.len, HI.out.view.below B1.out⟩).mono ?_; rintro e w2 ⟨hno, _⟩; obtain ⟨rfl, rfl⟩ := hno HY.out; clear hno)
      | (go_at_call 5; refine HN.mono ?_; rintro e w1 ⟨rfl, b1⟩; have B1 := Lib.hid b1; clear b1))
    go_ret
    exact ⟨rfl, B3.out⟩
  · have HN := St.new n ca c m ms w hi hy
    have HY := Lib.hid hy
    clear hi hd hy
    go_enter Try.func3, Try.ntmps3
    go_wp2_with (first
      | (go_at_call 8; refine (some16 x len cap ds _ (HH.out.below M2.out.base)).mono ?_; rintro e w3 ⟨⟨len', rfl, hd, h150⟩, rfl⟩; have HD := Lib.hid (show len' ≤ len by have h1 := hd.eq; have h2 := HH.out.eq; rw [List.length_take] at h1; omega); have H150 := Lib.hid h150; clear hd h150)
      | (go_at_call 6; refine (refNew n ca c m ms _ ⟨HI.out.len, HI.out.view.below B1.out⟩).mono ?_; rintro e w2 ⟨_, hyes⟩; obtain ⟨rfl, hw2⟩ := hyes HY.out; have M2 := Lib.hid (Mid.new HI.out HY.out T1.out B1.out); rw [← hw2] at M2; clear hyes hw2)
      | (go_at_call 5; refine HN.mono ?_; rintro e w1 ⟨a, rfl, t1, b1⟩; have T1 := Lib.hid t1; have B1 := Lib.hid b1; clear t1 b1))
    generalize w1.heap.size = b at M2 ⊢
    clear HN HI HY T1 B1
    go_loopw [11] (fun kv wr => ∃ (k : Nat) (S : Tb), kv = .int .i64 k ∧ k ≤ len' ∧ Hid (Mid w a b (fun _ => False) wr S S k k)) (fun kv _ => len' - (intOf kv).toNat)
    case atStart => exact ⟨0, _, rfl, Nat.zero_le _, M2⟩
    case round =>
      clear M2
      obtain ⟨k, S, rfl, hk, HR⟩ := hrel
      by_cases hlt : k < len'
      · obtain ⟨g, o, rfl, hc⟩ := HH.out.row.resolve_left (by have := HD.out; omega)
        obtain ⟨c0, c1, c2, c3, c4⟩ := (hc k (by have := HD.out; omega)).below HR.out.base
        have HW : Hid (wf64 (ds.getD k default).h) := Lib.hid (HH.out.ok _ (mem_getD (by have := HD.out; have := HH.out.eq; omega)))
        generalize ds.getD k default = d at c0 c1 c2 c3 c4 HW
        obtain ⟨dk, di, dr, dh, dn⟩ := d
        dsimp only at c0 c1 c2 c3 c4
        have HL := Lib.hid hlt
        have HSW := Lib.hid (handlesS_wf HR.out.ok)
        have HSL := Lib.hid (fun i => (handlesS_ok HR.out.ok i).1)
        have HOD : Hid (∀ W, Kept (fun _ => False) wr W → Calls Try.prog 10 #[.pointer (some ⟨b, 0, none⟩), .int .i64 di] W fun e w' => ∃ v, e = .returned v ∧ Hds wr.heap.size v (handlesS S di) w' ∧ Kept (fun _ => False) W w') := Lib.hid (fun W hk => by
          have hb : Below wr.heap.size wr W := hk.below (Nat.le_refl _) (fun _ e => e.elim)
          refine ((HR.out.below hb).ofT di).mono ?_
          rintro e w' ⟨v, rfl, hv, hb2⟩
          exact ⟨v, rfl, hv.base hb.size, Kept.of_below hb2⟩)
        have DC : Hid (∀ W, Kept (fun _ => False) wr W → W.cell? ⟨g, o + k * 5, none⟩ = some (.int .i64 dk) ∧ W.cell? ⟨g, o + k * 5 + 1, none⟩ = some (.int .i64 di) ∧ W.cell? ⟨g, o + k * 5 + 2, none⟩ = some (.int .i64 dr) ∧ W.cell? ⟨g, o + k * 5 + 3, none⟩ = some (.int .i64 dh) ∧ W.cell? ⟨g, o + k * 5 + 4, none⟩ = some (.bool dn)) := Lib.hid (fun W hk => by
          have hb : Below wr.heap.size wr W := hk.below (Nat.le_refl _) (fun _ e => e.elim)
          exact ⟨farB c0 hb, farB c1 hb, farB c2 hb, farB c3 hb, farB c4 hb⟩)
        have q0 : Kept (fun _ => False) wr wr.drew := (Kept.refl _ wr).drew
        clear hc hk c0 c1 c2 c3 c4
        go_wp2_with fail
        go_cut [7, 9, 11, 12] (fun s7 s9 s11 s12 wc => s7 = .pointer (some ⟨a, 0, none⟩) ∧ s9 = .pointer (some ⟨b, 0, none⟩) ∧ s11 = .int .i64 k ∧ ∃ bx, s12 = .pointer (some ⟨bx, 0, none⟩) ∧ Hid (∃ r' h', aimedD ⟨dk, di, dr, dh, dn⟩ (handlesS S di) = ⟨dk, di, r', h', dn⟩ ∧ BlkAt wc bx #[.int .i64 dk, .int .i64 di, .int .i64 r', .int .i64 h', .bool dn] 34 ∧ Below wr.heap.size wr wc ∧ wr.heap.size ≤ bx))
        case first =>
          go_region_held3 (fun w' => w'.cell? ⟨g, o + k * 5, none⟩ = some (.int .i64 dk) ∧ w'.cell? ⟨g, o + k * 5 + 1, none⟩ = some (.int .i64 di) ∧ w'.cell? ⟨g, o + k * 5 + 2, none⟩ = some (.int .i64 dr) ∧ w'.cell? ⟨g, o + k * 5 + 3, none⟩ = some (.int .i64 dh) ∧ w'.cell? ⟨g, o + k * 5 + 4, none⟩ = some (.bool dn))
            (first | exact DC.out _ q0 | exact DC.out _ (q0.new _) | exact DC.out _ (((((((q0.mono (F := fun _ => False) (G := (wr.heap.size ≤ ·)) (fun _ e => e.elim)).set (p := ⟨_, 0, none⟩) HLE.out _).set (p := ⟨_, 1, none⟩) HLE.out _).set (p := ⟨_, 2, none⟩) HLE.out _).set (p := ⟨_, 3, none⟩) HLE.out _).set (p := ⟨_, 4, none⟩) HLE.out _).clear (fun i hi e => by have e : wr.heap.size ≤ i := e; omega)))
            (first
              | (go_at_call 10; refine (HOD.out _ (by first | exact q0 | exact q0.new _)).mono ?_; rintro y w3 ⟨v, rfl, hv, k3⟩
                 have HV := Lib.hid hv
                 try (have FB := (BlkAt.new wr.drew #[.int .i64 0, .int .i64 0, .int .i64 0, .int .i64 0, .bool false] 34).kept (F := fun _ => False) k3 id)
                 replace q0 : Kept (fun _ => False) wr w3 := by first | exact q0.trans k3 | exact (q0.new _).trans k3
                 clear hv k3)
              | (go_at_call 9; refine (aimedY ⟨dk, di, dr, dh, dn⟩ (by first | exact HV.out | exact HV.out.alloc _) (HSL.out _)).mono ?_; rintro y w4 ⟨⟨r', h', rfl, hd'⟩, b4⟩
                 have AD := Lib.hid hd'
                 have k4 := Kept.of_below (F := fun _ => False) b4
                 first
                 | (have FB2 := FB.kept (F := fun _ => False) k4 id; have g0 := FB2.cell 0; have y0 := FB2.frozen 0; have y1 := FB2.frozen 1; have y2 := FB2.frozen 2; have y3 := FB2.frozen 3; have y4 := FB2.frozen 4; have g1 := FB2.cell 1; have g2 := FB2.cell 2; have g3 := FB2.cell 3; have g4 := FB2.cell 4; simp at g0 g1 g2 g3 g4 y0 y1 y2 y3 y4; have HFB := Lib.hid FB2; have HLE : Hid (wr.heap.size ≤ wr.heap.size) := Lib.hid (Nat.le_refl _); clear FB FB2)
                 | (have FB2 := (BlkAt.new w3 #[.int .i64 0, .int .i64 0, .int .i64 0, .int .i64 0, .bool false] 34).kept (F := fun _ => False) k4 id; have g0 := FB2.cell 0; have y0 := FB2.frozen 0; have y1 := FB2.frozen 1; have y2 := FB2.frozen 2; have y3 := FB2.frozen 3; have y4 := FB2.frozen 4; have g1 := FB2.cell 1; have g2 := FB2.cell 2; have g3 := FB2.cell 3; have g4 := FB2.cell 4; simp at g0 g1 g2 g3 g4; have HFB := Lib.hid FB2; have HLE : Hid (wr.heap.size ≤ w3.heap.size) := Lib.hid q0.size; clear FB2)
                 | skip
                 replace q0 : Kept (fun _ => False) wr w4 := by first | exact q0.trans k4 | exact (q0.new _).trans k4
                 clear hd' b4 k4))
          all_goals
            first
            | (have hz := box5K (F := (wr.heap.size ≤ ·)) HFB.out (q0.mono (fun _ e => e.elim)) HLE.out (.int .i64 dk) (.int .i64 di) (.int .i64 r') (.int .i64 h') (.bool dn)
               have HZ := Lib.hid hz
               clear hz
               go_wp2_with fail
               go_meet
               case rel => exact ⟨rfl, rfl, rfl, _, rfl, Lib.hid ⟨r', h', AD.out, HZ.out.1, HZ.out.2.below (Nat.le_refl _) (fun _ e => e), HLE.out⟩⟩)
            | (have HZ := Lib.hid (BlkAt.new w4 #[.int .i64 dk, .int .i64 di, .int .i64 r', .int .i64 h', .bool dn] 34)
               go_wp2_with fail
               go_meet
               case rel => exact ⟨rfl, rfl, rfl, _, rfl, Lib.hid ⟨r', h', AD.out, HZ.out, (q0.new _).below (Nat.le_refl _) (fun _ e => e.elim), q0.size⟩⟩)
        case rest =>
          obtain ⟨rfl, rfl, rfl, bx, rfl, HCUT⟩ := hcut
          obtain ⟨r', h', hAD, hQ, hB, hbx⟩ := HCUT.out
          have HWF : Hid (wf64 h') := Lib.hid (by have := aimed_wf (d := ⟨dk, di, dr, dh, dn⟩) HW.out (HSW.out di); rw [hAD] at this; exact this)
          have hmid := HR.out.apart (Y := (· = bx)) hB (fun y e => by rw [e]; exact hbx)
          have hqlt := hQ.lt
          have hdo := hmid.does (fun y e => by rw [e]; exact hqlt) (by have := H150.out; have := HL.out; omega) ⟨dk, di, r', h', dn⟩ HWF.out
          have hdi : ∀ (w5 : World) (T : Tb) (N : Nat), Mid w a b (· = bx) w5 T S N k → bx < w5.heap.size → _ := fun w5 T N h5 h6 => h5.did (fun y e => by rw [e]; exact h6) (by have := H150.out; have := HL.out; omega) ⟨dk, di, r', h', dn⟩
          obtain ⟨n5, t5, o5, S5, hds⟩ : ∃ n t o S', doesS S ⟨dk, di, r', h', dn⟩ = (n, t, o, S') := ⟨_, _, _, _, rfl⟩
          rw [hds] at hdo hdi
          dsimp only at hdo hdi
          have HDO := Lib.hid hdo
          have HDI := Lib.hid hdi
          have HQ := Lib.hid hQ
          have qq0 := hQ.cell 0; have qq1 := hQ.cell 1; have qq2 := hQ.cell 2; have qq3 := hQ.cell 3; have qq4 := hQ.cell 4; simp at qq0 qq1 qq2 qq3 qq4
          have hlt2 : k < len' := HL.out
          clear hdo hdi hds hmid hAD hQ hB hbx HCUT q0 hqlt
          go_wp2_with (first
            | (go_at_call 13; refine (M6.out.same).mono ?_; rintro e w7 ⟨rfl, b7⟩; have M7 := Lib.hid (M6.out.free.below b7); clear b7)
            | (go_at_call 12; refine (HDI.out _ _ _ M5.out Q5.out.lt).mono ?_; rintro e w6 ⟨rfl, m6, k6⟩; have M6 := Lib.hid m6; clear m6 k6)
            | (go_at_call 11; refine HDO.out.mono ?_; rintro e w5 ⟨rfl, m5, k5⟩; have M5 := Lib.hid m5; have Q5 := Lib.hid (HQ.out.kept k5 (fun e => e.2 rfl)); clear m5 k5; have z0 := Q5.out.cell 0; have z1 := Q5.out.cell 1; have z2 := Q5.out.cell 2; have z3 := Q5.out.cell 3; have z4 := Q5.out.cell 4; simp at z0 z1 z2 z3 z4))
          have hwk : wrap64 ((k : Int) + 1) = (k : Int) + 1 := by have h1 := H150.out; have h2 := HL.out; unfold wrap64; omega
          rw [hwk]
          exact ⟨⟨k + 1, S5, by simp, HL.out, M7⟩, by have := HL.out; simp [intOf]; omega⟩
      · have hke : k = len' := by omega
        subst hke
        clear hlt hk
        go_wp2_with (go_at_call 7; refine (awake16 _).mono ?_; rintro e w3 ⟨rfl, b3⟩; have B3 := Lib.hid (HR.out.base.trans (b3.mono HR.out.base.size)); clear b3)
        go_ret
        exact ⟨rfl, B3.out⟩
end Go.Proofs.Ytglhfofofacekaa
