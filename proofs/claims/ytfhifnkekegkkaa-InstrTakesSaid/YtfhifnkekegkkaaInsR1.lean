/- The reference's reading of an instruction's numbers. -/
import Derived.Test.YtfhifnkekegkkaaInsTk
namespace Go.Proofs.Ytfhifnkekegkkaa
open Go.RowKit
open Leb (byt byt_lt byt_get)

/-- A step's outcome is what reading comes to; of a fault nothing more is told. -/
def FitsE {X : Type} (res : Except Int (X × ByteArray)) (x : X) (r : ByteArray) (f : Int) : Prop :=
  match res with
  | .ok q => f = 0 ∧ x = q.1 ∧ r = q.2
  | .error e => f = e ∧ e ≠ 0
theorem Fits.toE {X : Type} {res : Except Int (X × ByteArray)} {x : X} {r : ByteArray} {f : Int} (h : Fits res x r f) : FitsE res x r f := by
  unfold Fits at h
  unfold FitsE
  cases res with
  | error e => exact ⟨h.1, h.2.1⟩
  | ok q => exact h
theorem FitsE.cases {X : Type} {res : Except Int (X × ByteArray)} {x : X} {r : ByteArray} {f : Int} (h : FitsE res x r f) : (f = 0 ∧ res = .ok (x, r)) ∨ (f ≠ 0 ∧ res = .error f) := by
  unfold FitsE at h
  cases res with
  | error e =>
    obtain ⟨a, b⟩ := h
    exact .inr ⟨by rw [a]; exact b, by rw [a]⟩
  | ok q =>
    obtain ⟨a, b, c⟩ := h
    exact .inl ⟨a, by rw [b, c]⟩
theorem fitsE_bind {X Y : Type} {res : Except Int (X × ByteArray)} {k : X × ByteArray → Except Int (Y × ByteArray)} {x : X} {y : Y} {r1 r2 : ByteArray} {f1 f2 : Int} (h : FitsE res x r1 f1) (h1 : f1 = 0 → FitsE (k (x, r1)) y r2 f2) (h2 : f1 ≠ 0 → f2 = f1) : FitsE (res.bind k) y r2 f2 := by
  rcases h.cases with ⟨a, b⟩ | ⟨a, b⟩
  · rw [b]
    exact h1 a
  · rw [b, h2 a]
    exact ⟨rfl, a⟩
theorem below_set {B : Nat} {w w' : World} (h : Below B w w') {p : Addr} (hp : B ≤ p.block) (u : Value) : Below B w (w'.setCell p u) :=
  ⟨h.os, h.tape, h.output, by have := h.size; simpa [World.setCell] using this, fun k hk => (Below.heap_setCell _ _ _ _ (by omega)).trans (h.block k hk)⟩
/-- An instruction that came by value, and the result's, each in a block of its own. -/
structure Pair (w0 wx : World) (cs : Array Value) : Prop where
  a : BlkAt wx w0.heap.size cs 47
  b : BlkAt wx (w0.heap.size + 1) #[.int .i64 0, .int .i64 0, .int .i64 0, .int .i64 0, .slice none 0 0, .slice none 0 0, .slice none 0 0] 47
  k : Below w0.heap.size w0 wx
theorem Pair.put {w0 wx : World} {cs : Array Value} (h : Pair w0 wx cs) (i : Nat) (v : Value) : Pair w0 (wx.setCell ⟨w0.heap.size, i, none⟩ v) (cs.setIfInBounds i v) :=
  ⟨h.a.put i v, h.b.other (by omega) i v, below_set h.k (Nat.le_refl _) v⟩
theorem Pair.below {w0 wx wy : World} {cs : Array Value} (h : Pair w0 wx cs) (hb : Below wx.heap.size wx wy) : Pair w0 wy cs := ⟨h.a.below hb, h.b.below hb, h.k.trans (hb.mono h.k.size)⟩
theorem Pair.start (w : World) (cs : Array Value) : Pair w ((w.alloc (.cells cs 47)).alloc (.cells #[.int .i64 0, .int .i64 0, .int .i64 0, .int .i64 0, .slice none 0 0, .slice none 0 0, .slice none 0 0] 47)) cs := by
  have hbp : Below w.heap.size w (w.alloc (.cells cs 47)) := (Below.refl _ _).alloc (Nat.le_refl _) _
  have hbz : Below (w.alloc (.cells cs 47)).heap.size (w.alloc (.cells cs 47)) ((w.alloc (.cells cs 47)).alloc (.cells #[.int .i64 0, .int .i64 0, .int .i64 0, .int .i64 0, .slice none 0 0, .slice none 0 0, .slice none 0 0] 47)) := (Below.refl _ _).alloc (Nat.le_refl _) _
  have hsz0 : (w.alloc (.cells cs 47)).heap.size = w.heap.size + 1 := by simp
  exact ⟨(BlkAt.new w cs _).below hbz, hsz0 ▸ BlkAt.new (w.alloc (.cells cs 47)) _ _, hbp.trans (hbz.mono hbp.size)⟩

set_option maxRecDepth 100000 in
theorem boxedPlace (tmps : Array Value) (q : Nat) (r : ByteArray) (a b c d f : Int) (x1 x2 x3 : Option Addr) (l1 l2 l3 c1 c2 c3 : Nat) (h4 : tmps[4]?.getD undef = .pointer (some ⟨q, 0, none⟩)) (h5 : tmps[5]?.getD undef = .string r) (h6 : tmps[6]?.getD undef = .int .i64 f) (w : World)
    (hb : BlkAt w q #[.int .i64 a, .int .i64 b, .int .i64 c, .int .i64 d, .slice x1 l1 c1, .slice x2 l2 c2, .slice x3 l3 c3] 47) : (results Try.f63 tmps).run Try.prog w = .ok (.tuple #[.agg #[.int .i64 a, .int .i64 b, .int .i64 c, .int .i64 d, .slice x1 l1 c1, .slice x2 l2 c2, .slice x3 l3 c3], .string r, .int .i64 f]) w := by
  have e0 := hb.cell 0
  have e1 := hb.cell 1
  have e2 := hb.cell 2
  have e3 := hb.cell 3
  have e4 := hb.cell 4
  have e5 := hb.cell 5
  have e6 := hb.cell 6
  simp at e0 e1 e2 e3 e4 e5 e6
  simp [results, Try.results63, go_sem, h4, h5, h6, e0, e1, e2, e3, e4, e5, e6]
/-- The result's block, when the instruction has been written there. -/
theorem Pair.ret {w0 wx : World} {cs : Array Value} (h : Pair w0 wx cs) (v0 v1 v2 v3 v4 v5 v6 : Value) :
    BlkAt (((((((wx.setCell ⟨w0.heap.size + 1, 0, none⟩ v0).setCell ⟨w0.heap.size + 1, 1, none⟩ v1).setCell ⟨w0.heap.size + 1, 2, none⟩ v2).setCell ⟨w0.heap.size + 1, 3, none⟩ v3).setCell ⟨w0.heap.size + 1, 4, none⟩ v4).setCell ⟨w0.heap.size + 1, 5, none⟩ v5).setCell ⟨w0.heap.size + 1, 6, none⟩ v6) (w0.heap.size + 1) #[v0, v1, v2, v3, v4, v5, v6] 47 :=
  ((((((h.b.put 0 v0).put 1 v1).put 2 v2).put 3 v3).put 4 v4).put 5 v5).put 6 v6
theorem Pair.retk {w0 wx : World} {cs : Array Value} (h : Pair w0 wx cs) (v0 v1 v2 v3 v4 v5 v6 : Value) :
    Below w0.heap.size w0 (((((((wx.setCell ⟨w0.heap.size + 1, 0, none⟩ v0).setCell ⟨w0.heap.size + 1, 1, none⟩ v1).setCell ⟨w0.heap.size + 1, 2, none⟩ v2).setCell ⟨w0.heap.size + 1, 3, none⟩ v3).setCell ⟨w0.heap.size + 1, 4, none⟩ v4).setCell ⟨w0.heap.size + 1, 5, none⟩ v5).setCell ⟨w0.heap.size + 1, 6, none⟩ v6) :=
  below_set (below_set (below_set (below_set (below_set (below_set (below_set h.k (Nat.le_succ _) v0) (Nat.le_succ _) v1) (Nat.le_succ _) v2) (Nat.le_succ _) v3) (Nat.le_succ _) v4) (Nat.le_succ _) v5) (Nat.le_succ _) v6

set_option maxRecDepth 100000 in
set_option maxHeartbeats 1000000 in
theorem refPlace_any (op : Int) (s : ByteArray) (hs : s.size ≤ maxLen) (w : World) :
    Calls Try.prog 63 #[.agg #[.int .i64 op, .int .i64 0, .int .i64 0, .int .i64 0, .slice none 0 0, .slice none 0 0, .slice none 0 0], .string s] w fun e w' => ∃ a b m r f, e = .returned (.tuple #[.agg #[.int .i64 op, .int .i64 a, .int .i64 b, .int .i64 m, .slice none 0 0, .slice none 0 0, .slice none 0 0], .string r, .int .i64 f]) ∧ Below w.heap.size w w' ∧ FitsE (placeT s) (a, b, m) r f := by
  have H1 := Lib.hid (refTakeU_any s hs)
  have H2 := Lib.hid (refTakeU_any (uR s) (Nat.le_trans (uR_size s) hs))
  have H3 := Lib.hid (refTakeU_any (uR (uR s)) (Nat.le_trans (uR_size _) (Nat.le_trans (uR_size s) hs)))
  unfold uTup at H1 H2 H3
  have hrg := uN_range s
  have F1 := Lib.hid (fits_u s).toE
  have F2 := Lib.hid (fits_u (uR s)).toE
  have F3 := Lib.hid (fits_u (uR (uR s))).toE
  have HPT : Hid (placeT s = (uT s).bind fun q => if 128 ≤ q.1 then .error 2 else if 64 ≤ q.1 then (uT q.2).bind fun p => (uT p.2).bind fun o => .ok ((o.1, q.1 - 64, p.1), o.2) else (uT q.2).bind fun o => .ok ((o.1, q.1, 0), o.2)) := Lib.hid rfl
  have P0 := Lib.hid (Pair.start w #[.int .i64 op, .int .i64 0, .int .i64 0, .int .i64 0, .slice none 0 0, .slice none 0 0, .slice none 0 0])
  clear hs
  revert H1 H2 H3 F1 F2 F3 hrg
  generalize uN (uR (uR s)) = n3
  generalize uE (uR (uR s)) = f3
  generalize uR (uR (uR s)) = r3
  generalize uR (uR s) = r2
  generalize uN (uR s) = n2
  generalize uE (uR s) = f2
  generalize uR s = r1
  generalize uN s = n1
  generalize uE s = f1
  intro H1 H2 H3 hrg F1 F2 F3
  obtain ⟨hn0, hn1⟩ := hrg
  have wz : IntKind.i64.wrap (n1 - 64) = n1 - 64 := by rw [IntKind.wrap_i64]; omega
  by_cases g1 : f1 = 0
  · subst g1
    by_cases g2 : 128 ≤ n1
    · have HF : Hid (FitsE (placeT s) (0, n1, 0) r1 2) := Lib.hid (by
        rw [HPT.out]
        refine fitsE_bind F1.out (fun _ => ?_) fun h => absurd rfl h
        rw [if_pos g2]
        exact ⟨rfl, by decide⟩)
      clear H2 H3 F1 F2 F3
      go_enter Try.func63, Try.ntmps63
      go_wp2_with (first | (go_at_call 34; refine (H1.out _).mono ?_; rintro e w1 ⟨rfl, k1⟩; clear H1; have P1 := P0.out.below k1; have ac0 := P1.a.cell 0; have ac1 := P1.a.cell 1; have ac2 := P1.a.cell 2; have ac3 := P1.a.cell 3; have ac4 := P1.a.cell 4; have ac5 := P1.a.cell 5; have ac6 := P1.a.cell 6; simp at ac0 ac1 ac2 ac3 ac4 ac5 ac6; have az0 := P1.a.frozen 0; have az1 := P1.a.frozen 1; have az2 := P1.a.frozen 2; have az3 := P1.a.frozen 3; have az4 := P1.a.frozen 4; have az5 := P1.a.frozen 5; have az6 := P1.a.frozen 6; have bc0 := P1.b.cell 0; have bc1 := P1.b.cell 1; have bc2 := P1.b.cell 2; have bc3 := P1.b.cell 3; have bc4 := P1.b.cell 4; have bc5 := P1.b.cell 5; have bc6 := P1.b.cell 6; simp at bc0 bc1 bc2 bc3 bc4 bc5 bc6; have bz0 := P1.b.frozen 0; have bz1 := P1.b.frozen 1; have bz2 := P1.b.frozen 2; have bz3 := P1.b.frozen 3; have bz4 := P1.b.frozen 4; have bz5 := P1.b.frozen 5; have bz6 := P1.b.frozen 6))
      refine bodyPost_ret (v := .tuple #[.agg #[.int .i64 op, .int .i64 (0), .int .i64 (n1), .int .i64 (0), .slice none 0 0, .slice none 0 0, .slice none 0 0], .string r1, .int .i64 2]) (boxedPlace _ _ _ _ _ _ _ _ _ _ _ _ _ _ _ _ _ rfl rfl rfl _ (Pair.ret (P1.put 2 (.int .i64 n1)) _ _ _ _ _ _ _)) rfl ⟨0, n1, 0, _, _, rfl, Pair.retk (P1.put 2 (.int .i64 n1)) _ _ _ _ _ _ _, HF.out⟩
    · by_cases g3 : 64 ≤ n1
      · by_cases g4 : f2 = 0
        · subst g4
          have HF : Hid (FitsE (placeT s) (n3, n1 - 64, n2) r3 f3) := Lib.hid (by
            rw [HPT.out]
            refine fitsE_bind F1.out (fun _ => ?_) fun h => absurd rfl h
            rw [if_neg g2, if_pos g3]
            refine fitsE_bind F2.out (fun _ => ?_) fun h => absurd rfl h
            exact fitsE_bind F3.out (fun h => ⟨h, rfl, rfl⟩) fun _ => rfl)
          clear F1 F2 F3
          go_enter Try.func63, Try.ntmps63
          go_wp2_with (first | (go_at_call 34; refine (H1.out _).mono ?_; rintro e w1 ⟨rfl, k1⟩; clear H1; have P1 := P0.out.below k1; have ac0 := P1.a.cell 0; have ac1 := P1.a.cell 1; have ac2 := P1.a.cell 2; have ac3 := P1.a.cell 3; have ac4 := P1.a.cell 4; have ac5 := P1.a.cell 5; have ac6 := P1.a.cell 6; simp at ac0 ac1 ac2 ac3 ac4 ac5 ac6; have az0 := P1.a.frozen 0; have az1 := P1.a.frozen 1; have az2 := P1.a.frozen 2; have az3 := P1.a.frozen 3; have az4 := P1.a.frozen 4; have az5 := P1.a.frozen 5; have az6 := P1.a.frozen 6; have bc0 := P1.b.cell 0; have bc1 := P1.b.cell 1; have bc2 := P1.b.cell 2; have bc3 := P1.b.cell 3; have bc4 := P1.b.cell 4; have bc5 := P1.b.cell 5; have bc6 := P1.b.cell 6; simp at bc0 bc1 bc2 bc3 bc4 bc5 bc6; have bz0 := P1.b.frozen 0; have bz1 := P1.b.frozen 1; have bz2 := P1.b.frozen 2; have bz3 := P1.b.frozen 3; have bz4 := P1.b.frozen 4; have bz5 := P1.b.frozen 5; have bz6 := P1.b.frozen 6) | (go_at_call 34; refine (H2.out _).mono ?_; rintro e w2 ⟨rfl, k2⟩; clear H2; have P2 := ((P1.put 2 (.int .i64 n1)).put 2 (.int .i64 (n1 - 64))).below k2; have dc0 := P2.a.cell 0; have dc1 := P2.a.cell 1; have dc2 := P2.a.cell 2; have dc3 := P2.a.cell 3; have dc4 := P2.a.cell 4; have dc5 := P2.a.cell 5; have dc6 := P2.a.cell 6; simp at dc0 dc1 dc2 dc3 dc4 dc5 dc6; have dz0 := P2.a.frozen 0; have dz1 := P2.a.frozen 1; have dz2 := P2.a.frozen 2; have dz3 := P2.a.frozen 3; have dz4 := P2.a.frozen 4; have dz5 := P2.a.frozen 5; have dz6 := P2.a.frozen 6; have ec0 := P2.b.cell 0; have ec1 := P2.b.cell 1; have ec2 := P2.b.cell 2; have ec3 := P2.b.cell 3; have ec4 := P2.b.cell 4; have ec5 := P2.b.cell 5; have ec6 := P2.b.cell 6; simp at ec0 ec1 ec2 ec3 ec4 ec5 ec6; have ez0 := P2.b.frozen 0; have ez1 := P2.b.frozen 1; have ez2 := P2.b.frozen 2; have ez3 := P2.b.frozen 3; have ez4 := P2.b.frozen 4; have ez5 := P2.b.frozen 5; have ez6 := P2.b.frozen 6) | (go_at_call 34; refine (H3.out _).mono ?_; rintro e w3 ⟨rfl, k3⟩; clear H3; have P3 := (P2.put 3 (.int .i64 n2)).below k3; have gc0 := P3.a.cell 0; have gc1 := P3.a.cell 1; have gc2 := P3.a.cell 2; have gc3 := P3.a.cell 3; have gc4 := P3.a.cell 4; have gc5 := P3.a.cell 5; have gc6 := P3.a.cell 6; simp at gc0 gc1 gc2 gc3 gc4 gc5 gc6; have gz0 := P3.a.frozen 0; have gz1 := P3.a.frozen 1; have gz2 := P3.a.frozen 2; have gz3 := P3.a.frozen 3; have gz4 := P3.a.frozen 4; have gz5 := P3.a.frozen 5; have gz6 := P3.a.frozen 6; have hc0 := P3.b.cell 0; have hc1 := P3.b.cell 1; have hc2 := P3.b.cell 2; have hc3 := P3.b.cell 3; have hc4 := P3.b.cell 4; have hc5 := P3.b.cell 5; have hc6 := P3.b.cell 6; simp at hc0 hc1 hc2 hc3 hc4 hc5 hc6; have hz0 := P3.b.frozen 0; have hz1 := P3.b.frozen 1; have hz2 := P3.b.frozen 2; have hz3 := P3.b.frozen 3; have hz4 := P3.b.frozen 4; have hz5 := P3.b.frozen 5; have hz6 := P3.b.frozen 6))
          refine bodyPost_ret (v := .tuple #[.agg #[.int .i64 op, .int .i64 (n3), .int .i64 (n1 - 64), .int .i64 (n2), .slice none 0 0, .slice none 0 0, .slice none 0 0], .string r3, .int .i64 f3]) (boxedPlace _ _ _ _ _ _ _ _ _ _ _ _ _ _ _ _ _ rfl rfl rfl _ (Pair.ret (P3.put 1 (.int .i64 n3)) _ _ _ _ _ _ _)) rfl ⟨n3, n1 - 64, n2, _, _, rfl, Pair.retk (P3.put 1 (.int .i64 n3)) _ _ _ _ _ _ _, HF.out⟩
        · have HF : Hid (FitsE (placeT s) (0, n1 - 64, n2) r2 f2) := Lib.hid (by
            rw [HPT.out]
            refine fitsE_bind F1.out (fun _ => ?_) fun h => absurd rfl h
            rw [if_neg g2, if_pos g3]
            exact fitsE_bind F2.out (fun h => absurd h g4) fun _ => rfl)
          have g4' := eq_no g4
          clear F1 F2 F3 H3 g4
          go_enter Try.func63, Try.ntmps63
          go_wp2_with (first | (go_at_call 34; refine (H1.out _).mono ?_; rintro e w1 ⟨rfl, k1⟩; clear H1; have P1 := P0.out.below k1; have ac0 := P1.a.cell 0; have ac1 := P1.a.cell 1; have ac2 := P1.a.cell 2; have ac3 := P1.a.cell 3; have ac4 := P1.a.cell 4; have ac5 := P1.a.cell 5; have ac6 := P1.a.cell 6; simp at ac0 ac1 ac2 ac3 ac4 ac5 ac6; have az0 := P1.a.frozen 0; have az1 := P1.a.frozen 1; have az2 := P1.a.frozen 2; have az3 := P1.a.frozen 3; have az4 := P1.a.frozen 4; have az5 := P1.a.frozen 5; have az6 := P1.a.frozen 6; have bc0 := P1.b.cell 0; have bc1 := P1.b.cell 1; have bc2 := P1.b.cell 2; have bc3 := P1.b.cell 3; have bc4 := P1.b.cell 4; have bc5 := P1.b.cell 5; have bc6 := P1.b.cell 6; simp at bc0 bc1 bc2 bc3 bc4 bc5 bc6; have bz0 := P1.b.frozen 0; have bz1 := P1.b.frozen 1; have bz2 := P1.b.frozen 2; have bz3 := P1.b.frozen 3; have bz4 := P1.b.frozen 4; have bz5 := P1.b.frozen 5; have bz6 := P1.b.frozen 6) | (go_at_call 34; refine (H2.out _).mono ?_; rintro e w2 ⟨rfl, k2⟩; clear H2; have P2 := ((P1.put 2 (.int .i64 n1)).put 2 (.int .i64 (n1 - 64))).below k2; have dc0 := P2.a.cell 0; have dc1 := P2.a.cell 1; have dc2 := P2.a.cell 2; have dc3 := P2.a.cell 3; have dc4 := P2.a.cell 4; have dc5 := P2.a.cell 5; have dc6 := P2.a.cell 6; simp at dc0 dc1 dc2 dc3 dc4 dc5 dc6; have dz0 := P2.a.frozen 0; have dz1 := P2.a.frozen 1; have dz2 := P2.a.frozen 2; have dz3 := P2.a.frozen 3; have dz4 := P2.a.frozen 4; have dz5 := P2.a.frozen 5; have dz6 := P2.a.frozen 6; have ec0 := P2.b.cell 0; have ec1 := P2.b.cell 1; have ec2 := P2.b.cell 2; have ec3 := P2.b.cell 3; have ec4 := P2.b.cell 4; have ec5 := P2.b.cell 5; have ec6 := P2.b.cell 6; simp at ec0 ec1 ec2 ec3 ec4 ec5 ec6; have ez0 := P2.b.frozen 0; have ez1 := P2.b.frozen 1; have ez2 := P2.b.frozen 2; have ez3 := P2.b.frozen 3; have ez4 := P2.b.frozen 4; have ez5 := P2.b.frozen 5; have ez6 := P2.b.frozen 6))
          refine bodyPost_ret (v := .tuple #[.agg #[.int .i64 op, .int .i64 (0), .int .i64 (n1 - 64), .int .i64 (n2), .slice none 0 0, .slice none 0 0, .slice none 0 0], .string r2, .int .i64 f2]) (boxedPlace _ _ _ _ _ _ _ _ _ _ _ _ _ _ _ _ _ rfl rfl rfl _ (Pair.ret (P2.put 3 (.int .i64 n2)) _ _ _ _ _ _ _)) rfl ⟨0, n1 - 64, n2, _, _, rfl, Pair.retk (P2.put 3 (.int .i64 n2)) _ _ _ _ _ _ _, HF.out⟩
      · have HF : Hid (FitsE (placeT s) (n2, n1, 0) r2 f2) := Lib.hid (by
          rw [HPT.out]
          refine fitsE_bind F1.out (fun _ => ?_) fun h => absurd rfl h
          rw [if_neg g2, if_neg g3]
          exact fitsE_bind F2.out (fun h => ⟨h, rfl, rfl⟩) fun _ => rfl)
        clear F1 F2 F3 H3
        by_cases g4 : f2 = 0
        · subst g4
          go_enter Try.func63, Try.ntmps63
          go_wp2_with (first | (go_at_call 34; refine (H1.out _).mono ?_; rintro e w1 ⟨rfl, k1⟩; clear H1; have P1 := P0.out.below k1; have ac0 := P1.a.cell 0; have ac1 := P1.a.cell 1; have ac2 := P1.a.cell 2; have ac3 := P1.a.cell 3; have ac4 := P1.a.cell 4; have ac5 := P1.a.cell 5; have ac6 := P1.a.cell 6; simp at ac0 ac1 ac2 ac3 ac4 ac5 ac6; have az0 := P1.a.frozen 0; have az1 := P1.a.frozen 1; have az2 := P1.a.frozen 2; have az3 := P1.a.frozen 3; have az4 := P1.a.frozen 4; have az5 := P1.a.frozen 5; have az6 := P1.a.frozen 6; have bc0 := P1.b.cell 0; have bc1 := P1.b.cell 1; have bc2 := P1.b.cell 2; have bc3 := P1.b.cell 3; have bc4 := P1.b.cell 4; have bc5 := P1.b.cell 5; have bc6 := P1.b.cell 6; simp at bc0 bc1 bc2 bc3 bc4 bc5 bc6; have bz0 := P1.b.frozen 0; have bz1 := P1.b.frozen 1; have bz2 := P1.b.frozen 2; have bz3 := P1.b.frozen 3; have bz4 := P1.b.frozen 4; have bz5 := P1.b.frozen 5; have bz6 := P1.b.frozen 6) | (go_at_call 34; refine (H2.out _).mono ?_; rintro e w2 ⟨rfl, k2⟩; clear H2; have P2 := (P1.put 2 (.int .i64 n1)).below k2; have dc0 := P2.a.cell 0; have dc1 := P2.a.cell 1; have dc2 := P2.a.cell 2; have dc3 := P2.a.cell 3; have dc4 := P2.a.cell 4; have dc5 := P2.a.cell 5; have dc6 := P2.a.cell 6; simp at dc0 dc1 dc2 dc3 dc4 dc5 dc6; have dz0 := P2.a.frozen 0; have dz1 := P2.a.frozen 1; have dz2 := P2.a.frozen 2; have dz3 := P2.a.frozen 3; have dz4 := P2.a.frozen 4; have dz5 := P2.a.frozen 5; have dz6 := P2.a.frozen 6; have ec0 := P2.b.cell 0; have ec1 := P2.b.cell 1; have ec2 := P2.b.cell 2; have ec3 := P2.b.cell 3; have ec4 := P2.b.cell 4; have ec5 := P2.b.cell 5; have ec6 := P2.b.cell 6; simp at ec0 ec1 ec2 ec3 ec4 ec5 ec6; have ez0 := P2.b.frozen 0; have ez1 := P2.b.frozen 1; have ez2 := P2.b.frozen 2; have ez3 := P2.b.frozen 3; have ez4 := P2.b.frozen 4; have ez5 := P2.b.frozen 5; have ez6 := P2.b.frozen 6))
          refine bodyPost_ret (v := .tuple #[.agg #[.int .i64 op, .int .i64 (n2), .int .i64 (n1), .int .i64 (0), .slice none 0 0, .slice none 0 0, .slice none 0 0], .string r2, .int .i64 0]) (boxedPlace _ _ _ _ _ _ _ _ _ _ _ _ _ _ _ _ _ rfl rfl rfl _ (Pair.ret (P2.put 1 (.int .i64 n2)) _ _ _ _ _ _ _)) rfl ⟨n2, n1, 0, _, _, rfl, Pair.retk (P2.put 1 (.int .i64 n2)) _ _ _ _ _ _ _, HF.out⟩
        · have g4' := eq_no g4
          clear g4
          go_enter Try.func63, Try.ntmps63
          go_wp2_with (first | (go_at_call 34; refine (H1.out _).mono ?_; rintro e w1 ⟨rfl, k1⟩; clear H1; have P1 := P0.out.below k1; have ac0 := P1.a.cell 0; have ac1 := P1.a.cell 1; have ac2 := P1.a.cell 2; have ac3 := P1.a.cell 3; have ac4 := P1.a.cell 4; have ac5 := P1.a.cell 5; have ac6 := P1.a.cell 6; simp at ac0 ac1 ac2 ac3 ac4 ac5 ac6; have az0 := P1.a.frozen 0; have az1 := P1.a.frozen 1; have az2 := P1.a.frozen 2; have az3 := P1.a.frozen 3; have az4 := P1.a.frozen 4; have az5 := P1.a.frozen 5; have az6 := P1.a.frozen 6; have bc0 := P1.b.cell 0; have bc1 := P1.b.cell 1; have bc2 := P1.b.cell 2; have bc3 := P1.b.cell 3; have bc4 := P1.b.cell 4; have bc5 := P1.b.cell 5; have bc6 := P1.b.cell 6; simp at bc0 bc1 bc2 bc3 bc4 bc5 bc6; have bz0 := P1.b.frozen 0; have bz1 := P1.b.frozen 1; have bz2 := P1.b.frozen 2; have bz3 := P1.b.frozen 3; have bz4 := P1.b.frozen 4; have bz5 := P1.b.frozen 5; have bz6 := P1.b.frozen 6) | (go_at_call 34; refine (H2.out _).mono ?_; rintro e w2 ⟨rfl, k2⟩; clear H2; have P2 := (P1.put 2 (.int .i64 n1)).below k2; have dc0 := P2.a.cell 0; have dc1 := P2.a.cell 1; have dc2 := P2.a.cell 2; have dc3 := P2.a.cell 3; have dc4 := P2.a.cell 4; have dc5 := P2.a.cell 5; have dc6 := P2.a.cell 6; simp at dc0 dc1 dc2 dc3 dc4 dc5 dc6; have dz0 := P2.a.frozen 0; have dz1 := P2.a.frozen 1; have dz2 := P2.a.frozen 2; have dz3 := P2.a.frozen 3; have dz4 := P2.a.frozen 4; have dz5 := P2.a.frozen 5; have dz6 := P2.a.frozen 6; have ec0 := P2.b.cell 0; have ec1 := P2.b.cell 1; have ec2 := P2.b.cell 2; have ec3 := P2.b.cell 3; have ec4 := P2.b.cell 4; have ec5 := P2.b.cell 5; have ec6 := P2.b.cell 6; simp at ec0 ec1 ec2 ec3 ec4 ec5 ec6; have ez0 := P2.b.frozen 0; have ez1 := P2.b.frozen 1; have ez2 := P2.b.frozen 2; have ez3 := P2.b.frozen 3; have ez4 := P2.b.frozen 4; have ez5 := P2.b.frozen 5; have ez6 := P2.b.frozen 6))
          refine bodyPost_ret (v := .tuple #[.agg #[.int .i64 op, .int .i64 (n2), .int .i64 (n1), .int .i64 (0), .slice none 0 0, .slice none 0 0, .slice none 0 0], .string r2, .int .i64 f2]) (boxedPlace _ _ _ _ _ _ _ _ _ _ _ _ _ _ _ _ _ rfl rfl rfl _ (Pair.ret (P2.put 1 (.int .i64 n2)) _ _ _ _ _ _ _)) rfl ⟨n2, n1, 0, _, _, rfl, Pair.retk (P2.put 1 (.int .i64 n2)) _ _ _ _ _ _ _, HF.out⟩
  · have HF : Hid (FitsE (placeT s) (0, n1, 0) r1 f1) := Lib.hid (by
      rw [HPT.out]
      exact fitsE_bind F1.out (fun h => absurd h g1) fun _ => rfl)
    have g1' := eq_no g1
    clear H2 H3 F1 F2 F3 g1
    go_enter Try.func63, Try.ntmps63
    go_wp2_with (first | (go_at_call 34; refine (H1.out _).mono ?_; rintro e w1 ⟨rfl, k1⟩; clear H1; have P1 := P0.out.below k1; have ac0 := P1.a.cell 0; have ac1 := P1.a.cell 1; have ac2 := P1.a.cell 2; have ac3 := P1.a.cell 3; have ac4 := P1.a.cell 4; have ac5 := P1.a.cell 5; have ac6 := P1.a.cell 6; simp at ac0 ac1 ac2 ac3 ac4 ac5 ac6; have az0 := P1.a.frozen 0; have az1 := P1.a.frozen 1; have az2 := P1.a.frozen 2; have az3 := P1.a.frozen 3; have az4 := P1.a.frozen 4; have az5 := P1.a.frozen 5; have az6 := P1.a.frozen 6; have bc0 := P1.b.cell 0; have bc1 := P1.b.cell 1; have bc2 := P1.b.cell 2; have bc3 := P1.b.cell 3; have bc4 := P1.b.cell 4; have bc5 := P1.b.cell 5; have bc6 := P1.b.cell 6; simp at bc0 bc1 bc2 bc3 bc4 bc5 bc6; have bz0 := P1.b.frozen 0; have bz1 := P1.b.frozen 1; have bz2 := P1.b.frozen 2; have bz3 := P1.b.frozen 3; have bz4 := P1.b.frozen 4; have bz5 := P1.b.frozen 5; have bz6 := P1.b.frozen 6))
    refine bodyPost_ret (v := .tuple #[.agg #[.int .i64 op, .int .i64 (0), .int .i64 (n1), .int .i64 (0), .slice none 0 0, .slice none 0 0, .slice none 0 0], .string r1, .int .i64 f1]) (boxedPlace _ _ _ _ _ _ _ _ _ _ _ _ _ _ _ _ _ rfl rfl rfl _ (Pair.ret (P1.put 2 (.int .i64 n1)) _ _ _ _ _ _ _)) rfl ⟨0, n1, 0, _, _, rfl, Pair.retk (P1.put 2 (.int .i64 n1)) _ _ _ _ _ _ _, HF.out⟩
end Go.Proofs.Ytfhifnkekegkkaa
