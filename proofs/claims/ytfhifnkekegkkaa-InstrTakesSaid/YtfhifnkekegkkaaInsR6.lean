/- The reference's reading of an instruction's numbers. -/
import Derived.Test.YtfhifnkekegkkaaInsR2
import Derived.Test.YtfhifnkekegkkaaInsLR
import Derived.BigQuiet
import Derived.Lib.Hide
namespace Go.Proofs.Ytfhifnkekegkkaa
open Go.RowKit Go.Deep
open Leb (byt byt_lt byt_get)

theorem BlkAt.seven {w : World} {b : Nat} {c0 c1 c2 c3 c4 c5 c6 : Value} {T : TypeId} (h : BlkAt w b #[c0, c1, c2, c3, c4, c5, c6] T) :
    (w.cell? ⟨b, 0, none⟩ = some c0 ∧ w.cell? ⟨b, 1, none⟩ = some c1 ∧ w.cell? ⟨b, 2, none⟩ = some c2 ∧ w.cell? ⟨b, 3, none⟩ = some c3 ∧ w.cell? ⟨b, 4, none⟩ = some c4 ∧ w.cell? ⟨b, 5, none⟩ = some c5 ∧ w.cell? ⟨b, 6, none⟩ = some c6) ∧
    (w.frozen? ⟨b, 0, none⟩ = false ∧ w.frozen? ⟨b, 1, none⟩ = false ∧ w.frozen? ⟨b, 2, none⟩ = false ∧ w.frozen? ⟨b, 3, none⟩ = false ∧ w.frozen? ⟨b, 4, none⟩ = false ∧ w.frozen? ⟨b, 5, none⟩ = false ∧ w.frozen? ⟨b, 6, none⟩ = false) :=
  ⟨⟨h.cell 0, h.cell 1, h.cell 2, h.cell 3, h.cell 4, h.cell 5, h.cell 6⟩, ⟨h.frozen 0, h.frozen 1, h.frozen 2, h.frozen 3, h.frozen 4, h.frozen 5, h.frozen 6⟩⟩
/-- The result's block, and the instruction's behind it. -/
structure Duo5 (w0 wx : World) (cs : Array Value) : Prop where
  a : BlkAt wx w0.heap.size #[.int .i64 0, .int .i64 0, .int .i64 0, .int .i64 0, .slice none 0 0, .slice none 0 0, .slice none 0 0] 47
  b : BlkAt wx (w0.heap.size + 1) cs 47
  k : Below w0.heap.size w0 wx
theorem Duo5.put {w0 wx : World} {cs : Array Value} (h : Duo5 w0 wx cs) (i : Nat) (v : Value) : Duo5 w0 (wx.setCell ⟨w0.heap.size + 1, i, none⟩ v) (cs.setIfInBounds i v) :=
  ⟨h.a.other (by omega) i v, h.b.put i v, below_set h.k (Nat.le_succ _) v⟩
theorem Duo5.below {w0 wx wy : World} {cs : Array Value} (h : Duo5 w0 wx cs) (hb : Below wx.heap.size wx wy) : Duo5 w0 wy cs := ⟨h.a.below hb, h.b.below hb, h.k.trans (hb.mono h.k.size)⟩
theorem Duo5.start (w : World) (cs : Array Value) : Duo5 w ((w.alloc (.cells #[.int .i64 0, .int .i64 0, .int .i64 0, .int .i64 0, .slice none 0 0, .slice none 0 0, .slice none 0 0] 47)).alloc (.cells cs 47)) cs := by
  have hbp : Below w.heap.size w (w.alloc (.cells #[.int .i64 0, .int .i64 0, .int .i64 0, .int .i64 0, .slice none 0 0, .slice none 0 0, .slice none 0 0] 47)) := (Below.refl _ _).alloc (Nat.le_refl _) _
  have hbz : Below (w.alloc (.cells #[.int .i64 0, .int .i64 0, .int .i64 0, .int .i64 0, .slice none 0 0, .slice none 0 0, .slice none 0 0] 47)).heap.size (w.alloc (.cells #[.int .i64 0, .int .i64 0, .int .i64 0, .int .i64 0, .slice none 0 0, .slice none 0 0, .slice none 0 0] 47)) ((w.alloc (.cells #[.int .i64 0, .int .i64 0, .int .i64 0, .int .i64 0, .slice none 0 0, .slice none 0 0, .slice none 0 0] 47)).alloc (.cells cs 47)) := (Below.refl _ _).alloc (Nat.le_refl _) _
  have hsz0 : (w.alloc (.cells #[.int .i64 0, .int .i64 0, .int .i64 0, .int .i64 0, .slice none 0 0, .slice none 0 0, .slice none 0 0] 47)).heap.size = w.heap.size + 1 := by simp
  exact ⟨(BlkAt.new w _ _).below hbz, hsz0 ▸ BlkAt.new (w.alloc (.cells #[.int .i64 0, .int .i64 0, .int .i64 0, .int .i64 0, .slice none 0 0, .slice none 0 0, .slice none 0 0] 47)) cs _, hbp.trans (hbz.mono hbp.size)⟩
theorem Duo5.ret {w0 wx : World} {cs : Array Value} (h : Duo5 w0 wx cs) (v0 v1 v2 v3 v4 v5 v6 : Value) :
    BlkAt (((((((wx.setCell ⟨w0.heap.size, 0, none⟩ v0).setCell ⟨w0.heap.size, 1, none⟩ v1).setCell ⟨w0.heap.size, 2, none⟩ v2).setCell ⟨w0.heap.size, 3, none⟩ v3).setCell ⟨w0.heap.size, 4, none⟩ v4).setCell ⟨w0.heap.size, 5, none⟩ v5).setCell ⟨w0.heap.size, 6, none⟩ v6) w0.heap.size #[v0, v1, v2, v3, v4, v5, v6] 47 :=
  ((((((h.a.put 0 v0).put 1 v1).put 2 v2).put 3 v3).put 4 v4).put 5 v5).put 6 v6
theorem Duo5.retk {w0 wx : World} {cs : Array Value} (h : Duo5 w0 wx cs) (v0 v1 v2 v3 v4 v5 v6 : Value) :
    Below w0.heap.size w0 (((((((wx.setCell ⟨w0.heap.size, 0, none⟩ v0).setCell ⟨w0.heap.size, 1, none⟩ v1).setCell ⟨w0.heap.size, 2, none⟩ v2).setCell ⟨w0.heap.size, 3, none⟩ v3).setCell ⟨w0.heap.size, 4, none⟩ v4).setCell ⟨w0.heap.size, 5, none⟩ v5).setCell ⟨w0.heap.size, 6, none⟩ v6) :=
  below_set (below_set (below_set (below_set (below_set (below_set (below_set h.k (Nat.le_refl _) v0) (Nat.le_refl _) v1) (Nat.le_refl _) v2) (Nat.le_refl _) v3) (Nat.le_refl _) v4) (Nat.le_refl _) v5) (Nat.le_refl _) v6
set_option maxRecDepth 100000 in
theorem boxedNums (tmps : Array Value) (q : Nat) (r : ByteArray) (a b c d f : Int) (x1 x2 x3 : Option Addr) (l1 l2 l3 c1 c2 c3 : Nat) (h4 : tmps[4]?.getD undef = .pointer (some ⟨q, 0, none⟩)) (h5 : tmps[5]?.getD undef = .string r) (h6 : tmps[6]?.getD undef = .int .i64 f) (w : World)
    (hb : BlkAt w q #[.int .i64 a, .int .i64 b, .int .i64 c, .int .i64 d, .slice x1 l1 c1, .slice x2 l2 c2, .slice x3 l3 c3] 47) : (results Try.f35 tmps).run Try.prog w = .ok (.tuple #[.agg #[.int .i64 a, .int .i64 b, .int .i64 c, .int .i64 d, .slice x1 l1 c1, .slice x2 l2 c2, .slice x3 l3 c3], .string r, .int .i64 f]) w := by
  have e0 := hb.cell 0
  have e1 := hb.cell 1
  have e2 := hb.cell 2
  have e3 := hb.cell 3
  have e4 := hb.cell 4
  have e5 := hb.cell 5
  have e6 := hb.cell 6
  simp at e0 e1 e2 e3 e4 e5 e6
  simp [results, Try.results35, go_sem, h4, h5, h6, e0, e1, e2, e3, e4, e5, e6]
/-- What reading an instruction's numbers comes to, whatever the opcode. -/
def numbT (op : Int) (s : ByteArray) : Except Int ((Int × Int × Int × List Int) × ByteArray) := if (shapeV op).2 = 0 then numsT op (shapeV op).1 s else .error (shapeV op).2
/-- What the reference's reading of an instruction's numbers leaves. -/
def GivesN (op : Int) (s : ByteArray) (w : World) (e : Ending) (w' : World) : Prop :=
  ∃ a b m x1 c1 n r f, e = .returned (.tuple #[.agg #[.int .i64 op, .int .i64 a, .int .i64 b, .int .i64 m, .slice x1 n.length c1, .slice none 0 0, .slice none 0 0], .string r, .int .i64 f]) ∧ Below w.heap.size w w' ∧ FitsE (numbT op s) (a, b, m, n) r f ∧ Ints w.heap.size (.slice x1 n.length c1) n w'
theorem numbT_of {op sh : Int} (h : shapeV op = (sh, 0)) (s : ByteArray) : numbT op s = numsT op sh s := by unfold numbT; rw [h, if_pos rfl]
theorem numsT_idx {op sh : Int} (h : sh = 2 ∨ sh = 3 ∨ sh = 5 ∨ sh = 8 ∨ sh = 9 ∨ sh = 10) (s : ByteArray) : numsT op sh s = (idxT op sh s).bind fun q => .ok ((q.1.1, 0, q.1.2, []), q.2) := by
  rcases h with rfl | rfl | rfl | rfl | rfl | rfl
  · show _ = ((blkT s).bind _).bind _
    rw [bind_bind]
    rfl
  · show _ = ((uT s).bind _).bind _
    rw [bind_bind]
    rfl
  · show _ = (twoT s).bind _
    unfold twoT
    simp only [bind_bind]
    rfl
  · show _ = ((uT s).bind _).bind _
    rw [bind_bind]
    rfl
  · show _ = ((twoT s).bind _).bind _
    unfold twoT
    simp only [bind_bind]
    rfl
  · show _ = ((constT op s).bind _).bind _
    rw [bind_bind]
    rfl
theorem ints_set {B : Nat} {v : Value} {n : List Int} {w : World} (h : Ints B v n w) {k : Nat} (hk : k < B) (i : Nat) (u : Value) : Ints B v n (w.setCell ⟨k, i, none⟩ u) :=
  h.kept (F := fun j => j = k) ((Kept.refl (fun j => j = k) w).set (p := ⟨k, i, none⟩) rfl u) (fun j q => by rw [q]; exact hk)

set_option maxRecDepth 100000 in
set_option maxHeartbeats 2000000 in
theorem refNumbers_err (op : Int) (e0 : Int) (he : e0 ≠ 0) (s : ByteArray) (hs : s.size ≤ 1000000000) (w : World) (hsh : shapeV op = (0, e0)) :
    Calls Try.prog 35 #[.int .i64 op, .string s] w fun e w' => GivesN op s w e w' := by
  have _hs := hs
  have P0 := Lib.hid (Duo5.start w #[.int .i64 op, .int .i64 0, .int .i64 0, .int .i64 0, .slice none 0 0, .slice none 0 0, .slice none 0 0])
  obtain ⟨⟨p0, p1, p2, p3, p4, p5, p6⟩, p7, p8, p9, p10, p11, p12, p13⟩ := P0.out.b.seven
  obtain ⟨⟨o0, o1, o2, o3, o4, o5, o6⟩, o7, o8, o9, o10, o11, o12, o13⟩ := P0.out.a.seven
  have HS : Hid (∀ w, Calls Try.prog 27 #[.int .i64 op] w fun e w' => e = .returned (.tuple #[.int .i64 (0), .int .i64 (e0)]) ∧ Below w.heap.size w w') := Lib.hid fun w => by
    have := refShape_any op w
    rw [hsh] at this
    exact this
  have hne : (e0 != 0) = true := by simpa using he
  have HF : Hid (FitsE (numbT op s) (0, 0, 0, []) ⟨#[]⟩ e0) := Lib.hid (by unfold numbT; rw [hsh, if_neg he]; exact ⟨rfl, he⟩)
  clear he hsh hs
  go_enter Try.func35, Try.ntmps35
  go_wp2_with (first | (go_at_call 27; refine (HS.out _).mono ?_; rintro e w1 ⟨rfl, k1⟩; clear HS; have P1 := P0.out.below k1; obtain ⟨⟨p10, p11, p12, p13, p14, p15, p16⟩, r10, r11, r12, r13, r14, r15, r16⟩ := P1.b.seven; obtain ⟨⟨o10, o11, o12, o13, o14, o15, o16⟩, s10, s11, s12, s13, s14, s15, s16⟩ := P1.a.seven))
  refine bodyPost_ret (v := .tuple #[.agg #[.int .i64 op, .int .i64 (0), .int .i64 (0), .int .i64 (0), .slice none 0 0, .slice none 0 0, .slice none 0 0], .string (⟨#[]⟩), .int .i64 (e0)]) (boxedNums _ _ _ _ _ _ _ _ _ _ _ _ _ _ _ _ _ rfl rfl rfl _ (Duo5.ret P1 _ _ _ _ _ _ _)) rfl ⟨_, _, _, none, 0, [], _, _, rfl, Duo5.retk P1 _ _ _ _ _ _ _, HF.out, ints_nil _ _⟩
set_option maxRecDepth 100000 in
set_option maxHeartbeats 2000000 in
theorem refNumbers_idx (op : Int) (sh : Int) (h6 : sh = 2 ∨ sh = 3 ∨ sh = 5 ∨ sh = 8 ∨ sh = 9 ∨ (sh = 10 ∧ (op = 65 ∨ op = 66))) (s : ByteArray) (hs : s.size ≤ 1000000000) (w : World) (hsh : shapeV op = (sh, 0)) :
    Calls Try.prog 35 #[.int .i64 op, .string s] w fun e w' => GivesN op s w e w' := by
  have _hs := hs
  have P0 := Lib.hid (Duo5.start w #[.int .i64 op, .int .i64 0, .int .i64 0, .int .i64 0, .slice none 0 0, .slice none 0 0, .slice none 0 0])
  obtain ⟨⟨p0, p1, p2, p3, p4, p5, p6⟩, p7, p8, p9, p10, p11, p12, p13⟩ := P0.out.b.seven
  obtain ⟨⟨o0, o1, o2, o3, o4, o5, o6⟩, o7, o8, o9, o10, o11, o12, o13⟩ := P0.out.a.seven
  have HS : Hid (∀ w, Calls Try.prog 27 #[.int .i64 op] w fun e w' => e = .returned (.tuple #[.int .i64 (sh), .int .i64 (0)]) ∧ Below w.heap.size w w') := Lib.hid fun w => by
    have := refShape_any op w
    rw [hsh] at this
    exact this
  have HI := Lib.hid (refIndices_any sh op h6 s (by unfold maxLen; omega))
  have HN : Hid (numbT op s = (idxT op sh s).bind fun q => .ok ((q.1.1, 0, q.1.2, []), q.2)) := Lib.hid (by rw [numbT_of hsh, numsT_idx (by omega)])
  have h7 : sh = 2 ∨ sh = 3 ∨ sh = 5 ∨ sh = 8 ∨ sh = 9 ∨ sh = 10 := by omega
  clear h6 hsh hs
  rcases h7 with rfl | rfl | rfl | rfl | rfl | rfl
  all_goals
    go_enter Try.func35, Try.ntmps35
    go_wp2_with (first | (go_at_call 27; refine (HS.out _).mono ?_; rintro e w1 ⟨rfl, k1⟩; clear HS; have P1 := P0.out.below k1; obtain ⟨⟨p10, p11, p12, p13, p14, p15, p16⟩, r10, r11, r12, r13, r14, r15, r16⟩ := P1.b.seven; obtain ⟨⟨o10, o11, o12, o13, o14, o15, o16⟩, s10, s11, s12, s13, s14, s15, s16⟩ := P1.a.seven) | (go_at_call 60; refine (HI.out _).mono ?_; rintro e w2 ⟨a, m, r, f, rfl, k2, q2⟩; have HF := Lib.hid (HN.out ▸ fitsE_map q2 fun q => (q.1, (0 : Int), q.2, ([] : List Int))); clear HI q2; have P2 := P1.below k2; obtain ⟨⟨p20, p21, p22, p23, p24, p25, p26⟩, r20, r21, r22, r23, r24, r25, r26⟩ := P2.b.seven; obtain ⟨⟨o20, o21, o22, o23, o24, o25, o26⟩, s20, s21, s22, s23, s24, s25, s26⟩ := P2.a.seven))
    refine bodyPost_ret (v := .tuple #[.agg #[.int .i64 op, .int .i64 (a), .int .i64 (0), .int .i64 (m), .slice none 0 0, .slice none 0 0, .slice none 0 0], .string (r), .int .i64 (f)]) (boxedNums _ _ _ _ _ _ _ _ _ _ _ _ _ _ _ _ _ rfl rfl rfl _ (Duo5.ret ((P2.put 1 (.int .i64 a)).put 3 (.int .i64 m)) _ _ _ _ _ _ _)) rfl ⟨_, _, _, none, 0, [], _, _, rfl, Duo5.retk ((P2.put 1 (.int .i64 a)).put 3 (.int .i64 m)) _ _ _ _ _ _ _, HF.out, ints_nil _ _⟩
set_option maxRecDepth 100000 in
set_option maxHeartbeats 2000000 in
theorem refNumbers_one (op : Int) (s : ByteArray) (hs : s.size ≤ 1000000000) (w : World) (hsh : shapeV op = (1, 0)) :
    Calls Try.prog 35 #[.int .i64 op, .string s] w fun e w' => GivesN op s w e w' := by
  have _hs := hs
  have P0 := Lib.hid (Duo5.start w #[.int .i64 op, .int .i64 0, .int .i64 0, .int .i64 0, .slice none 0 0, .slice none 0 0, .slice none 0 0])
  obtain ⟨⟨p0, p1, p2, p3, p4, p5, p6⟩, p7, p8, p9, p10, p11, p12, p13⟩ := P0.out.b.seven
  obtain ⟨⟨o0, o1, o2, o3, o4, o5, o6⟩, o7, o8, o9, o10, o11, o12, o13⟩ := P0.out.a.seven
  have HS : Hid (∀ w, Calls Try.prog 27 #[.int .i64 op] w fun e w' => e = .returned (.tuple #[.int .i64 (1), .int .i64 (0)]) ∧ Below w.heap.size w w') := Lib.hid fun w => by
    have := refShape_any op w
    rw [hsh] at this
    exact this
  have HF : Hid (FitsE (numbT op s) (0, 0, 0, []) s 0) := Lib.hid (by rw [numbT_of hsh]; exact ⟨rfl, rfl, rfl⟩)
  clear hsh hs
  go_enter Try.func35, Try.ntmps35
  go_wp2_with (first | (go_at_call 27; refine (HS.out _).mono ?_; rintro e w1 ⟨rfl, k1⟩; clear HS; have P1 := P0.out.below k1; obtain ⟨⟨p10, p11, p12, p13, p14, p15, p16⟩, r10, r11, r12, r13, r14, r15, r16⟩ := P1.b.seven; obtain ⟨⟨o10, o11, o12, o13, o14, o15, o16⟩, s10, s11, s12, s13, s14, s15, s16⟩ := P1.a.seven))
  refine bodyPost_ret (v := .tuple #[.agg #[.int .i64 op, .int .i64 (0), .int .i64 (0), .int .i64 (0), .slice none 0 0, .slice none 0 0, .slice none 0 0], .string (s), .int .i64 (0)]) (boxedNums _ _ _ _ _ _ _ _ _ _ _ _ _ _ _ _ _ rfl rfl rfl _ (Duo5.ret P1 _ _ _ _ _ _ _)) rfl ⟨_, _, _, none, 0, [], _, _, rfl, Duo5.retk P1 _ _ _ _ _ _ _, HF.out, ints_nil _ _⟩
set_option maxRecDepth 100000 in
set_option maxHeartbeats 2000000 in
theorem refNumbers_place (op : Int) (s : ByteArray) (hs : s.size ≤ 1000000000) (w : World) (hsh : shapeV op = (7, 0)) :
    Calls Try.prog 35 #[.int .i64 op, .string s] w fun e w' => GivesN op s w e w' := by
  have _hs := hs
  have P0 := Lib.hid (Duo5.start w #[.int .i64 op, .int .i64 0, .int .i64 0, .int .i64 0, .slice none 0 0, .slice none 0 0, .slice none 0 0])
  obtain ⟨⟨p0, p1, p2, p3, p4, p5, p6⟩, p7, p8, p9, p10, p11, p12, p13⟩ := P0.out.b.seven
  obtain ⟨⟨o0, o1, o2, o3, o4, o5, o6⟩, o7, o8, o9, o10, o11, o12, o13⟩ := P0.out.a.seven
  have HS : Hid (∀ w, Calls Try.prog 27 #[.int .i64 op] w fun e w' => e = .returned (.tuple #[.int .i64 (7), .int .i64 (0)]) ∧ Below w.heap.size w w') := Lib.hid fun w => by
    have := refShape_any op w
    rw [hsh] at this
    exact this
  have HI := Lib.hid (refPlace_any op s (by unfold maxLen; omega))
  have HN : Hid (numbT op s = (placeT s).bind fun q => .ok ((q.1.1, q.1.2.1, q.1.2.2, []), q.2)) := Lib.hid (by rw [numbT_of hsh]; rfl)
  clear hsh hs
  go_enter Try.func35, Try.ntmps35
  go_wp2_with (first | (go_at_call 27; refine (HS.out _).mono ?_; rintro e w1 ⟨rfl, k1⟩; clear HS; have P1 := P0.out.below k1; obtain ⟨⟨p10, p11, p12, p13, p14, p15, p16⟩, r10, r11, r12, r13, r14, r15, r16⟩ := P1.b.seven; obtain ⟨⟨o10, o11, o12, o13, o14, o15, o16⟩, s10, s11, s12, s13, s14, s15, s16⟩ := P1.a.seven) | (go_at_call 63; refine (HI.out _).mono ?_; rintro e w2 ⟨a, b, m, r, f, rfl, k2, q2⟩; have HF := Lib.hid (HN.out ▸ fitsE_map q2 fun q => (q.1, q.2.1, q.2.2, ([] : List Int))); clear HI q2; have P2 := P1.below k2; obtain ⟨⟨p20, p21, p22, p23, p24, p25, p26⟩, r20, r21, r22, r23, r24, r25, r26⟩ := P2.b.seven; obtain ⟨⟨o20, o21, o22, o23, o24, o25, o26⟩, s20, s21, s22, s23, s24, s25, s26⟩ := P2.a.seven))
  refine bodyPost_ret (v := .tuple #[.agg #[.int .i64 op, .int .i64 (a), .int .i64 (b), .int .i64 (m), .slice none 0 0, .slice none 0 0, .slice none 0 0], .string (r), .int .i64 (f)]) (boxedNums _ _ _ _ _ _ _ _ _ _ _ _ _ _ _ _ _ rfl rfl rfl _ (Duo5.ret P2 _ _ _ _ _ _ _)) rfl ⟨_, _, _, none, 0, [], _, _, rfl, Duo5.retk P2 _ _ _ _ _ _ _, HF.out, ints_nil _ _⟩
set_option maxRecDepth 100000 in
set_option maxHeartbeats 2000000 in
theorem refNumbers_null (op : Int) (s : ByteArray) (hs : s.size ≤ 1000000000) (w : World) (hsh : shapeV op = (11, 0)) :
    Calls Try.prog 35 #[.int .i64 op, .string s] w fun e w' => GivesN op s w e w' := by
  have _hs := hs
  have P0 := Lib.hid (Duo5.start w #[.int .i64 op, .int .i64 0, .int .i64 0, .int .i64 0, .slice none 0 0, .slice none 0 0, .slice none 0 0])
  obtain ⟨⟨p0, p1, p2, p3, p4, p5, p6⟩, p7, p8, p9, p10, p11, p12, p13⟩ := P0.out.b.seven
  obtain ⟨⟨o0, o1, o2, o3, o4, o5, o6⟩, o7, o8, o9, o10, o11, o12, o13⟩ := P0.out.a.seven
  have HS : Hid (∀ w, Calls Try.prog 27 #[.int .i64 op] w fun e w' => e = .returned (.tuple #[.int .i64 (11), .int .i64 (0)]) ∧ Below w.heap.size w w') := Lib.hid fun w => by
    have := refShape_any op w
    rw [hsh] at this
    exact this
  obtain ⟨t, r, f, h1, h2⟩ := typed_fits s
  have HI := Lib.hid (refTyped_any s (by unfold maxLen; omega))
  rw [h1] at HI
  have HN : Hid (numbT op s = (yT s).bind fun q => (if q.1 = 112 then Except.ok q else .error 2).bind fun q => .ok ((0, 0, 0, []), q.2)) := Lib.hid (by rw [numbT_of hsh]; unfold numsT nullT; simp only [bind_bind]; rfl)
  have HY := Lib.hid h2
  clear h1 h2 hsh hs
  by_cases g1 : f = 0
  · subst g1
    by_cases g2 : t = 112
    · subst g2
      have HF : Hid (FitsE (numbT op s) (0, 0, 0, []) r 0) := Lib.hid (by rw [HN.out]; exact fitsE_bind HY.out (fun _ => ⟨rfl, rfl, rfl⟩) fun h => absurd rfl h)
      go_enter Try.func35, Try.ntmps35
      go_wp2_with (first | (go_at_call 27; refine (HS.out _).mono ?_; rintro e w1 ⟨rfl, k1⟩; clear HS; have P1 := P0.out.below k1; obtain ⟨⟨p10, p11, p12, p13, p14, p15, p16⟩, r10, r11, r12, r13, r14, r15, r16⟩ := P1.b.seven; obtain ⟨⟨o10, o11, o12, o13, o14, o15, o16⟩, s10, s11, s12, s13, s14, s15, s16⟩ := P1.a.seven) | (go_at_call 62; refine (HI.out _).mono ?_; rintro e w2 ⟨rfl, k2⟩; clear HI; have P2 := P1.below k2; obtain ⟨⟨p20, p21, p22, p23, p24, p25, p26⟩, r20, r21, r22, r23, r24, r25, r26⟩ := P2.b.seven; obtain ⟨⟨o20, o21, o22, o23, o24, o25, o26⟩, s20, s21, s22, s23, s24, s25, s26⟩ := P2.a.seven))
      refine bodyPost_ret (v := .tuple #[.agg #[.int .i64 op, .int .i64 (0), .int .i64 (0), .int .i64 (0), .slice none 0 0, .slice none 0 0, .slice none 0 0], .string (r), .int .i64 (0)]) (boxedNums _ _ _ _ _ _ _ _ _ _ _ _ _ _ _ _ _ rfl rfl rfl _ (Duo5.ret P2 _ _ _ _ _ _ _)) rfl ⟨_, _, _, none, 0, [], _, _, rfl, Duo5.retk P2 _ _ _ _ _ _ _, HF.out, ints_nil _ _⟩
    · have HF : Hid (FitsE (numbT op s) (0, 0, 0, []) r 2) := Lib.hid (by rw [HN.out]; exact fitsE_bind HY.out (fun _ => by show FitsE ((if t = 112 then Except.ok (t, r) else Except.error 2).bind _) _ _ _; rw [if_neg g2]; exact ⟨rfl, by decide⟩) fun h => absurd rfl h)
      have g2' : (t != 112) = true := by simpa using g2
      clear g2
      go_enter Try.func35, Try.ntmps35
      go_wp2_with (first | (go_at_call 27; refine (HS.out _).mono ?_; rintro e w1 ⟨rfl, k1⟩; clear HS; have P1 := P0.out.below k1; obtain ⟨⟨p10, p11, p12, p13, p14, p15, p16⟩, r10, r11, r12, r13, r14, r15, r16⟩ := P1.b.seven; obtain ⟨⟨o10, o11, o12, o13, o14, o15, o16⟩, s10, s11, s12, s13, s14, s15, s16⟩ := P1.a.seven) | (go_at_call 62; refine (HI.out _).mono ?_; rintro e w2 ⟨rfl, k2⟩; clear HI; have P2 := P1.below k2; obtain ⟨⟨p20, p21, p22, p23, p24, p25, p26⟩, r20, r21, r22, r23, r24, r25, r26⟩ := P2.b.seven; obtain ⟨⟨o20, o21, o22, o23, o24, o25, o26⟩, s20, s21, s22, s23, s24, s25, s26⟩ := P2.a.seven))
      refine bodyPost_ret (v := .tuple #[.agg #[.int .i64 op, .int .i64 (0), .int .i64 (0), .int .i64 (0), .slice none 0 0, .slice none 0 0, .slice none 0 0], .string (r), .int .i64 (2)]) (boxedNums _ _ _ _ _ _ _ _ _ _ _ _ _ _ _ _ _ rfl rfl rfl _ (Duo5.ret P2 _ _ _ _ _ _ _)) rfl ⟨_, _, _, none, 0, [], _, _, rfl, Duo5.retk P2 _ _ _ _ _ _ _, HF.out, ints_nil _ _⟩
  · have HF : Hid (FitsE (numbT op s) (0, 0, 0, []) r f) := Lib.hid (by rw [HN.out]; exact fitsE_bind HY.out (fun h => absurd h g1) fun _ => rfl)
    have g1' := eq_no g1
    clear g1
    go_enter Try.func35, Try.ntmps35
    go_wp2_with (first | (go_at_call 27; refine (HS.out _).mono ?_; rintro e w1 ⟨rfl, k1⟩; clear HS; have P1 := P0.out.below k1; obtain ⟨⟨p10, p11, p12, p13, p14, p15, p16⟩, r10, r11, r12, r13, r14, r15, r16⟩ := P1.b.seven; obtain ⟨⟨o10, o11, o12, o13, o14, o15, o16⟩, s10, s11, s12, s13, s14, s15, s16⟩ := P1.a.seven) | (go_at_call 62; refine (HI.out _).mono ?_; rintro e w2 ⟨rfl, k2⟩; clear HI; have P2 := P1.below k2; obtain ⟨⟨p20, p21, p22, p23, p24, p25, p26⟩, r20, r21, r22, r23, r24, r25, r26⟩ := P2.b.seven; obtain ⟨⟨o20, o21, o22, o23, o24, o25, o26⟩, s20, s21, s22, s23, s24, s25, s26⟩ := P2.a.seven))
    refine bodyPost_ret (v := .tuple #[.agg #[.int .i64 op, .int .i64 (0), .int .i64 (0), .int .i64 (0), .slice none 0 0, .slice none 0 0, .slice none 0 0], .string (r), .int .i64 (f)]) (boxedNums _ _ _ _ _ _ _ _ _ _ _ _ _ _ _ _ _ rfl rfl rfl _ (Duo5.ret P2 _ _ _ _ _ _ _)) rfl ⟨_, _, _, none, 0, [], _, _, rfl, Duo5.retk P2 _ _ _ _ _ _ _, HF.out, ints_nil _ _⟩
set_option maxRecDepth 100000 in
set_option maxHeartbeats 2000000 in
theorem refNumbers_types (op : Int) (s : ByteArray) (hs : s.size ≤ 1000000000) (w : World) (hsh : shapeV op = (6, 0)) :
    Calls Try.prog 35 #[.int .i64 op, .string s] w fun e w' => GivesN op s w e w' := by
  have _hs := hs
  have P0 := Lib.hid (Duo5.start w #[.int .i64 op, .int .i64 0, .int .i64 0, .int .i64 0, .slice none 0 0, .slice none 0 0, .slice none 0 0])
  obtain ⟨⟨p0, p1, p2, p3, p4, p5, p6⟩, p7, p8, p9, p10, p11, p12, p13⟩ := P0.out.b.seven
  obtain ⟨⟨o0, o1, o2, o3, o4, o5, o6⟩, o7, o8, o9, o10, o11, o12, o13⟩ := P0.out.a.seven
  have HS : Hid (∀ w, Calls Try.prog 27 #[.int .i64 op] w fun e w' => e = .returned (.tuple #[.int .i64 (6), .int .i64 (0)]) ∧ Below w.heap.size w w') := Lib.hid fun w => by
    have := refShape_any op w
    rw [hsh] at this
    exact this
  have HU := Lib.hid (refTakeU_any s (by unfold maxLen; omega))
  unfold uTup at HU
  have hus := uR_size s
  obtain ⟨t, r, f, h1, h2⟩ := typed_fits (uR s)
  have HI := Lib.hid (refTyped_any (uR s) (by unfold maxLen; omega))
  rw [h1] at HI
  have HN : Hid (numbT op s = (uT s).bind fun q => (if q.1 = 1 then yT q.2 else .error 2).bind fun q => .ok ((q.1, 0, 0, []), q.2)) := Lib.hid (by rw [numbT_of hsh]; unfold numsT typesT; simp only [bind_bind]; rfl)
  have HY := Lib.hid h2
  have F1 := Lib.hid (fits_u s).toE
  clear h1 h2 hsh hs hus
  revert HU HI HY F1
  generalize uR s = r1
  generalize uE s = f1
  generalize uN s = n1
  intro HU HI HY F1
  by_cases g1 : f1 = 0
  · subst g1
    by_cases g2 : n1 = 1
    · subst g2
      have HF : Hid (FitsE (numbT op s) (t, 0, 0, []) r f) := Lib.hid (by rw [HN.out]; exact fitsE_bind F1.out (fun _ => fitsE_map HY.out fun q => (q, (0 : Int), (0 : Int), ([] : List Int))) fun h => absurd rfl h)
      clear HY F1
      go_enter Try.func35, Try.ntmps35
      go_wp2_with (first | (go_at_call 27; refine (HS.out _).mono ?_; rintro e w1 ⟨rfl, k1⟩; clear HS; have P1 := P0.out.below k1; obtain ⟨⟨p10, p11, p12, p13, p14, p15, p16⟩, r10, r11, r12, r13, r14, r15, r16⟩ := P1.b.seven; obtain ⟨⟨o10, o11, o12, o13, o14, o15, o16⟩, s10, s11, s12, s13, s14, s15, s16⟩ := P1.a.seven) | (go_at_call 34; refine (HU.out _).mono ?_; rintro e w2 ⟨rfl, k2⟩; clear HU; have P2 := P1.below k2; obtain ⟨⟨p20, p21, p22, p23, p24, p25, p26⟩, r20, r21, r22, r23, r24, r25, r26⟩ := P2.b.seven; obtain ⟨⟨o20, o21, o22, o23, o24, o25, o26⟩, s20, s21, s22, s23, s24, s25, s26⟩ := P2.a.seven) | (go_at_call 62; refine (HI.out _).mono ?_; rintro e w3 ⟨rfl, k3⟩; clear HI; have P3 := P2.below k3; obtain ⟨⟨p30, p31, p32, p33, p34, p35, p36⟩, r30, r31, r32, r33, r34, r35, r36⟩ := P3.b.seven; obtain ⟨⟨o30, o31, o32, o33, o34, o35, o36⟩, s30, s31, s32, s33, s34, s35, s36⟩ := P3.a.seven))
      refine bodyPost_ret (v := .tuple #[.agg #[.int .i64 op, .int .i64 (t), .int .i64 (0), .int .i64 (0), .slice none 0 0, .slice none 0 0, .slice none 0 0], .string (r), .int .i64 (f)]) (boxedNums _ _ _ _ _ _ _ _ _ _ _ _ _ _ _ _ _ rfl rfl rfl _ (Duo5.ret (P3.put 1 (.int .i64 t)) _ _ _ _ _ _ _)) rfl ⟨_, _, _, none, 0, [], _, _, rfl, Duo5.retk (P3.put 1 (.int .i64 t)) _ _ _ _ _ _ _, HF.out, ints_nil _ _⟩
    · have HF : Hid (FitsE (numbT op s) (0, 0, 0, []) r1 2) := Lib.hid (by rw [HN.out]; exact fitsE_bind F1.out (fun _ => by show FitsE ((if n1 = 1 then yT r1 else Except.error 2).bind _) _ _ _; rw [if_neg g2]; exact ⟨rfl, by decide⟩) fun h => absurd rfl h)
      have g2' : (n1 != 1) = true := by simpa using g2
      clear g2 HY F1 HI
      go_enter Try.func35, Try.ntmps35
      go_wp2_with (first | (go_at_call 27; refine (HS.out _).mono ?_; rintro e w1 ⟨rfl, k1⟩; clear HS; have P1 := P0.out.below k1; obtain ⟨⟨p10, p11, p12, p13, p14, p15, p16⟩, r10, r11, r12, r13, r14, r15, r16⟩ := P1.b.seven; obtain ⟨⟨o10, o11, o12, o13, o14, o15, o16⟩, s10, s11, s12, s13, s14, s15, s16⟩ := P1.a.seven) | (go_at_call 34; refine (HU.out _).mono ?_; rintro e w2 ⟨rfl, k2⟩; clear HU; have P2 := P1.below k2; obtain ⟨⟨p20, p21, p22, p23, p24, p25, p26⟩, r20, r21, r22, r23, r24, r25, r26⟩ := P2.b.seven; obtain ⟨⟨o20, o21, o22, o23, o24, o25, o26⟩, s20, s21, s22, s23, s24, s25, s26⟩ := P2.a.seven))
      refine bodyPost_ret (v := .tuple #[.agg #[.int .i64 op, .int .i64 (0), .int .i64 (0), .int .i64 (0), .slice none 0 0, .slice none 0 0, .slice none 0 0], .string (r1), .int .i64 (2)]) (boxedNums _ _ _ _ _ _ _ _ _ _ _ _ _ _ _ _ _ rfl rfl rfl _ (Duo5.ret P2 _ _ _ _ _ _ _)) rfl ⟨_, _, _, none, 0, [], _, _, rfl, Duo5.retk P2 _ _ _ _ _ _ _, HF.out, ints_nil _ _⟩
  · have HF : Hid (FitsE (numbT op s) (0, 0, 0, []) r1 f1) := Lib.hid (by rw [HN.out]; exact fitsE_bind F1.out (fun h => absurd h g1) fun _ => rfl)
    have g1' := eq_no g1
    have g1'' : (f1 != 0) = true := by simpa using g1
    clear g1 HY F1 HI
    go_enter Try.func35, Try.ntmps35
    go_wp2_with (first | (go_at_call 27; refine (HS.out _).mono ?_; rintro e w1 ⟨rfl, k1⟩; clear HS; have P1 := P0.out.below k1; obtain ⟨⟨p10, p11, p12, p13, p14, p15, p16⟩, r10, r11, r12, r13, r14, r15, r16⟩ := P1.b.seven; obtain ⟨⟨o10, o11, o12, o13, o14, o15, o16⟩, s10, s11, s12, s13, s14, s15, s16⟩ := P1.a.seven) | (go_at_call 34; refine (HU.out _).mono ?_; rintro e w2 ⟨rfl, k2⟩; clear HU; have P2 := P1.below k2; obtain ⟨⟨p20, p21, p22, p23, p24, p25, p26⟩, r20, r21, r22, r23, r24, r25, r26⟩ := P2.b.seven; obtain ⟨⟨o20, o21, o22, o23, o24, o25, o26⟩, s20, s21, s22, s23, s24, s25, s26⟩ := P2.a.seven))
    refine bodyPost_ret (v := .tuple #[.agg #[.int .i64 op, .int .i64 (0), .int .i64 (0), .int .i64 (0), .slice none 0 0, .slice none 0 0, .slice none 0 0], .string (r1), .int .i64 (f1)]) (boxedNums _ _ _ _ _ _ _ _ _ _ _ _ _ _ _ _ _ rfl rfl rfl _ (Duo5.ret P2 _ _ _ _ _ _ _)) rfl ⟨_, _, _, none, 0, [], _, _, rfl, Duo5.retk P2 _ _ _ _ _ _ _, HF.out, ints_nil _ _⟩
theorem ints_mono {B B' : Nat} {v : Value} {n : List Int} {w : World} (h : Ints B v n w) (hb : B' ≤ B) : Ints B' v n w := by
  refine ⟨by have := h.1; omega, ?_⟩
  rcases h.2 with hn | ⟨g, cap, cur, rfl, hg, rest⟩
  · exact .inl hn
  · exact .inr ⟨g, cap, cur, rfl, by omega, rest⟩
theorem ints_set7 {B k : Nat} {v : Value} {n : List Int} {w : World} (h : Ints B v n w) (hk : k < B) (v0 v1 v2 v3 v4 v5 v6 : Value) : Ints B v n (((((((w.setCell ⟨k, 0, none⟩ v0).setCell ⟨k, 1, none⟩ v1).setCell ⟨k, 2, none⟩ v2).setCell ⟨k, 3, none⟩ v3).setCell ⟨k, 4, none⟩ v4).setCell ⟨k, 5, none⟩ v5).setCell ⟨k, 6, none⟩ v6) :=
  ints_set (ints_set (ints_set (ints_set (ints_set (ints_set (ints_set h hk 0 v0) hk 1 v1) hk 2 v2) hk 3 v3) hk 4 v4) hk 5 v5) hk 6 v6
set_option maxRecDepth 100000 in
set_option maxHeartbeats 2000000 in
theorem refNumbers_labels (op : Int) (s : ByteArray) (hs : s.size ≤ 1000000000) (w : World) (hsh : shapeV op = (4, 0)) :
    Calls Try.prog 35 #[.int .i64 op, .string s] w fun e w' => GivesN op s w e w' := by
  have _hs := hs
  have P0 := Lib.hid (Duo5.start w #[.int .i64 op, .int .i64 0, .int .i64 0, .int .i64 0, .slice none 0 0, .slice none 0 0, .slice none 0 0])
  obtain ⟨⟨p0, p1, p2, p3, p4, p5, p6⟩, p7, p8, p9, p10, p11, p12, p13⟩ := P0.out.b.seven
  obtain ⟨⟨o0, o1, o2, o3, o4, o5, o6⟩, o7, o8, o9, o10, o11, o12, o13⟩ := P0.out.a.seven
  have HS : Hid (∀ w, Calls Try.prog 27 #[.int .i64 op] w fun e w' => e = .returned (.tuple #[.int .i64 (4), .int .i64 (0)]) ∧ Below w.heap.size w w') := Lib.hid fun w => by
    have := refShape_any op w
    rw [hsh] at this
    exact this
  have HA := Lib.hid (refTakeAll_any s 1000 hs)
  have HU := Lib.hid (refTakeU_any (allRes s 1000).2.1 (by have := aR_size s 1000; unfold maxLen; omega))
  unfold uTup at HU
  have HN : Hid (numbT op s = (aT s).bind fun q => (uT q.2).bind fun p => .ok ((p.1, 0, 0, q.1), p.2)) := Lib.hid (by rw [numbT_of hsh]; rfl)
  have F1 := Lib.hid (fits_a s).toE
  have F2 := Lib.hid (fits_u (allRes s 1000).2.1).toE
  clear hsh hs
  revert HA HU F1 F2
  generalize allRes s 1000 = res
  obtain ⟨ns, r1, f1⟩ := res
  intro HA HU F1 F2
  replace HU : Hid (∀ w, Calls Try.prog 34 #[.string r1] w fun e w' => e = .returned (.tuple #[.int .i64 (uN r1), .string (uR r1), .int .i64 (uE r1)]) ∧ Below w.heap.size w w') := HU
  replace HA : Hid (∀ w, Calls Try.prog 61 #[.string s, .int .i64 1000] w fun e w' => GivesRows w.heap.size (ns, r1, f1) w e w') := HA
  replace F1 : Hid (FitsE (aT s) ns r1 f1) := F1
  replace F2 : Hid (FitsE (uT r1) (uN r1) (uR r1) (uE r1)) := F2
  revert HU F2
  generalize uR r1 = r2
  generalize uE r1 = f2
  generalize uN r1 = n2
  intro HU F2
  by_cases g1 : f1 = 0
  · subst g1
    have HF : Hid (FitsE (numbT op s) (n2, 0, 0, ns) r2 f2) := Lib.hid (by rw [HN.out]; exact fitsE_bind F1.out (fun _ => fitsE_map F2.out fun q => (q, (0 : Int), (0 : Int), ns)) fun h => absurd rfl h)
    clear F1 F2
    go_enter Try.func35, Try.ntmps35
    go_wp2_with (first | (go_at_call 27; refine (HS.out _).mono ?_; rintro e w1 ⟨rfl, k1⟩; clear HS; have P1 := P0.out.below k1; obtain ⟨⟨p10, p11, p12, p13, p14, p15, p16⟩, r10, r11, r12, r13, r14, r15, r16⟩ := P1.b.seven; obtain ⟨⟨o10, o11, o12, o13, o14, o15, o16⟩, s10, s11, s12, s13, s14, s15, s16⟩ := P1.a.seven) | (go_at_call 61; refine (HA.out _).mono ?_; rintro e w2 ⟨v2, rfl, hi2, k2⟩; obtain ⟨a2, cap2, hv2, _⟩ := hi2.view; subst hv2; clear HA; have hlt1 := P1.b.lt; have P2 := P1.below k2; obtain ⟨⟨p20, p21, p22, p23, p24, p25, p26⟩, r20, r21, r22, r23, r24, r25, r26⟩ := P2.b.seven; obtain ⟨⟨o20, o21, o22, o23, o24, o25, o26⟩, s20, s21, s22, s23, s24, s25, s26⟩ := P2.a.seven) | (go_at_call 34; refine (HU.out _).mono ?_; rintro e w3 ⟨rfl, k3⟩; clear HU; have hi3 := (ints_set hi2 hlt1 4 (.slice a2 ns.length cap2)).below k3; have P3 := (P2.put 4 (.slice a2 ns.length cap2)).below k3; obtain ⟨⟨p30, p31, p32, p33, p34, p35, p36⟩, r30, r31, r32, r33, r34, r35, r36⟩ := P3.b.seven; obtain ⟨⟨o30, o31, o32, o33, o34, o35, o36⟩, s30, s31, s32, s33, s34, s35, s36⟩ := P3.a.seven))
    have hltb := P3.a.lt
    refine bodyPost_ret (v := .tuple #[.agg #[.int .i64 op, .int .i64 (n2), .int .i64 (0), .int .i64 (0), .slice a2 ns.length cap2, .slice none 0 0, .slice none 0 0], .string (r2), .int .i64 (f2)]) (boxedNums _ _ _ _ _ _ _ _ _ _ _ _ _ _ _ _ _ rfl rfl rfl _ (Duo5.ret (P3.put 1 (.int .i64 n2)) _ _ _ _ _ _ _)) rfl ⟨_, _, _, a2, cap2, ns, _, _, rfl, Duo5.retk (P3.put 1 (.int .i64 n2)) _ _ _ _ _ _ _, HF.out, ints_mono (ints_set7 (ints_set hi3 hlt1 1 (.int .i64 n2)) (Nat.lt_trans (Nat.lt_succ_self _) hlt1) _ _ _ _ _ _ _) (Nat.le_of_lt (Nat.lt_trans (Nat.lt_succ_self _) hlt1))⟩
  · have HF : Hid (FitsE (numbT op s) (0, 0, 0, ns) r1 f1) := Lib.hid (by rw [HN.out]; exact fitsE_bind F1.out (fun h => absurd h g1) fun _ => rfl)
    have g1' : (f1 != 0) = true := by simpa using g1
    clear g1 F1 F2 HU
    go_enter Try.func35, Try.ntmps35
    go_wp2_with (first | (go_at_call 27; refine (HS.out _).mono ?_; rintro e w1 ⟨rfl, k1⟩; clear HS; have P1 := P0.out.below k1; obtain ⟨⟨p10, p11, p12, p13, p14, p15, p16⟩, r10, r11, r12, r13, r14, r15, r16⟩ := P1.b.seven; obtain ⟨⟨o10, o11, o12, o13, o14, o15, o16⟩, s10, s11, s12, s13, s14, s15, s16⟩ := P1.a.seven) | (go_at_call 61; refine (HA.out _).mono ?_; rintro e w2 ⟨v2, rfl, hi2, k2⟩; obtain ⟨a2, cap2, hv2, _⟩ := hi2.view; subst hv2; clear HA; have hlt1 := P1.b.lt; have P2 := P1.below k2; obtain ⟨⟨p20, p21, p22, p23, p24, p25, p26⟩, r20, r21, r22, r23, r24, r25, r26⟩ := P2.b.seven; obtain ⟨⟨o20, o21, o22, o23, o24, o25, o26⟩, s20, s21, s22, s23, s24, s25, s26⟩ := P2.a.seven))
    have hltb := P2.a.lt
    refine bodyPost_ret (v := .tuple #[.agg #[.int .i64 op, .int .i64 (0), .int .i64 (0), .int .i64 (0), .slice a2 ns.length cap2, .slice none 0 0, .slice none 0 0], .string (r1), .int .i64 (f1)]) (boxedNums _ _ _ _ _ _ _ _ _ _ _ _ _ _ _ _ _ rfl rfl rfl _ (Duo5.ret (P2.put 4 (.slice a2 ns.length cap2)) _ _ _ _ _ _ _)) rfl ⟨_, _, _, a2, cap2, ns, _, _, rfl, Duo5.retk (P2.put 4 (.slice a2 ns.length cap2)) _ _ _ _ _ _ _, HF.out, ints_mono (ints_set7 (ints_set hi2 hlt1 4 (.slice a2 ns.length cap2)) (Nat.lt_trans (Nat.lt_succ_self _) hlt1) _ _ _ _ _ _ _) (Nat.le_of_lt (Nat.lt_trans (Nat.lt_succ_self _) hlt1))⟩
end Go.Proofs.Ytfhifnkekegkkaa
