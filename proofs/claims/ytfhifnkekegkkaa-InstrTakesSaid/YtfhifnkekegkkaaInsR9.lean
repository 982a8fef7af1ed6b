/- The reference's reading of instructions. -/
import Derived.Test.YtfhifnkekegkkaaInsR8
import Derived.Test.YtfhifnkekegkkaaInsP5
namespace Go.Proofs.Ytfhifnkekegkkaa
open Go.RowKit Go.Deep
open Leb (byt byt_lt byt_get)

theorem refNumbers_any (op : Int) (s : ByteArray) (hs : s.size ≤ 1000000000) (w : World) :
    Calls Try.prog 35 #[.int .i64 op, .string s] w fun e w' => GivesN op s w e w' := by
  by_cases her : (shapeV op).2 = 0
  · rcases shapeV_in op her with h | h | h | h | h | h | h | h | h | h | h
    · exact refNumbers_one op s hs w h
    · exact refNumbers_idx op 2 (by omega) s hs w h
    · exact refNumbers_idx op 3 (by omega) s hs w h
    · exact refNumbers_labels op s hs w h
    · exact refNumbers_idx op 5 (by omega) s hs w h
    · exact refNumbers_types op s hs w h
    · exact refNumbers_place op s hs w h
    · exact refNumbers_idx op 8 (by omega) s hs w h
    · exact refNumbers_idx op 9 (by omega) s hs w h
    · exact refNumbers_idx op 10 (by have := shape10 h; omega) s hs w h
    · exact refNumbers_null op s hs w h
  · exact refNumbers_err op (shapeV op).2 her s hs w (by rw [← shape_err her])
theorem Numbers_ok {op : Int} {s : ByteArray} {a b m : Int} {ns : List Int} {r : ByteArray} (h : numbT op s = .ok ((a, b, m, ns), r)) (hs : s.size ≤ 1000000000) (w : World) :
    Calls Try.prog 35 #[.int .i64 op, .string s] w fun e w' => ∃ x1 c1, e = .returned (.tuple #[.agg #[.int .i64 op, .int .i64 a, .int .i64 b, .int .i64 m, .slice x1 ns.length c1, .slice none 0 0, .slice none 0 0], .string r, .int .i64 0]) ∧ Below w.heap.size w w' ∧ Ints w.heap.size (.slice x1 ns.length c1) ns w' := by
  refine (refNumbers_any op s hs w).mono ?_
  rintro e w' ⟨a', b', m', x1, c1, n, r', f, rfl, hb, hf, hi⟩
  rw [h] at hf
  obtain ⟨rfl, hx, rfl⟩ := hf
  simp only [Prod.mk.injEq] at hx
  obtain ⟨rfl, rfl, rfl, rfl⟩ := hx
  exact ⟨x1, c1, rfl, hb, hi⟩
theorem Numbers_err {op : Int} {s : ByteArray} {f : Int} (h : numbT op s = .error f) (hs : s.size ≤ 1000000000) (w : World) :
    Calls Try.prog 35 #[.int .i64 op, .string s] w fun e w' => ∃ a b m x1 l1 c1 r, e = .returned (.tuple #[.agg #[.int .i64 op, .int .i64 a, .int .i64 b, .int .i64 m, .slice x1 l1 c1, .slice none 0 0, .slice none 0 0], .string r, .int .i64 f]) ∧ f ≠ 0 ∧ Below w.heap.size w w' := by
  refine (refNumbers_any op s hs w).mono ?_
  rintro e w' ⟨a', b', m', x1, c1, n, r', f', rfl, hb, hf, hi⟩
  rw [h] at hf
  obtain ⟨rfl, hx⟩ := hf
  exact ⟨a', b', m', x1, n.length, c1, r', rfl, hx, hb⟩
theorem RowP.none (B : Nat) (w : World) : RowP B w (.slice none 0 0) [] := ⟨[], World.ownsRow_nil _ _ _ _, .nil⟩
/-- Where the reference's loop stands. -/
def RelR (G : Nat) (r0 : ByteArray) (d n0 : Nat) (w : World) (sv nv lv : Value) (wr : World) : Prop :=
  ∃ ls k r n, sv = .string r ∧ nv = .int .i64 (n : Nat) ∧ RowP w.heap.size wr lv ls ∧ r.size < k ∧ k ≤ G ∧ n ≤ 8192 ∧ ls.length + r.size ≤ r0.size ∧ Below w.heap.size w wr ∧ takeL G r0 d n0 = (takeL k r d n).bind fun q => .ok ((ls ++ q.1.1, q.1.2.1, q.1.2.2), q.2)
def szOf : Value → Nat
  | .string s => s.size
  | _ => 0
theorem instrT_numb (L : ByteArray → Nat → Nat → LRes) (op : Int) (s : ByteArray) (d n : Nat) : instrT L op s d n = (numbT op s).bind fun p => if n + 1 ≤ 8192 then (if (shapeV op).1 = 2 then (if d < 32 then blockT L op p.1.1 p.1.2.1 p.1.2.2.1 p.1.2.2.2 p.2 d (n + 1) else .error 14) else .ok ((.mk op p.1.1 p.1.2.1 p.1.2.2.1 p.1.2.2.2 [] [], n + 1), p.2)) else .error 14 := by
  unfold instrT numbT
  by_cases h : (shapeV op).2 = 0
  · rw [if_pos h, if_pos h]
  · rw [if_neg h, if_neg h]
    rfl
/-- An instruction that a list goes on with, and what goes before it. -/
theorem list_step {g : Nat} {r r1 : ByteArray} {op : Int} {d n : Nat} (hop : opT r = .ok (op, r1)) (h11 : ¬ op = 11) (h5 : ¬ op = 5) (ls : List Ins) :
    ((takeL (g + 1) r d n).bind fun q => .ok ((ls ++ q.1.1, q.1.2.1, q.1.2.2), q.2) : LRes) = (instrT (takeL g) op r1 d n).bind fun i => (takeL g i.2 d i.1.2).bind fun q => .ok ((ls ++ [i.1.1] ++ q.1.1, q.1.2.1, q.1.2.2), q.2) := by
  rw [takeL, bind_bind, hop]
  show (if op = 11 ∨ op = 5 then _ else (instrT (takeL g) op r1 d n).bind _).bind _ = _
  rw [if_neg (fun q => q.elim h11 h5), bind_bind]
  congr 1
  funext i
  rw [bind_bind]
  congr 1
  funext q
  show Except.ok ((ls ++ (i.1.1 :: q.1.1), q.1.2.1, q.1.2.2), q.2) = _
  rw [List.append_assoc]
  rfl
theorem news7at (w : World) {b : Nat} (hb : w.heap.size = b) (T : TypeId) (a0 a1 a2 a3 a4 a5 a6 : Value) : ∀ j u, [a0, a1, a2, a3, a4, a5, a6][j]? = some u → (w.alloc (.cells #[a0, a1, a2, a3, a4, a5, a6] T)).cell? ((⟨b, 0, none⟩ : Addr).add j) = some u := by
  subst hb
  exact news7 w T a0 a1 a2 a3 a4 a5 a6
theorem below_set7 {B : Nat} {w w' : World} (h : Below B w w') {k : Nat} (hk : B ≤ k) (v0 v1 v2 v3 v4 v5 v6 : Value) : Below B w (((((((w'.setCell ⟨k, 0, none⟩ v0).setCell ⟨k, 1, none⟩ v1).setCell ⟨k, 2, none⟩ v2).setCell ⟨k, 3, none⟩ v3).setCell ⟨k, 4, none⟩ v4).setCell ⟨k, 5, none⟩ v5).setCell ⟨k, 6, none⟩ v6) :=
  below_set (below_set (below_set (below_set (below_set (below_set (below_set h hk v0) hk v1) hk v2) hk v3) hk v4) hk v5) hk v6
theorem row_below {B : Nat} {v : Value} {n : Nat} {vs : List Value} {w w' : World} (h : w.ownsRow B 47 7 v n vs) (hb : Below w.heap.size w w') : w'.ownsRow B 47 7 v n vs := row_kept h (Kept.of_below (F := fun _ => False) hb) (fun _ _ q => q.elim)
/-- Numbers that lie, and lie in each later world, too. -/
theorem view_stay {B B' : Nat} {x : Option Addr} {n : List Int} {cap : Nat} {w w4 : World} (h : Ints B (.slice x n.length cap) n w) (hB : B' ≤ B) (hb : Below w.heap.size w w4) : ∀ w', Agree (B' ≤ ·) w4 w' → View w' x n.length n :=
  fun w' ha => h.stay.2 w' (ha.next (fun k _ hl => hb.block k hl) hb.size fun _ hk _ => Nat.le_trans hB hk)
/-- Behind an instruction: the row has one element more. -/
theorem row_more {B : Nat} {v : Value} {ls : List Ins} {wr w4 w5 : World} {o : Obj} {g cap : Nat} {i : Ins} {vs us : List Value}
    (hown : wr.ownsRow B 47 7 v ls.length vs) (hel : ElsP (fun k => B ≤ k ∧ some k ≠ v.ownBlock) wr ls vs) (hb : Below wr.heap.size wr w4)
    (hi : ElP (wr.heap.size ≤ ·) w4 i us) (hown5 : w5.ownsRow B 47 7 (.slice (some ⟨g, 0, none⟩) (ls.length + 1) cap) (ls.length + 1) (vs ++ us)) (hg : (w4.alloc o).grownBy w5 v.ownBlock) (hat : v.ownBlock = some g ∨ g = (w4.alloc o).heap.size) (hB : B ≤ wr.heap.size) :
    RowP B w5 (.slice (some ⟨g, 0, none⟩) (ls.length + 1) cap) (ls ++ [i]) :=
  row_snoc hown hel (fun k _ hl => hb.block k hl) hb.size hi (fun _ hk => hk) hown5 hg hat hB
theorem below_grown {B : Nat} {v : Value} {n : Nat} {vs : List Value} {w wr w4 w5 : World} {o : Obj} (hown : wr.ownsRow B 47 7 v n vs) (hb0 : Below B w wr) (hB : B ≤ w.heap.size) (hb : Below wr.heap.size wr w4) (hg : (w4.alloc o).grownBy w5 v.ownBlock) : Below B w w5 := by
  have h1 : Below B w (w4.alloc o) := (hb0.trans (hb.mono (Nat.le_trans hB hb0.size))).alloc (by have := hb0.size; have := hb.size; omega) o
  have hs := h1.size
  refine ⟨hg.os.trans h1.os, hg.tape.trans h1.tape, hg.output.trans h1.output, Nat.le_trans h1.size hg.size, fun k hk => ?_⟩
  have hne : some k ≠ v.ownBlock := fun q => by have := (row_lt hown k q.symm).1; omega
  exact (hg.block k (by omega) hne).trans (h1.block k hk)
set_option maxRecDepth 100000 in
theorem list_out {G : Nat} {r0 : ByteArray} {d n0 : Nat} {w w' : World} {x0 : Option Addr} {len cap : Nat} {r' : ByteArray} {last c f : Int} (hb : Below w.heap.size w w')
    (h : match takeL G r0 d n0 with
     | .error e => f = e ∧ e ≠ 0 ∧ x0 = none ∧ len = 0 ∧ cap = 0 ∧ r' = ⟨#[]⟩
     | .ok q => f = 0 ∧ r' = q.2 ∧ last = q.1.2.1 ∧ c = (q.1.2.2 : Nat) ∧ OwnP (w.heap.size ≤ ·) w' x0 len cap q.1.1) :
    GivesR G r0 d n0 w (.returned (.tuple #[.slice x0 len cap, .string r', .int .i64 last, .int .i64 c, .int .i64 f])) w' := ⟨x0, len, cap, r', last, c, f, rfl, hb, h⟩
theorem list_bad {G : Nat} {r0 : ByteArray} {d n0 : Nat} {w w' : World} {last c f : Int} (hb : Below w.heap.size w w') (ht : takeL G r0 d n0 = .error f) (hf : f ≠ 0) :
    GivesR G r0 d n0 w (.returned (.tuple #[.slice none 0 0, .string ⟨#[]⟩, .int .i64 last, .int .i64 c, .int .i64 f])) w' := list_out hb (by rw [ht]; exact ⟨rfl, hf, rfl, rfl, rfl, rfl⟩)

set_option maxRecDepth 100000 in
set_option maxHeartbeats 16000000 in
theorem refList_all : ∀ G, RListOk G := by
  intro G
  induction G using Nat.strongRecOn with
  | _ G IH =>
  intro r0 n0 d w hr0 hs0 hd hn0
  have HIH := Lib.hid IH
  obtain ⟨i0, hi0, hz0, hz1, hz2⟩ := info_parts info_ins
  have HST : Hid (RelR G r0 d n0 w (.string r0) (.int .i64 n0) (.slice none 0 0) w) := Lib.hid ⟨[], G, r0, n0, rfl, rfl, RowP.none _ _, hr0, Nat.le_refl _, hn0, by simp, Below.refl _ _, (bind_id _).symm⟩
  clear IH hr0 hn0
  go_enter Try.func20, Try.ntmps20
  go_wp2_with fail
  go_loopw [0, 2, 11] (fun sv nv lv wr => RelR G r0 d n0 w sv nv lv wr) (fun sv _ _ _ => szOf sv)
  case atStart => exact HST.out
  case round =>
    clear HST
    obtain ⟨ls, k, r, n, rfl, rfl, ⟨vs, hown, hel⟩, hk, hkG, hn, hsz, hkp, heq⟩ := hrel
    obtain ⟨k', rfl⟩ : ∃ k', k = k' + 1 := ⟨k - 1, by omega⟩
    have HEQ := Lib.hid heq
    have HOWN := Lib.hid hown
    have HEL := Lib.hid hel
    have HKP := Lib.hid hkp
    have HL := Lib.hid (HIH.out k' (by omega))
    have hzz := hkp.size
    obtain ⟨x0, cap, hv, HOW⟩ := RowP.own ⟨vs, hown, hel⟩
    subst hv
    clear heq hown hel hkp
    by_cases hr : r.size = 0
    · have hT : takeL G r0 d n0 = .error 2 := by
        rw [HEQ.out, takeL]
        unfold opT
        rw [if_pos hr]
        rfl
      have HT := Lib.hid hT
      have hr2 : ((r.size : Int) == 0) = true := by simpa using hr
      clear hT hr
      go_wp2_with fail
      refine bodyPost_ret (v := .tuple #[.slice none 0 0, .string ⟨#[]⟩, .int .i64 0, .int .i64 n, .int .i64 2]) (by simp [results, Try.results20, go_sem]) rfl (list_bad HKP.out HT.out (by decide))
    have hpos : 0 < r.size := by omega
    have hr2 : ((r.size : Int) == 0) = false := eq_no (by omega)
    have e3 := byt_get r 0 hpos
    have e5 := byt_lt r 0
    have b1 : (1 : Int) ≤ r.size := by omega
    have hop : opT r = if byt r 0 = 252 then (uT (r.extract 1 r.size)).bind fun q => .ok (64512 + q.1, q.2) else .ok ((byt r 0 : Int), r.extract 1 r.size) := by unfold opT; rw [if_neg hr]
    have hx1 : (r.extract 1 r.size).size + 1 = r.size := by rw [ByteArray.size_extract]; omega
    have HOP := Lib.hid hop
    clear hop hr
    obtain ⟨rx, hrx⟩ : ∃ rx, r.extract 1 r.size = rx := ⟨_, rfl⟩
    rw [hrx] at HOP hx1
    by_cases hs11 : byt r 0 = 11
    · have hT : takeL G r0 d n0 = .ok ((ls, 11, n), rx) := by
        rw [HEQ.out, takeL, HOP.out, hs11, if_neg (by decide)]
        show Except.ok ((ls ++ [], (11 : Int), n), rx) = _
        rw [List.append_nil]
      have HT := Lib.hid hT
      have t1 : (((byt r 0 : Nat) : Int) == 11) = true := by rw [hs11]; rfl
      have HB : Hid (((byt r 0 : Nat) : Int) = 11) := Lib.hid (by rw [hs11]; rfl)
      clear hT hs11
      go_wp2_with fail
      refine bodyPost_ret (v := .tuple #[.slice x0 ls.length cap, .string rx, .int .i64 (byt r 0 : Nat), .int .i64 n, .int .i64 0]) (by simp [results, Try.results20, go_sem]) rfl (list_out HKP.out ?_)
      rw [HT.out]
      exact ⟨rfl, rfl, HB.out, rfl, HOW⟩
    by_cases hs5 : byt r 0 = 5
    · have hT : takeL G r0 d n0 = .ok ((ls, 5, n), rx) := by
        rw [HEQ.out, takeL, HOP.out, hs5, if_neg (by decide)]
        show Except.ok ((ls ++ [], (5 : Int), n), rx) = _
        rw [List.append_nil]
      have HT := Lib.hid hT
      have t1 : (((byt r 0 : Nat) : Int) == 11) = false := eq_no (by omega)
      have t2 : (((byt r 0 : Nat) : Int) == 5) = true := by rw [hs5]; rfl
      have HB : Hid (((byt r 0 : Nat) : Int) = 5) := Lib.hid (by rw [hs5]; rfl)
      clear hT hs5 hs11
      go_wp2_with fail
      refine bodyPost_ret (v := .tuple #[.slice x0 ls.length cap, .string rx, .int .i64 (byt r 0 : Nat), .int .i64 n, .int .i64 0]) (by simp [results, Try.results20, go_sem]) rfl (list_out HKP.out ?_)
      rw [HT.out]
      exact ⟨rfl, rfl, HB.out, rfl, HOW⟩
    have t1 : (((byt r 0 : Nat) : Int) == 11) = false := eq_no (by omega)
    have t2 : (((byt r 0 : Nat) : Int) == 5) = false := eq_no (by omega)

    by_cases h252 : byt r 0 = 252
    case neg =>
      have t3 : (((byt r 0 : Nat) : Int) == 252) = false := eq_no (by omega)
      have hop2 : opT r = .ok (((byt r 0 : Nat) : Int), rx) := by rw [HOP.out, if_neg h252]
      have hb0 : Below wr.heap.size wr wr := Below.refl _ _
      have HGO : Hid (takeL G r0 d n0 = (instrT (takeL k') ((byt r 0 : Nat) : Int) rx d n).bind fun i => (takeL k' i.2 d i.1.2).bind fun q => .ok ((ls ++ [i.1.1] ++ q.1.1, q.1.2.1, q.1.2.2), q.2)) := Lib.hid (HEQ.out.trans (list_step hop2 (by omega) (by omega) ls))
      clear HOP hop2 hs11 hs5 h252
      cases hnm : numbT ((byt r 0 : Nat) : Int) rx with
      | error f =>
        have HT : Hid (takeL G r0 d n0 = .error f) := Lib.hid (by rw [HGO.out, instrT_numb, hnm]; rfl)
        have HN := Lib.hid (Numbers_err hnm (by omega))
        have wn : IntKind.i64.wrap ((n : Int) + 1) = (n : Int) + 1 := by rw [IntKind.wrap_i64]; omega
        clear hnm
        go_wp2_with (first | (go_at_call 35; refine (HN.out _).mono ?_; rintro e w2 ⟨a, b, m, x1, l1, c1, r', rfl, hf, k2⟩; have hb2 := hb0.trans (k2.mono hb0.size); have hf2 : (f != 0) = true := (by simpa using hf); have hf3 := eq_no hf; have hb3 := hb2.alloc hb2.size (.cells #[.int .i64 ((byt r 0 : Nat) : Int), .int .i64 a, .int .i64 b, .int .i64 m, .slice x1 l1 c1, .slice none 0 0, .slice none 0 0] 47)))
        refine bodyPost_ret (v := .tuple #[.slice none 0 0, .string ⟨#[]⟩, .int .i64 0, .int .i64 ((n : Int) + 1), .int .i64 (f)]) (by simp [results, Try.results20, go_sem]) rfl (list_bad (HKP.out.trans (hb3.mono hzz)) HT.out hf)
      | ok q =>
        obtain ⟨⟨a, b, m, ns⟩, r2⟩ := q
        have HN := Lib.hid (Numbers_ok hnm (by omega))
        have hrz : r2.size ≤ rx.size := by
          unfold numbT at hnm
          split at hnm
          · exact numsT_size hnm
          · cases hnm
        have wn : IntKind.i64.wrap ((n : Int) + 1) = (n : Int) + 1 := by rw [IntKind.wrap_i64]; omega
        have hcs : ((n + 1 : Nat) : Int) = (n : Int) + 1 := by omega
        have HGI : Hid (instrT (takeL k') ((byt r 0 : Nat) : Int) rx d n = if n + 1 ≤ 8192 then (if (shapeV ((byt r 0 : Nat) : Int)).1 = 2 then (if d < 32 then blockT (takeL k') ((byt r 0 : Nat) : Int) a b m ns r2 d (n + 1) else .error 14) else .ok ((.mk ((byt r 0 : Nat) : Int) a b m ns [] [], n + 1), r2)) else .error 14) := Lib.hid (by rw [instrT_numb, hnm]; rfl)
        clear hnm
        by_cases hfull : n + 1 ≤ 8192
        case neg =>
          have HT : Hid (takeL G r0 d n0 = .error 14) := Lib.hid (by rw [HGO.out, HGI.out, if_neg hfull]; rfl)
          have t5 : (8192 : Int) < (n : Int) + 1 := by omega
          clear hfull
          go_wp2_with (first | (go_at_call 35; refine (HN.out _).mono ?_; rintro e w2 ⟨x1, c1, rfl, k2, hi2⟩; clear HN; have hzk := k2.size; have hb2 := hb0.trans (k2.mono hb0.size); have hb3 := hb2.alloc hb2.size (.cells #[.int .i64 ((byt r 0 : Nat) : Int), .int .i64 a, .int .i64 b, .int .i64 m, .slice x1 ns.length c1, .slice none 0 0, .slice none 0 0] 47); have BI := BlkAt.new w2 #[.int .i64 ((byt r 0 : Nat) : Int), .int .i64 a, .int .i64 b, .int .i64 m, .slice x1 ns.length c1, .slice none 0 0, .slice none 0 0] 47; obtain ⟨⟨p0, p1, p2, p3, p4, p5, p6⟩, q0, q1, q2, q3, q4, q5, q6⟩ := BI.seven))
          refine bodyPost_ret (v := .tuple #[.slice none 0 0, .string ⟨#[]⟩, .int .i64 0, .int .i64 ((n : Int) + 1), .int .i64 (14)]) (by simp [results, Try.results20, go_sem]) rfl (list_bad (HKP.out.trans (hb3.mono hzz)) HT.out (by first | decide | assumption))
        have t5 : ¬ (8192 : Int) < (n : Int) + 1 := by omega
        by_cases h2 : (shapeV ((byt r 0 : Nat) : Int)).1 = 2
        case pos =>
          have hb24 := shapeV_two h2
          have u1 : (2 : Int) ≤ ((byt r 0 : Nat) : Int) := hb24.1
          have u2 : ((byt r 0 : Nat) : Int) ≤ (4 : Int) := hb24.2
          by_cases h32 : d < 32
          case neg =>
            have HT : Hid (takeL G r0 d n0 = .error 14) := Lib.hid (by rw [HGO.out, HGI.out, if_pos hfull, if_pos h2, if_neg h32]; rfl)
            have u3 : ((d : Int) == 32) = true := by rw [show d = 32 by omega]; rfl
            clear hfull h2 hb24 h32
            go_wp2_with (first | (go_at_call 35; refine (HN.out _).mono ?_; rintro e w2 ⟨x1, c1, rfl, k2, hi2⟩; clear HN; have hzk := k2.size; have hb2 := hb0.trans (k2.mono hb0.size); have hb3 := hb2.alloc hb2.size (.cells #[.int .i64 ((byt r 0 : Nat) : Int), .int .i64 a, .int .i64 b, .int .i64 m, .slice x1 ns.length c1, .slice none 0 0, .slice none 0 0] 47); have BI := BlkAt.new w2 #[.int .i64 ((byt r 0 : Nat) : Int), .int .i64 a, .int .i64 b, .int .i64 m, .slice x1 ns.length c1, .slice none 0 0, .slice none 0 0] 47; obtain ⟨⟨p0, p1, p2, p3, p4, p5, p6⟩, q0, q1, q2, q3, q4, q5, q6⟩ := BI.seven))
            refine bodyPost_ret (v := .tuple #[.slice none 0 0, .string ⟨#[]⟩, .int .i64 0, .int .i64 ((n : Int) + 1), .int .i64 (14)]) (by simp [results, Try.results20, go_sem]) rfl (list_bad (HKP.out.trans (hb3.mono hzz)) HT.out (by first | decide | assumption))
          have u3 : ((d : Int) == 32) = false := eq_no (by omega)
          have wd : IntKind.i64.wrap ((d : Int) + 1) = (d : Int) + 1 := by rw [IntKind.wrap_i64]; omega
          have HWI := Lib.hid (fun x1 c1 w => refWithin_any k' HL.out ((byt r 0 : Nat) : Int) a b m ns x1 ns.length c1 r2 (n + 1) d w (by omega) (by omega) (by omega) hfull)
          rw [hcs] at HWI
          cases hbk : blockT (takeL k') ((byt r 0 : Nat) : Int) a b m ns r2 d (n + 1) with
          | error f =>
            have HT : Hid (takeL G r0 d n0 = .error f) := Lib.hid (by rw [HGO.out, HGI.out, if_pos hfull, if_pos h2, if_pos h32, hbk]; rfl)
            have HBK := Lib.hid hbk
            clear hfull h2 hb24 h32 hbk
            go_wp2_with (first | (go_at_call 35; refine (HN.out _).mono ?_; rintro e w2 ⟨x1, c1, rfl, k2, hi2⟩; clear HN; have hzk := k2.size; have hb2 := hb0.trans (k2.mono hb0.size); have hb3 := hb2.alloc hb2.size (.cells #[.int .i64 ((byt r 0 : Nat) : Int), .int .i64 a, .int .i64 b, .int .i64 m, .slice x1 ns.length c1, .slice none 0 0, .slice none 0 0] 47); have BI := BlkAt.new w2 #[.int .i64 ((byt r 0 : Nat) : Int), .int .i64 a, .int .i64 b, .int .i64 m, .slice x1 ns.length c1, .slice none 0 0, .slice none 0 0] 47; obtain ⟨⟨p0, p1, p2, p3, p4, p5, p6⟩, q0, q1, q2, q3, q4, q5, q6⟩ := BI.seven) | (go_at_call 36; refine (HWI.out _ _ _).mono ?_; rintro e w3 ⟨x2, l2, c2, x3, l3, c3, r6, c6, f6, rfl, k3, hq3⟩; unfold GivesW at *; rw [HBK.out] at hq3; obtain ⟨rfl, hf6⟩ := hq3; have hf2 : (f6 != 0) = true := (by simpa using hf6); have hf3 := eq_no hf6; have hb4' := hb3.trans (k3.mono hb3.size); have B3 := BI.below k3; obtain ⟨⟨g0, g1, g2, g3, g4, g5, g6⟩, j0, j1, j2, j3, j4, j5, j6⟩ := B3.seven; have hb5 := below_set7 hb4' (k := w2.heap.size) hzk (.int .i64 ((byt r 0 : Nat) : Int)) (.int .i64 a) (.int .i64 b) (.int .i64 m) (.slice x1 ns.length c1) (.slice x2 l2 c2) (.slice x3 l3 c3)))
            refine bodyPost_ret (v := .tuple #[.slice none 0 0, .string ⟨#[]⟩, .int .i64 0, .int .i64 (c6), .int .i64 (f6)]) (by simp [results, Try.results20, go_sem]) rfl (list_bad (HKP.out.trans (hb5.mono hzz)) HT.out hf6)
          | ok q =>
            obtain ⟨⟨i5, n5⟩, r5⟩ := q
            have hgd := blockT_good (takeL_good k') hbk hfull
            obtain ⟨hgd1, hgd2⟩ := hgd
            replace hgd1 : r5.size < r2.size := hgd1
            replace hgd2 : n5 ≤ 8192 := hgd2
            have HBK := Lib.hid hbk
            have HGB : Hid (instrT (takeL k') ((byt r 0 : Nat) : Int) rx d n = .ok ((i5, n5), r5)) := Lib.hid (by rw [HGI.out, if_pos hfull, if_pos h2, if_pos h32, hbk])
            have q13 : ls.length + 1 ≤ maxLen := by unfold maxLen; omega
            have q14 : (ls.length + 1) * 104 ≤ 140737488355328 := by omega
            clear hfull h2 hb24 h32 hbk
            go_wp2_with (first | (go_at_call 35; refine (HN.out _).mono ?_; rintro e w2 ⟨x1, c1, rfl, k2, hi2⟩; clear HN; have hzk := k2.size; have hb2 := hb0.trans (k2.mono hb0.size); have hb3 := hb2.alloc hb2.size (.cells #[.int .i64 ((byt r 0 : Nat) : Int), .int .i64 a, .int .i64 b, .int .i64 m, .slice x1 ns.length c1, .slice none 0 0, .slice none 0 0] 47); have BI := BlkAt.new w2 #[.int .i64 ((byt r 0 : Nat) : Int), .int .i64 a, .int .i64 b, .int .i64 m, .slice x1 ns.length c1, .slice none 0 0, .slice none 0 0] 47; obtain ⟨⟨p0, p1, p2, p3, p4, p5, p6⟩, q0, q1, q2, q3, q4, q5, q6⟩ := BI.seven) | (go_at_call 36; refine (HWI.out _ _ _).mono ?_; rintro e w3 ⟨x2, l2, c2, x3, l3, c3, r6, c6, f6, rfl, k3, hq3⟩; rw [HBK.out] at hq3; obtain ⟨rfl, rfl, rfl, ls5, es5, hi5, ho5, hp5⟩ := hq3; replace hi5 : i5 = .mk ((byt r 0 : Nat) : Int) a b m ns ls5 es5 := hi5; subst hi5; replace ho5 : OwnP ((w2.alloc (.cells #[.int .i64 ((byt r 0 : Nat) : Int), .int .i64 a, .int .i64 b, .int .i64 m, .slice x1 ns.length c1, .slice none 0 0, .slice none 0 0] 47)).heap.size ≤ ·) w3 x2 l2 c2 ls5 := ho5; replace hp5 : OwnP ((w2.alloc (.cells #[.int .i64 ((byt r 0 : Nat) : Int), .int .i64 a, .int .i64 b, .int .i64 m, .slice x1 ns.length c1, .slice none 0 0, .slice none 0 0] 47)).heap.size ≤ ·) w3 x3 l3 c3 es5 := hp5; have e25 := ho5.eq; have e35 := hp5.eq; subst e25 e35; have hb4' := hb3.trans (k3.mono hb3.size); have B3 := BI.below k3; obtain ⟨⟨g0, g1, g2, g3, g4, g5, g6⟩, j0, j1, j2, j3, j4, j5, j6⟩ := B3.seven; have hb4 := below_set7 hb4' (k := w2.heap.size) hzk (.int .i64 ((byt r 0 : Nat) : Int)) (.int .i64 a) (.int .i64 b) (.int .i64 m) (.slice x1 ns.length c1) (.slice x2 ls5.length c2) (.slice x3 es5.length c3); have hown4 := row_below HOWN.out hb4) | (at_builtin; go_must (refine wpList_append_lies _ rfl _ _ 22 rfl w.heap.size 47 i0 _ 7 104 Try.underlying22 hi0 hz0 hz1 hz2 rfl (by decide) _ ls.length vs rfl (World.ownsRow.alloc hown4 _) ⟨w3.heap.size, 0, none⟩ 1 1 [.int .i64 ((byt r 0 : Nat) : Int), .int .i64 a, .int .i64 b, .int .i64 m, .slice x1 ns.length c1, .slice x2 ls5.length c2, .slice x3 es5.length c3] rfl rfl (news7at (((((((w3.setCell ⟨w2.heap.size, 0, none⟩ (.int .i64 ((byt r 0 : Nat) : Int))).setCell ⟨w2.heap.size, 1, none⟩ (.int .i64 a)).setCell ⟨w2.heap.size, 2, none⟩ (.int .i64 b)).setCell ⟨w2.heap.size, 3, none⟩ (.int .i64 m)).setCell ⟨w2.heap.size, 4, none⟩ (.slice x1 ns.length c1)).setCell ⟨w2.heap.size, 5, none⟩ (.slice x2 ls5.length c2)).setCell ⟨w2.heap.size, 6, none⟩ (.slice x3 es5.length c3)) (by simp [World.setCell]) _ _ _ _ _ _ _ _) (one7 _ _ _ _ _ _ _ _ _ _ _ _ _) (by decide) q13 q14 (le_alloc (Nat.le_trans hzz hb4.size)) _ rfl ?_); intro g cap5 w5 hown5 hg5 hat5 hlt5))
            have hg6 : World.grownBy ((((((((w3.setCell ⟨w2.heap.size, 0, none⟩ (.int .i64 ((byt r 0 : Nat) : Int))).setCell ⟨w2.heap.size, 1, none⟩ (.int .i64 a)).setCell ⟨w2.heap.size, 2, none⟩ (.int .i64 b)).setCell ⟨w2.heap.size, 3, none⟩ (.int .i64 m)).setCell ⟨w2.heap.size, 4, none⟩ (.slice x1 ns.length c1)).setCell ⟨w2.heap.size, 5, none⟩ (.slice x2 ls5.length c2)).setCell ⟨w2.heap.size, 6, none⟩ (.slice x3 es5.length c3)).alloc (.cells #[.int .i64 ((byt r 0 : Nat) : Int), .int .i64 a, .int .i64 b, .int .i64 m, .slice x1 ns.length c1, .slice x2 ls5.length c2, .slice x3 es5.length c3] 47)) w5 (Value.slice x0 ls.length cap).ownBlock := hg5
            have hat6 : (Value.slice x0 ls.length cap).ownBlock = some g ∨ g = ((((((((w3.setCell ⟨w2.heap.size, 0, none⟩ (.int .i64 ((byt r 0 : Nat) : Int))).setCell ⟨w2.heap.size, 1, none⟩ (.int .i64 a)).setCell ⟨w2.heap.size, 2, none⟩ (.int .i64 b)).setCell ⟨w2.heap.size, 3, none⟩ (.int .i64 m)).setCell ⟨w2.heap.size, 4, none⟩ (.slice x1 ns.length c1)).setCell ⟨w2.heap.size, 5, none⟩ (.slice x2 ls5.length c2)).setCell ⟨w2.heap.size, 6, none⟩ (.slice x3 es5.length c3)).alloc (.cells #[.int .i64 ((byt r 0 : Nat) : Int), .int .i64 a, .int .i64 b, .int .i64 m, .slice x1 ns.length c1, .slice x2 ls5.length c2, .slice x3 es5.length c3] 47)).heap.size := hat5
            have HI : ElP (wr.heap.size ≤ ·) (((((((w3.setCell ⟨w2.heap.size, 0, none⟩ (.int .i64 ((byt r 0 : Nat) : Int))).setCell ⟨w2.heap.size, 1, none⟩ (.int .i64 a)).setCell ⟨w2.heap.size, 2, none⟩ (.int .i64 b)).setCell ⟨w2.heap.size, 3, none⟩ (.int .i64 m)).setCell ⟨w2.heap.size, 4, none⟩ (.slice x1 ns.length c1)).setCell ⟨w2.heap.size, 5, none⟩ (.slice x2 ls5.length c2)).setCell ⟨w2.heap.size, 6, none⟩ (.slice x3 es5.length c3)) (.mk ((byt r 0 : Nat) : Int) a b m ns ls5 es5) [.int .i64 ((byt r 0 : Nat) : Int), .int .i64 a, .int .i64 b, .int .i64 m, .slice x1 ns.length c1, .slice x2 ls5.length c2, .slice x3 es5.length c3] := ⟨x1, c1, x2, c2, x3, c3, rfl, hi2.stay.1, view_stay hi2 (by first | exact Nat.le_refl _ | exact hb0.size) (below_set7 (((Below.refl w2.heap.size w2).alloc (Nat.le_refl _) _).trans (k3.mono (by simp))) (Nat.le_refl _) _ _ _ _ _ _ _), ((ho5.set7 (k := w2.heap.size) (by simp) _ _ _ _ _ _ _).lower (by simp; omega)), ((hp5.set7 (k := w2.heap.size) (by simp) _ _ _ _ _ _ _).lower (by simp; omega))⟩
            have hh := hzz
            refine ⟨⟨ls ++ [.mk ((byt r 0 : Nat) : Int) a b m ns ls5 es5], k', r6, n5, rfl, rfl, row_more HOWN.out HEL.out hb4 HI hown5 hg6 hat6 hzz, by omega, by omega, hgd2, by rw [List.length_append, List.length_singleton]; omega, below_grown HOWN.out HKP.out (Nat.le_refl _) hb4 hg6, ?_⟩, ?_⟩
            · rw [HGO.out, HGB.out]
              rfl
            · show (r6).size < r.size
              omega
        have hnb : (((byt r 0 : Nat) : Int) < 2) ∨ (4 < ((byt r 0 : Nat) : Int)) := by
          by_cases q : 2 ≤ ((byt r 0 : Nat) : Int) ∧ ((byt r 0 : Nat) : Int) ≤ 4
          · exact absurd (by rw [shapeV_block q]) h2
          · omega
        have q13 : ls.length + 1 ≤ maxLen := by unfold maxLen; omega
        have q14 : (ls.length + 1) * 104 ≤ 140737488355328 := by omega
        have HGB : Hid (instrT (takeL k') ((byt r 0 : Nat) : Int) rx d n = .ok ((.mk ((byt r 0 : Nat) : Int) a b m ns [] [], n + 1), r2)) := Lib.hid (by rw [HGI.out, if_pos hfull, if_neg h2])
        rcases hnb with hnb | hnb
        · have u1 : ¬ (2 : Int) ≤ ((byt r 0 : Nat) : Int) := by omega
          clear h2 hnb
          go_wp2_with (first | (go_at_call 35; refine (HN.out _).mono ?_; rintro e w2 ⟨x1, c1, rfl, k2, hi2⟩; clear HN; have hzk := k2.size; have hb2 := hb0.trans (k2.mono hb0.size); have hb3 := hb2.alloc hb2.size (.cells #[.int .i64 ((byt r 0 : Nat) : Int), .int .i64 a, .int .i64 b, .int .i64 m, .slice x1 ns.length c1, .slice none 0 0, .slice none 0 0] 47); have BI := BlkAt.new w2 #[.int .i64 ((byt r 0 : Nat) : Int), .int .i64 a, .int .i64 b, .int .i64 m, .slice x1 ns.length c1, .slice none 0 0, .slice none 0 0] 47; obtain ⟨⟨p0, p1, p2, p3, p4, p5, p6⟩, q0, q1, q2, q3, q4, q5, q6⟩ := BI.seven; have hb4 := hb3; have hown4 := row_below HOWN.out hb4) | (at_builtin; go_must (refine wpList_append_lies _ rfl _ _ 22 rfl w.heap.size 47 i0 _ 7 104 Try.underlying22 hi0 hz0 hz1 hz2 rfl (by decide) _ ls.length vs rfl (World.ownsRow.alloc hown4 _) ⟨w2.heap.size + 1, 0, none⟩ 1 1 [.int .i64 ((byt r 0 : Nat) : Int), .int .i64 a, .int .i64 b, .int .i64 m, .slice x1 ns.length c1, .slice none 0 0, .slice none 0 0] rfl rfl (news7at (w2.alloc (.cells #[.int .i64 ((byt r 0 : Nat) : Int), .int .i64 a, .int .i64 b, .int .i64 m, .slice x1 ns.length c1, .slice none 0 0, .slice none 0 0] 47)) (by simp) _ _ _ _ _ _ _ _) (one7 _ _ _ _ _ _ _ _ _ _ _ _ _) (by decide) q13 q14 (le_alloc (Nat.le_trans hzz hb4.size)) _ rfl ?_); intro g cap5 w5 hown5 hg5 hat5 hlt5))
          have hg6 : World.grownBy ((w2.alloc (.cells #[.int .i64 ((byt r 0 : Nat) : Int), .int .i64 a, .int .i64 b, .int .i64 m, .slice x1 ns.length c1, .slice none 0 0, .slice none 0 0] 47)).alloc (.cells #[.int .i64 ((byt r 0 : Nat) : Int), .int .i64 a, .int .i64 b, .int .i64 m, .slice x1 ns.length c1, .slice none 0 0, .slice none 0 0] 47)) w5 (Value.slice x0 ls.length cap).ownBlock := hg5
          have hat6 : (Value.slice x0 ls.length cap).ownBlock = some g ∨ g = ((w2.alloc (.cells #[.int .i64 ((byt r 0 : Nat) : Int), .int .i64 a, .int .i64 b, .int .i64 m, .slice x1 ns.length c1, .slice none 0 0, .slice none 0 0] 47)).alloc (.cells #[.int .i64 ((byt r 0 : Nat) : Int), .int .i64 a, .int .i64 b, .int .i64 m, .slice x1 ns.length c1, .slice none 0 0, .slice none 0 0] 47)).heap.size := hat5
          have HI : ElP (wr.heap.size ≤ ·) (w2.alloc (.cells #[.int .i64 ((byt r 0 : Nat) : Int), .int .i64 a, .int .i64 b, .int .i64 m, .slice x1 ns.length c1, .slice none 0 0, .slice none 0 0] 47)) (.mk ((byt r 0 : Nat) : Int) a b m ns [] []) [.int .i64 ((byt r 0 : Nat) : Int), .int .i64 a, .int .i64 b, .int .i64 m, .slice x1 ns.length c1, .slice none 0 0, .slice none 0 0] := ⟨x1, c1, none, 0, none, 0, rfl, hi2.stay.1, view_stay hi2 (by first | exact Nat.le_refl _ | exact hb0.size) ((Below.refl w2.heap.size w2).alloc (Nat.le_refl _) _), own_nil _ _, own_nil _ _⟩
          have hh := hzz
          refine ⟨⟨ls ++ [.mk ((byt r 0 : Nat) : Int) a b m ns [] []], k', r2, n + 1, rfl, by rw [hcs], row_more HOWN.out HEL.out hb4 HI hown5 hg6 hat6 hzz, by omega, by omega, hfull, by rw [List.length_append, List.length_singleton]; omega, below_grown HOWN.out HKP.out (Nat.le_refl _) hb4 hg6, ?_⟩, ?_⟩
          · rw [HGO.out, HGB.out]
            rfl
          · show (r2).size < r.size
            omega
        · have u1 : (2 : Int) ≤ ((byt r 0 : Nat) : Int) := by omega
          have u2 : ¬ ((byt r 0 : Nat) : Int) ≤ (4 : Int) := by omega
          clear h2 hnb
          go_wp2_with (first | (go_at_call 35; refine (HN.out _).mono ?_; rintro e w2 ⟨x1, c1, rfl, k2, hi2⟩; clear HN; have hzk := k2.size; have hb2 := hb0.trans (k2.mono hb0.size); have hb3 := hb2.alloc hb2.size (.cells #[.int .i64 ((byt r 0 : Nat) : Int), .int .i64 a, .int .i64 b, .int .i64 m, .slice x1 ns.length c1, .slice none 0 0, .slice none 0 0] 47); have BI := BlkAt.new w2 #[.int .i64 ((byt r 0 : Nat) : Int), .int .i64 a, .int .i64 b, .int .i64 m, .slice x1 ns.length c1, .slice none 0 0, .slice none 0 0] 47; obtain ⟨⟨p0, p1, p2, p3, p4, p5, p6⟩, q0, q1, q2, q3, q4, q5, q6⟩ := BI.seven; have hb4 := hb3; have hown4 := row_below HOWN.out hb4) | (at_builtin; go_must (refine wpList_append_lies _ rfl _ _ 22 rfl w.heap.size 47 i0 _ 7 104 Try.underlying22 hi0 hz0 hz1 hz2 rfl (by decide) _ ls.length vs rfl (World.ownsRow.alloc hown4 _) ⟨w2.heap.size + 1, 0, none⟩ 1 1 [.int .i64 ((byt r 0 : Nat) : Int), .int .i64 a, .int .i64 b, .int .i64 m, .slice x1 ns.length c1, .slice none 0 0, .slice none 0 0] rfl rfl (news7at (w2.alloc (.cells #[.int .i64 ((byt r 0 : Nat) : Int), .int .i64 a, .int .i64 b, .int .i64 m, .slice x1 ns.length c1, .slice none 0 0, .slice none 0 0] 47)) (by simp) _ _ _ _ _ _ _ _) (one7 _ _ _ _ _ _ _ _ _ _ _ _ _) (by decide) q13 q14 (le_alloc (Nat.le_trans hzz hb4.size)) _ rfl ?_); intro g cap5 w5 hown5 hg5 hat5 hlt5))
          have hg6 : World.grownBy ((w2.alloc (.cells #[.int .i64 ((byt r 0 : Nat) : Int), .int .i64 a, .int .i64 b, .int .i64 m, .slice x1 ns.length c1, .slice none 0 0, .slice none 0 0] 47)).alloc (.cells #[.int .i64 ((byt r 0 : Nat) : Int), .int .i64 a, .int .i64 b, .int .i64 m, .slice x1 ns.length c1, .slice none 0 0, .slice none 0 0] 47)) w5 (Value.slice x0 ls.length cap).ownBlock := hg5
          have hat6 : (Value.slice x0 ls.length cap).ownBlock = some g ∨ g = ((w2.alloc (.cells #[.int .i64 ((byt r 0 : Nat) : Int), .int .i64 a, .int .i64 b, .int .i64 m, .slice x1 ns.length c1, .slice none 0 0, .slice none 0 0] 47)).alloc (.cells #[.int .i64 ((byt r 0 : Nat) : Int), .int .i64 a, .int .i64 b, .int .i64 m, .slice x1 ns.length c1, .slice none 0 0, .slice none 0 0] 47)).heap.size := hat5
          have HI : ElP (wr.heap.size ≤ ·) (w2.alloc (.cells #[.int .i64 ((byt r 0 : Nat) : Int), .int .i64 a, .int .i64 b, .int .i64 m, .slice x1 ns.length c1, .slice none 0 0, .slice none 0 0] 47)) (.mk ((byt r 0 : Nat) : Int) a b m ns [] []) [.int .i64 ((byt r 0 : Nat) : Int), .int .i64 a, .int .i64 b, .int .i64 m, .slice x1 ns.length c1, .slice none 0 0, .slice none 0 0] := ⟨x1, c1, none, 0, none, 0, rfl, hi2.stay.1, view_stay hi2 (by first | exact Nat.le_refl _ | exact hb0.size) ((Below.refl w2.heap.size w2).alloc (Nat.le_refl _) _), own_nil _ _, own_nil _ _⟩
          have hh := hzz
          refine ⟨⟨ls ++ [.mk ((byt r 0 : Nat) : Int) a b m ns [] []], k', r2, n + 1, rfl, by rw [hcs], row_more HOWN.out HEL.out hb4 HI hown5 hg6 hat6 hzz, by omega, by omega, hfull, by rw [List.length_append, List.length_singleton]; omega, below_grown HOWN.out HKP.out (Nat.le_refl _) hb4 hg6, ?_⟩, ?_⟩
          · rw [HGO.out, HGB.out]
            rfl
          · show (r2).size < r.size
            omega
    have t3 : (((byt r 0 : Nat) : Int) == 252) = true := by rw [h252]; rfl
    have HU := Lib.hid (refTakeU_any rx (by unfold maxLen; omega))
    unfold uTup at HU
    have F1 := (fits_u rx).toE
    have hux := uR_size rx
    have hun := uN_range rx
    have hop2 : opT r = (uT rx).bind fun q => .ok (64512 + q.1, q.2) := by rw [HOP.out, if_pos h252]
    clear HOP hs11 hs5 h252
    revert HU F1 hux hun
    generalize uN rx = kx
    generalize uR rx = ry
    generalize uE rx = f1
    intro HU F1 hux hun
    rcases F1.cases with ⟨rfl, hu⟩ | ⟨hf1, hu⟩
    · rw [hu] at hop2
      replace hop2 : opT r = .ok (64512 + kx, ry) := hop2
      have wk : IntKind.i64.wrap (64512 + kx) = 64512 + kx := by rw [IntKind.wrap_i64]; omega
      have HGO : Hid (takeL G r0 d n0 = (instrT (takeL k') (64512 + kx) ry d n).bind fun i => (takeL k' i.2 d i.1.2).bind fun q => .ok ((ls ++ [i.1.1] ++ q.1.1, q.1.2.1, q.1.2.2), q.2)) := Lib.hid (HEQ.out.trans (list_step hop2 (by omega) (by omega) ls))
      clear hop2 hu F1
      cases hnm : numbT (64512 + kx) ry with
      | error f =>
        have HT : Hid (takeL G r0 d n0 = .error f) := Lib.hid (by rw [HGO.out, instrT_numb, hnm]; rfl)
        have HN := Lib.hid (Numbers_err hnm (by omega))
        have wn : IntKind.i64.wrap ((n : Int) + 1) = (n : Int) + 1 := by rw [IntKind.wrap_i64]; omega
        clear hnm
        go_wp2_with (first | (go_at_call 34; refine (HU.out _).mono ?_; rintro e w1 ⟨rfl, k1⟩; clear HU; have hb0 := (Below.refl wr.heap.size wr).trans k1) | (go_at_call 35; refine (HN.out _).mono ?_; rintro e w2 ⟨a, b, m, x1, l1, c1, r', rfl, hf, k2⟩; have hb2 := hb0.trans (k2.mono hb0.size); have hf2 : (f != 0) = true := (by simpa using hf); have hf3 := eq_no hf; have hb3 := hb2.alloc hb2.size (.cells #[.int .i64 (64512 + kx), .int .i64 a, .int .i64 b, .int .i64 m, .slice x1 l1 c1, .slice none 0 0, .slice none 0 0] 47)))
        refine bodyPost_ret (v := .tuple #[.slice none 0 0, .string ⟨#[]⟩, .int .i64 0, .int .i64 ((n : Int) + 1), .int .i64 (f)]) (by simp [results, Try.results20, go_sem]) rfl (list_bad (HKP.out.trans (hb3.mono hzz)) HT.out hf)
      | ok q =>
        obtain ⟨⟨a, b, m, ns⟩, r2⟩ := q
        have HN := Lib.hid (Numbers_ok hnm (by omega))
        have hrz : r2.size ≤ ry.size := by
          unfold numbT at hnm
          split at hnm
          · exact numsT_size hnm
          · cases hnm
        have wn : IntKind.i64.wrap ((n : Int) + 1) = (n : Int) + 1 := by rw [IntKind.wrap_i64]; omega
        have hcs : ((n + 1 : Nat) : Int) = (n : Int) + 1 := by omega
        have HGI : Hid (instrT (takeL k') (64512 + kx) ry d n = if n + 1 ≤ 8192 then (if (shapeV (64512 + kx)).1 = 2 then (if d < 32 then blockT (takeL k') (64512 + kx) a b m ns r2 d (n + 1) else .error 14) else .ok ((.mk (64512 + kx) a b m ns [] [], n + 1), r2)) else .error 14) := Lib.hid (by rw [instrT_numb, hnm]; rfl)
        clear hnm
        by_cases hfull : n + 1 ≤ 8192
        case neg =>
          have HT : Hid (takeL G r0 d n0 = .error 14) := Lib.hid (by rw [HGO.out, HGI.out, if_neg hfull]; rfl)
          have t5 : (8192 : Int) < (n : Int) + 1 := by omega
          clear hfull
          go_wp2_with (first | (go_at_call 34; refine (HU.out _).mono ?_; rintro e w1 ⟨rfl, k1⟩; clear HU; have hb0 := (Below.refl wr.heap.size wr).trans k1) | (go_at_call 35; refine (HN.out _).mono ?_; rintro e w2 ⟨x1, c1, rfl, k2, hi2⟩; clear HN; have hzk := k2.size; have hb2 := hb0.trans (k2.mono hb0.size); have hb3 := hb2.alloc hb2.size (.cells #[.int .i64 (64512 + kx), .int .i64 a, .int .i64 b, .int .i64 m, .slice x1 ns.length c1, .slice none 0 0, .slice none 0 0] 47); have BI := BlkAt.new w2 #[.int .i64 (64512 + kx), .int .i64 a, .int .i64 b, .int .i64 m, .slice x1 ns.length c1, .slice none 0 0, .slice none 0 0] 47; obtain ⟨⟨p0, p1, p2, p3, p4, p5, p6⟩, q0, q1, q2, q3, q4, q5, q6⟩ := BI.seven))
          refine bodyPost_ret (v := .tuple #[.slice none 0 0, .string ⟨#[]⟩, .int .i64 0, .int .i64 ((n : Int) + 1), .int .i64 (14)]) (by simp [results, Try.results20, go_sem]) rfl (list_bad (HKP.out.trans (hb3.mono hzz)) HT.out (by first | decide | assumption))
        have t5 : ¬ (8192 : Int) < (n : Int) + 1 := by omega
        have h2 : ¬ (shapeV (64512 + kx)).1 = 2 := fun q => by have := shapeV_two q; omega
      
        have q13 : ls.length + 1 ≤ maxLen := by unfold maxLen; omega
        have q14 : (ls.length + 1) * 104 ≤ 140737488355328 := by omega
        have HGB : Hid (instrT (takeL k') (64512 + kx) ry d n = .ok ((.mk (64512 + kx) a b m ns [] [], n + 1), r2)) := Lib.hid (by rw [HGI.out, if_pos hfull, if_neg h2])
        have hnb : 4 < (64512 + kx) := by omega
        · have u1 : (2 : Int) ≤ (64512 + kx) := by omega
          have u2 : ¬ (64512 + kx) ≤ (4 : Int) := by omega
          clear h2 hnb
          go_wp2_with (first | (go_at_call 34; refine (HU.out _).mono ?_; rintro e w1 ⟨rfl, k1⟩; clear HU; have hb0 := (Below.refl wr.heap.size wr).trans k1) | (go_at_call 35; refine (HN.out _).mono ?_; rintro e w2 ⟨x1, c1, rfl, k2, hi2⟩; clear HN; have hzk := k2.size; have hb2 := hb0.trans (k2.mono hb0.size); have hb3 := hb2.alloc hb2.size (.cells #[.int .i64 (64512 + kx), .int .i64 a, .int .i64 b, .int .i64 m, .slice x1 ns.length c1, .slice none 0 0, .slice none 0 0] 47); have BI := BlkAt.new w2 #[.int .i64 (64512 + kx), .int .i64 a, .int .i64 b, .int .i64 m, .slice x1 ns.length c1, .slice none 0 0, .slice none 0 0] 47; obtain ⟨⟨p0, p1, p2, p3, p4, p5, p6⟩, q0, q1, q2, q3, q4, q5, q6⟩ := BI.seven; have hb4 := hb3; have hown4 := row_below HOWN.out hb4) | (at_builtin; go_must (refine wpList_append_lies _ rfl _ _ 22 rfl w.heap.size 47 i0 _ 7 104 Try.underlying22 hi0 hz0 hz1 hz2 rfl (by decide) _ ls.length vs rfl (World.ownsRow.alloc hown4 _) ⟨w2.heap.size + 1, 0, none⟩ 1 1 [.int .i64 (64512 + kx), .int .i64 a, .int .i64 b, .int .i64 m, .slice x1 ns.length c1, .slice none 0 0, .slice none 0 0] rfl rfl (news7at (w2.alloc (.cells #[.int .i64 (64512 + kx), .int .i64 a, .int .i64 b, .int .i64 m, .slice x1 ns.length c1, .slice none 0 0, .slice none 0 0] 47)) (by simp) _ _ _ _ _ _ _ _) (one7 _ _ _ _ _ _ _ _ _ _ _ _ _) (by decide) q13 q14 (le_alloc (Nat.le_trans hzz hb4.size)) _ rfl ?_); intro g cap5 w5 hown5 hg5 hat5 hlt5))
          have hg6 : World.grownBy ((w2.alloc (.cells #[.int .i64 (64512 + kx), .int .i64 a, .int .i64 b, .int .i64 m, .slice x1 ns.length c1, .slice none 0 0, .slice none 0 0] 47)).alloc (.cells #[.int .i64 (64512 + kx), .int .i64 a, .int .i64 b, .int .i64 m, .slice x1 ns.length c1, .slice none 0 0, .slice none 0 0] 47)) w5 (Value.slice x0 ls.length cap).ownBlock := hg5
          have hat6 : (Value.slice x0 ls.length cap).ownBlock = some g ∨ g = ((w2.alloc (.cells #[.int .i64 (64512 + kx), .int .i64 a, .int .i64 b, .int .i64 m, .slice x1 ns.length c1, .slice none 0 0, .slice none 0 0] 47)).alloc (.cells #[.int .i64 (64512 + kx), .int .i64 a, .int .i64 b, .int .i64 m, .slice x1 ns.length c1, .slice none 0 0, .slice none 0 0] 47)).heap.size := hat5
          have HI : ElP (wr.heap.size ≤ ·) (w2.alloc (.cells #[.int .i64 (64512 + kx), .int .i64 a, .int .i64 b, .int .i64 m, .slice x1 ns.length c1, .slice none 0 0, .slice none 0 0] 47)) (.mk (64512 + kx) a b m ns [] []) [.int .i64 (64512 + kx), .int .i64 a, .int .i64 b, .int .i64 m, .slice x1 ns.length c1, .slice none 0 0, .slice none 0 0] := ⟨x1, c1, none, 0, none, 0, rfl, hi2.stay.1, view_stay hi2 (by first | exact Nat.le_refl _ | exact hb0.size) ((Below.refl w2.heap.size w2).alloc (Nat.le_refl _) _), own_nil _ _, own_nil _ _⟩
          have hh := hzz
          refine ⟨⟨ls ++ [.mk (64512 + kx) a b m ns [] []], k', r2, n + 1, rfl, by rw [hcs], row_more HOWN.out HEL.out hb4 HI hown5 hg6 hat6 hzz, by omega, by omega, hfull, by rw [List.length_append, List.length_singleton]; omega, below_grown HOWN.out HKP.out (Nat.le_refl _) hb4 hg6, ?_⟩, ?_⟩
          · rw [HGO.out, HGB.out]
            rfl
          · show (r2).size < r.size
            omega
    · have HT : Hid (takeL G r0 d n0 = .error f1) := Lib.hid (by rw [HEQ.out, takeL, hop2, hu]; rfl)
      have hf2 : (f1 != 0) = true := by simpa using hf1
      clear hop2 hu F1
      go_wp2_with (first | (go_at_call 34; refine (HU.out _).mono ?_; rintro e w1 ⟨rfl, k1⟩; clear HU; have hb0 := (Below.refl wr.heap.size wr).trans k1))
      refine bodyPost_ret (v := .tuple #[.slice none 0 0, .string ⟨#[]⟩, .int .i64 0, .int .i64 n, .int .i64 f1]) (by simp [results, Try.results20, go_sem]) rfl (list_bad (HKP.out.trans (hb0.mono hzz)) HT.out hf1)

theorem Take5_ok {s r : ByteArray} {ls : List Ins} (ht : takeT s = .ok (ls, r)) (hs : s.size ≤ 1000000000) (w : World) :
    Calls Try.prog 11 #[.string s] w fun x w' => ∃ x0 len cap, x = .returned (.tuple #[.slice x0 len cap, .string r, .int .i64 0]) ∧ Below w.heap.size w w' ∧ OwnP (w.heap.size ≤ ·) w' x0 len cap ls := by
  unfold takeT at ht
  cases hl : takeL (s.size + 1) s 0 0 with
  | error e =>
    rw [hl] at ht
    cases ht
  | ok q =>
    obtain ⟨⟨ls', last, c⟩, r'⟩ := q
    rw [hl] at ht
    replace ht : (if last = 11 then Except.ok (ls', r') else (.error 2 : Except Int (List Ins × ByteArray))) = Except.ok (ls, r) := ht
    by_cases h11 : last = 11
    · rw [if_pos h11] at ht
      subst h11
      cases ht
      have HL := Lib.hid ((refList_all (s.size + 1)).ok hl (Nat.lt_succ_self _) hs (by decide) (by decide))
      clear hl
      go_enter Try.func11, Try.ntmps11
      go_wp2_with (go_at_call 20; refine (HL.out _).mono ?_; rintro e w1 ⟨x0, len, cap, rfl, k1, ho⟩)
      refine bodyPost_ret (v := .tuple #[.slice x0 len cap, .string r, .int .i64 0]) (by simp [results, Try.results11, go_sem]) rfl ⟨x0, len, cap, rfl, k1, ho⟩
    · rw [if_neg h11] at ht
      cases ht
theorem Take5_err {s : ByteArray} {f : Int} (ht : takeT s = .error f) (hs : s.size ≤ 1000000000) (w : World) :
    Calls Try.prog 11 #[.string s] w fun x w' => x = .returned (.tuple #[.slice none 0 0, .string ⟨#[]⟩, .int .i64 f]) ∧ f ≠ 0 ∧ Below w.heap.size w w' := by
  unfold takeT at ht
  cases hl : takeL (s.size + 1) s 0 0 with
  | error e =>
    rw [hl] at ht
    cases ht
    have HL := Lib.hid ((refList_all (s.size + 1)).err hl (Nat.lt_succ_self _) hs (by decide) (by decide))
    clear hl
    go_enter Try.func11, Try.ntmps11
    go_wp2_with (go_at_call 20; refine (HL.out _).mono ?_; rintro e w1 ⟨last, c, rfl, hf, k1⟩; have hf2 : (f != 0) = true := (by simpa using hf); have hf3 := eq_no hf)
    refine bodyPost_ret (v := .tuple #[.slice none 0 0, .string ⟨#[]⟩, .int .i64 f]) (by simp [results, Try.results11, go_sem]) rfl ⟨rfl, hf, k1⟩
  | ok q =>
    obtain ⟨⟨ls', last, c⟩, r'⟩ := q
    have hg := (takeL_good (s.size + 1) s 0 0 _ hl (by decide)).2.2
    replace hg : last = 11 ∨ last = 5 := hg
    rw [hl] at ht
    replace ht : (if last = 11 then Except.ok (ls', r') else .error 2) = Except.error f := ht
    rcases hg with rfl | rfl
    · rw [if_pos rfl] at ht
      cases ht
    · rw [if_neg (by decide)] at ht
      cases ht
      have HL := Lib.hid ((refList_all (s.size + 1)).ok hl (Nat.lt_succ_self _) hs (by decide) (by decide))
      clear hl
      go_enter Try.func11, Try.ntmps11
      go_wp2_with (go_at_call 20; refine (HL.out _).mono ?_; rintro e w1 ⟨x0, len, cap, rfl, k1, ho⟩)
      refine bodyPost_ret (v := .tuple #[.slice none 0 0, .string ⟨#[]⟩, .int .i64 2]) (by simp [results, Try.results11, go_sem]) rfl ⟨rfl, by decide, k1⟩
end Go.Proofs.Ytfhifnkekegkkaa
