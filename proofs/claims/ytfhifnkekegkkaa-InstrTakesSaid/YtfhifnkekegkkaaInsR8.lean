/- The reference's reading within a block. -/
import Derived.Test.YtfhifnkekegkkaaInsR6
namespace Go.Proofs.Ytfhifnkekegkkaa
open Go.RowKit Go.Deep
open Leb (byt byt_lt byt_get)

/-- What the reference's reading of a list leaves. -/
def GivesR (g : Nat) (r : ByteArray) (d n : Nat) (w : World) (x : Ending) (w' : World) : Prop :=
  ∃ x0 len cap r' last c f, x = .returned (.tuple #[.slice x0 len cap, .string r', .int .i64 last, .int .i64 c, .int .i64 f]) ∧ Below w.heap.size w w' ∧
    (match takeL g r d n with
     | .error e => f = e ∧ e ≠ 0 ∧ x0 = none ∧ len = 0 ∧ cap = 0 ∧ r' = ⟨#[]⟩
     | .ok q => f = 0 ∧ r' = q.2 ∧ last = q.1.2.1 ∧ c = (q.1.2.2 : Nat) ∧ OwnP (w.heap.size ≤ ·) w' x0 len cap q.1.1)
def RListOk (g : Nat) : Prop := ∀ (r : ByteArray) (n d : Nat) (w : World), r.size < g → r.size ≤ 1000000000 → d ≤ 32 → n ≤ 8192 →
  Calls Try.prog 20 #[.string r, .int .i64 d, .int .i64 n] w fun x w' => GivesR g r d n w x w'
theorem RListOk.ok {g : Nat} (h : RListOk g) {r r' : ByteArray} {n d c : Nat} {last : Int} {ls : List Ins} (ht : takeL g r d n = .ok ((ls, last, c), r')) (hr : r.size < g) (hs : r.size ≤ 1000000000) (hd : d ≤ 32) (hn : n ≤ 8192) (w : World) :
    Calls Try.prog 20 #[.string r, .int .i64 d, .int .i64 n] w fun x w' => ∃ x0 len cap, x = .returned (.tuple #[.slice x0 len cap, .string r', .int .i64 last, .int .i64 c, .int .i64 0]) ∧ Below w.heap.size w w' ∧ OwnP (w.heap.size ≤ ·) w' x0 len cap ls := by
  refine (h r n d w hr hs hd hn).mono ?_
  rintro x w' ⟨x0, len, cap, r1, l1, c1, f1, rfl, hb, hq⟩
  rw [ht] at hq
  obtain ⟨rfl, rfl, rfl, rfl, ho⟩ := hq
  exact ⟨x0, len, cap, rfl, hb, ho⟩
theorem RListOk.err {g : Nat} (h : RListOk g) {r : ByteArray} {n d : Nat} {e : Int} (ht : takeL g r d n = .error e) (hr : r.size < g) (hs : r.size ≤ 1000000000) (hd : d ≤ 32) (hn : n ≤ 8192) (w : World) :
    Calls Try.prog 20 #[.string r, .int .i64 d, .int .i64 n] w fun x w' => ∃ last c, x = .returned (.tuple #[.slice none 0 0, .string ⟨#[]⟩, .int .i64 last, .int .i64 c, .int .i64 e]) ∧ e ≠ 0 ∧ Below w.heap.size w w' := by
  refine (h r n d w hr hs hd hn).mono ?_
  rintro x w' ⟨x0, len, cap, r1, l1, c1, f1, rfl, hb, hq⟩
  rw [ht] at hq
  obtain ⟨rfl, he, rfl, rfl, rfl, rfl⟩ := hq
  exact ⟨l1, c1, rfl, he, hb⟩
/-- What reading within a block leaves. -/
def GivesW (g : Nat) (op a b m : Int) (ns : List Int) (x1 : Option Addr) (l1 c1 : Nat) (r : ByteArray) (d n : Nat) (w : World) (x : Ending) (w' : World) : Prop :=
  ∃ x2 l2 c2 x3 l3 c3 r' c f, x = .returned (.tuple #[.agg #[.int .i64 op, .int .i64 a, .int .i64 b, .int .i64 m, .slice x1 l1 c1, .slice x2 l2 c2, .slice x3 l3 c3], .string r', .int .i64 c, .int .i64 f]) ∧ Below w.heap.size w w' ∧
    (match blockT (takeL g) op a b m ns r d n with
     | .error e => f = e ∧ e ≠ 0
     | .ok q => f = 0 ∧ r' = q.2 ∧ c = (q.1.2 : Nat) ∧ ∃ ls es, q.1.1 = .mk op a b m ns ls es ∧ OwnP (w.heap.size ≤ ·) w' x2 l2 c2 ls ∧ OwnP (w.heap.size ≤ ·) w' x3 l3 c3 es)
set_option maxRecDepth 100000 in
theorem boxedWithin (tmps : Array Value) (q : Nat) (r : ByteArray) (a b c d e f : Int) (x1 x2 x3 : Option Addr) (l1 l2 l3 c1 c2 c3 : Nat) (h4 : tmps[8]?.getD undef = .pointer (some ⟨q, 0, none⟩)) (h5 : tmps[9]?.getD undef = .string r) (h6 : tmps[10]?.getD undef = .int .i64 e) (h7 : tmps[11]?.getD undef = .int .i64 f) (w : World)
    (hb : BlkAt w q #[.int .i64 a, .int .i64 b, .int .i64 c, .int .i64 d, .slice x1 l1 c1, .slice x2 l2 c2, .slice x3 l3 c3] 47) : (results Try.f36 tmps).run Try.prog w = .ok (.tuple #[.agg #[.int .i64 a, .int .i64 b, .int .i64 c, .int .i64 d, .slice x1 l1 c1, .slice x2 l2 c2, .slice x3 l3 c3], .string r, .int .i64 e, .int .i64 f]) w := by
  have e0 := hb.cell 0
  have e1 := hb.cell 1
  have e2 := hb.cell 2
  have e3 := hb.cell 3
  have e4 := hb.cell 4
  have e5 := hb.cell 5
  have e6 := hb.cell 6
  simp at e0 e1 e2 e3 e4 e5 e6
  simp [results, Try.results36, go_sem, h4, h5, h6, h7, e0, e1, e2, e3, e4, e5, e6]
theorem OwnP.below {B B' : Nat} {w w' : World} {x : Option Addr} {len cap : Nat} {ls : List Ins} (h : OwnP (B ≤ ·) w x len cap ls) (hb : Below w.heap.size w w') (hB : B' ≤ B) : OwnP (B' ≤ ·) w' x len cap ls :=
  h.next (fun k _ hl => hb.block k hl) hb.size fun _ hk _ => Nat.le_trans hB hk
theorem OwnP.set {B k : Nat} {w : World} {x : Option Addr} {len cap : Nat} {ls : List Ins} (h : OwnP (B ≤ ·) w x len cap ls) (hk : k < B) (i : Nat) (v : Value) : OwnP (B ≤ ·) (w.setCell ⟨k, i, none⟩ v) x len cap ls :=
  h.next (((Kept.refl (fun j => j = k) w).set (p := ⟨k, i, none⟩) rfl v).agree fun j hj _ q => by rw [q] at hj; exact Nat.not_le.2 hk hj) (by simp [World.setCell]) fun _ hj _ => hj
theorem OwnP.set7 {B k : Nat} {w : World} {x : Option Addr} {len cap : Nat} {ls : List Ins} (h : OwnP (B ≤ ·) w x len cap ls) (hk : k < B) (v0 v1 v2 v3 v4 v5 v6 : Value) : OwnP (B ≤ ·) (((((((w.setCell ⟨k, 0, none⟩ v0).setCell ⟨k, 1, none⟩ v1).setCell ⟨k, 2, none⟩ v2).setCell ⟨k, 3, none⟩ v3).setCell ⟨k, 4, none⟩ v4).setCell ⟨k, 5, none⟩ v5).setCell ⟨k, 6, none⟩ v6) x len cap ls :=
  ((((((h.set hk 0 v0).set hk 1 v1).set hk 2 v2).set hk 3 v3).set hk 4 v4).set hk 5 v5).set hk 6 v6
theorem OwnP.lower {B B' : Nat} {w : World} {x : Option Addr} {len cap : Nat} {ls : List Ins} (h : OwnP (B ≤ ·) w x len cap ls) (hB : B' ≤ B) : OwnP (B' ≤ ·) w x len cap ls := h.below (Below.refl _ _) hB

set_option maxRecDepth 100000 in
set_option maxHeartbeats 4000000 in
theorem refWithin_any (g : Nat) (hL : RListOk g) (op a b m : Int) (ns : List Int) (x1 : Option Addr) (l1 c1 : Nat) (r : ByteArray) (n d : Nat) (w : World) (hr : r.size < g) (hs : r.size ≤ 1000000000) (hd : d + 1 ≤ 32) (hn : n ≤ 8192) :
    Calls Try.prog 36 #[.agg #[.int .i64 op, .int .i64 a, .int .i64 b, .int .i64 m, .slice x1 l1 c1, .slice none 0 0, .slice none 0 0], .string r, .int .i64 ((d : Int) + 1), .int .i64 n] w fun x w' => GivesW g op a b m ns x1 l1 c1 r d n w x w' := by
  have P0 := Lib.hid (Pair.start w #[.int .i64 op, .int .i64 a, .int .i64 b, .int .i64 m, .slice x1 l1 c1, .slice none 0 0, .slice none 0 0])
  obtain ⟨⟨p0, p1, p2, p3, p4, p5, p6⟩, p7, p8, p9, p10, p11, p12, p13⟩ := P0.out.b.seven
  obtain ⟨⟨o0, o1, o2, o3, o4, o5, o6⟩, o7, o8, o9, o10, o11, o12, o13⟩ := P0.out.a.seven
  have hd1 : ((d + 1 : Nat) : Int) = (d : Int) + 1 := by omega
  have hz0 : ((w.alloc (.cells #[.int .i64 op, .int .i64 a, .int .i64 b, .int .i64 m, .slice x1 l1 c1, .slice none 0 0, .slice none 0 0] 47)).alloc (.cells #[.int .i64 0, .int .i64 0, .int .i64 0, .int .i64 0, .slice none 0 0, .slice none 0 0, .slice none 0 0] 47)).heap.size = w.heap.size + 2 := by simp
  unfold GivesW
  obtain ⟨res, hB⟩ : ∃ res, blockT (takeL g) op a b m ns r d n = res := ⟨_, rfl⟩
  rw [hB]
  unfold blockT at hB
  cases ht : takeL g r (d + 1) n with
  | error e1 =>
    rw [ht] at hB
    replace hB : Except.error e1 = res := hB
    subst hB
    have H1 := Lib.hid (hL.err ht hr hs hd hn)
    rw [hd1] at H1
    clear ht hr hs hd hn hL hd1
    go_enter Try.func36, Try.ntmps36
    go_wp2_with (first | (go_at_call 20; refine (H1.out _).mono ?_; rintro e w1 ⟨last, c, rfl, he, k1⟩; clear H1; have P1 := P0.out.below k1; have hz1 := k1.size; obtain ⟨⟨p10, p11, p12, p13, p14, p15, p16⟩, r10, r11, r12, r13, r14, r15, r16⟩ := P1.a.seven; obtain ⟨⟨o10, o11, o12, o13, o14, o15, o16⟩, s10, s11, s12, s13, s14, s15, s16⟩ := P1.b.seven; have he2 : (e1 != 0) = true := (by simpa using he); have he3 := eq_no he))
    refine bodyPost_ret (v := .tuple #[.agg #[.int .i64 op, .int .i64 a, .int .i64 b, .int .i64 m, .slice x1 l1 c1, .slice none 0 0, .slice none 0 0], .string (⟨#[]⟩), .int .i64 (c), .int .i64 (e1)]) (boxedWithin _ _ _ _ _ _ _ _ _ _ _ _ _ _ _ _ _ _ rfl rfl rfl rfl _ (Pair.ret P1 _ _ _ _ _ _ _)) rfl ⟨_, _, _, _, _, _, _, _, _, rfl, Pair.retk P1 _ _ _ _ _ _ _, rfl, he⟩
  | ok q =>
    obtain ⟨⟨ls, last, c⟩, r'⟩ := q
    have hgood := takeL_good g r (d + 1) n _ ht hn
    obtain ⟨g1, g2, g3⟩ := hgood
    replace g1 : r'.size < r.size := g1
    replace g2 : c ≤ 8192 := g2
    replace g3 : last = 11 ∨ last = 5 := g3
    rw [ht] at hB
    replace hB : (if last = 11 then Except.ok ((Ins.mk op a b m ns ls [], c), r') else if op = 4 then (takeL g r' (d + 1) c).bind fun e => if e.1.2.1 = 11 then .ok ((.mk op a b m ns ls e.1.1, e.1.2.2), e.2) else .error 2 else .error 2) = res := hB
    have H1 := Lib.hid (hL.ok ht hr hs hd hn)
    rw [hd1] at H1
    rcases g3 with rfl | rfl
    · rw [if_pos rfl] at hB
      subst hB
      clear ht hr hs hd hn hL hd1 g1 g2
      go_enter Try.func36, Try.ntmps36
      go_wp2_with (first | (go_at_call 20; refine (H1.out _).mono ?_; rintro e w1 ⟨x2, l2, c2, rfl, k1, ho⟩; clear H1; have P1 := P0.out.below k1; have hz1 := k1.size; obtain ⟨⟨p10, p11, p12, p13, p14, p15, p16⟩, r10, r11, r12, r13, r14, r15, r16⟩ := P1.a.seven; obtain ⟨⟨o10, o11, o12, o13, o14, o15, o16⟩, s10, s11, s12, s13, s14, s15, s16⟩ := P1.b.seven))
      have hq : w.heap.size + 2 ≤ w1.heap.size := by omega
      refine bodyPost_ret (v := .tuple #[.agg #[.int .i64 op, .int .i64 a, .int .i64 b, .int .i64 m, .slice x1 l1 c1, .slice x2 l2 c2, .slice none 0 0], .string (r'), .int .i64 (c), .int .i64 (0)]) (boxedWithin _ _ _ _ _ _ _ _ _ _ _ _ _ _ _ _ _ _ rfl rfl rfl rfl _ (Pair.ret (P1.put 5 (.slice x2 l2 c2)) _ _ _ _ _ _ _)) rfl ⟨_, _, _, _, _, _, _, _, _, rfl, Pair.retk (P1.put 5 (.slice x2 l2 c2)) _ _ _ _ _ _ _, rfl, rfl, rfl, ls, [], rfl, (((ho.lower (B' := w.heap.size + 2) (by omega)).set (by omega) 5 _).set7 (k := w.heap.size + 1) (by omega) _ _ _ _ _ _ _).lower (by omega), own_nil _ _⟩
    · rw [if_neg (by decide)] at hB
      by_cases h4 : op = 4
      case neg =>
        rw [if_neg h4] at hB
        subst hB
        have h42 : (op != 4) = true := by simpa using h4
        clear ht hr hs hd hn hL hd1 g1 g2 h4
        go_enter Try.func36, Try.ntmps36
        go_wp2_with (first | (go_at_call 20; refine (H1.out _).mono ?_; rintro e w1 ⟨x2, l2, c2, rfl, k1, ho⟩; clear H1; have P1 := P0.out.below k1; have hz1 := k1.size; obtain ⟨⟨p10, p11, p12, p13, p14, p15, p16⟩, r10, r11, r12, r13, r14, r15, r16⟩ := P1.a.seven; obtain ⟨⟨o10, o11, o12, o13, o14, o15, o16⟩, s10, s11, s12, s13, s14, s15, s16⟩ := P1.b.seven))
        refine bodyPost_ret (v := .tuple #[.agg #[.int .i64 op, .int .i64 a, .int .i64 b, .int .i64 m, .slice x1 l1 c1, .slice x2 l2 c2, .slice none 0 0], .string (⟨#[]⟩), .int .i64 (c), .int .i64 (2)]) (boxedWithin _ _ _ _ _ _ _ _ _ _ _ _ _ _ _ _ _ _ rfl rfl rfl rfl _ (Pair.ret (P1.put 5 (.slice x2 l2 c2)) _ _ _ _ _ _ _)) rfl ⟨_, _, _, _, _, _, _, _, _, rfl, Pair.retk (P1.put 5 (.slice x2 l2 c2)) _ _ _ _ _ _ _, rfl, by decide⟩
      case pos =>
        rw [if_pos h4] at hB
        have h42 : (op != 4) = false := by simpa using h4
        clear h4
        cases ht2 : takeL g r' (d + 1) c with
        | error e1 =>
          rw [ht2] at hB
          replace hB : Except.error e1 = res := hB
          subst hB
          have H2 := Lib.hid (hL.err ht2 (by omega) (by omega) hd g2)
          rw [hd1] at H2
          clear ht ht2 hr hs hd hn hL hd1 g1 g2
          go_enter Try.func36, Try.ntmps36
          go_wp2_with (first | (go_at_call 20; refine (H1.out _).mono ?_; rintro e w1 ⟨x2, l2, c2, rfl, k1, ho⟩; clear H1; have P1 := P0.out.below k1; have hz1 := k1.size; obtain ⟨⟨p10, p11, p12, p13, p14, p15, p16⟩, r10, r11, r12, r13, r14, r15, r16⟩ := P1.a.seven; obtain ⟨⟨o10, o11, o12, o13, o14, o15, o16⟩, s10, s11, s12, s13, s14, s15, s16⟩ := P1.b.seven) | (go_at_call 20; refine (H2.out _).mono ?_; rintro e w2 ⟨last, c, rfl, he, k2⟩; clear H2; have P2 := (P1.put 5 (.slice x2 l2 c2)).below k2; have hz2 := k2.size; obtain ⟨⟨p20, p21, p22, p23, p24, p25, p26⟩, r20, r21, r22, r23, r24, r25, r26⟩ := P2.a.seven; obtain ⟨⟨o20, o21, o22, o23, o24, o25, o26⟩, s20, s21, s22, s23, s24, s25, s26⟩ := P2.b.seven; have he2 : (e1 != 0) = true := (by simpa using he); have he3 := eq_no he))
          all_goals
            refine bodyPost_ret (v := .tuple #[.agg #[.int .i64 op, .int .i64 a, .int .i64 b, .int .i64 m, .slice x1 l1 c1, .slice x2 l2 c2, .slice none 0 0], .string (⟨#[]⟩), .int .i64 (_), .int .i64 (e1)]) (boxedWithin _ _ _ _ _ _ _ _ _ _ _ _ _ _ _ _ _ _ rfl rfl rfl rfl _ (Pair.ret (P2.put 6 (.slice none 0 0)) _ _ _ _ _ _ _)) rfl ⟨_, _, _, _, _, _, _, _, _, rfl, Pair.retk (P2.put 6 (.slice none 0 0)) _ _ _ _ _ _ _, rfl, he⟩
        | ok q =>
          obtain ⟨⟨es, last, c'⟩, r2⟩ := q
          have hgood := takeL_good g r' (d + 1) c _ ht2 g2
          obtain ⟨_, _, g3⟩ := hgood
          replace g3 : last = 11 ∨ last = 5 := g3
          rw [ht2] at hB
          replace hB : (if last = 11 then Except.ok ((Ins.mk op a b m ns ls es, c'), r2) else .error 2) = res := hB
          have H2 := Lib.hid (hL.ok ht2 (by omega) (by omega) hd g2)
          rw [hd1] at H2
          clear ht ht2 hr hs hd hn hL hd1 g1 g2
          rcases g3 with rfl | rfl
          · rw [if_pos rfl] at hB
            subst hB
            go_enter Try.func36, Try.ntmps36
            go_wp2_with (first | (go_at_call 20; refine (H1.out _).mono ?_; rintro e w1 ⟨x2, l2, c2, rfl, k1, ho⟩; clear H1; have P1 := P0.out.below k1; have hz1 := k1.size; obtain ⟨⟨p10, p11, p12, p13, p14, p15, p16⟩, r10, r11, r12, r13, r14, r15, r16⟩ := P1.a.seven; obtain ⟨⟨o10, o11, o12, o13, o14, o15, o16⟩, s10, s11, s12, s13, s14, s15, s16⟩ := P1.b.seven) | (go_at_call 20; refine (H2.out _).mono ?_; rintro e w2 ⟨x3, l3, c3, rfl, k2, ho2⟩; clear H2; have P2 := (P1.put 5 (.slice x2 l2 c2)).below k2; have hz2 := k2.size; obtain ⟨⟨p20, p21, p22, p23, p24, p25, p26⟩, r20, r21, r22, r23, r24, r25, r26⟩ := P2.a.seven; obtain ⟨⟨o20, o21, o22, o23, o24, o25, o26⟩, s20, s21, s22, s23, s24, s25, s26⟩ := P2.b.seven))
            have hq : w.heap.size + 2 ≤ w1.heap.size := by omega
            have hsz : (w1.setCell ⟨w.heap.size, 5, none⟩ (.slice x2 l2 c2)).heap.size = w1.heap.size := by simp [World.setCell]
            have hbx : Below (w1.setCell ⟨w.heap.size, 5, none⟩ (.slice x2 l2 c2)).heap.size (w1.setCell ⟨w.heap.size, 5, none⟩ (.slice x2 l2 c2)) w2 := k2
            refine bodyPost_ret (v := .tuple #[.agg #[.int .i64 op, .int .i64 a, .int .i64 b, .int .i64 m, .slice x1 l1 c1, .slice x2 l2 c2, .slice x3 l3 c3], .string (r2), .int .i64 (c'), .int .i64 (0)]) (boxedWithin _ _ _ _ _ _ _ _ _ _ _ _ _ _ _ _ _ _ rfl rfl rfl rfl _ (Pair.ret (P2.put 6 (.slice x3 l3 c3)) _ _ _ _ _ _ _)) rfl ⟨_, _, _, _, _, _, _, _, _, rfl, Pair.retk (P2.put 6 (.slice x3 l3 c3)) _ _ _ _ _ _ _, rfl, rfl, rfl, ls, es, rfl, (((((ho.lower (B' := w.heap.size + 2) (by omega)).set (by omega) 5 _).below hbx (Nat.le_refl _)).set (by omega) 6 _).set7 (k := w.heap.size + 1) (by omega) _ _ _ _ _ _ _).lower (by omega), ((((ho2.lower (B' := w.heap.size + 2) (by omega)).set (k := w.heap.size) (by omega) 6 _).set7 (k := w.heap.size + 1) (by omega) _ _ _ _ _ _ _).lower (by omega))⟩
          · rw [if_neg (by decide)] at hB
            subst hB
            go_enter Try.func36, Try.ntmps36
            go_wp2_with (first | (go_at_call 20; refine (H1.out _).mono ?_; rintro e w1 ⟨x2, l2, c2, rfl, k1, ho⟩; clear H1; have P1 := P0.out.below k1; have hz1 := k1.size; obtain ⟨⟨p10, p11, p12, p13, p14, p15, p16⟩, r10, r11, r12, r13, r14, r15, r16⟩ := P1.a.seven; obtain ⟨⟨o10, o11, o12, o13, o14, o15, o16⟩, s10, s11, s12, s13, s14, s15, s16⟩ := P1.b.seven) | (go_at_call 20; refine (H2.out _).mono ?_; rintro e w2 ⟨x3, l3, c3, rfl, k2, ho2⟩; clear H2; have P2 := (P1.put 5 (.slice x2 l2 c2)).below k2; have hz2 := k2.size; obtain ⟨⟨p20, p21, p22, p23, p24, p25, p26⟩, r20, r21, r22, r23, r24, r25, r26⟩ := P2.a.seven; obtain ⟨⟨o20, o21, o22, o23, o24, o25, o26⟩, s20, s21, s22, s23, s24, s25, s26⟩ := P2.b.seven))
            refine bodyPost_ret (v := .tuple #[.agg #[.int .i64 op, .int .i64 a, .int .i64 b, .int .i64 m, .slice x1 l1 c1, .slice x2 l2 c2, .slice x3 l3 c3], .string (r2), .int .i64 (c'), .int .i64 (2)]) (boxedWithin _ _ _ _ _ _ _ _ _ _ _ _ _ _ _ _ _ _ rfl rfl rfl rfl _ (Pair.ret (P2.put 6 (.slice x3 l3 c3)) _ _ _ _ _ _ _)) rfl ⟨_, _, _, _, _, _, _, _, _, rfl, Pair.retk (P2.put 6 (.slice x3 l3 c3)) _ _ _ _ _ _ _, rfl, by decide⟩
end Go.Proofs.Ytfhifnkekegkkaa
