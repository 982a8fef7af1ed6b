/- The project's reading of an instruction, as far as lists are read. -/
import Derived.Test.YtgacnelpdhmeiaaInsT8
namespace Go.Proofs.Ytgacnelpdhmeiaa
open Go.RowKit Go.Deep
open Leb (byt byt_lt byt_get)

theorem shape_err {op : Int} (h : (shapeV op).2 ≠ 0) : (shapeV op).1 = 0 := by
  by_cases hm : op ∈ nameOps
  · exact absurd (by rw [(shapeV_named op hm).1]) h
  · rw [shapeV_other hm] at h ⊢
    split at h
    · exact absurd rfl h
    rename_i h1
    rw [if_neg h1]
    split at h
    · exact absurd rfl h
    rename_i h2
    rw [if_neg h2]
    split
    · rfl
    split
    · rfl
    · rfl
set_option maxRecDepth 100000 in
theorem tf_zero (t b : Nat) (w : World) :
    Calls Try.prog 67 #[.pointer (some ⟨t, 0, none⟩), .pointer (some ⟨b, 0, none⟩), .int .i64 0] w fun x w' => x = .returned (.tuple #[]) ∧ w = w' := by
  go_enter Try.func67, Try.ntmps67
  go_wp2_with fail
  exact bodyPost_void rfl rfl ⟨rfl, rfl⟩
theorem ins_plain {L : ByteArray → Nat → Nat → LRes} {op a b m : Int} {ns : List Int} {r r' : ByteArray} {f' : Int} {d n : Nat} (her : (shapeV op).2 = 0) (h : Fits (numsT op (shapeV op).1 r) (a, b, m, ns) r' f') (h2 : ¬ (shapeV op).1 = 2) :
    FitsB (instrT L op r d n) (ndR (decide ((n : Int) + 1 ≤ 8192)) f' r') (ndF (decide ((n : Int) + 1 ≤ 8192)) f' 14) (fun q => (n : Int) + 1 = (q.2 : Nat) ∧ q.1 = .mk op a b m ns [] []) := by
  unfold instrT
  rw [if_pos her]
  rcases h.cases with ⟨hf, hx⟩ | ⟨hf, hr, hx⟩
  · rw [hx, hf]
    show FitsB (if n + 1 ≤ 8192 then _ else _) _ _ _
    by_cases h8 : n + 1 ≤ 8192
    · rw [if_pos h8, if_neg h2, decide_eq_true (show (n : Int) + 1 ≤ 8192 by omega)]
      exact ⟨rfl, rfl, by show (n : Int) + 1 = ((n + 1 : Nat) : Int); omega, rfl⟩
    · rw [if_neg h8, decide_eq_false (show ¬ (n : Int) + 1 ≤ 8192 by omega)]
      exact ⟨rfl, by decide, rfl⟩
  · rw [hx]
    obtain ⟨e1, e2⟩ := nd_no (p := decide ((n : Int) + 1 ≤ 8192)) (e := 14) (r := r') hf
    rw [e1, e2]
    exact fitsB_err hf hr
theorem ins_block {g : Nat} {op a b m : Int} {ns : List Int} {r r' r4 : ByteArray} {f' f4 : Int} {d n : Nat} {Q : Ins × Nat → Prop} (her : (shapeV op).2 = 0) (h : Fits (numsT op (shapeV op).1 r) (a, b, m, ns) r' f') (h2 : (shapeV op).1 = 2)
    (hq : FitsB (blockB g op a b m ns (ndR (decide ((d : Int) < 32)) (ndF (decide ((n : Int) + 1 ≤ 8192)) f' 14) (ndR (decide ((n : Int) + 1 ≤ 8192)) f' r')) d ((n : Int) + 1) (ndF (decide ((d : Int) < 32)) (ndF (decide ((n : Int) + 1 ≤ 8192)) f' 14) 14)) r4 f4 Q) :
    FitsB (instrT (takeL g) op r d n) r4 f4 Q := by
  unfold instrT
  rw [if_pos her]
  rcases h.cases with ⟨hf, hx⟩ | ⟨hf, hr, hx⟩
  · rw [hx]
    rw [hf] at hq
    show FitsB (if n + 1 ≤ 8192 then _ else _) _ _ _
    by_cases h8 : n + 1 ≤ 8192
    · rw [if_pos h8, if_pos h2]
      rw [decide_eq_true (show (n : Int) + 1 ≤ 8192 by omega)] at hq
      by_cases h32 : d < 32
      · rw [if_pos h32]
        rw [decide_eq_true (show (d : Int) < 32 by omega)] at hq
        have e : (((n : Int) + 1).toNat) = n + 1 := by omega
        have hq' : FitsB (if (0 : Int) = 0 then blockT (takeL g) op a b m ns r' d ((n : Int) + 1).toNat else .error 0) r4 f4 Q := hq
        rw [if_pos rfl, e] at hq'
        exact hq'
      · rw [if_neg h32]
        rw [decide_eq_false (show ¬ (d : Int) < 32 by omega)] at hq
        exact hq
    · rw [if_neg h8]
      rw [decide_eq_false (show ¬ (n : Int) + 1 ≤ 8192 by omega)] at hq
      have e2 := (nd_no (p := decide ((d : Int) < 32)) (e := 14) (r := r') (show (14 : Int) ≠ 0 by decide)).2
      have hq' : FitsB (blockB g op a b m ns (ndR (decide ((d : Int) < 32)) 14 ⟨#[]⟩) d ((n : Int) + 1) (ndF (decide ((d : Int) < 32)) 14 14)) r4 f4 Q := hq
      rw [e2] at hq'
      exact hq'
  · rw [hx]
    obtain ⟨e1, e2⟩ := nd_no (p := decide ((n : Int) + 1 ≤ 8192)) (e := 14) (r := r') hf
    rw [e2, (nd_no (p := decide ((d : Int) < 32)) (e := 14) (r := r') hf).2] at hq
    unfold blockB at hq
    rw [if_neg hf] at hq
    exact hq
theorem ins_st {g : Nat} {r' : ByteArray} {f' : Int} {d n : Nat} (h : (f' = 0 ∧ r'.size < g ∧ r'.size ≤ 1000000000) ∨ (f' ≠ 0 ∧ r' = ⟨#[]⟩)) :
    StOk g (ndR (decide ((d : Int) < 32)) (ndF (decide ((n : Int) + 1 ≤ 8192)) f' 14) (ndR (decide ((n : Int) + 1 ≤ 8192)) f' r')) ((n : Int) + 1) (ndF (decide ((d : Int) < 32)) (ndF (decide ((n : Int) + 1 ≤ 8192)) f' 14) 14) (d + 1) := by
  rcases h with ⟨rfl, h1, h2⟩ | ⟨hf, rfl⟩
  · by_cases h8 : n + 1 ≤ 8192
    · rw [decide_eq_true (show (n : Int) + 1 ≤ 8192 by omega)]
      by_cases h32 : d < 32
      · rw [decide_eq_true (show (d : Int) < 32 by omega)]
        exact .inr ⟨rfl, h1, h2, by omega, n + 1, by omega, h8⟩
      · rw [decide_eq_false (show ¬ (d : Int) < 32 by omega)]
        exact .inl ⟨by decide, rfl⟩
    · rw [decide_eq_false (show ¬ (n : Int) + 1 ≤ 8192 by omega)]
      have e := nd_no (p := decide ((d : Int) < 32)) (e := 14) (f := 14) (r := (⟨#[]⟩ : ByteArray)) (by decide)
      have e1 : ndF false 0 14 = 14 := rfl
      have e2 : ndR false 0 r' = ⟨#[]⟩ := rfl
      rw [e1, e2, e.1, e.2]
      exact .inl ⟨by decide, rfl⟩
  · have e := nd_no (p := decide ((n : Int) + 1 ≤ 8192)) (e := 14) (r := (⟨#[]⟩ : ByteArray)) hf
    rw [e.1, e.2]
    have e3 := nd_no (p := decide ((d : Int) < 32)) (e := 14) (r := (⟨#[]⟩ : ByteArray)) hf
    rw [e3.1, e3.2]
    exact .inl ⟨hf, rfl⟩
/-- Read values of one instruction. -/
def GivesIns (t b : Nat) (op : Int) (res : Except Int ((Ins × Nat) × ByteArray)) (w : World) (x : Ending) (w' : World) : Prop :=
  ∃ a b' m x1 l1 c1 x2 l2 c2 x3 l3 c3 r' c' f', x = .returned (.tuple #[]) ∧ TkAt w' t r' c' f' ∧ BlkAt w' b #[.int .i64 op, .int .i64 a, .int .i64 b', .int .i64 m, .slice x1 l1 c1, .slice x2 l2 c2, .slice x3 l3 c3] 57 ∧ Kept (fun k => k = t ∨ k = b) w w' ∧
    FitsB res r' f' (fun q => c' = (q.2 : Nat) ∧ ElP (w.heap.size ≤ ·) w' q.1 [.int .i64 op, .int .i64 a, .int .i64 b', .int .i64 m, .slice x1 l1 c1, .slice x2 l2 c2, .slice x3 l3 c3])
theorem Ints.stay {B : Nat} {x : Option Addr} {n : List Int} {cap : Nat} {w : World} (h : Ints B (.slice x n.length cap) n w) : (n.length ≤ cap ∧ cap ≤ 9223372036854775807) ∧ ∀ w', Agree (B ≤ ·) w w' → View w' x n.length n := by
  rcases h.2 with ⟨hn, h0⟩ | ⟨g, cap', cur, hn, hb, hg, hc, hm, hcs, htk⟩
  · injection hn with h1 h2 h3
    exact ⟨by omega, fun w' _ => .inl h2⟩
  · injection hn with h1 h2 h3
    subst h1 h3
    unfold maxLen at hm
    refine ⟨by omega, fun w' hw => .inr ⟨g, 0, rfl, fun i hi => ?_⟩⟩
    have hg' := (hw g hb (Array.getElem?_eq_some_iff.1 hg).1).trans hg
    have hc := World.ownsRow.cells h (g := g) rfl i (.int .i64 (n.getD i 0)) (by simp [List.getElem?_eq_getElem hi])
    have hadd : (⟨g, 0, none⟩ : Addr).add i = ⟨g, 0 + i, none⟩ := by unfold Addr.add; split <;> simp_all
    rw [hadd] at hc
    rw [← hc]
    unfold World.cell?
    rw [hg', hg]
set_option maxRecDepth 100000 in
set_option maxHeartbeats 2000000 in
theorem instr_bad (g : Nat) (t b : Nat) (op : Int) (r : ByteArray) (n d : Nat) (w : World) (her : (shapeV op).2 ≠ 0) (h : TkAt w t r n 0) (hb : BlkAt w b #[.int .i64 op, .int .i64 0, .int .i64 0, .int .i64 0, .slice none 0 0, .slice none 0 0, .slice none 0 0] 57) (hne : b ≠ t) (hn : n ≤ 8192) :
    Calls Try.prog 48 #[.pointer (some ⟨t, 0, none⟩), .pointer (some ⟨b, 0, none⟩), .int .i64 d] w fun x w' => GivesIns t b op (instrT (takeL g) op r d n) w x w' := by
  have HS := Lib.hid (shape_any op)
  rw [shape_err her] at HS
  have k0 := hb.cell 0
  rw [show (_ : Array Value)[0]? = some (.int .i64 op) from rfl] at k0
  have HB := Lib.hid hb
  have HR : Hid (instrT (takeL g) op r d n = .error (shapeV op).2) := Lib.hid (if_neg her)
  have HER := Lib.hid her
  have he2 : ((shapeV op).2 == 0) = false := eq_no her
  revert HS HR HER he2
  generalize (shapeV op).2 = er
  intro HS HR HER he2
  have HN1 := Lib.hid (need_any t r n 0 er false w h)
  have HZ := Lib.hid (tf_zero t b)
  have wn : IntKind.i64.wrap ((n : Int) + 1) = (n : Int) + 1 := by rw [IntKind.wrap_i64]; omega
  clear h hb her
  go_enter Try.func48, Try.ntmps48
  go_wp2_with (first
    | (go_at_call 11; refine (HS.out _).mono ?_; rintro x w1 ⟨rfl, rfl⟩)
    | (go_at_call 49; refine HN1.out.mono ?_; rintro x w1 ⟨rfl, t1, k1⟩; clear HN1; have e1 := t1.cell 1; rw [show (_ : Array Value)[1]? = some (.int .i64 (n : Int)) from rfl] at e1; have z1 := t1.frozen 1; have t2 := t1.put 1 (.int .i64 ((n : Int) + 1)))
    | (go_at_call 67; refine (HZ.out _).mono ?_; rintro x w2 ⟨rfl, rfl⟩)
    | (go_at_call 49; refine (need_any t ⟨#[]⟩ ((n : Int) + 1) er 14 (decide ((n : Int) + 1 ≤ 8192)) _ t2).mono ?_; rintro x w3 ⟨rfl, t3, k3⟩))
  obtain ⟨e4, e5⟩ := nd_no (p := decide ((n : Int) + 1 ≤ 8192)) (e := 14) (r := (⟨#[]⟩ : ByteArray)) HER.out
  rw [e4, e5] at t3
  exact bodyPost_void rfl rfl ⟨0, 0, 0, none, 0, 0, none, 0, 0, none, 0, 0, _, _, _, rfl, t3, ((HB.out.kept k1 hne).other hne 1 _).kept k3 hne, (((k1.mono fun _ q => .inl q).set (p := ⟨t, 1, none⟩) (.inl rfl) _).trans (k3.mono fun _ q => .inl q)), by rw [HR.out]; exact fitsB_err HER.out rfl⟩
set_option maxRecDepth 100000 in
set_option maxHeartbeats 2000000 in
theorem instr_good (g : Nat) (hL : ListOk g) (t b : Nat) (op : Int) (r : ByteArray) (n d : Nat) (w : World) (her : (shapeV op).2 = 0) (h : TkAt w t r n 0) (hb : BlkAt w b #[.int .i64 op, .int .i64 0, .int .i64 0, .int .i64 0, .slice none 0 0, .slice none 0 0, .slice none 0 0] 57) (hne : b ≠ t) (hr : r.size < g) (hs : r.size ≤ 1000000000) (hn : n ≤ 8192) (hd : d ≤ 32) :
    Calls Try.prog 48 #[.pointer (some ⟨t, 0, none⟩), .pointer (some ⟨b, 0, none⟩), .int .i64 d] w fun x w' => GivesIns t b op (instrT (takeL g) op r d n) w x w' := by
  have HS := Lib.hid (shape_any op)
  rw [her] at HS
  have k0 := hb.cell 0
  rw [show (_ : Array Value)[0]? = some (.int .i64 op) from rfl] at k0
  have HB := Lib.hid hb
  have HER := Lib.hid her
  have HN1 := Lib.hid (need_any t r n 0 0 true w h)
  have hlt := h.lt
  have hlb := hb.lt
  have HSZ : Hid (∀ a b' m ns q, numsT op (shapeV op).1 r = .ok ((a, b', m, ns), q) → q.size < g ∧ q.size ≤ 1000000000) := Lib.hid fun a b' m ns q hq => by
    have : q.size ≤ r.size := numsT_size hq
    omega
  have wn : IntKind.i64.wrap ((n : Int) + 1) = (n : Int) + 1 := by rw [IntKind.wrap_i64]; omega
  have wd : IntKind.i64.wrap ((d : Int) + 1) = (d : Int) + 1 := by rw [IntKind.wrap_i64]; omega
  obtain ⟨sh, hsh⟩ : ∃ sh, (shapeV op).1 = sh := ⟨_, rfl⟩
  rw [hsh] at HS
  have HSH := Lib.hid hsh
  have HF : Hid (∀ w', TkAt w' t r n 0 → BlkAt w' b #[.int .i64 op, .int .i64 0, .int .i64 0, .int .i64 0, .slice none 0 0, .slice none 0 0, .slice none 0 0] 57 → Calls Try.prog 67 #[.pointer (some ⟨t, 0, none⟩), .pointer (some ⟨b, 0, none⟩), .int .i64 sh] w' fun x w2 => GivesF t b op sh r n w' x w2) := Lib.hid fun w' h1 h2 => by
    have := tf_any t b op r n w' h1 h2 hne hs her
    rwa [hsh] at this
  clear h hb her hs hr hsh
  by_cases h2 : sh = 2
  · subst h2
    go_enter Try.func48, Try.ntmps48
    go_wp2_with (first
      | (go_at_call 11; refine (HS.out _).mono ?_; rintro x w1 ⟨rfl, rfl⟩)
      | (go_at_call 49; refine HN1.out.mono ?_; rintro x w1 ⟨rfl, t1, k1⟩; clear HN1)
      | (go_at_call 67; refine (HF.out _ t1 (HB.out.kept k1 hne)).mono ?_; rintro x w2 ⟨a', b', m', x1, c1, ns, r', f', ⟨rfl, t2, b2, k2⟩, q2, i2⟩; clear HF; have e1 := t2.cell 1; rw [show (_ : Array Value)[1]? = some (.int .i64 (n : Int)) from rfl] at e1; have z1 := t2.frozen 1; have t3 := t2.put 1 (.int .i64 ((n : Int) + 1)); have HN2 := Lib.hid (need_any t r' ((n : Int) + 1) f' 14 (decide ((n : Int) + 1 ≤ 8192)) _ t3))
      | (go_at_call 49; refine HN2.out.mono ?_; rintro x w4 ⟨rfl, t4, k4⟩; clear HN2; have HN3 := Lib.hid (need_any t _ ((n : Int) + 1) _ 14 (decide ((d : Int) < 32)) _ t4))
      | (go_at_call 49; refine HN3.out.mono ?_; rintro x w5 ⟨rfl, t5, k5⟩; clear HN3
         have hst : StOk g _ _ _ (d + 1) := ins_st (g := g) (r' := r') (f' := f') (d := d) (n := n) (q2.cases.imp (fun q => ⟨q.1, HSZ.out _ _ _ _ _ (by rw [HSH.out]; exact q.2)⟩) fun q => ⟨q.1, q.2.1⟩)
         have b5 := ((b2.other hne 1 (.int .i64 ((n : Int) + 1))).kept k4 hne).kept k5 hne
         have HBK := Lib.hid (block_any g hL t b op a' b' m' ns _ _ _ _ d _ t5 b5 hne hst))
      | (go_at_call 68; refine HBK.out.mono ?_; rintro x w6 ⟨xl, ll, cl, xe, le, ce, r6, c6, f6, rfl, t6, b6, k6, q6⟩))
    have K3 := (((Kept.refl (fun k => k = t ∨ k = b) w2).set (p := ⟨t, 1, none⟩) (.inl rfl) (.int .i64 ((n : Int) + 1))).trans (k4.mono fun _ q => .inl q)).trans (k5.mono fun _ q => .inl q)
    have K6 := K3.trans k6
    have hz1 := k1.size
    have hz2 := k2.size
    have hz3 := K3.size
    refine bodyPost_void rfl rfl ⟨a', b', m', x1, ns.length, c1, xl, ll, cl, xe, le, ce, _, _, _, rfl, t6, b6, ((k1.mono fun _ q => .inl q).trans k2).trans K6, ?_⟩
    refine (ins_block HER.out (by rw [HSH.out]; exact q2) HSH.out q6).mono ?_
    rintro ⟨i, n'⟩ ⟨q7, l, e, q8, q9, q10⟩
    replace q8 : i = .mk op a' b' m' ns l e := q8
    subst q8
    obtain ⟨j1, j2⟩ := i2.stay
    have hl := q9.eq
    have he := q10.eq
    subst hl he
    refine ⟨q7, x1, c1, xl, cl, xe, ce, rfl, j1, fun w' hw => j2 w' ?_, q9.next (Agree.refl _ _) (Nat.le_refl _) fun k hk _ => by omega, q10.next (Agree.refl _ _) (Nat.le_refl _) fun k hk _ => by omega⟩
    exact hw.next (K6.agree fun k hk hl => by rintro (q | q) <;> omega) K6.size fun k hk _ => by omega
  · have h2' : (sh == 2) = false := eq_no h2
    go_enter Try.func48, Try.ntmps48
    go_wp2_with (first
      | (go_at_call 11; refine (HS.out _).mono ?_; rintro x w1 ⟨rfl, rfl⟩)
      | (go_at_call 49; refine HN1.out.mono ?_; rintro x w1 ⟨rfl, t1, k1⟩; clear HN1)
      | (go_at_call 67; refine (HF.out _ t1 (HB.out.kept k1 hne)).mono ?_; rintro x w2 ⟨a', b', m', x1, c1, ns, r', f', ⟨rfl, t2, b2, k2⟩, q2, i2⟩; clear HF; have e1 := t2.cell 1; rw [show (_ : Array Value)[1]? = some (.int .i64 (n : Int)) from rfl] at e1; have z1 := t2.frozen 1; have t3 := t2.put 1 (.int .i64 ((n : Int) + 1)))
      | (go_at_call 49; refine (need_any t r' ((n : Int) + 1) f' 14 (decide ((n : Int) + 1 ≤ 8192)) _ t3).mono ?_; rintro x w4 ⟨rfl, t4, k4⟩))
    have K3 := ((Kept.refl (fun k => k = t ∨ k = b) w2).set (p := ⟨t, 1, none⟩) (.inl rfl) (.int .i64 ((n : Int) + 1))).trans (k4.mono fun _ q => .inl q)
    have hz1 := k1.size
    have hz2 := k2.size
    refine bodyPost_void rfl rfl ⟨a', b', m', x1, ns.length, c1, none, 0, 0, none, 0, 0, _, _, _, rfl, t4, (b2.other hne 1 _).kept k4 hne, ((k1.mono fun _ q => .inl q).trans k2).trans K3, ?_⟩
    refine (ins_plain HER.out (by rw [HSH.out]; exact q2) (by rw [HSH.out]; exact h2)).mono ?_
    rintro ⟨i, n'⟩ ⟨q3, q4⟩
    subst q4
    obtain ⟨j1, j2⟩ := i2.stay
    refine ⟨q3, x1, c1, none, 0, none, 0, rfl, j1, fun w' hw => j2 w' ?_, own_nil _ _, own_nil _ _⟩
    exact hw.next (K3.agree fun k hk hl => by rintro (q | q) <;> omega) K3.size fun k hk _ => by omega
theorem instr_any (g : Nat) (hL : ListOk g) (t b : Nat) (op : Int) (r : ByteArray) (n d : Nat) (w : World) (h : TkAt w t r n 0) (hb : BlkAt w b #[.int .i64 op, .int .i64 0, .int .i64 0, .int .i64 0, .slice none 0 0, .slice none 0 0, .slice none 0 0] 57) (hne : b ≠ t) (hr : r.size < g) (hs : r.size ≤ 1000000000) (hn : n ≤ 8192) (hd : d ≤ 32) :
    Calls Try.prog 48 #[.pointer (some ⟨t, 0, none⟩), .pointer (some ⟨b, 0, none⟩), .int .i64 d] w fun x w' => GivesIns t b op (instrT (takeL g) op r d n) w x w' := by
  by_cases her : (shapeV op).2 = 0
  · exact instr_good g hL t b op r n d w her h hb hne hr hs hn hd
  · exact instr_bad g t b op r n d w her h hb hne hn
end Go.Proofs.Ytgacnelpdhmeiaa
