/- The project's reading of a block, and of an instruction, as far as lists are read. -/
import Derived.Test.YtgacnelpdhmeiaaInsT7
namespace Go.Proofs.Ytgacnelpdhmeiaa
open Go.RowKit Go.Deep
open Leb (byt byt_lt byt_get)

/-- A step's outcome is what reading comes to, and of what is read this holds. -/
def FitsB {X : Type} (res : Except Int (X × ByteArray)) (r : ByteArray) (f : Int) (Q : X → Prop) : Prop :=
  match res with
  | .ok q => f = 0 ∧ r = q.2 ∧ Q q.1
  | .error e => f = e ∧ e ≠ 0 ∧ r = ⟨#[]⟩
theorem FitsB.cases {X : Type} {res : Except Int (X × ByteArray)} {r : ByteArray} {f : Int} {Q : X → Prop} (h : FitsB res r f Q) : (f = 0 ∧ ∃ x, res = .ok (x, r) ∧ Q x) ∨ (f ≠ 0 ∧ r = ⟨#[]⟩ ∧ res = .error f) := by
  unfold FitsB at h
  cases res with
  | error e =>
    obtain ⟨a, b, c⟩ := h
    exact .inr ⟨by rw [a]; exact b, c, by rw [a]⟩
  | ok q =>
    obtain ⟨a, b, c⟩ := h
    exact .inl ⟨a, q.1, by rw [b], c⟩
theorem Fits.cases {X : Type} {res : Except Int (X × ByteArray)} {x : X} {r : ByteArray} {f : Int} (h : Fits res x r f) : (f = 0 ∧ res = .ok (x, r)) ∨ (f ≠ 0 ∧ r = ⟨#[]⟩ ∧ res = .error f) := by
  unfold Fits at h
  cases res with
  | error e =>
    obtain ⟨a, b, c⟩ := h
    exact .inr ⟨by rw [a]; exact b, c, by rw [a]⟩
  | ok q =>
    obtain ⟨a, b, c⟩ := h
    exact .inl ⟨a, by rw [b, c]⟩
theorem FitsB.mono {X : Type} {res : Except Int (X × ByteArray)} {r : ByteArray} {f : Int} {Q Q' : X → Prop} (h : FitsB res r f Q) (hq : ∀ x, Q x → Q' x) : FitsB res r f Q' := by
  unfold FitsB at h ⊢
  cases res with
  | error e => exact h
  | ok q => exact ⟨h.1, h.2.1, hq _ h.2.2⟩
theorem fitsB_err {X : Type} {r : ByteArray} {f : Int} {Q : X → Prop} (hf : f ≠ 0) (hr : r = ⟨#[]⟩) : FitsB (.error f) r f Q := ⟨rfl, hf, hr⟩
/-- A taker reads lists so, with this much fuel. -/
def ListOk (g : Nat) : Prop := ∀ (t : Nat) (r : ByteArray) (n d : Nat) (w : World), TkAt w t r n 0 → r.size < g → r.size ≤ 1000000000 → d ≤ 32 → n ≤ 8192 →
  Calls Try.prog 36 #[.pointer (some ⟨t, 0, none⟩), .int .i64 d] w fun x w' => ∃ x0 len cap last r' c' f', x = .returned (.tuple #[.slice x0 len cap, .int .i64 last]) ∧ TkAt w' t r' c' f' ∧ Kept (· = t) w w' ∧
    FitsB (takeL g r d n) r' f' (fun q => last = q.2.1 ∧ c' = (q.2.2 : Nat) ∧ OwnP (w.heap.size ≤ ·) w' x0 len cap q.1)
/-- Whatever state it is in. -/
theorem list_both (g : Nat) (hL : ListOk g) (t : Nat) (r : ByteArray) (c f : Int) (d : Nat) (w : World) (h : TkAt w t r c f) (hs : (f ≠ 0 ∧ r = ⟨#[]⟩) ∨ (f = 0 ∧ r.size < g ∧ r.size ≤ 1000000000 ∧ d ≤ 32 ∧ ∃ n : Nat, c = n ∧ n ≤ 8192)) :
    Calls Try.prog 36 #[.pointer (some ⟨t, 0, none⟩), .int .i64 d] w fun x w' => ∃ x0 len cap last r' c' f', x = .returned (.tuple #[.slice x0 len cap, .int .i64 last]) ∧ TkAt w' t r' c' f' ∧ Kept (· = t) w w' ∧ (f = 0 ∨ last = 0) ∧
      FitsB (if f = 0 then takeL g r d c.toNat else .error f) r' f' (fun q => last = q.2.1 ∧ c' = (q.2.2 : Nat) ∧ OwnP (w.heap.size ≤ ·) w' x0 len cap q.1) := by
  rcases hs with ⟨hf, rfl⟩ | ⟨rfl, h1, h2, h3, n, rfl, h4⟩
  · refine (list_dead t c f d hf w h).mono ?_
    rintro x w' ⟨rfl, t1, k1⟩
    exact ⟨none, 0, 0, 0, _, _, _, rfl, t1, k1, .inr rfl, by rw [if_neg hf]; exact fitsB_err hf rfl⟩
  · refine (hL t r n d w h h1 h2 h3 h4).mono ?_
    rintro x w' ⟨x0, len, cap, last, r', c', f', rfl, t1, k1, hq⟩
    exact ⟨x0, len, cap, last, r', c', f', rfl, t1, k1, .inl rfl, by rw [if_pos rfl, Int.toNat_natCast]; exact hq⟩
/-- What reading a block comes to, whatever state the taker is in. -/
def blockB (g : Nat) (op a b m : Int) (ns : List Int) (r : ByteArray) (d : Nat) (c f : Int) : Except Int ((Ins × Nat) × ByteArray) := if f = 0 then blockT (takeL g) op a b m ns r d c.toNat else .error f
def StOk (g : Nat) (r : ByteArray) (c f : Int) (d : Nat) : Prop := (f ≠ 0 ∧ r = ⟨#[]⟩) ∨ (f = 0 ∧ r.size < g ∧ r.size ≤ 1000000000 ∧ d ≤ 32 ∧ ∃ n : Nat, c = n ∧ n ≤ 8192)
theorem StOk.next {g : Nat} {r r1 : ByteArray} {c f c1 f1 last : Int} {d : Nat} {P : List Ins → Prop} (h : StOk g r c f d) (q1 : FitsB (if f = 0 then takeL g r d c.toNat else .error f) r1 f1 (fun q => last = q.2.1 ∧ c1 = (q.2.2 : Nat) ∧ P q.1)) : StOk g r1 c1 f1 d := by
  rcases q1.cases with ⟨hf, x, hx, h1, h2, h3⟩ | ⟨hf, hr, _⟩
  · rcases h with ⟨h0, _⟩ | ⟨h0, k1, k2, k3, n, k4, k5⟩
    · rw [if_neg h0] at hx
      cases hx
    · rw [if_pos h0, k4, Int.toNat_natCast] at hx
      obtain ⟨g1, g2, g3⟩ := takeL_good g _ _ _ _ hx k5
      exact .inr ⟨hf, Nat.lt_trans g1 k1, Nat.le_trans (Nat.le_of_lt g1) k2, k3, _, h2, g2⟩
  · exact .inl ⟨hf, hr⟩
theorem blk_one {g : Nat} {op a b m : Int} {ns : List Int} {r r1 : ByteArray} {c f c1 f1 last : Int} {d : Nat} {P Q : List Ins → Prop} (h : StOk g r c f (d + 1)) (q1 : FitsB (if f = 0 then takeL g r (d + 1) c.toNat else .error f) r1 f1 (fun q => last = q.2.1 ∧ c1 = (q.2.2 : Nat) ∧ P q.1))
    (hop : ¬ (op = 4 ∧ last = 5)) (hQ : Q []) : FitsB (blockB g op a b m ns r d c f) (ndR (last == 11) f1 r1) (ndF (last == 11) f1 2) (fun q => c1 = (q.2 : Nat) ∧ ∃ l e, q.1 = .mk op a b m ns l e ∧ P l ∧ Q e) := by
  unfold blockB
  rcases q1.cases with ⟨hf, x, hx, h1, h2, h3⟩ | ⟨hf, hr, hx⟩
  · rcases h with ⟨h0, _⟩ | ⟨h0, k1, k2, k3, n, k4, k5⟩
    · rw [if_neg h0] at hx
      cases hx
    · rw [if_pos h0] at hx ⊢
      subst k4
      rw [Int.toNat_natCast] at hx ⊢
      obtain ⟨g1, g2, g3⟩ := takeL_good g _ _ _ _ hx k5
      subst h1
      unfold blockT
      rw [hx]
      show FitsB (if x.2.1 = 11 then _ else _) _ _ _
      by_cases h11 : x.2.1 = 11
      · rw [if_pos h11, h11]
        exact ⟨hf, rfl, h2, x.1, [], rfl, h3, hQ⟩
      · rw [if_neg h11, if_neg (fun q => hop ⟨q, g3.resolve_left h11⟩), eq_no h11, hf]
        exact ⟨rfl, by decide, rfl⟩
  · obtain ⟨e1, e2⟩ := nd_no (p := last == 11) (e := 2) (r := r1) hf
    rw [e1, e2]
    by_cases h0 : f = 0
    · rw [if_pos h0] at hx ⊢
      unfold blockT
      rw [hx]
      exact fitsB_err hf hr
    · rw [if_neg h0] at hx ⊢
      injection hx with hx
      rw [hx]
      exact fitsB_err hf hr
theorem blk_two {g : Nat} {a b m : Int} {ns : List Int} {r r1 r2 : ByteArray} {c f c1 f1 c2 f2 last2 : Int} {d : Nat} {P Q : List Ins → Prop} (h : StOk g r c f (d + 1)) (q1 : FitsB (if f = 0 then takeL g r (d + 1) c.toNat else .error f) r1 f1 (fun q => (5 : Int) = q.2.1 ∧ c1 = (q.2.2 : Nat) ∧ P q.1))
    (q2 : FitsB (if f1 = 0 then takeL g r1 (d + 1) c1.toNat else .error f1) r2 f2 (fun q => last2 = q.2.1 ∧ c2 = (q.2.2 : Nat) ∧ Q q.1)) : FitsB (blockB g 4 a b m ns r d c f) (ndR (last2 == 11) f2 r2) (ndF (last2 == 11) f2 2) (fun q => c2 = (q.2 : Nat) ∧ ∃ l e, q.1 = .mk 4 a b m ns l e ∧ P l ∧ Q e) := by
  unfold blockB
  rcases q1.cases with ⟨hf, x, hx, h1, h2, h3⟩ | ⟨hf, hr, hx⟩
  · rcases h with ⟨h0, _⟩ | ⟨h0, k1, k2, k3, n, k4, k5⟩
    · rw [if_neg h0] at hx
      cases hx
    · rw [if_pos h0] at hx ⊢
      subst k4
      rw [Int.toNat_natCast] at hx ⊢
      rw [if_pos hf, h2, Int.toNat_natCast] at q2
      unfold blockT
      rw [hx]
      show FitsB (if x.2.1 = 11 then _ else if (4 : Int) = 4 then _ else _) _ _ _
      rw [if_neg (by rw [← h1]; decide), if_pos rfl]
      rcases q2.cases with ⟨jf, y, hy, j1, j2, j3⟩ | ⟨jf, jr, hy⟩
      · show FitsB ((takeL g r1 (d + 1) x.2.2).bind _) _ _ _
        rw [hy]
        show FitsB (if y.2.1 = 11 then _ else _) _ _ _
        subst j1
        by_cases h11 : y.2.1 = 11
        · rw [if_pos h11, h11]
          exact ⟨jf, rfl, j2, x.1, y.1, rfl, h3, j3⟩
        · rw [if_neg h11, eq_no h11, jf]
          exact ⟨rfl, by decide, rfl⟩
      · show FitsB ((takeL g r1 (d + 1) x.2.2).bind _) _ _ _
        rw [hy]
        obtain ⟨e1, e2⟩ := nd_no (p := last2 == 11) (e := 2) (r := r2) jf
        rw [e1, e2]
        exact fitsB_err jf jr
  · rw [if_neg hf] at q2
    obtain ⟨p1, p2, p3⟩ := q2
    obtain ⟨e1, e2⟩ := nd_no (p := last2 == 11) (e := 2) (r := r2) (show f2 ≠ 0 by rw [p1]; exact hf)
    rw [e1, e2, p1, p3]
    by_cases h0 : f = 0
    · rw [if_pos h0] at hx ⊢
      unfold blockT
      rw [hx]
      exact fitsB_err hf rfl
    · rw [if_neg h0] at hx ⊢
      injection hx with hx
      rw [hx]
      exact fitsB_err hf rfl
set_option maxRecDepth 100000 in
set_option maxHeartbeats 2000000 in
theorem block_any (g : Nat) (hL : ListOk g) (t b : Nat) (op a b' m : Int) (ns : List Int) (nv : Value) (r : ByteArray) (c f : Int) (d : Nat) (w : World) (h : TkAt w t r c f) (hb : BlkAt w b #[.int .i64 op, .int .i64 a, .int .i64 b', .int .i64 m, nv, .slice none 0 0, .slice none 0 0] 57) (hne : b ≠ t)
    (hs : StOk g r c f (d + 1)) :
    Calls Try.prog 68 #[.pointer (some ⟨t, 0, none⟩), .pointer (some ⟨b, 0, none⟩), .int .i64 ((d : Int) + 1)] w fun x w' => ∃ xl ll cl xe le ce r' c' f', x = .returned (.tuple #[]) ∧ TkAt w' t r' c' f' ∧
      BlkAt w' b #[.int .i64 op, .int .i64 a, .int .i64 b', .int .i64 m, nv, .slice xl ll cl, .slice xe le ce] 57 ∧ Kept (fun k => k = t ∨ k = b) w w' ∧
      FitsB (blockB g op a b' m ns r d c f) r' f' (fun q => c' = (q.2 : Nat) ∧ ∃ l e, q.1 = .mk op a b' m ns l e ∧ OwnP (w.heap.size ≤ ·) w' xl ll cl l ∧ OwnP (w.heap.size ≤ ·) w' xe le ce e) := by
  have hlt := h.lt
  have hlb := hb.lt
  have HB := Lib.hid hb
  have H1 := Lib.hid (list_both g hL t r c f (d + 1) w h hs)
  rw [Int.natCast_add] at H1
  have HS := Lib.hid hs
  clear h hb hs
  go_enter Try.func68, Try.ntmps68
  go_wp2_with (first
    | (go_at_call 36; refine H1.out.mono ?_; rintro x w1 ⟨x0, len, cap, last, r1, c1, f1, rfl, t1, k1, hl1, q1⟩; clear H1
       have b1 := HB.out.kept k1 hne
       have e5 := b1.cell 5
       rw [show (_ : Array Value)[5]? = some (.slice none 0 0) from rfl] at e5
       have e0 := b1.cell 0
       rw [show (_ : Array Value)[0]? = some (.int .i64 op) from rfl] at e0
       have z5 := b1.frozen 5
       have b2 := b1.put 5 (.slice x0 len cap)
       have t2 := t1.other (fun q => hne q.symm) 5 (.slice x0 len cap)
       have HQ1 := Lib.hid q1
       have HS2 := Lib.hid (HS.out.next q1)
       clear q1
       have H2 := Lib.hid (list_both g hL t r1 c1 f1 (d + 1) _ t2 HS2.out)
       rw [Int.natCast_add] at H2)
    | (go_at_call 36; refine H2.out.mono ?_; rintro x w3 ⟨x3, len3, cap3, last2, r2, c2, f2, rfl, t3, k3, hl3, q2⟩; clear H2
       have b3 := b2.kept k3 hne
       have e6 := b3.cell 6
       rw [show (_ : Array Value)[6]? = some (.slice none 0 0) from rfl] at e6
       have z6 := b3.frozen 6
       have b4 := b3.put 6 (.slice x3 len3 cap3)
       have t4 := t3.other (fun q => hne q.symm) 6 (.slice x3 len3 cap3)
       have HQ2 := Lib.hid q2
       clear q2)
    | (go_at_call 37; first | (refine (closed_any t r2 c2 f2 last2 _ t4).mono ?_; rintro x w5 ⟨rfl, t5, k5⟩) | (refine (closed_any t r1 c1 f1 last _ t2).mono ?_; rintro x w5 ⟨rfl, t5, k5⟩)))
  · rename_i h4 h5
    have h5' : last = 5 := by simpa using h5
    subst h5'
    subst h4
    have K1 := (Kept.refl (fun k => k = t ∨ k = b) w1).set (p := ⟨b, 5, none⟩) (.inr rfl) (.slice x0 len cap)
    have K2 := (K1.trans (k3.mono fun _ q => .inl q))
    have K3 := (Kept.refl (fun k => k = t ∨ k = b) w3).set (p := ⟨b, 6, none⟩) (.inr rfl) (.slice x3 len3 cap3)
    have K4 := K3.trans (k5.mono fun _ q => .inl q)
    have hz1 := k1.size
    have hz3 := k3.size
    have hzs : (w1.setCell ⟨b, 5, none⟩ (.slice x0 len cap)).heap.size = w1.heap.size := by simp [World.setCell]
    refine bodyPost_void rfl rfl ⟨x0, len, cap, x3, len3, cap3, _, _, _, rfl, t5, b4.kept k5 hne, ((k1.mono fun _ q => .inl q).trans K2).trans K4, ?_⟩
    refine blk_two HS.out (HQ1.out.mono fun q hq => ⟨hq.1, hq.2.1, hq.2.2.next ((K2.trans K4).agree fun k hk hl => by rintro (q | q) <;> omega) (K2.trans K4).size fun k hk _ => hk⟩) (HQ2.out.mono fun q hq => ⟨hq.1, hq.2.1, hq.2.2.next (K4.agree fun k hk hl => by rintro (q | q) <;> omega) K4.size fun k hk _ => by omega⟩)
  all_goals
    have hop : ¬ (op = 4 ∧ last = 5) := by rintro ⟨p1, p2⟩; simp_all
    have K1 := (Kept.refl (fun k => k = t ∨ k = b) w1).set (p := ⟨b, 5, none⟩) (.inr rfl) (.slice x0 len cap)
    have K2 := (K1.trans (k5.mono fun _ q => .inl q))
    have hz1 := k1.size
    refine bodyPost_void rfl rfl ⟨x0, len, cap, none, 0, 0, _, _, _, rfl, t5, b2.kept k5 hne, (k1.mono fun _ q => .inl q).trans K2, ?_⟩
    exact blk_one HS.out (HQ1.out.mono fun q hq => ⟨hq.1, hq.2.1, hq.2.2.next (K2.agree fun k hk hl => by rintro (q | q) <;> omega) K2.size fun k hk _ => hk⟩) hop (own_nil _ _)
end Go.Proofs.Ytgacnelpdhmeiaa
