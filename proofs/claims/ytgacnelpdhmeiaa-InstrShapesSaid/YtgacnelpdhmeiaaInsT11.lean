/- The project's reading, whole. -/
import Derived.Test.YtgacnelpdhmeiaaInsT10
namespace Go.Proofs.Ytgacnelpdhmeiaa
open Go.RowKit Go.Deep
open Leb (byt byt_lt byt_get)

/-- What reading comes to: instructions, and what is behind their end. -/
def takeT (s : ByteArray) : Except Int (List Ins × ByteArray) := (takeL (s.size + 1) s 0 0).bind fun q => if q.1.2.1 = 11 then .ok (q.1.1, q.2) else .error 2
/-- What reading leaves. -/
def GivesT (s : ByteArray) (w : World) (x : Ending) (w' : World) : Prop := ∃ x0 len cap r f, x = .returned (.tuple #[.slice x0 len cap, .string r, .int .i64 f]) ∧ Below w.heap.size w w' ∧ (f ≠ 0 → x0 = none ∧ len = 0 ∧ cap = 0) ∧ FitsB (takeT s) r f (fun ls => OwnP (w.heap.size ≤ ·) w' x0 len cap ls)
theorem take_end {s r : ByteArray} {f last : Int} {P : List Ins → Prop} (h : FitsB (takeL (s.size + 1) s 0 0) r f (fun q => last = q.2.1 ∧ P q.1)) :
    FitsB (takeT s) (ndR (last == 11) f r) (ndF (last == 11) f 2) P := by
  unfold takeT
  rcases h.cases with ⟨hf, x, hx, h1, h2⟩ | ⟨hf, hr, hx⟩
  · rw [hx]
    show FitsB (if x.2.1 = 11 then _ else _) _ _ _
    subst h1
    by_cases h11 : x.2.1 = 11
    · rw [if_pos h11, h11]
      exact ⟨hf, rfl, h2⟩
    · rw [if_neg h11, eq_no h11, hf]
      exact ⟨rfl, by decide, rfl⟩
  · rw [hx]
    obtain ⟨e1, e2⟩ := nd_no (p := last == 11) (e := 2) (r := r) hf
    rw [e1, e2]
    exact fitsB_err hf hr
set_option maxRecDepth 100000 in
set_option maxHeartbeats 1000000 in
theorem Take_any (s : ByteArray) (hs : s.size ≤ 1000000000) (w : World) :
    Calls Try.prog 20 #[.string s] w fun x w' => GivesT s w x w' := by
  have hb0 : Below w.heap.size w (w.alloc (.cells #[.string s, .int .i64 0, .int .i64 0] 65)) := (Below.refl _ _).alloc (Nat.le_refl _) _
  have HL := Lib.hid (list_all (s.size + 1) w.heap.size s 0 0 _ (BlkAt.new w #[.string s, .int .i64 ((0 : Nat) : Int), .int .i64 0] 65) (Nat.lt_succ_self _) hs (by decide) (by decide))
  have HB0 := Lib.hid hb0
  clear hb0
  go_enter Try.func20, Try.ntmps20
  go_wp2_with (first
    | (go_at_call 36; refine HL.out.mono ?_; rintro x w1 ⟨x0, len, cap, last, r1, c1, f1, rfl, t1, k1, q1⟩)
    | (go_at_call 37; refine (closed_any w.heap.size r1 c1 f1 last _ t1).mono ?_; rintro x w2 ⟨rfl, t2, k2⟩
       have c0 := t2.cell 0
       rw [show (_ : Array Value)[0]? = some (.string (ndR (last == 11) f1 r1)) from rfl] at c0
       have c2 := t2.cell 2
       rw [show (_ : Array Value)[2]? = some (.int .i64 (ndF (last == 11) f1 2)) from rfl] at c2
       have hq2 := take_end (q1.mono fun q hq => And.intro hq.1 hq.2.2)
       have HQ2 := Lib.hid hq2
       clear q1 hq2))
  · have hne : ndF (last == 11) f1 2 ≠ 0 := by
      have h : (ndF (last == 11) f1 2 != 0) = true := by assumption
      simpa using h
    have KK := (Kept.of_below (F := fun _ => False) HB0.out).then (k1.trans k2) (by intro j hj q; omega)
    have hbf := KK.below (Nat.le_refl _) (fun _ q => q.elim)
    go_quiet (fail)
    go_wp2
    refine bodyPost_ret (v := .tuple #[.slice none 0 0, .string ⟨#[]⟩, .int .i64 (ndF (last == 11) f1 2)]) (by simp [results, Try.results20, go_sem]) rfl ⟨none, 0, 0, _, _, rfl, below_drewN hbf _, fun _ => ⟨rfl, rfl, rfl⟩, ?_⟩
    rcases HQ2.out.cases with ⟨h0, _⟩ | ⟨h0, h1, h2⟩
    · exact absurd h0 hne
    · rw [h2]
      exact fitsB_err h0 rfl
  · have heq : ndF (last == 11) f1 2 = 0 := by
      have h : (ndF (last == 11) f1 2 != 0) = false := by assumption
      simpa using h
    have KK := (Kept.of_below (F := fun _ => False) HB0.out).then (k1.trans k2) (by intro j hj q; omega)
    have hbf := KK.below (Nat.le_refl _) (fun _ q => q.elim)
    go_quiet (fail)
    go_wp2
    refine bodyPost_ret (v := .tuple #[.slice x0 len cap, .string (ndR (last == 11) f1 r1), .int .i64 0]) (by simp [results, Try.results20, go_sem]) rfl ⟨x0, len, cap, _, _, rfl, below_drewN hbf _, fun h => absurd rfl h, ?_⟩
    have hq := HQ2.out
    rw [heq] at hq
    have hz1 := HB0.out.size
    refine hq.mono fun ls ho => ?_
    have hza : (w.alloc (.cells #[.string s, .int .i64 ((0 : Nat) : Int), .int .i64 0] 65)).heap.size = w.heap.size + 1 := by simp
    exact ho.next (fun k hk hl => k2.block k hl (fun q => by omega)) k2.size fun k hk _ => Nat.le_trans hz1 hk
end Go.Proofs.Ytgacnelpdhmeiaa
