/- What reading instructions comes to; trees that a call makes. -/
import Derived.Test.YtgacnelpdhmeiaaInsT5
import Derived.Test.YtgacnelpdhmeiaaInsD
import Derived.Deep.AppendLies
namespace Go.Proofs.Ytgacnelpdhmeiaa
open Go.RowKit Go.Deep
open Leb (byt byt_lt byt_get)

/-- What reading an opcode comes to. -/
def opT (s : ByteArray) : Except Int (Int × ByteArray) := if s.size = 0 then .error 2 else if byt s 0 = 252 then (uT (s.extract 1 s.size)).bind fun q => .ok (64512 + q.1, q.2) else .ok ((byt s 0 : Int), s.extract 1 s.size)
/-- What reading instructions comes to: they, the opcode behind them, how many there were; what is behind. -/
abbrev LRes := Except Int ((List Ins × Int × Nat) × ByteArray)
def blockT (L : ByteArray → Nat → Nat → LRes) (op a b m : Int) (ns : List Int) (s : ByteArray) (d n : Nat) : Except Int ((Ins × Nat) × ByteArray) :=
  (L s (d + 1) n).bind fun l => if l.1.2.1 = 11 then .ok ((.mk op a b m ns l.1.1 [], l.1.2.2), l.2) else if op = 4 then (L l.2 (d + 1) l.1.2.2).bind fun e => if e.1.2.1 = 11 then .ok ((.mk op a b m ns l.1.1 e.1.1, e.1.2.2), e.2) else .error 2 else .error 2
def instrT (L : ByteArray → Nat → Nat → LRes) (op : Int) (s : ByteArray) (d n : Nat) : Except Int ((Ins × Nat) × ByteArray) :=
  if (shapeV op).2 = 0 then (numsT op (shapeV op).1 s).bind fun p => if n + 1 ≤ 8192 then (if (shapeV op).1 = 2 then (if d < 32 then blockT L op p.1.1 p.1.2.1 p.1.2.2.1 p.1.2.2.2 p.2 d (n + 1) else .error 14) else .ok ((.mk op p.1.1 p.1.2.1 p.1.2.2.1 p.1.2.2.2 [] [], n + 1), p.2)) else .error 14 else .error (shapeV op).2
def takeL : Nat → ByteArray → Nat → Nat → LRes
  | 0, _, _, _ => .error 2
  | f + 1, s, d, n => (opT s).bind fun q => if q.1 = 11 ∨ q.1 = 5 then .ok (([], q.1, n), q.2) else (instrT (takeL f) q.1 q.2 d n).bind fun i => (takeL f i.2 d i.1.2).bind fun r => .ok ((i.1.1 :: r.1.1, r.1.2.1, r.1.2.2), r.2)
theorem bind_ok {X Y : Type} {res : Except Int X} {k : X → Except Int Y} {y : Y} (h : res.bind k = .ok y) : ∃ x, res = .ok x ∧ k x = .ok y := by
  cases res with
  | error e => cases h
  | ok x => exact ⟨x, rfl, h⟩
theorem bind_error {X Y : Type} {res : Except Int X} {k : X → Except Int Y} {e : Int} (h : res.bind k = .error e) : res = .error e ∨ ∃ x, res = .ok x ∧ k x = .error e := by
  cases res with
  | error e' =>
    have : e' = e := by
      have h' : (Except.error e' : Except Int Y) = .error e := h
      injection h'
    exact .inl (by rw [this])
  | ok x => exact .inr ⟨x, rfl, h⟩
theorem uT_size {s : ByteArray} {q : Int × ByteArray} (h : uT s = .ok q) : q.2.size ≤ s.size := by
  unfold uT at h
  split at h
  · injection h with h
    rw [← h]
    exact uR_size s
  · cases h
theorem sT_size {s : ByteArray} {most : Nat} {half : Int} {q : Int × ByteArray} (h : sT s most half = .ok q) : q.2.size ≤ s.size := by
  unfold sT at h
  split at h
  · injection h with h
    rw [← h]
    exact sR_size s most half
  · cases h
theorem yT_size {s : ByteArray} {q : Int × ByteArray} (h : yT s = .ok q) : q.2.size ≤ s.size := by
  unfold yT at h
  split at h
  · injection h with h
    rw [← h]
    exact tyR_size s
  · cases h
theorem aT_size {s : ByteArray} {q : List Int × ByteArray} (h : aT s = .ok q) : q.2.size ≤ s.size := by
  unfold aT at h
  split at h
  · injection h with h
    rw [← h]
    exact aR_size s 1000
  · cases h
theorem blkT_size {s : ByteArray} {q : Int × ByteArray} (h : blkT s = .ok q) : q.2.size ≤ s.size := by
  unfold blkT at h
  split at h
  · split at h
    · injection h with h
      rw [← h]
      show (s.extract 1 s.size).size ≤ _
      rw [ByteArray.size_extract]; omega
    · obtain ⟨p, hp, h⟩ := bind_ok h
      injection h with h
      rw [← h]
      exact (yT_size hp : p.2.size ≤ s.size)
  · obtain ⟨p, hp, h⟩ := bind_ok h
    split at h
    · cases h
    · injection h with h
      rw [← h]
      exact sT_size hp
theorem numsT_size {op sh : Int} {s : ByteArray} {q : (Int × Int × Int × List Int) × ByteArray} (h : numsT op sh s = .ok q) : q.2.size ≤ s.size := by
  unfold numsT at h
  split at h
  · obtain ⟨p, hp, h⟩ := bind_ok h
    injection h with h
    rw [← h]
    exact blkT_size hp
  split at h
  · obtain ⟨p, hp, h⟩ := bind_ok h
    injection h with h
    rw [← h]
    exact uT_size hp
  split at h
  · obtain ⟨p, hp, h⟩ := bind_ok h
    obtain ⟨p2, hp2, h⟩ := bind_ok h
    injection h with h
    rw [← h]
    exact Nat.le_trans (uT_size hp2) (aT_size hp)
  split at h
  · obtain ⟨p, hp, h⟩ := bind_ok h
    obtain ⟨p2, hp2, h⟩ := bind_ok h
    injection h with h
    rw [← h]
    exact Nat.le_trans (uT_size hp2) (uT_size hp)
  split at h
  · obtain ⟨p, hp, h⟩ := bind_ok h
    injection h with h
    rw [← h]
    unfold typesT at hp
    obtain ⟨p2, hp2, hp⟩ := bind_ok hp
    split at hp
    · exact Nat.le_trans (yT_size hp) (uT_size hp2)
    · cases hp
  split at h
  · obtain ⟨p, hp, h⟩ := bind_ok h
    injection h with h
    rw [← h]
    unfold placeT at hp
    obtain ⟨p2, hp2, hp⟩ := bind_ok hp
    split at hp
    · cases hp
    split at hp
    · obtain ⟨p3, hp3, hp⟩ := bind_ok hp
      obtain ⟨p4, hp4, hp⟩ := bind_ok hp
      injection hp with hp
      rw [← hp]
      exact Nat.le_trans (uT_size hp4) (Nat.le_trans (uT_size hp3) (uT_size hp2))
    · obtain ⟨p3, hp3, hp⟩ := bind_ok hp
      injection hp with hp
      rw [← hp]
      exact Nat.le_trans (uT_size hp3) (uT_size hp2)
  split at h
  · obtain ⟨p, hp, h⟩ := bind_ok h
    injection h with h
    rw [← h]
    exact uT_size hp
  split at h
  · obtain ⟨p, hp, h⟩ := bind_ok h
    obtain ⟨p2, hp2, h⟩ := bind_ok h
    injection h with h
    rw [← h]
    exact Nat.le_trans (uT_size hp2) (uT_size hp)
  split at h
  · obtain ⟨p, hp, h⟩ := bind_ok h
    injection h with h
    rw [← h]
    unfold constT at hp
    split at hp
    · exact sT_size hp
    · exact sT_size hp
  split at h
  · obtain ⟨p, hp, h⟩ := bind_ok h
    injection h with h
    rw [← h]
    unfold nullT at hp
    obtain ⟨p2, hp2, hp⟩ := bind_ok hp
    split at hp
    · injection hp with hp
      rw [← hp]
      exact yT_size hp2
    · cases hp
  · injection h with h
    rw [← h]
    exact Nat.le_refl _
theorem opT_size {s : ByteArray} {q : Int × ByteArray} (h : opT s = .ok q) : q.2.size < s.size := by
  unfold opT at h
  split at h
  · cases h
  rename_i h0
  split at h
  · obtain ⟨p, hp, h⟩ := bind_ok h
    injection h with h
    rw [← h]
    have := uT_size hp
    rw [ByteArray.size_extract] at this
    show p.2.size < _
    omega
  · injection h with h
    rw [← h]
    show (s.extract 1 s.size).size < _
    rw [ByteArray.size_extract]
    omega
/-- Of what is read, less is behind, and there are not too many. -/
def LGood (L : ByteArray → Nat → Nat → LRes) : Prop := ∀ s d n q, L s d n = .ok q → n ≤ 8192 → q.2.size < s.size ∧ q.1.2.2 ≤ 8192 ∧ (q.1.2.1 = 11 ∨ q.1.2.1 = 5)
theorem blockT_good {L : ByteArray → Nat → Nat → LRes} (hL : LGood L) {op a b m : Int} {ns : List Int} {s : ByteArray} {d n : Nat} {q : (Ins × Nat) × ByteArray} (h : blockT L op a b m ns s d n = .ok q) (hn : n ≤ 8192) : q.2.size < s.size ∧ q.1.2 ≤ 8192 := by
  unfold blockT at h
  obtain ⟨l, hl, h⟩ := bind_ok h
  obtain ⟨g1, g2, g3⟩ := hL _ _ _ _ hl hn
  split at h
  · injection h with h
    rw [← h]
    exact ⟨g1, g2⟩
  split at h
  · obtain ⟨e, he, h⟩ := bind_ok h
    obtain ⟨k1, k2, k3⟩ := hL _ _ _ _ he g2
    split at h
    · injection h with h
      rw [← h]
      exact ⟨Nat.lt_trans k1 g1, k2⟩
    · cases h
  · cases h
theorem instrT_good {L : ByteArray → Nat → Nat → LRes} (hL : LGood L) {op : Int} {s : ByteArray} {d n : Nat} {q : (Ins × Nat) × ByteArray} (h : instrT L op s d n = .ok q) : q.2.size ≤ s.size ∧ q.1.2 ≤ 8192 := by
  unfold instrT at h
  split at h
  · obtain ⟨p, hp, h⟩ := bind_ok h
    have hs := numsT_size hp
    split at h
    · rename_i h8
      split at h
      · split at h
        · obtain ⟨g1, g2⟩ := blockT_good hL h h8
          exact ⟨by omega, g2⟩
        · cases h
      · injection h with h
        rw [← h]
        exact ⟨hs, h8⟩
    · cases h
  · cases h
theorem takeL_good (f : Nat) : LGood (takeL f) := by
  induction f with
  | zero => intro s d n q h; cases h
  | succ f ih =>
    intro s d n q h hn
    rw [takeL] at h
    obtain ⟨o, ho, h⟩ := bind_ok h
    have h0 := opT_size ho
    split at h
    · rename_i hor
      injection h with h
      rw [← h]
      exact ⟨h0, hn, hor⟩
    · obtain ⟨i, hi, h⟩ := bind_ok h
      obtain ⟨g1, g2⟩ := instrT_good ih hi
      obtain ⟨r, hr, h⟩ := bind_ok h
      obtain ⟨k1, k2, k3⟩ := ih _ _ _ _ hr g2
      injection h with h
      rw [← h]
      exact ⟨by show r.2.size < _; omega, k2, k3⟩
/-- Worlds that agree on these blocks. -/
def Agree (P : Nat → Prop) (w w' : World) : Prop := ∀ k, P k → k < w.heap.size → w'.heap[k]? = w.heap[k]?
/-- Instructions that lie, whatever happens to other blocks than these. -/
structure OwnP (P : Nat → Prop) (w : World) (x : Option Addr) (len cap : Nat) (ls : List Ins) : Prop where
  eq : len = ls.length
  le : len ≤ cap
  top : cap ≤ 9223372036854775807
  lies : ∀ w', Agree P w w' → LiesL w' x ls
theorem Agree.refl (P : Nat → Prop) (w : World) : Agree P w w := fun _ _ _ => rfl
theorem Agree.next {P Q : Nat → Prop} {w w1 w' : World} (h : Agree Q w1 w') (h1 : Agree P w w1) (hz : w.heap.size ≤ w1.heap.size) (hq : ∀ k, P k → k < w.heap.size → Q k) : Agree P w w' :=
  fun k hp hk => (h k (hq k hp hk) (by omega)).trans (h1 k hp hk)
theorem OwnP.next {P Q : Nat → Prop} {w w1 : World} {x : Option Addr} {len cap : Nat} {ls : List Ins} (h : OwnP P w x len cap ls) (h1 : Agree P w w1) (hz : w.heap.size ≤ w1.heap.size) (hq : ∀ k, P k → k < w.heap.size → Q k) : OwnP Q w1 x len cap ls :=
  ⟨h.eq, h.le, h.top, fun w' hw => h.lies w' (hw.next h1 hz hq)⟩
theorem OwnP.insIn {P : Nat → Prop} {w : World} {x : Option Addr} {len cap : Nat} {ls : List Ins} (h : OwnP P w x len cap ls) : InsIn w x len cap ls := ⟨h.eq, h.le, h.top, h.lies w (Agree.refl P w)⟩
theorem Kept.agree {F P : Nat → Prop} {w w' : World} (h : Kept F w w') (hp : ∀ k, P k → k < w.heap.size → ¬ F k) : Agree P w w' := fun k hk hl => h.block k hl (hp k hk hl)
theorem own_nil (P : Nat → Prop) (w : World) : OwnP P w none 0 0 [] := ⟨rfl, Nat.le_refl _, by decide, fun _ _ => by unfold LiesL; trivial⟩
/-- Seven values are an instruction, whatever happens to other blocks than these. -/
def ElP (P : Nat → Prop) (w : World) (i : Ins) (us : List Value) : Prop :=
  ∃ xn cn xl cl xe ce, us = [.int .i64 i.op, .int .i64 i.a, .int .i64 i.b, .int .i64 i.m, .slice xn i.n.length cn, .slice xl i.l.length cl, .slice xe i.e.length ce] ∧
    (i.n.length ≤ cn ∧ cn ≤ 9223372036854775807) ∧ (∀ w', Agree P w w' → View w' xn i.n.length i.n) ∧ OwnP P w xl i.l.length cl i.l ∧ OwnP P w xe i.e.length ce i.e
theorem ElP.next {P Q : Nat → Prop} {w w1 : World} {i : Ins} {us : List Value} (h : ElP P w i us) (h1 : Agree P w w1) (hz : w.heap.size ≤ w1.heap.size) (hq : ∀ k, P k → k < w.heap.size → Q k) : ElP Q w1 i us := by
  obtain ⟨xn, cn, xl, cl, xe, ce, e, hc, hv, hl, he⟩ := h
  exact ⟨xn, cn, xl, cl, xe, ce, e, hc, fun w' hw => hv w' (hw.next h1 hz hq), hl.next h1 hz hq, he.next h1 hz hq⟩
/-- Values, seven for each of these instructions. -/
inductive ElsP (P : Nat → Prop) (w : World) : List Ins → List Value → Prop
  | nil : ElsP P w [] []
  | cons {i : Ins} {us : List Value} {ls : List Ins} {vs : List Value} : ElP P w i us → ElsP P w ls vs → ElsP P w (i :: ls) (us ++ vs)
theorem ElsP.next {P Q : Nat → Prop} {w w1 : World} {ls : List Ins} {vs : List Value} (h : ElsP P w ls vs) (h1 : Agree P w w1) (hz : w.heap.size ≤ w1.heap.size) (hq : ∀ k, P k → k < w.heap.size → Q k) : ElsP Q w1 ls vs := by
  induction h with
  | nil => exact .nil
  | cons a _ ih => exact .cons (a.next h1 hz hq) ih
theorem ElsP.snoc {P : Nat → Prop} {w : World} {ls : List Ins} {vs : List Value} {i : Ins} {us : List Value} (h : ElsP P w ls vs) (hi : ElP P w i us) : ElsP P w (ls ++ [i]) (vs ++ us) := by
  induction h with
  | nil => simpa using ElsP.cons hi .nil
  | cons a _ ih =>
    rw [List.cons_append, List.append_assoc]
    exact .cons a ih
theorem ElP.length {P : Nat → Prop} {w : World} {i : Ins} {us : List Value} (h : ElP P w i us) : us.length = 7 := by
  obtain ⟨xn, cn, xl, cl, xe, ce, e, _⟩ := h
  rw [e]; rfl
theorem ElsP.length {P : Nat → Prop} {w : World} {ls : List Ins} {vs : List Value} (h : ElsP P w ls vs) : vs.length = ls.length * 7 := by
  induction h with
  | nil => rfl
  | cons a _ ih =>
    rw [List.length_append, a.length, ih, List.length_cons]
    omega
theorem ElsP.lies {P : Nat → Prop} {w w' : World} {ls : List Ins} {vs : List Value} (h : ElsP P w ls vs) (ha : Agree P w w') (g off : Nat) (hc : ∀ j v, vs[j]? = some v → w'.cell? ⟨g, off + j, none⟩ = some v) : LiesL w' (some ⟨g, off, none⟩) ls := by
  induction h generalizing off with
  | nil => unfold LiesL; trivial
  | @cons i us ls vs a b ih =>
    have h7 := a.length
    obtain ⟨xn, cn, xl, cl, xe, ce, e, hn, hv, hl, he⟩ := a
    unfold LiesL
    refine ⟨g, off, rfl, ?_, ih (off + 7) fun j v hj => ?_⟩
    · have key : ∀ j v, us[j]? = some v → w'.cell? ⟨g, off + j, none⟩ = some v := fun j v hj => hc j v (by
        have hlt := (List.getElem?_eq_some_iff.1 hj).1
        rw [List.getElem?_append_left hlt]
        exact hj)
      subst e
      have k0 := key 0 _ rfl
      have k1 := key 1 _ rfl
      have k2 := key 2 _ rfl
      have k3 := key 3 _ rfl
      have k4 := key 4 _ rfl
      have k5 := key 5 _ rfl
      have k6 := key 6 _ rfl
      cases i with
      | mk op a b' m n l e =>
        unfold LiesI
        exact ⟨k0, k1, k2, k3, ⟨xn, cn, k4, hv w' ha, hn.1, hn.2⟩, ⟨xl, cl, k5, hl.lies w' ha, hl.le, hl.top⟩, ⟨xe, ce, k6, he.lies w' ha, he.le, he.top⟩⟩
    · rw [show off + 7 + j = off + (j + 7) by omega]
      refine hc (j + 7) v ?_
      rw [List.getElem?_append_right (by omega), h7, Nat.add_sub_cancel]
      exact hj
/-- A slice that a call has made so far, and what lies in it. -/
def RowP (B : Nat) (w : World) (v : Value) (ls : List Ins) : Prop := ∃ vs, w.ownsRow B 57 7 v ls.length vs ∧ ElsP (fun k => B ≤ k ∧ some k ≠ v.ownBlock) w ls vs
theorem RowP.own {B : Nat} {w : World} {v : Value} {ls : List Ins} (h : RowP B w v ls) : ∃ x cap, v = .slice x ls.length cap ∧ OwnP (B ≤ ·) w x ls.length cap ls := by
  obtain ⟨vs, hown, hel⟩ := h
  rcases hown.2 with ⟨hn, h0⟩ | ⟨g, cap, cur, hn, hb, hg, hcap, htop, hcs, htk⟩
  · have hl : ls = [] := List.length_eq_zero_iff.1 h0
    subst hl
    exact ⟨none, 0, hn, own_nil _ _⟩
  · subst hn
    unfold maxLen at htop
    refine ⟨_, cap, rfl, rfl, hcap, by omega, fun w' hw => ?_⟩
    have hgl : g < w.heap.size := (Array.getElem?_eq_some_iff.1 hg).1
    have hg' := (hw g hb hgl).trans hg
    refine hel.lies (fun k hk hl => hw k hk.1 hl) g 0 fun j v hj => ?_
    unfold World.cell?
    rw [hg']
    show cur[0 + j]? = some v
    rw [Nat.zero_add, ← hj, ← htk, List.getElem?_take, if_pos, Array.getElem?_toList]
    have := (List.getElem?_eq_some_iff.1 hj).1
    rw [hel.length] at this
    exact this
end Go.Proofs.Ytgacnelpdhmeiaa
