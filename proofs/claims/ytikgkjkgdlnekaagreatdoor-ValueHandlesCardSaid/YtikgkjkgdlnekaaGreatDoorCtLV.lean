/- ctype L to V -/
import Derived.Test.YtikgkjkgdlnekaaGreatDoorCtFK
import Derived.Laws.FloatArith
import Derived.Laws.Cover3
import Derived.Test.YtikgkjkgdlnekaaGreatDoorKitI
import Derived.Laws.AppendOwnNone
import Derived.Deep.RegionHeld3
/- ctype: sizes and alignments: plain; small numbers as floats. -/
set_option linter.unusedVariables false
set_option linter.unusedSimpArgs false
namespace Go.Proofs.YtikgkjkgdlnekaaGreatDoor
open Go.RowKit
open Lex Ct

abbrev flt (n : Nat) : Nat := floatOfInt .f64 (n : Int)
set_option maxRecDepth 100000 in
theorem flt_all : (List.range 8192).all (fun n => floatToIntVal .f64 (flt n) .i64 == some (n : Int)) = true := by decide +kernel
theorem flt_back {n : Nat} (h : n < 8192) : floatToIntVal .f64 (flt n) .i64 = some (n : Int) := by
  have := List.all_eq_true.1 flt_all n (List.mem_range.2 h)
  exact eq_of_beq this
theorem flt0 : flt 0 = 0 := by decide +kernel
theorem flt1 : flt 1 = 4607182418800017408 := by decide +kernel
theorem flt2 : flt 2 = 4611686018427387904 := by decide +kernel
theorem flt4 : flt 4 = 4616189618054758400 := by decide +kernel
theorem flt8 : flt 8 = 4620693217682128896 := by decide +kernel
end Go.Proofs.YtikgkjkgdlnekaaGreatDoor

/- ctype: sizes and alignments, as plain functions: no program. -/
set_option linter.unusedVariables false
set_option linter.unusedSimpArgs false
namespace Go.Proofs.YtikgkjkgdlnekaaGreatDoor
open Go.RowKit
open Lex Ct

namespace Ct
def nxt (n b : Nat) : Nat := (n + b - 1) / b * b
def Al (b : Nat) : Prop := b = 1 ∨ b = 2 ∨ b = 4 ∨ b = 8
theorem nxt_bound {n b : Nat} (h : Al b) : n ≤ nxt n b ∧ nxt n b ≤ n + 7 := by
  unfold nxt
  rcases h with rfl | rfl | rfl | rfl <;> omega
theorem nxt_one (n : Nat) : nxt n 1 = n := by unfold nxt; omega
theorem nxt_mod {n b : Nat} (h : Al b) : nxt n b % b = 0 := by
  unfold nxt
  exact Nat.mul_mod_left _ _
theorem Al.max {a b : Nat} (h : Al a) (k : Al b) : Al (max a b) := by
  unfold Al at *
  rcases h with rfl | rfl | rfl | rfl <;> rcases k with rfl | rfl | rfl | rfl <;> decide
theorem Al.le {a : Nat} (h : Al a) : 1 ≤ a ∧ a ≤ 8 := by rcases h with rfl | rfl | rfl | rfl <;> decide
theorem Al.dvd {a b : Nat} (h : Al a) (k : Al b) (hab : a ≤ b) : b % a = 0 := by
  rcases h with rfl | rfl | rfl | rfl <;> rcases k with rfl | rfl | rfl | rfl <;> first | rfl | omega
theorem nxt_small {n b : Nat} (h : Al b) (hn : n ≤ 2) : nxt n b ≤ 8 := by
  unfold nxt
  rcases h with rfl | rfl | rfl | rfl <;> omega
def fldOne (st : List Nat × Nat × Nat) (p : Nat × Nat) : List Nat × Nat × Nat := (st.1 ++ [nxt st.2.1 p.2], nxt st.2.1 p.2 + p.1, max st.2.2 p.2)
def fldS (f : Ty → Nat × Nat) (l : List Ty) : List Nat × Nat × Nat := l.foldl (fun st x => fldOne st (f x)) ([], 0, 1)
theorem fldS_snoc {f : Ty → Nat × Nat} {l : List Ty} {i : Nat} {x : Ty} (h : l[i]? = some x) : fldS f (l.take (i + 1)) = fldOne (fldS f (l.take i)) (f x) := by
  unfold fldS
  rw [List.take_add_one, h, Option.toList_some, List.foldl_append]
  rfl
def fldV (f : Ty → Nat × Nat) (l : List Ty) : Nat × Nat := (nxt (fldS f l).2.1 (fldS f l).2.2, (fldS f l).2.2)
def casOne (st : Nat × Nat) (p : Nat × Nat) : Nat × Nat := (max st.1 p.1, max st.2 p.2)
def casS (f : Ty → Nat × Nat) (l : List Ty) : Nat × Nat := l.foldl (fun st x => casOne st (f x)) (0, 1)
theorem casS_snoc {f : Ty → Nat × Nat} {l : List Ty} {i : Nat} {x : Ty} (h : l[i]? = some x) : casS f (l.take (i + 1)) = casOne (casS f (l.take i)) (f x) := by
  unfold casS
  rw [List.take_add_one, h, Option.toList_some, List.foldl_append]
  rfl
def casB (n : Nat) : Nat := if 256 < n then 2 else 1
def casAt (f : Ty → Nat × Nat) (l : List Ty) : Nat := nxt (casB l.length) (casS f l).2
def casV (f : Ty → Nat × Nat) (l : List Ty) : Nat × Nat := (nxt (casAt f l + (casS f l).1) (max (casS f l).2 (casB l.length)), max (casS f l).2 (casB l.length))
def plainL (t : Ty) : List Ty := if t.kind = 16 then List.replicate t.names.length .zero else if t.kind = 17 ∧ t.l.length = 1 then .zero :: t.l else t.l
def flg (n : Nat) : Nat × Nat := if n ≤ 8 then (1, 1) else if n ≤ 16 then (2, 2) else (4, 4)
def lieK : Nat → Ty → Nat × Nat
  | 0, _ => (0, 1)
  | k + 1, t => if t.kind = 0 then (0, 1) else if t.kind = 1 ∨ t.kind = 2 ∨ t.kind = 3 then (1, 1) else if t.kind = 4 ∨ t.kind = 5 then (2, 2) else if t.kind = 8 ∨ t.kind = 9 then (8, 8) else if t.kind = 11 ∨ t.kind = 12 then (8, 4)
    else if t.kind = 19 then flg t.names.length else if t.kind = 13 ∨ t.kind = 14 then fldV (lieK k) t.l else if t.kind = 15 ∨ t.kind = 16 ∨ t.kind = 17 ∨ t.kind = 18 then casV (lieK k) (plainL t) else (4, 4)
def csum (k : Nat) (l : List Ty) : Nat := (l.map fun x => if x.kind = 0 then 0 else cntK k x).sum
theorem csum_cons (k : Nat) (x : Ty) (l : List Ty) : csum k (x :: l) = (if x.kind = 0 then 0 else cntK k x) + csum k l := by
  unfold csum
  rw [List.map_cons, List.sum_cons]
theorem cntK_succ (k : Nat) (t : Ty) : cntK (k + 1) t = 1 + csum k t.l := rfl
theorem csum_plain (k : Nat) (t : Ty) : csum k (plainL t) ≤ csum k t.l := by
  unfold plainL
  split
  · have : ∀ n, csum k (List.replicate n .zero) = 0 := by
      intro n
      induction n with
      | zero => rfl
      | succ n ih => rw [List.replicate_succ, csum_cons, ih]; rfl
    rw [this]
    exact Nat.zero_le _
  · split
    · rw [csum_cons]
      show 0 + _ ≤ _
      omega
    · exact Nat.le_refl _
/-- What is told of a type's size and alignment. -/
structure Good (p : Nat × Nat) (kd : Int) (c : Nat) : Prop where
  al : Al p.2
  none : kd = 0 → p = (0, 1)
  some : kd ≠ 0 → p.1 + 7 ≤ 15 * c
theorem fld_good {k : Nat} {f : Ty → Nat × Nat} (h : ∀ x, Good (f x) x.kind (cntK k x)) : ∀ (l : List Ty) (st : List Nat × Nat × Nat) (S : Nat), Al st.2.2 → st.2.1 ≤ 15 * S →
    Al (l.foldl (fun st x => fldOne st (f x)) st).2.2 ∧ (l.foldl (fun st x => fldOne st (f x)) st).2.1 ≤ 15 * (S + csum k l)
  | [], st, S, ha, hs => ⟨ha, by show st.2.1 ≤ 15 * (S + 0); omega⟩
  | x :: r, st, S, ha, hs => by
    rw [List.foldl_cons, csum_cons, ← Nat.add_assoc]
    have hx := h x
    refine fld_good h r _ _ (ha.max hx.al) ?_
    show nxt st.2.1 (f x).2 + (f x).1 ≤ _
    by_cases hk : x.kind = 0
    · rw [if_pos hk, hx.none hk, nxt_one]
      omega
    · rw [if_neg hk]
      have := hx.some hk
      have := (nxt_bound (n := st.2.1) hx.al).2
      omega
theorem cas_good {k : Nat} {f : Ty → Nat × Nat} (h : ∀ x, Good (f x) x.kind (cntK k x)) : ∀ (l : List Ty) (st : Nat × Nat) (S : Nat), Al st.2 → (st = (0, 1) ∨ st.1 + 7 ≤ 15 * S) →
    Al (l.foldl (fun st x => casOne st (f x)) st).2 ∧ (l.foldl (fun st x => casOne st (f x)) st = (0, 1) ∨ (l.foldl (fun st x => casOne st (f x)) st).1 + 7 ≤ 15 * (S + csum k l))
  | [], st, S, ha, hs => ⟨ha, hs⟩
  | x :: r, st, S, ha, hs => by
    rw [List.foldl_cons, csum_cons, ← Nat.add_assoc]
    have hx := h x
    refine cas_good h r _ _ (ha.max hx.al) ?_
    by_cases hk : x.kind = 0
    · rw [if_pos hk, hx.none hk, Nat.add_zero]
      rcases hs with rfl | hs
      · exact .inl rfl
      · refine .inr ?_
        show max st.1 0 + 7 ≤ _
        omega
    · rw [if_neg hk]
      have := hx.some hk
      refine .inr ?_
      show max st.1 (f x).1 + 7 ≤ _
      rcases hs with rfl | hs
      · show max 0 (f x).1 + 7 ≤ _
        omega
      · omega
theorem casB_or (n : Nat) : casB n = 1 ∨ casB n = 2 := by unfold casB; split <;> simp
theorem casB_al (n : Nat) : Al (casB n) := by rcases casB_or n with h | h <;> rw [h] <;> simp [Al]
theorem lieK_good : ∀ (k : Nat) (t : Ty), Good (lieK k t) t.kind (cntK k t)
  | 0, t => ⟨.inl rfl, fun _ => rfl, fun _ => by show 0 + 7 ≤ 15 * 1; omega⟩
  | k + 1, t => by
    have ih := lieK_good k
    have hc : 1 ≤ cntK (k + 1) t := by rw [cntK_succ]; omega
    unfold lieK
    by_cases h0 : t.kind = 0
    · rw [if_pos h0]
      exact ⟨.inl rfl, fun _ => rfl, fun h => absurd h0 h⟩
    · rw [if_neg h0]
      split
      · exact ⟨by simp [Al], fun h => absurd h h0, fun _ => by show 1 + 7 ≤ _; omega⟩
      split
      · exact ⟨by simp [Al], fun h => absurd h h0, fun _ => by show 2 + 7 ≤ _; omega⟩
      split
      · exact ⟨by simp [Al], fun h => absurd h h0, fun _ => by show 8 + 7 ≤ _; omega⟩
      split
      · exact ⟨by simp [Al], fun h => absurd h h0, fun _ => by show 8 + 7 ≤ _; omega⟩
      split
      · unfold flg
        split
        · exact ⟨by simp [Al], fun h => absurd h h0, fun _ => by show 1 + 7 ≤ _; omega⟩
        split
        · exact ⟨by simp [Al], fun h => absurd h h0, fun _ => by show 2 + 7 ≤ _; omega⟩
        · exact ⟨by simp [Al], fun h => absurd h h0, fun _ => by show 4 + 7 ≤ _; omega⟩
      split
      · have hf := fld_good ih t.l ([], 0, 1) 0 (.inl rfl) (Nat.zero_le _)
        refine ⟨hf.1, fun h => absurd h h0, fun _ => ?_⟩
        have h2 := (nxt_bound (n := (fldS (lieK k) t.l).2.1) (b := (fldS (lieK k) t.l).2.2) hf.1).2
        have h3 : (fldS (lieK k) t.l).2.1 ≤ 15 * (0 + csum k t.l) := hf.2
        show nxt (fldS (lieK k) t.l).2.1 (fldS (lieK k) t.l).2.2 + 7 ≤ _
        rw [cntK_succ]
        omega
      split
      · have hf := cas_good ih (plainL t) (0, 1) 0 (.inl rfl) (.inl rfl)
        have ha : Al (casS (lieK k) (plainL t)).2 := hf.1
        refine ⟨ha.max (casB_al _), fun h => absurd h h0, fun _ => ?_⟩
        have hp := csum_plain k t
        have hcb := casB_or (plainL t).length
        have h8 : casAt (lieK k) (plainL t) ≤ 8 := nxt_small ha (by omega)
        have hs : casS (lieK k) (plainL t) = (0, 1) ∨ (casS (lieK k) (plainL t)).1 + 7 ≤ 15 * (0 + csum k (plainL t)) := hf.2
        have h2 := (nxt_bound (n := casAt (lieK k) (plainL t) + (casS (lieK k) (plainL t)).1) (b := max (casS (lieK k) (plainL t)).2 (casB (plainL t).length)) (ha.max (casB_al _))).2
        show nxt (casAt (lieK k) (plainL t) + (casS (lieK k) (plainL t)).1) (max (casS (lieK k) (plainL t)).2 (casB (plainL t).length)) + 7 ≤ _
        rw [cntK_succ]
        rcases hs with hs | hs
        · unfold casAt at h2 h8 ⊢
          rw [hs] at h2 h8 ⊢
          simp only [nxt_one] at h2 h8 ⊢
          have : max 1 (casB (plainL t).length) = casB (plainL t).length := by omega
          rw [this] at h2 ⊢
          have n22 : nxt 2 2 = 2 := by decide
          have n11 : nxt 1 1 = 1 := by decide
          rcases hcb with e | e <;> rw [e] at h2 ⊢ <;> simp only [Nat.add_zero] at h2 ⊢ <;> omega
        · omega
      · exact ⟨by simp [Al], fun h => absurd h h0, fun _ => by show 4 + 7 ≤ _; omega⟩
end Ct
/-- A size and an alignment, as a complex number. -/
abbrev cV (p : Nat × Nat) : Value := .complex .f64 (flt p.1) (flt p.2)
theorem cV_01 : cV (0, 1) = .complex .f64 0 4607182418800017408 := by unfold cV; rw [flt0, flt1]
theorem cV_11 : cV (1, 1) = .complex .f64 4607182418800017408 4607182418800017408 := by unfold cV; rw [flt1]
theorem cV_22 : cV (2, 2) = .complex .f64 4611686018427387904 4611686018427387904 := by unfold cV; rw [flt2]
theorem cV_44 : cV (4, 4) = .complex .f64 4616189618054758400 4616189618054758400 := by unfold cV; rw [flt4]
theorem cV_88 : cV (8, 8) = .complex .f64 4620693217682128896 4620693217682128896 := by unfold cV; rw [flt8]
theorem cV_84 : cV (8, 4) = .complex .f64 4620693217682128896 4616189618054758400 := by unfold cV; rw [flt8, flt4]
end Go.Proofs.YtikgkjkgdlnekaaGreatDoor

/- ctype: next, whole, a case's bytes, flags; the closures that are told sizes. -/
set_option linter.unusedVariables false
set_option linter.unusedSimpArgs false
namespace Go.Proofs.YtikgkjkgdlnekaaGreatDoor
open Go.RowKit
open Lex Ct

theorem max_cast (a b : Nat) : max (a : Int) (b : Int) = ((max a b : Nat) : Int) := by omega
end Go.Proofs.YtikgkjkgdlnekaaGreatDoor

/- ctype: the closure that is told a field's size. -/
set_option linter.unusedVariables false
set_option linter.unusedSimpArgs false
namespace Go.Proofs.YtikgkjkgdlnekaaGreatDoor
open Go.RowKit
open Lex Ct

theorem BlkAt.grown {w w' : World} {b : Nat} {cs : Array Value} {T : TypeId} {r : Option Nat} (h : BlkAt w b cs T) (hg : w.grownBy w' r) (hne : r ≠ some b) : BlkAt w' b cs T := (hg.block b h.lt (fun e => hne e.symm)).trans h
/-- What the closure of fields has told so far: where it ends, where the fields lie, the greatest alignment. -/
structure FldAt (B E A M : Nat) (w : World) (st : List Nat × Nat × Nat) : Prop where
  ex : ∃ av cap, BlkAt w E #[.int .i64 ((st.2.1 : Nat) : Int)] 3 ∧ BlkAt w A #[.slice av st.1.length cap] 26 ∧ BlkAt w M #[.int .i64 ((st.2.2 : Nat) : Int)] 3 ∧
    w.ownsRow B 3 1 (.slice av st.1.length cap) st.1.length (st.1.map fun n => Value.int .i64 (n : Nat)) ∧ (Value.slice av st.1.length cap).ownBlock ≠ some E ∧ (Value.slice av st.1.length cap).ownBlock ≠ some A ∧ (Value.slice av st.1.length cap).ownBlock ≠ some M
theorem FldAt.kept {B E A M : Nat} {w w' : World} {st : List Nat × Nat × Nat} (h : FldAt B E A M w st) (k : Kept (fun _ => False) w w') : FldAt B E A M w' st := by
  obtain ⟨av, cap, h1, h2, h3, h4, h5⟩ := h.ex
  exact ⟨av, cap, h1.kept k id, h2.kept k id, h3.kept k id, ownsRow_kept h4 k (fun _ _ => id), h5⟩
theorem info_int2 : ∃ i, Tryz.prog.info? 3 = some i ∧ i.zero = some (.int .i64 0) ∧ i.size = 1 ∧ i.bytes = 8 := by
  have := info_int
  cases h : Tryz.prog.info? 3 with
  | none => rw [h] at this; cases this
  | some i =>
    rw [h] at this
    simp at this
    exact ⟨i, rfl, this.1, this.2.1, this.2.2⟩
end Go.Proofs.YtikgkjkgdlnekaaGreatDoor

/- ctype: plain, of all but a tuple. -/
set_option linter.unusedVariables false
set_option linter.unusedSimpArgs false
namespace Go.Proofs.YtikgkjkgdlnekaaGreatDoor
open Go.RowKit
open Lex Ct

namespace Ct
def nmNone : Nm := [110, 111, 110, 101]
def nmSome : Nm := [115, 111, 109, 101]
def nmOk : Nm := [111, 107]
def nmError : Nm := [101, 114, 114, 111, 114]
/-- A small number as it is written. -/
def digs (n : Nat) : Nm := if n < 10 then [48 + (n : Int)] else [48 + ((n / 10 : Nat) : Int), 48 + ((n % 10 : Nat) : Int)]
def plainT (t : Ty) : Ty := if t.kind = 14 then .mk 13 ((List.range t.l.length).map digs) t.l 0 else if t.kind = 16 then .mk 15 t.names (List.replicate t.names.length .zero) 0
  else if t.kind = 17 ∧ t.l.length = 1 then .mk 15 [nmNone, nmSome] (.zero :: t.l) 0 else if t.kind = 18 ∧ t.l.length = 2 then .mk 15 [nmOk, nmError] t.l 0 else t
theorem plainT_l (t : Ty) : (plainT t).l = plainL t := by
  unfold plainT plainL
  by_cases h14 : t.kind = 14
  · rw [if_pos h14, if_neg (by omega), if_neg (by omega)]; rfl
  · rw [if_neg h14]
    by_cases h16 : t.kind = 16
    · rw [if_pos h16, if_pos h16]; rfl
    · rw [if_neg h16, if_neg h16]
      by_cases h17 : t.kind = 17 ∧ t.l.length = 1
      · rw [if_pos h17, if_pos h17]; rfl
      · rw [if_neg h17, if_neg h17]
        split <;> rfl
end Ct
/-- A slice over a new block. -/
theorem liesU_blk {w : World} {T : TypeId} {m n cap g : Nat} {us : List U} {cs : Array Value} (hb : BlkAt w g cs T) (hc : n ≤ cap) (hm : cap ≤ 9223372036854775807) (hl : us.length = n * m) (h : LiesL AnyB w us cs.toList) : LiesU AnyB w (.sl T m n us) (.slice (some ⟨g, 0, none⟩) n cap) := by
  unfold LiesU
  refine ⟨_, cap, cs.toList, rfl, hc, hm, hl, h, .inr ⟨g, 0, rfl, trivial, hb.lt, fun j v hj => ?_⟩⟩
  rw [hb.cell, Nat.zero_add, ← hj]
  simp
def PlainR (t : Ty) (w : World) (y : Ending) (w' : World) : Prop := ∃ ap cp aq cq, y = .returned (tyV t ap cp aq cq) ∧ TyAt w' t ap cp aq cq ∧ Kept (fun _ => False) w w'
set_option maxRecDepth 100000 in
set_option maxHeartbeats 4000000 in
theorem plain_same (t : Ty) (an : Option Addr) (cn : Nat) (al : Option Addr) (cl : Nat) (w : World) (h : TyAt w t an cn al cl) (b14 : (t.kind == 14) = false) (b16 : (t.kind == 16) = false) (b17 : (t.kind == 17) = false ∨ ((t.kind == 17) = true ∧ ((t.l.length : Int) == 1) = false))
    (b18 : (t.kind == 18) = false ∨ ((t.kind == 18) = true ∧ ((t.l.length : Int) == 2) = false)) :
    Calls Tryz.prog 65 #[tyV t an cn al cl] w (PlainR t w) := by
  have HL := Lib.hid h
  clear h
  unfold PlainR
  rcases b17 with b17 | ⟨b17, b17'⟩
  all_goals
    rcases b18 with b18 | ⟨b18, b18'⟩
    all_goals
      go_enter Tryz.func65, Tryz.ntmps65
      go_wp2_with fail
      try exact bodyPost_ret (v := tyV t an cn al cl) (by simp [results, Tryz.results65, go_sem]) rfl ⟨_, _, _, _, rfl, HL.out.kept (((Kept.refl _ _).new _).new _), ((Kept.refl _ _).new _).new _⟩
set_option maxRecDepth 100000 in
set_option maxHeartbeats 4000000 in
theorem plain_18 (n : List Nm) (l : List Ty) (r : Int) (an : Option Addr) (cn : Nat) (al : Option Addr) (cl : Nat) (w : World) (h : TyAt w (.mk 18 n l r) an cn al cl) (hl2 : l.length = 2) :
    Calls Tryz.prog 65 #[.agg #[.int .i64 18, .slice an n.length cn, .slice al l.length cl, .int .i64 r]] w (PlainR (.mk 15 [nmOk, nmError] l 0) w) := by
  have HL := Lib.hid h.l
  have hb : ((l.length : Int) == 2) = true := by simp; omega
  clear h hl2
  go_enter Tryz.func65, Tryz.ntmps65
  go_wp2_with fail
  have kk : Kept (fun _ => False) w _ := (((Kept.refl _ w).new (.cells #[.int .i64 18, .slice an n.length cn, .slice al l.length cl, .int .i64 r] 25)).new (.cells #[.int .i64 15, .slice (some ⟨w.heap.size + 1 + 1, 0, none⟩) 2 2, .slice al l.length cl, .int .i64 0] 25)).new (.cells #[.string ⟨#[111, 107]⟩, .string ⟨#[101, 114, 114, 111, 114]⟩] 9)
  have hS := BlkAt.new ((w.alloc (.cells #[.int .i64 18, .slice an n.length cn, .slice al l.length cl, .int .i64 r] 25)).alloc (.cells #[.int .i64 15, .slice (some ⟨w.heap.size + 1 + 1, 0, none⟩) 2 2, .slice al l.length cl, .int .i64 0] 25)) #[.string ⟨#[111, 107]⟩, .string ⟨#[101, 114, 114, 111, 114]⟩] 9
  rw [World.size_alloc, World.size_alloc] at hS
  refine bodyPost_ret (v := .agg #[.int .i64 15, .slice (some ⟨w.heap.size + 1 + 1, 0, none⟩) 2 2, .slice al l.length cl, .int .i64 0]) (by simp [results, Tryz.results65, go_sem]) rfl ⟨_, _, _, _, rfl, ⟨?_, HL.out.kept kk⟩, kk⟩
  exact liesU_blk (us := [U.s nmOk, U.s nmError]) hS (Nat.le_refl _) (by omega) rfl (.cons (liesU_s nmOk) (.cons (liesU_s nmError) .nil))
set_option maxRecDepth 100000 in
set_option maxHeartbeats 4000000 in
theorem plain_17 (n : List Nm) (x : Ty) (r : Int) (an : Option Addr) (cn : Nat) (al : Option Addr) (cl : Nat) (w : World) (h : TyAt w (.mk 17 n [x] r) an cn al cl) :
    Calls Tryz.prog 65 #[.agg #[.int .i64 17, .slice an n.length cn, .slice al 1 cl, .int .i64 r]] w (PlainR (.mk 15 [nmNone, nmSome] [.zero, x] 0) w) := by
  obtain ⟨g, o, ax, cx, ay, cy, rfl, hgl, htx, c0, c1, c2, c3⟩ := h.row.at (i := 0) (x := x) rfl
  have HL := Lib.hid h.l
  clear h
  rw [Nat.zero_mul, Nat.add_zero] at c0 c1 c2 c3
  have e0 := cell_box (cell_box (cell_box c0 (.cells #[.int .i64 17, .slice an n.length cn, .slice (some ⟨g, o, none⟩) 1 cl, .int .i64 r] 25)) (.cells #[.int .i64 0, .slice none 0 0, .slice none 0 0, .int .i64 0] 25)) (.cells #[.string ⟨#[110, 111, 110, 101]⟩, .string ⟨#[115, 111, 109, 101]⟩] 9)
  have e1 := cell_box (cell_box (cell_box c1 (.cells #[.int .i64 17, .slice an n.length cn, .slice (some ⟨g, o, none⟩) 1 cl, .int .i64 r] 25)) (.cells #[.int .i64 0, .slice none 0 0, .slice none 0 0, .int .i64 0] 25)) (.cells #[.string ⟨#[110, 111, 110, 101]⟩, .string ⟨#[115, 111, 109, 101]⟩] 9)
  have e2 := cell_box (cell_box (cell_box c2 (.cells #[.int .i64 17, .slice an n.length cn, .slice (some ⟨g, o, none⟩) 1 cl, .int .i64 r] 25)) (.cells #[.int .i64 0, .slice none 0 0, .slice none 0 0, .int .i64 0] 25)) (.cells #[.string ⟨#[110, 111, 110, 101]⟩, .string ⟨#[115, 111, 109, 101]⟩] 9)
  have e3 := cell_box (cell_box (cell_box c3 (.cells #[.int .i64 17, .slice an n.length cn, .slice (some ⟨g, o, none⟩) 1 cl, .int .i64 r] 25)) (.cells #[.int .i64 0, .slice none 0 0, .slice none 0 0, .int .i64 0] 25)) (.cells #[.string ⟨#[110, 111, 110, 101]⟩, .string ⟨#[115, 111, 109, 101]⟩] 9)
  have HTX := Lib.hid htx
  clear c0 c1 c2 c3 htx hgl
  go_enter Tryz.func65, Tryz.ntmps65
  go_wp2_with fail
  have kk : Kept (fun _ => False) w _ := ((((Kept.refl _ w).new (.cells #[.int .i64 17, .slice an n.length cn, .slice (some ⟨g, o, none⟩) 1 cl, .int .i64 r] 25)).new (.cells #[.int .i64 15, .slice (some ⟨w.heap.size + 1 + 1, 0, none⟩) 2 2, .slice (some ⟨w.heap.size + 1 + 1 + 1, 0, none⟩) 2 2, .int .i64 0] 25)).new (.cells #[.string ⟨#[110, 111, 110, 101]⟩, .string ⟨#[115, 111, 109, 101]⟩] 9)).new (.cells #[.int .i64 0, .slice none 0 0, .slice none 0 0, .int .i64 0, .int .i64 x.kind, .slice ax x.names.length cx, .slice ay x.l.length cy, .int .i64 x.r] 25)
  have hS := (BlkAt.new ((w.alloc (.cells #[.int .i64 17, .slice an n.length cn, .slice (some ⟨g, o, none⟩) 1 cl, .int .i64 r] 25)).alloc (.cells #[.int .i64 15, .slice (some ⟨w.heap.size + 1 + 1, 0, none⟩) 2 2, .slice (some ⟨w.heap.size + 1 + 1 + 1, 0, none⟩) 2 2, .int .i64 0] 25)) #[.string ⟨#[110, 111, 110, 101]⟩, .string ⟨#[115, 111, 109, 101]⟩] 9).kept (F := fun _ => False) ((Kept.refl _ _).new (.cells #[.int .i64 0, .slice none 0 0, .slice none 0 0, .int .i64 0, .int .i64 x.kind, .slice ax x.names.length cx, .slice ay x.l.length cy, .int .i64 x.r] 25)) id
  have hS8 := BlkAt.new (((w.alloc (.cells #[.int .i64 17, .slice an n.length cn, .slice (some ⟨g, o, none⟩) 1 cl, .int .i64 r] 25)).alloc (.cells #[.int .i64 15, .slice (some ⟨w.heap.size + 1 + 1, 0, none⟩) 2 2, .slice (some ⟨w.heap.size + 1 + 1 + 1, 0, none⟩) 2 2, .int .i64 0] 25)).alloc (.cells #[.string ⟨#[110, 111, 110, 101]⟩, .string ⟨#[115, 111, 109, 101]⟩] 9)) #[.int .i64 0, .slice none 0 0, .slice none 0 0, .int .i64 0, .int .i64 x.kind, .slice ax x.names.length cx, .slice ay x.l.length cy, .int .i64 x.r] 25
  rw [World.size_alloc, World.size_alloc] at hS
  rw [World.size_alloc, World.size_alloc, World.size_alloc] at hS8
  refine bodyPost_ret (v := .agg #[.int .i64 15, .slice (some ⟨w.heap.size + 1 + 1, 0, none⟩) 2 2, .slice (some ⟨w.heap.size + 1 + 1 + 1, 0, none⟩) 2 2, .int .i64 0]) (by simp [results, Tryz.results65, go_sem]) rfl ⟨_, _, _, _, rfl, ⟨?_, ?_⟩, kk⟩
  · exact liesU_blk (us := [U.s nmNone, U.s nmSome]) hS (Nat.le_refl _) (by omega) rfl (.cons (liesU_s nmNone) (.cons (liesU_s nmSome) .nil))
  · refine liesU_blk (us := encTy .zero ++ (encTy x ++ [])) hS8 (Nat.le_refl _) (by omega) ?_ ?_
    · rw [List.length_append, List.length_append, encTy_length, encTy_length]; rfl
    · rw [List.append_nil]
      exact (ty_lies (t := Ty.zero) (liesU_nil _ _) (liesU_nil _ _)).append (ty_lies (HTX.out.kept kk).n (HTX.out.kept kk).l)
theorem info_ty : ∃ i, Tryz.prog.info? 25 = some i ∧ i.zero = some (.agg #[.int .i64 0, .slice none 0 0, .slice none 0 0, .int .i64 0]) ∧ i.size = 4 ∧ i.bytes = 64 := by
  have h0 : (Tryz.prog.info? 25).map (fun i => (i.zero, i.size, i.bytes)) = some (some (.agg #[.int .i64 0, .slice none 0 0, .slice none 0 0, .int .i64 0]), 4, 64) := by kernel_rfl
  cases h : Tryz.prog.info? 25 with
  | none => rw [h] at h0; cases h0
  | some i =>
    rw [h] at h0
    simp at h0
    exact ⟨i, rfl, h0.1, h0.2.1, h0.2.2⟩
theorem make_types (n : Nat) (hn : n ≤ 64) (w : World) : (Instr.makeSlice 23 (.int .i64 (n : Int)) (.int .i64 (n : Int))).run Tryz.prog w = .ok (.slice (some ⟨w.heap.size, 0, none⟩) n n) (w.alloc (.cells (madeCells #[.int .i64 0, .slice none 0 0, .slice none 0 0, .int .i64 0] (n * 4)) 25)) := by
  obtain ⟨i, hi, hz, hs, hb⟩ := info_ty
  have := run_make (P := Tryz.prog) w 23 25 i _ Tryz.underlying23 hi hz .i64 .i64 n n (by omega) (Int.le_refl _) (by rw [hb]; omega) (by omega)
  rw [hs] at this
  simp only [Int.toNat_natCast] at this
  exact this
theorem encTys_append : ∀ (a b : List Ty), encTys (a ++ b) = encTys a ++ encTys b
  | [], b => rfl
  | t :: r, b => by
    show encTy t ++ encTys (r ++ b) = (encTy t ++ encTys r) ++ encTys b
    rw [encTys_append, List.append_assoc]
theorem made4 (a b c d : Value) (n : Nat) : (madeCells #[a, b, c, d] ((n + 1) * 4)).toList = (madeCells #[a, b, c, d] (n * 4)).toList ++ [a, b, c, d] := by
  unfold madeCells
  rw [Array.toList_map, Array.toList_map, Array.toList_range, Array.toList_range, show (n + 1) * 4 = n * 4 + 1 + 1 + 1 + 1 by omega, List.range_succ, List.range_succ, List.range_succ, List.range_succ]
  simp only [List.map_append, List.map_cons, List.map_nil, List.append_assoc, List.cons_append, List.nil_append]
  have e0 : n * 4 % 4 = 0 := by omega
  have e1 : (n * 4 + 1) % 4 = 1 := by omega
  have e2 : (n * 4 + 1 + 1) % 4 = 2 := by omega
  have e3 : (n * 4 + 1 + 1 + 1) % 4 = 3 := by omega
  simp only [List.size_toArray, List.length_cons, List.length_nil, Nat.zero_add, Nat.reduceAdd, e0, e1, e2, e3]
  rfl
theorem zeros_lie (w : World) : ∀ n, LiesL AnyB w (encTys (List.replicate n .zero)) (madeCells #[.int .i64 0, .slice none 0 0, .slice none 0 0, .int .i64 0] (n * 4)).toList
  | 0 => by
    have e : (madeCells #[.int .i64 0, .slice none 0 0, .slice none 0 0, .int .i64 0] (0 * 4)).toList = [] := by simp [madeCells]
    rw [e]
    exact LiesL.nil
  | n + 1 => by
    rw [made4, List.replicate_succ', encTys_append, encTys_one]
    exact (zeros_lie w n).append (ty_lies (t := Ty.zero) (liesU_nil _ _) (liesU_nil _ _))
set_option maxRecDepth 100000 in
set_option maxHeartbeats 4000000 in
theorem plain_16 (n : List Nm) (l : List Ty) (r : Int) (an : Option Addr) (cn : Nat) (al : Option Addr) (cl : Nat) (w : World) (h : TyAt w (.mk 16 n l r) an cn al cl) (hn : n.length ≤ 64) :
    Calls Tryz.prog 65 #[.agg #[.int .i64 16, .slice an n.length cn, .slice al l.length cl, .int .i64 r]] w (PlainR (.mk 15 n (List.replicate n.length .zero) 0) w) := by
  have HL := Lib.hid h.n
  have hmk := make_types n.length hn
  clear h
  go_enter Tryz.func65, Tryz.ntmps65
  go_wp2_with fail
  go_region
  all_goals (go_wp2_with fail)
  have kk : Kept (fun _ => False) w _ := ((((Kept.refl _ w).new (.cells #[.int .i64 16, .slice an n.length cn, .slice al l.length cl, .int .i64 r] 25)).new (.cells #[.int .i64 15, .slice an n.length cn, .slice (some ⟨w.heap.size + 1 + 1, 0, none⟩) n.length n.length, .int .i64 0] 25)).new (.cells (madeCells #[.int .i64 0, .slice none 0 0, .slice none 0 0, .int .i64 0] (n.length * 4)) 25)).drew
  have hS := BlkAt.new ((w.alloc (.cells #[.int .i64 16, .slice an n.length cn, .slice al l.length cl, .int .i64 r] 25)).alloc (.cells #[.int .i64 15, .slice an n.length cn, .slice (some ⟨w.heap.size + 1 + 1, 0, none⟩) n.length n.length, .int .i64 0] 25)) (madeCells #[.int .i64 0, .slice none 0 0, .slice none 0 0, .int .i64 0] (n.length * 4)) 25
  rw [World.size_alloc, World.size_alloc] at hS
  have hS2 := hS.kept (F := fun _ => False) (Kept.refl _ _).drew id
  refine bodyPost_ret (v := .agg #[.int .i64 15, .slice an n.length cn, .slice (some ⟨w.heap.size + 1 + 1, 0, none⟩) n.length n.length, .int .i64 0]) (by simp [results, Tryz.results65, go_sem]) rfl ⟨an, cn, some ⟨w.heap.size + 1 + 1, 0, none⟩, n.length, ?_, ⟨HL.out.kept kk, ?_⟩, kk⟩
  · show _ = Ending.returned (.agg #[.int .i64 15, .slice an n.length cn, .slice _ (List.replicate n.length Ty.zero).length n.length, .int .i64 0])
    rw [List.length_replicate]
  · show LiesU _ _ (.sl _ 4 (List.replicate n.length Ty.zero).length (encTys (List.replicate n.length Ty.zero))) (.slice _ (List.replicate n.length Ty.zero).length n.length)
    rw [List.length_replicate]
    exact liesU_blk hS2 (Nat.le_refl _) (by omega) (by rw [encTys_length, List.length_replicate]) (zeros_lie _ _)
/-- PLAIN, of all but a tuple. -/
theorem rdPlain (t : Ty) (an : Option Addr) (cn : Nat) (al : Option Addr) (cl : Nat) (w : World) (h : TyAt w t an cn al cl) (h14 : t.kind ≠ 14) (hn : t.names.length ≤ 64) :
    Calls Tryz.prog 65 #[tyV t an cn al cl] w (PlainR (plainT t) w) := by
  unfold plainT
  rw [if_neg h14]
  by_cases h16 : t.kind = 16
  · rw [if_pos h16]
    cases t with
    | mk k n l r =>
      have e : k = 16 := h16
      subst e
      exact plain_16 n l r an cn al cl w h hn
  · rw [if_neg h16]
    by_cases h17 : t.kind = 17 ∧ t.l.length = 1
    · rw [if_pos h17]
      cases t with
      | mk k n l r =>
        have e : k = 17 := h17.1
        subst e
        obtain ⟨x, hx⟩ := List.length_eq_one_iff.1 h17.2
        have hx' : l = [x] := hx
        subst hx'
        exact plain_17 n x r an cn al cl w h
    · rw [if_neg h17]
      by_cases h18 : t.kind = 18 ∧ t.l.length = 2
      · rw [if_pos h18]
        cases t with
        | mk k n l r =>
          have e : k = 18 := h18.1
          subst e
          exact plain_18 n l r an cn al cl w h h18.2
      · rw [if_neg h18]
        refine plain_same t an cn al cl w h (by simpa using h14) (by simpa using h16) ?_ ?_
        · by_cases e : t.kind = 17
          · exact .inr ⟨by simpa using e, by simp; omega⟩
          · exact .inl (by simpa using e)
        · by_cases e : t.kind = 18
          · exact .inr ⟨by simpa using e, by simp; omega⟩
          · exact .inl (by simpa using e)
end Go.Proofs.YtikgkjkgdlnekaaGreatDoor

/- ctype: each type's size is told to a closure. -/
set_option linter.unusedVariables false
set_option linter.unusedSimpArgs false
namespace Go.Proofs.YtikgkjkgdlnekaaGreatDoor
open Go.RowKit
open Lex Ct

namespace Ct
/-- Types that may be looked into: so deep, so wide. -/
def fitK : Nat → Ty → Prop
  | 0, t => t.kind = 0
  | k + 1, t => t.kind = 0 ∨ (t.names.length ≤ 64 ∧ t.l.length ≤ 64 ∧ ∀ x ∈ t.l, fitK k x)
theorem okW_len {k : Int} {n m : Nat} (h : okW k n m = true) : n ≤ 64 ∧ m ≤ 64 := by
  unfold okW at h
  repeat' split at h
  all_goals (try simp at h)
  all_goals omega
theorem fit_zero {k : Nat} {t : Ty} (h : t.kind = 0) : fitK k t := by
  cases k with
  | zero => exact h
  | succ k => exact .inl h
theorem deepK_fit : ∀ {k : Nat} {t : Ty}, deepK k t = true → fitK k t
  | 0, t, h => by cases h
  | k + 1, t, h => by
    have h0 := h
    unfold deepK at h
    simp only [Bool.and_eq_true, List.all_eq_true, Bool.or_eq_true] at h
    have hs := h.1.1
    unfold shapedB at hs
    simp only [Bool.and_eq_true] at hs
    have hl := okW_len hs.1
    refine .inr ⟨hl.1, hl.2, fun x hx => ?_⟩
    rcases h.2 x hx with h1 | h1
    · exact fit_zero (isNone_kind h1.2)
    · exact deepK_fit h1
/-- What is asked of a type ahead of its size. -/
structure Fit (k : Nat) (t : Ty) : Prop where
  fit : fitK k t
  cnt : t.kind ≠ 0 → cntK k t ≤ 500
theorem le_sum : ∀ {l : List Nat} {x : Nat}, x ∈ l → x ≤ l.sum
  | [], x, h => by cases h
  | y :: r, x, h => by
    rw [List.sum_cons]
    rcases List.mem_cons.1 h with e | h
    · omega
    · have := le_sum h; omega
theorem Fit.child {k : Nat} {t x : Ty} (h : Fit (k + 1) t) (h0 : t.kind ≠ 0) (hx : x ∈ plainL t) : Fit k x := by
  have hz : x.kind = 0 → Fit k x := fun e => ⟨fit_zero e, fun q => absurd e q⟩
  by_cases hk : x.kind = 0
  · exact hz hk
  · have hl : x ∈ t.l := by
      unfold plainL at hx
      split at hx
      · rw [(List.mem_replicate.1 hx).2] at hk
        exact absurd rfl hk
      · split at hx
        · rcases List.mem_cons.1 hx with e | e
          · rw [e] at hk; exact absurd rfl hk
          · exact e
        · exact hx
    rcases h.fit with hf | ⟨_, _, hf⟩
    · exact absurd hf h0
    · refine ⟨hf x hl, fun _ => ?_⟩
      have h5 := h.cnt h0
      rw [cntK_succ] at h5
      have h6 : cntK k x ≤ csum k t.l := by
        unfold csum
        have hm : cntK k x ∈ t.l.map fun x => if x.kind = 0 then 0 else cntK k x := List.mem_map.2 ⟨x, hl, by rw [if_neg hk]⟩
        exact le_sum hm
      omega
theorem plainL_l (t : Ty) (h : t.kind = 13 ∨ t.kind = 14) : plainL t = t.l := by
  unfold plainL
  rw [if_neg (by omega), if_neg (by omega)]
theorem plainL_len {k : Nat} {t : Ty} (h : Fit (k + 1) t) (h0 : t.kind ≠ 0) : (plainL t).length ≤ 64 ∧ t.names.length ≤ 64 ∧ t.l.length ≤ 64 := by
  rcases h.fit with hf | ⟨h1, h2, _⟩
  · exact absurd hf h0
  · refine ⟨?_, h1, h2⟩
    unfold plainL
    split
    · rw [List.length_replicate]; exact h1
    · split
      · rename_i h3
        rw [List.length_cons, h3.2]
        omega
      · exact h2
end Ct
theorem lie_small {k : Nat} {x : Ty} (h : Fit k x) : (lieK k x).1 < 8192 ∧ (lieK k x).1 ≤ 9000 ∧ (lieK k x).2 < 8192 := by
  have hg := lieK_good k x
  have ha := hg.al.le
  by_cases h0 : x.kind = 0
  · rw [hg.none h0]; decide
  · have := hg.some h0
    have := h.cnt h0
    omega
end Go.Proofs.YtikgkjkgdlnekaaGreatDoor

/- ctype: fields, cases, lies. -/
set_option linter.unusedVariables false
set_option linter.unusedSimpArgs false
namespace Go.Proofs.YtikgkjkgdlnekaaGreatDoor
open Go.RowKit
open Lex Ct

/-- What cases has been told. -/
structure CasAt (R M : Nat) (w : World) (st : Nat × Nat) : Prop where
  r : BlkAt w R #[.int .i64 ((st.1 : Nat) : Int)] 3
  m : BlkAt w M #[.int .i64 ((st.2 : Nat) : Int)] 3
theorem CasAt.kept {R M : Nat} {w w' : World} {st : Nat × Nat} (h : CasAt R M w st) (k : Kept (fun _ => False) w w') : CasAt R M w' st := ⟨h.r.kept k id, h.m.kept k id⟩
theorem casS_take0 (f : Ty → Nat × Nat) (l : List Ty) : casS f (l.take 0) = (0, 1) := rfl
theorem fldS_len (f : Ty → Nat × Nat) : ∀ (l : List Ty) (st : List Nat × Nat × Nat), (l.foldl (fun st x => fldOne st (f x)) st).1.length = st.1.length + l.length
  | [], st => rfl
  | x :: r, st => by
    rw [List.foldl_cons, fldS_len f r, List.length_cons]
    show (st.1 ++ [_]).length + _ = _
    rw [List.length_append, List.length_singleton]
    omega
theorem make_ints (n : Nat) (hn : n ≤ 64) (w : World) : (Instr.makeSlice 26 (.int .i64 0) (.int .i64 (n : Int))).run Tryz.prog w = .ok (.slice (some ⟨w.heap.size, 0, none⟩) 0 n) (w.alloc (.cells (madeCells #[.int .i64 0] (n * 1)) 3)) := by
  obtain ⟨i, hi, hz, hs, hb⟩ := info_int2
  have := run_make (P := Tryz.prog) w 26 3 i _ Tryz.underlying26 hi hz .i64 .i64 0 n (by omega) (by omega) (by rw [hb]; omega) (by omega)
  rw [hs] at this
  simp only [Int.toNat_natCast] at this
  exact this
def FieldsR (pl : List Nat) (V : Nat × Nat) (w : World) (y : Ending) (w' : World) : Prop := ∃ v, y = .returned (.tuple #[v, cV V]) ∧ w'.ownsRow w.heap.size 3 1 v pl.length (pl.map fun n => Value.int .i64 (n : Nat)) ∧ Kept (fun _ => False) w w'
end Go.Proofs.YtikgkjkgdlnekaaGreatDoor

/- ctype: how a type lies. -/
set_option linter.unusedVariables false
set_option linter.unusedSimpArgs false
namespace Go.Proofs.YtikgkjkgdlnekaaGreatDoor
open Go.RowKit
open Lex Ct

theorem fld_ty (kd : Int) (vn : Value) (a : Option Addr) (m c : Nat) (r : Int) : ∀ w : World, (Instr.field 25 (.agg #[.int .i64 kd, vn, .slice a m c, .int .i64 r]) 2).run Tryz.prog w = .ok (.slice a m c) w := fun _ => by kernel_rfl
theorem csum_append (k : Nat) : ∀ (a b : List Ty), csum k (a ++ b) = csum k a + csum k b
  | [], b => by show csum k b = 0 + csum k b; omega
  | x :: r, b => by rw [List.cons_append, csum_cons, csum_cons, csum_append k r b, Nat.add_assoc]
theorem csum_take (k i : Nat) (l : List Ty) : csum k (l.take i) ≤ csum k l := by
  have := csum_append k (l.take i) (l.drop i)
  rw [List.take_append_drop] at this
  omega
theorem okT_fit {t : Ty} (h : okT t = true) : Fit 16 t := ⟨deepK_fit (okT_deep h).1, fun _ => (okT_deep h).2⟩
end Go.Proofs.YtikgkjkgdlnekaaGreatDoor

/- ctype: core types, as plain functions; rows of numbers that a call gives. -/
set_option linter.unusedVariables false
set_option linter.unusedSimpArgs false
namespace Go.Proofs.YtikgkjkgdlnekaaGreatDoor
open Go.RowKit
open Lex Ct

namespace Ct
def ovS (out : List Int) (i : Nat) (c : Int) : List Int := if i + 1 = out.length then out ++ [c] else if out.getD (i + 1) 0 = c then out else out.set (i + 1) 126
def ovR : List Int → Nat → List Int → List Int
  | out, _, [] => out
  | out, i, c :: r => ovR (ovS out i c) (i + 1) r
theorem ovR_step {out cs : List Int} {i : Nat} {c : Int} (h : cs[i]? = some c) : ovR out i (cs.drop i) = ovR (ovS out i c) (i + 1) (cs.drop (i + 1)) := by
  obtain ⟨hi, rfl⟩ := List.getElem?_eq_some_iff.1 h
  rw [List.drop_eq_getElem_cons hi, ovR]
theorem ovR_end {out cs : List Int} {i : Nat} (h : cs.length ≤ i) : ovR out i (cs.drop i) = out := by
  rw [List.drop_eq_nil_of_le h, ovR]
theorem ovS_len {out : List Int} {i : Nat} (c : Int) (h : i + 1 ≤ out.length) : i + 2 ≤ (ovS out i c).length ∧ out.length ≤ (ovS out i c).length ∧ (ovS out i c).length ≤ out.length + 1 ∧ ((ovS out i c).length ≤ out.length ∨ (ovS out i c).length ≤ i + 2) := by
  unfold ovS
  split
  · rw [List.length_append, List.length_singleton]; omega
  · split
    · omega
    · rw [List.length_set]; omega
theorem ovR_len : ∀ (cs : List Int) (out : List Int) (i : Nat), i + 1 ≤ out.length → out.length ≤ (ovR out i cs).length ∧ ((ovR out i cs).length ≤ out.length ∨ (ovR out i cs).length ≤ i + 1 + cs.length)
  | [], out, i, h => ⟨Nat.le_refl _, .inl (Nat.le_refl _)⟩
  | c :: r, out, i, h => by
    have h1 := ovS_len c h
    have h2 := ovR_len r (ovS out i c) (i + 1) (by omega)
    unfold ovR
    rw [List.length_cons]
    omega
def ovF (f : Ty → List Int) (l : List Ty) : List Int := l.foldl (fun o x => ovR o 0 (f x)) [127]
theorem ovF_snoc {f : Ty → List Int} {l : List Ty} {i : Nat} {x : Ty} (h : l[i]? = some x) : ovF f (l.take (i + 1)) = ovR (ovF f (l.take i)) 0 (f x) := by
  unfold ovF
  rw [List.take_add_one, h, Option.toList_some, List.foldl_append]
  rfl
def behL (f : Ty → List Int) (l : List Ty) : List Int := (l.map f).flatten
theorem behL_snoc {f : Ty → List Int} {l : List Ty} {i : Nat} {x : Ty} (h : l[i]? = some x) : behL f (l.take (i + 1)) = behL f (l.take i) ++ f x := by
  unfold behL
  rw [List.take_add_one, h, Option.toList_some, List.map_append, List.flatten_append]
  simp
def coreK : Nat → Ty → List Int
  | 0, _ => []
  | k + 1, t => if t.kind = 0 then [] else if t.kind = 8 ∨ t.kind = 9 then [126] else if t.kind = 11 ∨ t.kind = 12 then [127, 127] else if t.kind = 13 ∨ t.kind = 14 then behL (coreK k) t.l
    else if t.kind = 15 ∨ t.kind = 16 ∨ t.kind = 17 ∨ t.kind = 18 then ovF (coreK k) (plainL t) else [127]
theorem behL_len {k : Nat} {f : Ty → List Int} (h : ∀ x, (x.kind = 0 → f x = []) ∧ (f x).length ≤ 2 * cntK k x) : ∀ l : List Ty, (behL f l).length ≤ 2 * csum k l
  | [] => Nat.zero_le _
  | x :: r => by
    show (f x ++ behL f r).length ≤ _
    rw [List.length_append, csum_cons]
    have h1 := h x
    have h2 := behL_len h r
    by_cases hk : x.kind = 0
    · rw [if_pos hk, h1.1 hk]
      show 0 + _ ≤ _
      omega
    · rw [if_neg hk]
      omega
theorem ovF_len {k : Nat} {f : Ty → List Int} (h : ∀ x, (x.kind = 0 → f x = []) ∧ (f x).length ≤ 2 * cntK k x) : ∀ (l : List Ty) (o : List Int) (S : Nat), 1 ≤ o.length → o.length ≤ 1 + 2 * S →
    1 ≤ (l.foldl (fun o x => ovR o 0 (f x)) o).length ∧ (l.foldl (fun o x => ovR o 0 (f x)) o).length ≤ 1 + 2 * (S + csum k l)
  | [], o, S, h1, h2 => ⟨h1, h2⟩
  | x :: r, o, S, h1, h2 => by
    rw [List.foldl_cons, csum_cons, ← Nat.add_assoc]
    have hx := h x
    have h3 := ovR_len (f x) o 0 (by omega)
    refine ovF_len h r _ _ (by omega) ?_
    by_cases hk : x.kind = 0
    · rw [if_pos hk, hx.1 hk]
      show o.length ≤ _
      omega
    · rw [if_neg hk]
      omega
theorem coreK_len : ∀ (k : Nat) (t : Ty), (t.kind = 0 → coreK k t = []) ∧ (coreK k t).length ≤ 2 * cntK k t
  | 0, t => ⟨fun _ => rfl, Nat.zero_le _⟩
  | k + 1, t => by
    have ih := coreK_len k
    refine ⟨fun h => by unfold coreK; rw [if_pos h], ?_⟩
    rw [cntK_succ]
    unfold coreK
    split
    · show 0 ≤ _; omega
    split
    · show 1 ≤ _; omega
    split
    · show 2 ≤ _; omega
    split
    · have := behL_len ih t.l; omega
    split
    · have h1 := (ovF_len ih (plainL t) [127] 0 (Nat.le_refl _) (Nat.le_refl _)).2
      have h2 := csum_plain k t
      unfold ovF
      omega
    · show 1 ≤ _; omega
theorem core_small {k : Nat} {x : Ty} (h : Fit k x) : (coreK k x).length ≤ 1000 := by
  have h1 := coreK_len k x
  by_cases h0 : x.kind = 0
  · rw [h1.1 h0]; exact Nat.zero_le _
  · have := h.cnt h0; omega
end Ct
/-- A row of numbers, given: none, where there are none. -/
def CoreR (xs : List Int) (w : World) (y : Ending) (w' : World) : Prop := ∃ av cap, y = .returned (.slice av xs.length cap) ∧ Ints w.heap.size (.slice av xs.length cap) xs w' ∧ (xs = [] → av = none ∧ cap = 0) ∧ Kept (fun _ => False) w w'
theorem CoreR.no (w : World) (w' : World) (k : Kept (fun _ => False) w w') : CoreR [] w (.returned (.slice none 0 0)) w' := ⟨Option.none, 0, rfl, World.ownsRow_nil _ _ _ _, fun _ => ⟨rfl, rfl⟩, k⟩
/-- A row that is not empty: where it lies. -/
theorem Ints.at {base : Nat} {av : Option Addr} {cap : Nat} {xs : List Int} {w : World} (h : Ints base (.slice av xs.length cap) xs w) (hne : xs ≠ []) :
    ∃ g, av = some ⟨g, 0, Option.none⟩ ∧ base ≤ g ∧ g < w.heap.size ∧ xs.length ≤ cap ∧ cap ≤ maxLen ∧ ∀ j u, (xs.map (Value.int .i64))[j]? = some u → w.cell? ((⟨g, 0, Option.none⟩ : Addr).add j) = some u := by
  rcases h.2 with ⟨e, h0⟩ | ⟨g, cp, cur, e, hg, hgg, hc, hm, h3⟩
  · exact absurd (List.length_eq_zero_iff.1 h0) hne
  · obtain ⟨rfl, _, rfl⟩ : av = some ⟨g, 0, Option.none⟩ ∧ xs.length = xs.length ∧ cap = cp := by simpa using e
    exact ⟨g, rfl, hg, (Array.getElem?_eq_some_iff.1 hgg).1, hc, hm, World.ownsRow.cells h rfl⟩
theorem Ints.kept {base : Nat} {v : Value} {xs : List Int} {w w' : World} {F : Nat → Prop} (h : Ints base v xs w) (k : Kept F w w') (hf : ∀ q, v.ownBlock = some q → ¬ F q) : Ints base v xs w' := ownsRow_kept h k hf
theorem Ints.mono {b b' : Nat} {v : Value} {xs : List Int} {w : World} (h : Ints b v xs w) (hb : b' ≤ b) : Ints b' v xs w := by
  refine ⟨h.1, ?_⟩
  rcases h.2 with h2 | ⟨g, cap, cur, e, hg, rest⟩
  · exact .inl h2
  · exact .inr ⟨g, cap, cur, e, Nat.le_trans hb hg, rest⟩
end Go.Proofs.YtikgkjkgdlnekaaGreatDoor

/- ctype: the names of a tuple's fields: strconv.Itoa below 64; numbers. -/
set_option linter.unusedVariables false
set_option linter.unusedSimpArgs false
namespace Go.Proofs.YtikgkjkgdlnekaaGreatDoor
open Go.RowKit
open Lex Ct

theorem digs_ok {i : Nat} (h : i < 64) : NmOk (digs i) := by
  unfold digs
  split
  · refine ⟨fun x hx => ?_, by unfold maxLen; simp⟩
    obtain rfl := List.mem_singleton.1 hx
    omega
  · refine ⟨fun x hx => ?_, by unfold maxLen; simp⟩
    rcases List.mem_cons.1 hx with rfl | hx
    · omega
    · obtain rfl := List.mem_singleton.1 hx
      omega
set_option maxRecDepth 100000 in
set_option maxHeartbeats 8000000 in
theorem rdSmall (i : Nat) (h : i < 64) (w : World) :
    Calls Tryz.prog 89 #[.int .i64 (i : Int)] w fun y w' => y = .returned (.string (strOfNums (digs i))) ∧ w = w' := by
  by_cases h10 : i < 10
  · have b1 : decide ((i : Int) < 10) = true := by simp; omega
    have c1 : (0 : Int) ≤ (i : Int) := by omega
    have c2 : (i : Int) ≤ (i : Int) + 1 := by omega
    have c3 : (i : Int) + 1 ≤ 36 := by omega
    have c4 : IntKind.i64.wrap ((i : Int) + 1) = (i : Int) + 1 := by rw [IntKind.wrap_i64]; omega
    go_enter Tryz.func89, Tryz.ntmps89
    go_wp2_with fail
    go_ret
    refine ⟨?_, rfl⟩
    have hc : i = 0 ∨ i = 1 ∨ i = 2 ∨ i = 3 ∨ i = 4 ∨ i = 5 ∨ i = 6 ∨ i = 7 ∨ i = 8 ∨ i = 9 := by omega
    clear h h10 b1 c1 c2 c3 c4
    rcases hc with rfl | rfl | rfl | rfl | rfl | rfl | rfl | rfl | rfl | rfl <;> rfl
  · have b1 : decide ((i : Int) < 10) = false := by simp; omega
    have c1 : (0 : Int) ≤ (i : Int) * 2 := by omega
    have c2 : (i : Int) * 2 ≤ (i : Int) * 2 + 2 := by omega
    have c3 : (i : Int) * 2 + 2 ≤ 200 := by omega
    have c5 : IntKind.i64.wrap ((i : Int) * 2) = (i : Int) * 2 := by rw [IntKind.wrap_i64]; omega
    have c4 : IntKind.i64.wrap ((i : Int) * 2 + 2) = (i : Int) * 2 + 2 := by rw [IntKind.wrap_i64]; omega
    go_enter Tryz.func89, Tryz.ntmps89
    go_wp2_with fail
    go_ret
    refine ⟨congrArg (fun s => Ending.returned (Value.string s)) ?_, rfl⟩
    obtain ⟨j, rfl⟩ : ∃ j, i = 10 + j := ⟨i - 10, by omega⟩
    have hj : j < 54 := by omega
    clear h h10 b1 c1 c2 c3 c4 c5
    revert j
    decide +kernel
theorem rdItoa (i : Nat) (h : i < 64) (w : World) :
    Calls Tryz.prog 59 #[.int .i64 (i : Int)] w fun y w' => y = .returned (.string (strOfNums (digs i))) ∧ w = w' := by
  have HS := Lib.hid (rdSmall i h)
  have b1 : decide ((0 : Int) ≤ (i : Int)) = true := by simp
  have b2 : decide ((i : Int) < 100) = true := by simp; omega
  go_enter Tryz.func59, Tryz.ntmps59
  go_wp2_with (first
    | (go_at_call 82; go_enter Tryz.func82, Tryz.ntmps82)
    | (go_at_call 100; go_enter Tryz.func100, Tryz.ntmps100)
    | (go_at_call 89; refine (HS.out _).mono ?_; rintro y w1 ⟨rfl, rfl⟩))
  go_ret
  exact ⟨rfl, rfl⟩
/-- The cells of a tuple's names, i of n written. -/
def numC (n i : Nat) : Array Value := ((List.range n).map fun j => if j < i then Value.string (strOfNums (digs j)) else .string ByteArray.empty).toArray
theorem numC_at {n i : Nat} (h : i < n) : (numC n i)[i]? = some (.string ByteArray.empty) := by
  unfold numC
  rw [List.getElem?_toArray, List.getElem?_map, List.getElem?_range h, Option.map_some, if_neg (Nat.lt_irrefl i)]
theorem numC_put {n i : Nat} : (numC n i).setIfInBounds i (.string (strOfNums (digs i))) = numC n (i + 1) := by
  unfold numC
  rw [List.setIfInBounds_toArray]
  congr 1
  apply List.ext_getElem?
  intro j
  rw [List.getElem?_set]
  by_cases hj : i = j
  · subst hj
    rw [if_pos rfl]
    by_cases hn : i < n
    · rw [List.getElem?_map, List.getElem?_range hn]
      simp [hn]
    · simp [hn]
  · rw [if_neg hj]
    simp only [List.getElem?_map]
    by_cases hn : j < n
    · rw [List.getElem?_range hn]
      simp only [Option.map_some]
      have e : (j < i + 1) = (j < i) := by apply propext; omega
      simp only [e]
    · rw [List.getElem?_eq_none (by simp; omega)]
      rfl
theorem numC_zero (n : Nat) : madeCells #[.string ByteArray.empty] (n * 1) = numC n 0 := by
  unfold madeCells numC
  apply Array.ext'
  rw [Array.toList_map, Array.toList_range, Nat.mul_one]
  apply List.map_congr_left
  intro j _
  simp [Nat.mod_one]
theorem numC_all (w : World) (n : Nat) : LiesL AnyB w (((List.range n).map digs).map .s) (numC n n).toList := by
  unfold numC
  have key : ∀ (l : List Nat), (∀ j ∈ l, j < n) → LiesL AnyB w ((l.map digs).map .s) (l.map fun j => if j < n then Value.string (strOfNums (digs j)) else .string ByteArray.empty) := by
    intro l
    induction l with
    | nil => intro _; exact rfl
    | cons a r ih =>
      intro h
      refine ⟨_, _, rfl, ?_, ih fun j hj => h j (List.mem_cons_of_mem _ hj)⟩
      show LiesU AnyB w (.s (digs a)) (if a < n then Value.string (strOfNums (digs a)) else .string ByteArray.empty)
      rw [if_pos (h a List.mem_cons_self)]
      rfl
  exact key _ fun j hj => List.mem_range.1 hj
theorem info_text : ∃ i, Tryz.prog.info? 9 = some i ∧ i.zero = some (.string ByteArray.empty) ∧ i.size = 1 ∧ i.bytes = 16 := by
  have h0 : (Tryz.prog.info? 9).map (fun i => (i.zero, i.size, i.bytes)) = some (some (.string ByteArray.empty), 1, 16) := by kernel_rfl
  cases h : Tryz.prog.info? 9 with
  | none => rw [h] at h0; cases h0
  | some i =>
    rw [h] at h0
    simp only [Option.map_some, Option.some.injEq, Prod.mk.injEq] at h0
    exact ⟨i, rfl, h0.1, h0.2.1, h0.2.2⟩
theorem make_texts (n : Nat) (hn : n ≤ 64) (w : World) : (Instr.makeSlice 22 (.int .i64 (n : Int)) (.int .i64 (n : Int))).run Tryz.prog w = .ok (.slice (some ⟨w.heap.size, 0, none⟩) n n) (w.alloc (.cells (numC n 0) 9)) := by
  obtain ⟨i, hi, hz, hs, hb⟩ := info_text
  have := run_make (P := Tryz.prog) w 22 9 i _ Tryz.underlying22 hi hz .i64 .i64 n n (by omega) (Int.le_refl _) (by rw [hb]; omega) (by omega)
  rw [hs] at this
  simp only [Int.toNat_natCast] at this
  rw [← numC_zero]
  exact this
set_option maxRecDepth 100000 in
theorem ix_text (b n cap k : Nat) (h : k < n) : ∀ W, (Instr.indexAt 22 (.slice (some ⟨b, 0, none⟩) n cap) (.int .i64 (k : Int))).run Tryz.prog W = .ok (.pointer (some ⟨b, k, none⟩)) W := by
  intro W
  have hz : ∀ W, (Go.sizeOf 9).run Tryz.prog W = .ok 1 W := fun W => by kernel_rfl
  have he : Tryz.prog.elem 22 = 9 := by kernel_rfl
  have ea : (⟨b, 0, none⟩ : Addr).add (((k : Int)).toNat * 1) = ⟨b, k, none⟩ := by rw [Int.toNat_natCast, Nat.mul_one]; unfold Addr.add; split <;> simp_all
  rw [run_indexAt_slice W 22 ⟨b, 0, none⟩ n cap .i64 (k : Int) Tryz.underlying22, if_pos ⟨by omega, by omega⟩, he, hz]
  show Result.ok _ _ = _
  rw [ea]
set_option maxRecDepth 100000 in
set_option maxHeartbeats 8000000 in
/-- The names of a tuple's fields. -/
theorem rdNumbers (n : Nat) (hn : n ≤ 64) (w : World) :
    Calls Tryz.prog 85 #[.int .i64 (n : Int)] w fun y w' => y = .returned (.slice (some ⟨w.heap.size, 0, none⟩) n n) ∧ BlkAt w' w.heap.size (numC n n) 9 ∧ Kept (fun _ => False) w w' := by
  have hmk := make_texts n hn
  have HI := Lib.hid (fun (k : Nat) (h : k < n) W => rdItoa k (by omega) W)
  go_enter Tryz.func85, Tryz.ntmps85
  go_wp2_with fail
  go_loopw [9] (fun i wr => ∃ k : Nat, i = .int .i64 k ∧ k ≤ n ∧ Hid (BlkAt wr w.heap.size (numC n k) 9 ∧ Kept (w.heap.size ≤ ·) w wr)) (fun i _ => n - (intOf i).toNat)
  case atStart => exact ⟨0, rfl, by omega, Lib.hid ⟨BlkAt.new _ _ _, (Kept.refl _ _).new _⟩⟩
  case round =>
    obtain ⟨k, rfl, hk, hst⟩ := hrel
    by_cases hlt : k < n
    · have c0 := hst.out.1.cell k
      rw [numC_at hlt] at c0
      have z0 := hst.out.1.frozen k
      have hix := ix_text w.heap.size n n k hlt
      go_wp2_with (first
        | (go_at_call 59; refine (HI.out k hlt _).mono ?_; rintro y w1 ⟨rfl, rfl⟩))
      refine ⟨⟨k + 1, by go_num, by omega, Lib.hid ⟨?_, hst.out.2.set (p := ⟨w.heap.size, k, none⟩) (Nat.le_refl _) _⟩⟩, by simp [intOf]; omega⟩
      have := hst.out.1.put k (.string (strOfNums (digs k)))
      rwa [numC_put] at this
    · have hke : k = n := by omega
      subst hke
      go_wp2_with fail
      go_ret
      exact ⟨rfl, hst.out.1, hst.out.2.clear (fun i hi e => by have e : w.heap.size ≤ i := e; omega)⟩
end Go.Proofs.YtikgkjkgdlnekaaGreatDoor

/- ctype: plain, of a tuple too. -/
set_option linter.unusedVariables false
set_option linter.unusedSimpArgs false
namespace Go.Proofs.YtikgkjkgdlnekaaGreatDoor
open Go.RowKit
open Lex Ct

set_option maxRecDepth 100000 in
set_option maxHeartbeats 8000000 in
theorem plain_14 (n : List Nm) (l : List Ty) (r : Int) (an : Option Addr) (cn : Nat) (al : Option Addr) (cl : Nat) (w : World) (h : TyAt w (.mk 14 n l r) an cn al cl) (hn : l.length ≤ 64) :
    Calls Tryz.prog 65 #[.agg #[.int .i64 14, .slice an n.length cn, .slice al l.length cl, .int .i64 r]] w (PlainR (.mk 13 ((List.range l.length).map digs) l 0) w) := by
  have HL := Lib.hid h.l
  have k0 : Kept (fun _ => False) w ((w.alloc (.cells #[.int .i64 14, .slice an n.length cn, .slice al l.length cl, .int .i64 r] 25)).alloc (.cells #[.int .i64 0, .slice none 0 0, .slice none 0 0, .int .i64 0] 25)) := ((Kept.refl _ _).new _).new _
  have S0 := (BlkAt.new w #[.int .i64 14, .slice an n.length cn, .slice al l.length cl, .int .i64 r] 25).kept (F := fun _ => False) ((Kept.refl _ _).new (.cells #[.int .i64 0, .slice none 0 0, .slice none 0 0, .int .i64 0] 25)) id
  have F0 := BlkAt.new (w.alloc (.cells #[.int .i64 14, .slice an n.length cn, .slice al l.length cl, .int .i64 r] 25)) #[.int .i64 0, .slice none 0 0, .slice none 0 0, .int .i64 0] 25
  rw [World.size_alloc] at F0
  have HK := Lib.hid k0
  have HF := Lib.hid F0
  have HS := Lib.hid S0
  have q0 : Kept (fun _ => False) ((w.alloc (.cells #[.int .i64 14, .slice an n.length cn, .slice al l.length cl, .int .i64 r] 25)).alloc (.cells #[.int .i64 0, .slice none 0 0, .slice none 0 0, .int .i64 0] 25)) ((w.alloc (.cells #[.int .i64 14, .slice an n.length cn, .slice al l.length cl, .int .i64 r] 25)).alloc (.cells #[.int .i64 0, .slice none 0 0, .slice none 0 0, .int .i64 0] 25)).drew := (Kept.refl _ _).drew
  have hsz : (((w.alloc (.cells #[.int .i64 14, .slice an n.length cn, .slice al l.length cl, .int .i64 r] 25)).alloc (.cells #[.int .i64 0, .slice none 0 0, .slice none 0 0, .int .i64 0] 25)).drew).heap.size = w.heap.size + 1 + 1 := by simp
  have HN := Lib.hid (rdNumbers l.length hn)
  have HZ := Lib.hid hsz
  have HW : Hid (∀ w', Kept (fun _ => False) ((w.alloc (.cells #[.int .i64 14, .slice an n.length cn, .slice al l.length cl, .int .i64 r] 25)).alloc (.cells #[.int .i64 0, .slice none 0 0, .slice none 0 0, .int .i64 0] 25)) w' → w'.cell? ⟨w.heap.size, 2, none⟩ = some (.slice al l.length cl)) := Lib.hid fun w' k => (HS.out.kept (F := fun _ => False) k id).cell 2
  have E0 := HW.out _ q0
  clear h k0 S0 F0 hsz
  go_enter Tryz.func65, Tryz.ntmps65
  go_wp2_with fail
  go_region_held3 (fun w' => w'.cell? ⟨w.heap.size, 2, none⟩ = some (.slice al l.length cl)) (first | exact E0 | exact HW.out _ q0 | exact (((((HS.out.kept (F := fun _ => False) q0 id).other (Nat.ne_of_lt (Nat.lt_succ_self _)) 0 _).other (Nat.ne_of_lt (Nat.lt_succ_self _)) 1 _).other (Nat.ne_of_lt (Nat.lt_succ_self _)) 2 _).other (Nat.ne_of_lt (Nat.lt_succ_self _)) 3 _).cell 2)
    (first
      | (go_at_call 85; refine (HN.out _).mono ?_; rintro y w3 ⟨rfl, hB, k3⟩
         rw [HZ.out] at hB ⊢
         have HB := Lib.hid hB
         replace q0 := q0.trans k3
         have F3 := HF.out.kept (F := fun _ => False) q0 id
         have g0 := F3.cell 0
         have g1 := F3.cell 1
         have g2 := F3.cell 2
         have g3 := F3.cell 3
         have y0 := F3.frozen 0
         have y1 := F3.frozen 1
         have y2 := F3.frozen 2
         have y3 := F3.frozen 3
         simp at g0 g1 g2 g3
         have HF3 := Lib.hid F3
         clear k3 hB F3 E0))
  all_goals go_wp2_with fail
  have G := (((HF3.out.put 0 (.int .i64 13)).put 1 (.slice (some ⟨w.heap.size + 1 + 1, 0, none⟩) l.length l.length)).put 2 (.slice al l.length cl)).put 3 (.int .i64 0)
  have u0 := G.cell 0
  have u1 := G.cell 1
  have u2 := G.cell 2
  have u3 := G.cell 3
  simp at u0 u1 u2 u3
  have hne : w.heap.size + 1 + 1 ≠ w.heap.size + 1 := by omega
  have B4 := (((HB.out.other hne 0 (.int .i64 13)).other hne 1 (.slice (some ⟨w.heap.size + 1 + 1, 0, none⟩) l.length l.length)).other hne 2 (.slice al l.length cl)).other hne 3 (.int .i64 0)
  have kk := ((((((HK.out.trans q0).any (F := (w.heap.size ≤ ·))).set (p := ⟨w.heap.size + 1, 0, none⟩) (Nat.le_succ _) (.int .i64 13)).set (p := ⟨w.heap.size + 1, 1, none⟩) (Nat.le_succ _) (.slice (some ⟨w.heap.size + 1 + 1, 0, none⟩) l.length l.length)).set (p := ⟨w.heap.size + 1, 2, none⟩) (Nat.le_succ _) (.slice al l.length cl)).set (p := ⟨w.heap.size + 1, 3, none⟩) (Nat.le_succ _) (.int .i64 0)).clear (G := fun _ => False) (fun i hi e => by have e : w.heap.size ≤ i := e; omega)
  have hl : ((List.range l.length).map digs).length = l.length := by simp
  refine bodyPost_ret (v := .agg #[.int .i64 13, .slice (some ⟨w.heap.size + 1 + 1, 0, none⟩) l.length l.length, .slice al l.length cl, .int .i64 0]) (by simp [results, Tryz.results65, go_sem, u0, u1, u2, u3]) rfl ⟨some ⟨w.heap.size + 1 + 1, 0, none⟩, l.length, al, cl, ?_, ⟨?_, HL.out.kept kk⟩, kk⟩
  · show _ = Ending.returned (.agg #[.int .i64 13, .slice _ ((List.range l.length).map digs).length l.length, .slice al l.length cl, .int .i64 0])
    rw [hl]
  · show LiesU _ _ (.sl _ 1 ((List.range l.length).map digs).length (((List.range l.length).map digs).map .s)) (.slice _ ((List.range l.length).map digs).length l.length)
    rw [hl]
    exact liesU_blk B4 (Nat.le_refl _) (by omega) (by simp) (numC_all _ _)
/-- PLAIN, of every type. -/
theorem rdPlain_all (t : Ty) (an : Option Addr) (cn : Nat) (al : Option Addr) (cl : Nat) (w : World) (h : TyAt w t an cn al cl) (hl : t.kind = 14 → t.l.length ≤ 64) (hn : t.names.length ≤ 64) :
    Calls Tryz.prog 65 #[tyV t an cn al cl] w (PlainR (plainT t) w) := by
  by_cases h14 : t.kind = 14
  · unfold plainT
    rw [if_pos h14]
    have hl := hl h14
    cases t with
    | mk k n l r =>
      have e : k = 14 := h14
      subst e
      exact plain_14 n l r an cn al cl w h hl
  · exact rdPlain t an cn al cl w h h14 hn
end Go.Proofs.YtikgkjkgdlnekaaGreatDoor
