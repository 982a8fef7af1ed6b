/- handles: one tables' state through its calls; chapter 16's example. -/
import Derived.Test.YtglhfofofacekaaHdS
import Derived.Test.YtglhfofofacekaaHdQ
set_option linter.unusedVariables false
set_option linter.unusedSimpArgs false
namespace Go.Proofs.Ytglhfofofacekaa
open Go.RowKit

/-- Tables that a call made, from block B on. -/
structure St (B a : Nat) (w : World) (S : Tb) (N : Nat) : Prop where
  at' : TbAt (B ≤ ·) a w S
  ok : TbOk N S
  size : B ≤ w.heap.size
  few : N ≤ 100000
theorem St.of {B a N N' : Nat} {w w' : World} {S S' : Tb} (h : St B a w S N) (ht : TbAt (B ≤ ·) a w' S') (hk : Kept (B ≤ ·) w w') (ho : TbOk N' S') (hN : N' ≤ 100000) : St B a w' S' N' ∧ Below B w w' := by
  have hb : Below B w w' := hk.below h.size (fun k e => e)
  exact ⟨⟨ht, ho, Nat.le_trans h.size hb.size, hN⟩, hb⟩
theorem St.below {B a N : Nat} {w w' : World} {S : Tb} (h : St B a w S N) (hb : Below w.heap.size w w') : St B a w' S N ∧ Below B w w' := by
  obtain ⟨H, h1⟩ := h.at'
  exact ⟨⟨⟨H, h1.below hb⟩, h.ok, Nat.le_trans h.size hb.size, h.few⟩, hb.mono h.size⟩
theorem orNew_base {B n b : Nat} (hB : B ≤ n) (h : orNew (B ≤ ·) n b) : B ≤ b := by
  rcases h with h | h
  · exact h
  · omega
theorem St.make {B a N : Nat} {w : World} {S : Tb} (h : St B a w S N) (i r rep : Int) : Calls Try.prog 21 #[.pointer (some ⟨a, 0, none⟩), .int .i64 i, .int .i64 r, .int .i64 rep] w fun e w' => e = .returned (.tuple #[.int .i64 (makeS S i r rep).1, .int .i64 (makeS S i r rep).2.1]) ∧ St B a w' (makeS S i r rep).2.2 N ∧ Below B w w' := by
  obtain ⟨H, h1⟩ := h.at'
  refine (h1.make h.ok i r rep).mono ?_
  rintro e w' ⟨rfl, h2, h3⟩
  exact ⟨rfl, h.of ⟨H, h2⟩ h3 (h.ok.make i r rep) h.few⟩
theorem St.rep {B a N : Nat} {w : World} {S : Tb} (h : St B a w S N) (i r hh : Int) (hw : wf64 hh) : Calls Try.prog 27 #[.pointer (some ⟨a, 0, none⟩), .int .i64 i, .int .i64 r, .int .i64 hh] w fun e w' => e = .returned (.tuple #[.int .i64 (repS S i r hh).1, .int .i64 (repS S i r hh).2]) ∧ St B a w' S N ∧ Below B w w' := by
  obtain ⟨H, h1⟩ := h.at'
  refine (h1.repr h.ok i r hh hw).mono ?_
  rintro e w' ⟨rfl, h2⟩
  exact ⟨rfl, h.below h2⟩
theorem St.drop {B a N : Nat} {w : World} {S : Tb} (h : St B a w S N) (i r hh : Int) (hw : wf64 hh) : Calls Try.prog 25 #[.pointer (some ⟨a, 0, none⟩), .int .i64 i, .int .i64 r, .int .i64 hh] w fun e w' => e = .returned (.tuple #[.int .i64 (dropS S i r hh).1, .bool (dropS S i r hh).2.1, .int .i64 (dropS S i r hh).2.2.1]) ∧ St B a w' (dropS S i r hh).2.2.2 N ∧ Below B w w' := by
  obtain ⟨H, h1⟩ := h.at'
  refine (h1.drop i r hh hw).mono ?_
  rintro e w' ⟨rfl, h2, h3⟩
  exact ⟨rfl, h.of ⟨H, h2⟩ h3 (h.ok.drop i r hh) h.few⟩
theorem St.take {B a N : Nat} {w : World} {S : Tb} (h : St B a w S N) (i r hh : Int) (hw : wf64 hh) : Calls Try.prog 28 #[.pointer (some ⟨a, 0, none⟩), .int .i64 i, .int .i64 r, .int .i64 hh] w fun e w' => e = .returned (.tuple #[.int .i64 (takeS S i r hh).1, .int .i64 (takeS S i r hh).2.1]) ∧ St B a w' (takeS S i r hh).2.2 N ∧ Below B w w' := by
  obtain ⟨H, h1⟩ := h.at'
  refine (h1.take i r hh hw).mono ?_
  rintro e w' ⟨rfl, h2, h3⟩
  exact ⟨rfl, h.of ⟨H, h2⟩ h3 (h.ok.take i r hh) h.few⟩
theorem St.put {B a N : Nat} {w : World} {S : Tb} (h : St B a w S N) (i r rep : Int) : Calls Try.prog 29 #[.pointer (some ⟨a, 0, none⟩), .int .i64 i, .int .i64 r, .int .i64 rep] w fun e w' => e = .returned (.tuple #[.int .i64 (putS S i r rep).1, .int .i64 (putS S i r rep).2.1]) ∧ St B a w' (putS S i r rep).2.2 N ∧ Below B w w' := by
  obtain ⟨H, h1⟩ := h.at'
  refine (h1.put h.ok i r rep).mono ?_
  rintro e w' ⟨rfl, h2, h3⟩
  exact ⟨rfl, h.of ⟨H, h2⟩ h3 (h.ok.put i r rep) h.few⟩
theorem St.lend {B a N : Nat} {w : World} {S : Tb} (h : St B a w S N) (hN : N < 100000) (i r hh : Int) (hw : wf64 hh) : Calls Try.prog 23 #[.pointer (some ⟨a, 0, none⟩), .int .i64 i, .int .i64 r, .int .i64 hh] w fun e w' => e = .returned (.tuple #[.int .i64 (lendS S i r hh).1, .int .i64 (lendS S i r hh).2.1]) ∧ St B a w' (lendS S i r hh).2.2 (N + 1) ∧ Below B w w' := by
  obtain ⟨H, h1⟩ := h.at'
  refine (h1.lend h.ok h.few i r hh hw).mono ?_
  rintro e w' ⟨rfl, h2, h3⟩
  exact ⟨rfl, h.of ⟨H, h2⟩ h3 (h.ok.lend i r hh) (by omega)⟩
theorem St.borrow {B a N : Nat} {w : World} {S : Tb} (h : St B a w S N) (i r rep : Int) : Calls Try.prog 24 #[.pointer (some ⟨a, 0, none⟩), .int .i64 i, .int .i64 r, .int .i64 rep] w fun e w' => e = .returned (.tuple #[.int .i64 (borrowS S i r rep).1, .int .i64 (borrowS S i r rep).2.1]) ∧ St B a w' (borrowS S i r rep).2.2 N ∧ Below B w w' := by
  obtain ⟨H, h1⟩ := h.at'
  refine (h1.borrow h.ok i r rep).mono ?_
  rintro e w' ⟨rfl, h2, h3⟩
  exact ⟨rfl, h.of ⟨H, h2⟩ h3 (h.ok.borrow i r rep) h.few⟩
theorem St.enter {B a N : Nat} {w : World} {S : Tb} (h : St B a w S N) (i : Int) : Calls Try.prog 22 #[.pointer (some ⟨a, 0, none⟩), .int .i64 i] w fun e w' => e = .returned (.int .i64 (enterS S i).1) ∧ St B a w' (enterS S i).2 N ∧ Below B w w' := by
  obtain ⟨H, h1⟩ := h.at'
  refine (h1.enter h.ok i).mono ?_
  rintro e w' ⟨rfl, h2, h3⟩
  exact ⟨rfl, h.of (h2.mono (fun b hb => orNew_base h.size hb)) h3 (h.ok.enter i) h.few⟩
theorem St.leave {B a N : Nat} {w : World} {S : Tb} (h : St B a w S N) : Calls Try.prog 26 #[.pointer (some ⟨a, 0, none⟩)] w fun e w' => e = .returned (.int .i64 (leaveS S).1) ∧ St B a w' (leaveS S).2 N ∧ Below B w w' := by
  obtain ⟨H, h1⟩ := h.at'
  refine (h1.leave h.ok h.few).mono ?_
  rintro e w' ⟨rfl, h2, h3⟩
  exact ⟨rfl, h.of h2 h3 h.ok.leave h.few⟩
theorem St.new (n : Int) (ca : Option Addr) (c m : Nat) (ms : List Int) (w : World) (h : IntsIn w ca m c ms) (hyes : newB n ms = true) :
    Calls Try.prog 5 #[.int .i64 n, .slice ca m c] w fun e w' => ∃ a, e = .returned (.tuple #[.pointer (some ⟨a, 0, none⟩), .int .i64 0]) ∧ St w.heap.size a w' ⟨ms, List.replicate n.toNat [], []⟩ 0 ∧ Below w.heap.size w w' := by
  refine (new_yes n ca c m ms w h hyes).mono ?_
  rintro e w' ⟨a, rfl, h1, h2⟩
  exact ⟨a, rfl, ⟨h1, TbOk.new hyes, h2.size, by omega⟩, h2⟩

/-! the example -/
def xs0 : Tb := ⟨[0], [[], []], []⟩
def xs1 : Tb := ⟨[0], [[⟨1, 0, 7, true, 0, 0⟩], []], []⟩
def xs2 : Tb := ⟨[0], [[⟨1, 0, 7, true, 0, 0⟩], []], [(1, [])]⟩
def xs3 : Tb := ⟨[0], [[⟨1, 0, 7, true, 1, 0⟩], []], [(1, [(0, 1)])]⟩
def xs4 : Tb := ⟨[0], [[⟨1, 0, 7, true, 1, 0⟩], [⟨1, 0, 7, false, 0, 1⟩]], [(1, [(0, 1)])]⟩
def xs5 : Tb := ⟨[0], [[⟨1, 0, 7, true, 1, 0⟩], []], [(1, [(0, 1)])]⟩
def xs6 : Tb := ⟨[0], [[⟨1, 0, 7, true, 0, 0⟩], []], []⟩
theorem ex1 : makeS xs0 0 0 7 = (1, 0, xs1) := by rfl
theorem ex2 : enterS xs1 1 = (0, xs2) := by rfl
theorem ex3 : lendS xs2 0 0 1 = (7, 0, xs3) := by rfl
theorem ex4 : borrowS xs3 1 0 7 = (1, 0, xs4) := by rfl
theorem ex5 : dropS xs4 0 0 1 = (0, false, 18, xs4) := by rfl
theorem ex6 : leaveS xs4 = (18, xs4) := by rfl
theorem ex7 : dropS xs4 1 0 1 = (7, false, 0, xs5) := by rfl
theorem ex8 : leaveS xs5 = (0, xs6) := by rfl
end Go.Proofs.Ytglhfofofacekaa
