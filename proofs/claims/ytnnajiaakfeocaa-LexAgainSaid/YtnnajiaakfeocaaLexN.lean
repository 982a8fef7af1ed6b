/- lex: rows of tokens; what a text is cut into. -/
import Derived.Test.YtnnajiaakfeocaaLexM
namespace Go.Proofs.Ytnnajiaakfeocaa
open Go.RowKit
open Lex

namespace Lex
/-- A token: its kind, its text's bytes, its place. -/
structure Tok where
  kind : Nat
  s : List Int
  at' : Nat
deriving DecidableEq
def Tok.cells (t : Tok) : List Value := [.int .i64 t.kind, .string (strOfNums t.s), .int .i64 t.at']
def flat (ts : List Tok) : List Value := ts.flatMap Tok.cells
instance : Inhabited Tok := ⟨⟨0, [], 0⟩⟩
theorem flat_snoc (ts : List Tok) (t : Tok) : flat (ts ++ [t]) = flat ts ++ t.cells := by simp [flat]
theorem flat_length (ts : List Tok) : (flat ts).length = ts.length * 3 := by
  unfold flat
  induction ts with
  | nil => rfl
  | cons d l ih => rw [List.flatMap_cons, List.length_append, ih, List.length_cons]; simp [Tok.cells]; omega
theorem blaF_le : ∀ (f n : Nat) (l : List Int) (m : Nat), blaF f n l = some m → m ≤ n + l.length
  | 0, _, _, _, h => by cases h
  | f + 1, n, l, m, h => by
    rw [blaF] at h
    have hk := far_le blk l
    split at h
    · cases h
    · cases h; omega
    · rename_i j hj
      have h1 := rem_le hj
      rw [List.length_drop] at h1
      have h2 := blaF_le f _ _ _ h
      rw [List.length_drop, List.length_drop] at h2
      omega
theorem bla_le {l : List Int} {m : Nat} (h : bla l = some m) : m ≤ l.length := by
  have := blaF_le _ _ _ _ h
  omega
/-- What a text is cut into, or the place of what can't be (n bytes lie behind). -/
def cutF : Nat → Nat → List Int → List Tok → Except Nat (List Tok)
  | 0, n, _, _ => .error n
  | f + 1, n, l, acc => match bla l with
    | none => .error n
    | some m => if (l.drop m).length = 0 then .ok acc
      else if may (spn (l.drop m)).1 (((l.drop m).drop (spn (l.drop m)).2.1).take ((spn (l.drop m)).2.2 - (spn (l.drop m)).2.1)) then
        cutF f (n + m + (spn (l.drop m)).2.2) ((l.drop m).drop (spn (l.drop m)).2.2) (acc ++ [⟨(spn (l.drop m)).1, ((l.drop m).drop (spn (l.drop m)).2.1).take ((spn (l.drop m)).2.2 - (spn (l.drop m)).2.1), n + m⟩])
      else .error (n + m)
def cutL (l : List Int) : Except Nat (List Tok) := cutF (l.length + 1) 0 l []
def resX : Except Nat (List Tok) → List Tok × Nat × Nat
  | .ok ts => (ts, 0, 0)
  | .error p => ([], p, 2)
def resL (l : List Int) : List Tok × Nat × Nat := if 8192 < l.length then ([], 0, 14) else resX (cutL l)
theorem spn_pos : ∀ (l : List Int), l ≠ [] → 0 < (spn l).2.2
  | [], h => absurd rfl h
  | c :: r, _ => by
    rw [spn_cons]
    split
    · simp; omega
    · split
      · rename_i h
        have hn : nam c = true := by unfold nam; rw [h]; rfl
        rw [far_next hn]
        simp
      · split
        · rename_i h
          have hn : ver c = true := by unfold ver; rw [h]; rfl
          rw [far_next hn]
          simp
        · split <;> simp
end Lex

/-- A slice that owns these tokens. -/
def Toks (base : Nat) (v : Value) (ts : List Tok) (w : World) : Prop := w.ownsRow base 33 3 v ts.length (flat ts)
theorem Toks.snoc {base : Nat} {v : Value} {ts : List Tok} {w : World} {t : Tok} (h : w.ownsRow base 33 3 v (ts.length + 1) (flat ts ++ t.cells)) : Toks base v (ts ++ [t]) w := by
  unfold Toks
  rw [flat_snoc, List.length_append]
  exact h
theorem Toks.below {base : Nat} {v : Value} {ts : List Tok} {w w' : World} (h : Toks base v ts w) (hb : Below w.heap.size w w') : Toks base v ts w' := by
  refine ⟨h.1, ?_⟩
  rcases h.2 with hn | ⟨g, cap, cur, rfl, hg, hgg, rest⟩
  · exact .inl hn
  · exact .inr ⟨g, cap, cur, rfl, hg, (hb.block g (Array.getElem?_eq_some_iff.1 hgg).1).trans hgg, rest⟩
theorem info_tok : (Try.prog.info? 33).map (fun i => (i.zero, i.size, i.bytes)) = some (some (tokV 0 ⟨#[]⟩ 0), 3, 32) := by kernel_rfl
theorem i_of_tok : ∃ i, Try.prog.info? 33 = some i ∧ i.zero = some (tokV 0 ⟨#[]⟩ 0) ∧ i.size = 3 ∧ i.bytes = 32 := by
  have h := info_tok
  rw [Option.map_eq_some_iff] at h
  obtain ⟨i, h1, h2⟩ := h
  simp only [Prod.mk.injEq] at h2
  exact ⟨i, h1, h2.1, h2.2.1, h2.2.2⟩
theorem add_at (b j : Nat) : (⟨b, 0, none⟩ : Addr).add j = ⟨b, j, none⟩ := by unfold Addr.add; split <;> simp_all
theorem tok_new (w : World) (t : Tok) (T : TypeId) : ∀ j u, t.cells[j]? = some u → (w.alloc (.cells t.cells.toArray T)).cell? ((⟨w.heap.size, 0, none⟩ : Addr).add j) = some u := by
  intro j u h
  rw [add_at, World.cell?_alloc_mark]
  simpa using h
theorem tok_new2 (w : World) (o : Obj) (t : Tok) (T : TypeId) : ∀ j u, t.cells[j]? = some u → ((w.alloc o).alloc (.cells t.cells.toArray T)).cell? ((⟨w.heap.size + 1, 0, none⟩ : Addr).add j) = some u := by
  have h := tok_new (w.alloc o) t T
  rw [show (w.alloc o).heap.size = w.heap.size + 1 by simp] at h
  exact h
theorem tok_one (t : Tok) : ∀ u ∈ t.cells, u.oneCell' = true := by
  intro u hu
  simp [Tok.cells] at hu
  rcases hu with rfl | rfl | rfl <;> rfl
theorem grownT {base : Nat} {w wr w1 : World} {v : Value} {n : Nat} {xs : List Value} {o o' : Obj} (hby : wr.ownsRow base 33 3 v n xs) (hbel : Below base w wr) (hbase : base ≤ w.heap.size) (hg : ((wr.alloc o).alloc o').grownBy w1 v.ownBlock) : Below base w w1 :=
  ((hbel.alloc (Nat.le_trans hbase hbel.size) o).alloc (le_alloc (Nat.le_trans hbase hbel.size)) o').grown hg (by simp; have := hbel.size; omega) (fun k hk => (World.ownsRow.lt hby k hk).1)
/-- What Cut leaves. -/
def GivesCut (base : Nat) (r : List Tok × Nat × Nat) (w : World) (e : Ending) (w' : World) : Prop :=
  ∃ v, e = .returned (.tuple #[v, .int .i64 (r.2.1 : Nat), .int .i64 (r.2.2 : Nat)]) ∧ Toks base v r.1 w' ∧ Below base w w'
theorem Toks.nil (base : Nat) (w : World) : Toks base (.slice none 0 0) [] w := World.ownsRow_nil _ _ _ _
theorem strOfNums_bl (s : ByteArray) (a b : Nat) : s.extract a b = strOfNums (((bl s).drop a).take (b - a)) := by
  rw [← bl_part, bl_back]
end Go.Proofs.Ytnnajiaakfeocaa
