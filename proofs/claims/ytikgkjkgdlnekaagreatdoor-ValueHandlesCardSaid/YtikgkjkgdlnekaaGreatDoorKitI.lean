/- Slices of numbers that a call itself makes. -/
import Derived.Test.YtikgkjkgdlnekaaGreatDoorProg
import Derived.Test.YtikgkjkgdlnekaaGreatDoorKit0
namespace Go.Proofs.YtikgkjkgdlnekaaGreatDoor
open Go.RowKit

/-- A slice that owns these numbers. -/
def Ints (base : Nat) (v : Value) (xs : List Int) (w : World) : Prop := w.ownsRow base 3 1 v xs.length (xs.map (Value.int .i64))
theorem Ints.snoc {base : Nat} {v : Value} {xs : List Int} {w : World} {d : Int} (h : w.ownsRow base 3 1 v (xs.length + 1) (xs.map (Value.int .i64) ++ [.int .i64 d])) : Ints base v (xs ++ [d]) w := by
  unfold Ints
  simpa using h
theorem Ints.below {base : Nat} {v : Value} {xs : List Int} {w w' : World} (h : Ints base v xs w) (hb : Below w.heap.size w w') : Ints base v xs w' := by
  refine ⟨h.1, ?_⟩
  rcases h.2 with hn | ⟨g, cap, cur, rfl, hg, hgg, rest⟩
  · exact .inl hn
  · exact .inr ⟨g, cap, cur, rfl, hg, (hb.block g (Array.getElem?_eq_some_iff.1 hgg).1).trans hgg, rest⟩
theorem info_int : (Tryz.prog.info? 3).map (fun i => (i.zero, i.size, i.bytes)) = some (some (.int .i64 0), 1, 8) := by kernel_rfl
theorem grown_below' {base : Nat} {w wr w1 : World} {v : Value} {ys : List Int} {o : Obj} (hby : Ints base v ys wr) (hbel : Below base w wr) (hbase : base ≤ w.heap.size) (hg : (wr.alloc o).grownBy w1 v.ownBlock) : Below base w w1 :=
  (hbel.alloc (Nat.le_trans hbase hbel.size) o).grown hg (by simp; have := hbel.size; omega) (fun k hk => (World.ownsRow.lt hby k hk).1)

theorem Ints.view {base : Nat} {v : Value} {xs : List Int} {w : World} (h : Ints base v xs w) : ∃ a cap, v = .slice a xs.length cap ∧ View w a xs.length xs := by
  rcases h.2 with ⟨hn, h0⟩ | ⟨g, cap, cur, hn, hb, hg, _⟩
  · exact ⟨none, 0, by rw [hn, h0], .inl h0⟩
  · subst hn
    refine ⟨_, cap, rfl, .inr ⟨g, 0, rfl, fun i hi => ?_⟩⟩
    have hc := World.ownsRow.cells h (g := g) rfl i (.int .i64 (xs.getD i 0)) (by simp [List.getElem?_eq_getElem hi])
    have hadd : (⟨g, 0, none⟩ : Addr).add i = ⟨g, 0 + i, none⟩ := by unfold Addr.add; split <;> simp_all
    rw [hadd] at hc
    exact hc

end Go.Proofs.YtikgkjkgdlnekaaGreatDoor
