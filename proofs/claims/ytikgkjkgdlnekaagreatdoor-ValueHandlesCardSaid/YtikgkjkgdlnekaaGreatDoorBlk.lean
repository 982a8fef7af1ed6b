/- Blocks of cells that a call made, read back behind its callees: no program. -/
import Derived.Test.YtikgkjkgdlnekaaGreatDoorKit0
import Derived.Deep.AppendLies
namespace Go.Proofs.YtikgkjkgdlnekaaGreatDoor
open Go.RowKit

/-- Blocks of cells. -/
def BlkAt (w : World) (b : Nat) (cs : Array Value) (T : TypeId) : Prop := w.heap[b]? = some (.cells cs T (0, 0))
theorem BlkAt.lt {w : World} {b : Nat} {cs : Array Value} {T : TypeId} (h : BlkAt w b cs T) : b < w.heap.size := (Array.getElem?_eq_some_iff.1 h).1
theorem BlkAt.below {w w' : World} {b : Nat} {cs : Array Value} {T : TypeId} (h : BlkAt w b cs T) (hb : Below w.heap.size w w') : BlkAt w' b cs T := (hb.block b h.lt).trans h
theorem BlkAt.cell {w : World} {b : Nat} {cs : Array Value} {T : TypeId} (h : BlkAt w b cs T) (i : Nat) : w.cell? ⟨b, i, none⟩ = cs[i]? := by
  unfold World.cell?
  rw [show w.heap[(⟨b, i, none⟩ : Addr).block]? = some (.cells cs T (0, 0)) from h]
  rfl
theorem BlkAt.frozen {w : World} {b : Nat} {cs : Array Value} {T : TypeId} (h : BlkAt w b cs T) (i : Nat) : w.frozen? ⟨b, i, none⟩ = false := by
  unfold World.frozen?
  rw [show w.heap[(⟨b, i, none⟩ : Addr).block]? = some (.cells cs T (0, 0)) from h]
  simp
theorem BlkAt.put {w : World} {b : Nat} {cs : Array Value} {T : TypeId} (h : BlkAt w b cs T) (i : Nat) (v : Value) : BlkAt (w.setCell ⟨b, i, none⟩ v) b (cs.setIfInBounds i v) T := by
  unfold BlkAt at h ⊢
  simp only [World.setCell, Array.getElem?_modify, if_pos, h, Option.map_some]
  simp
theorem BlkAt.other {w : World} {b b' : Nat} {cs : Array Value} {T : TypeId} (h : BlkAt w b cs T) (hne : b ≠ b') (i : Nat) (v : Value) : BlkAt (w.setCell ⟨b', i, none⟩ v) b cs T :=
  (Below.heap_setCell _ _ _ _ (fun e => hne e)).trans h
theorem BlkAt.new (w : World) (cs : Array Value) (T : TypeId) : BlkAt (w.alloc (.cells cs T)) w.heap.size cs T := heap_alloc_new w _
end Go.Proofs.YtikgkjkgdlnekaaGreatDoor
