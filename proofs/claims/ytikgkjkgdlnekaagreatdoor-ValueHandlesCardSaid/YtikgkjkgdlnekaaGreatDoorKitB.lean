/- Buffers: slices of bytes that a call itself makes. -/
import Derived.Test.YtikgkjkgdlnekaaGreatDoorProg
import Derived.Test.YtikgkjkgdlnekaaGreatDoorKit0
namespace Go.Proofs.YtikgkjkgdlnekaaGreatDoor
open Go.RowKit

theorem one_conv (n : Int) (w : World) : (convert 91 9 (.slice (some ⟨w.heap.size, 0, none⟩) 1 1)).run Tryz.prog (w.alloc (.cells #[.int .u8 n] 5)) = .ok (.string (strOfNums [n])) (w.alloc (.cells #[.int .u8 n] 5)) := by
  refine run_convert_bytes_arg _ 91 5 Tryz.underlying91 Tryz.underlying5 w.heap.size 0 1 1 [n] rfl ?_ 9 Tryz.underlying9
  intro i hi
  obtain rfl : i = 0 := by omega
  exact World.cell?_alloc_mark w _ _ _ 0

theorem info_u8 : (Tryz.prog.info? 5).map (fun i => (i.zero, i.size, i.bytes)) = some (some (.int .u8 0), 1, 1) := by kernel_rfl

/-- A slice that owns these bytes. -/
def Bytes (base : Nat) (v : Value) (xs : List Int) (w : World) : Prop := w.ownsRow base 5 1 v xs.length (xs.map (Value.int .u8))
theorem Bytes.snoc {base : Nat} {v : Value} {xs : List Int} {w : World} {d : Int} (h : w.ownsRow base 5 1 v (xs.length + 1) (xs.map (Value.int .u8) ++ [.int .u8 d])) : Bytes base v (xs ++ [d]) w := by
  unfold Bytes
  simpa using h
/-- What a buffer's call leaves: the buffer with these bytes, all below the base as it was. -/
def GivesBytes (base : Nat) (xs : List Int) (w : World) (e : Ending) (w' : World) : Prop := ∃ v, e = .returned v ∧ Bytes base v xs w' ∧ Below base w w'

theorem grown_below {base : Nat} {w wr w1 : World} {v : Value} {ys : List Int} {o : Obj} (hby : Bytes base v ys wr) (hbel : Below base w wr) (hbase : base ≤ w.heap.size) (hg : (wr.alloc o).grownBy w1 v.ownBlock) : Below base w w1 :=
  (hbel.alloc (Nat.le_trans hbase hbel.size) o).grown hg (by simp; have := hbel.size; omega) (fun k hk => (World.ownsRow.lt hby k hk).1)

/-- What a buffer's bytes are as a string. -/
theorem bytes_conv {base : Nat} {v : Value} {xs : List Int} {w : World} (h : Bytes base v xs w) : (convert 91 9 v).run Tryz.prog w = .ok (.string (strOfNums xs)) w := by
  rcases h.2 with ⟨rfl, h0⟩ | ⟨g, cap, cur, rfl, hb, hg, hn, hc, hs, ht⟩
  · have : xs = [] := List.length_eq_zero_iff.1 h0
    subst this
    exact run_convert_bytes_nil w 91 5 Tryz.underlying91 Tryz.underlying5 0 0 9 Tryz.underlying9
  · have hcells := World.ownsRow.cells h (g := g) rfl
    refine run_convert_bytes_arg w 91 5 Tryz.underlying91 Tryz.underlying5 g 0 xs.length cap xs rfl ?_ 9 Tryz.underlying9
    intro i hi
    have := hcells i (.int .u8 (xs.getD i 0)) (by simp [List.getElem?_eq_getElem hi])
    have hadd : (⟨g, 0, none⟩ : Addr).add i = ⟨g, 0 + i, none⟩ := by unfold Addr.add; split <;> simp_all
    rw [hadd] at this
    exact this

end Go.Proofs.YtikgkjkgdlnekaaGreatDoor
