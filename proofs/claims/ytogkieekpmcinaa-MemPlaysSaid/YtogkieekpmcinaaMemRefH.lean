/- The reference's clones. -/
import Derived.Test.YtogkieekpmcinaaMemRefG
import Derived.Deep.OwnRows
import Derived.Laws.CopyRow
namespace Go.Proofs.Ytogkieekpmcinaa
open Go.RowKit

/-- New bytes, as many as there are of another row, and these put in their place: the world behind. -/
theorem copied_row (w : World) (S : List Int) (g : Nat) (n : Nat) (hn : S.length ≤ n) (hs : ∀ i, i < S.length → w.cell? ⟨g, i, none⟩ = some (.int .u8 (S.getD i 0))) (hg : g < w.heap.size) (ty : TypeId) :
    (Builtin.copy_ #[39, 39] ty #[.slice (some ⟨w.heap.size, 0, none⟩) n n, .slice (some ⟨g, 0, none⟩) S.length S.length]).run Try.prog (w.alloc (.cells (madeCells #[.int .u8 0] n) 5)) =
      .ok (goInt S.length) ((w.alloc (.cells (madeCells #[.int .u8 0] n) 5)).setRow w.heap.size ((S.map (Value.int .u8)) ++ (madeCells #[.int .u8 0] n).toList.drop S.length).toArray) := by
  have hb : (w.alloc (.cells (madeCells #[.int .u8 0] n) 5)).heap[w.heap.size]? = some (.cells (madeCells #[.int .u8 0] n) 5 (0, 0)) := by
    show (w.heap.push _)[w.heap.size]? = _
    simp
  have hl : (S.map (Value.int .u8)).length = S.length := List.length_map _
  have hsz : (madeCells #[Value.int .u8 0] n).size = n := by simp [madeCells]
  have := run_copy_row (P := Try.prog) (w.alloc (.cells (madeCells #[.int .u8 0] n) 5)) 39 39 ty 5 w.heap.size 0 n n ⟨g, 0, none⟩ S.length S.length (madeCells #[.int .u8 0] n) 5 (S.map (Value.int .u8)) Try.underlying39 size_u8 hb (by rw [hl]; exact (Nat.min_eq_left hn).symm) (fun j v hj => by
    have hj' : j < S.length := by
      have := (List.getElem?_eq_some_iff.1 hj).1
      rwa [hl] at this
    have hadd : (⟨g, 0, none⟩ : Addr).add j = ⟨g, 0 + j, none⟩ := by unfold Addr.add; split <;> simp_all
    rw [hadd, Nat.zero_add, World.cell?_of_block (w := w) (Below.heap_alloc w _ g hg), hs j hj']
    simp [List.getElem?_eq_getElem hj'] at hj
    rw [← hj]
    simp [List.getElem?_eq_getElem hj']) (by rw [hl, hsz]; omega) (by
    intro v hv
    obtain ⟨z, _, rfl⟩ := List.mem_map.1 hv
    rfl)
  rw [hl] at this
  simpa using this

theorem RMem.bound {a g : Nat} {S : List Int} {mx bd : Int} {w : World} (h : RMem a g S mx bd w) : w.cell? ⟨a, 2, none⟩ = some (.int .i64 bd) := by
  unfold World.cell?
  rw [h.head]
  rfl
theorem info_u8' : (Try.prog.info? 5).map (fun i => (i.zero, i.size, i.bytes)) = some (some (.int .u8 0), 1, 1) := by kernel_rfl
end Go.Proofs.Ytogkieekpmcinaa
