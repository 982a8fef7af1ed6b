/- subtype: a map of pairs of places, with no entry, and with one. -/
import Derived.Test.YthldeafbclmdcaaSnB
import Derived.Maps.OwnOps
import Derived.LaidEql
import Derived.Laws.StructEq
set_option linter.unusedVariables false
set_option linter.unusedSimpArgs false
namespace Go.Proofs.Ythldeafbclmdcaa
open Go.RowKit
open Ct

abbrev pairV (ba bb : Nat) : Value := .agg #[.pointer (some ⟨ba, 0, none⟩), .pointer (some ⟨bb, 0, none⟩)]
theorem chk_pair (e : Bool) (w : World) (ba bb : Nat) : (Instr.checkKey e 10000 49 (pairV ba bb)).run Try.prog w = .ok () w := by kernel_rfl
theorem und_map : Try.prog.underlying 46 = some (.map 49 3) := by kernel_rfl
theorem und_pair : Try.prog.underlying 49 = some (.struct (Try.prog.fieldsOf 49)) := by kernel_rfl
theorem und_ptr : Try.prog.underlying 47 = some (.pointer 25) := by kernel_rfl
theorem zero_int (w : World) : (zeroValue 3).run Try.prog w = .ok (.int .i64 0) w := by kernel_rfl
theorem size_ty (w : World) : (sizeOf 25).run Try.prog w = .ok 4 w := by kernel_rfl
theorem find_none (w : World) (k : Value) : (Instr.findKey 49 k []).run Try.prog w = .ok none w := by
  simp [Instr.findKey, run_underlying und_pair, Instr.findNow]
theorem eq_ptr (d : Nat) (w : World) (a : Addr) : (Op.equalIn (d + 1) 47 (.pointer (some a)) (.pointer (some a))).run Try.prog w = .ok true w := by
  simp [Op.equalIn, run_underlying und_ptr, size_ty, run_sameAddr_same]
theorem eq_pair (w : World) (ba bb : Nat) : (Op.equal 49 (pairV ba bb) (pairV ba bb)).run Try.prog w = .ok true w := by
  have e : Op.equal 49 (pairV ba bb) (pairV ba bb) = Op.equalIn (9999 + 1) 49 (pairV ba bb) (pairV ba bb) := rfl
  have hf0 : (Try.prog.fieldsOf 49).toList.map (fun f => (f.type, f.offset)) = [(47, 0), (47, 1)] := by kernel_rfl
  obtain ⟨f1, f2, hf, t1, t2, o1, o2⟩ : ∃ f1 f2 : Field, (Try.prog.fieldsOf 49).toList = [f1, f2] ∧ f1.type = 47 ∧ f2.type = 47 ∧ f1.offset = 0 ∧ f2.offset = 1 := by
    revert hf0
    generalize (Try.prog.fieldsOf 49).toList = l
    intro hf0
    rcases l with _ | ⟨f1, _ | ⟨f2, _ | ⟨f3, l⟩⟩⟩
    · cases hf0
    · simp at hf0
    · simp only [List.map_cons, List.map_nil, List.cons.injEq, Prod.mk.injEq, and_true] at hf0
      exact ⟨f1, f2, rfl, hf0.1.1, hf0.2.1, hf0.1.2, hf0.2.2⟩
    · simp at hf0
  have p0 : ∀ w : World, (part 47 #[.pointer (some ⟨ba, 0, none⟩), .pointer (some ⟨bb, 0, none⟩)] 0).run Try.prog w = .ok (.pointer (some ⟨ba, 0, none⟩)) w := fun w => by kernel_rfl
  have p1 : ∀ w : World, (part 47 #[.pointer (some ⟨ba, 0, none⟩), .pointer (some ⟨bb, 0, none⟩)] 1).run Try.prog w = .ok (.pointer (some ⟨bb, 0, none⟩)) w := fun w => by kernel_rfl
  have q0 := eq_ptr 9998 w ⟨ba, 0, none⟩
  have q1 := eq_ptr 9998 w ⟨bb, 0, none⟩
  rw [e, run_equalIn_struct w 9999 _ _ _ und_pair (by kernel_rfl), hf]
  simp only [Op.eqFields, t1, t2, o1, o2, Sem.run_bind, Sem.run_ite, p0, p1, Result.andThen_ok]
  rw [show (9998 + 1 : Nat) = 9999 from rfl] at q0 q1
  split <;> split <;> simp [q0, q1]
theorem find_one (w : World) (ba bb : Nat) (v : Value) (s : Nat) : (Instr.findKey 49 (pairV ba bb) [{ key := pairV ba bb, val := v, born := s }]).run Try.prog w = .ok (some (0, v)) w := by
  simp [Instr.findKey, run_underlying und_pair, Instr.findNow, Instr.sameNow, Instr.findAsking, eq_pair]
theorem lk_none (w : World) (bm ba bb : Nat) (h : w.heap[bm]? = some (.map #[] 0)) : (Instr.lookup 46 (.map (some bm)) (pairV ba bb) false).run Try.prog w = .ok (.int .i64 0) w := by
  simp [Instr.lookup, run_underlying und_map, MapKept.run_getObj_map h, chk_pair, find_none, zero_int, Result.andThen]
theorem lk_one (w : World) (bm ba bb : Nat) (v : Value) (s c : Nat) (h : w.heap[bm]? = some (.map #[{ key := pairV ba bb, val := v, born := s }] c)) : (Instr.lookup 46 (.map (some bm)) (pairV ba bb) false).run Try.prog w = .ok v w := by
  simp [Instr.lookup, run_underlying und_map, MapKept.run_getObj_map h, chk_pair, find_one, zero_int, Result.andThen]
theorem me_none (w : World) (bm ba bb : Nat) (h : w.heap[bm]? = some (.map #[] 0)) :
    (Instr.mapEntry 46 (.map (some bm)) (pairV ba bb)).run Try.prog w = .ok (.tuple #[.int .i64 0, .int .i64 0]) (ChangeMaps.setBlock w bm (.map #[{ key := pairV ba bb, val := .int .i64 0, born := 0 }] 1)) := by
  simp [Instr.mapEntry, run_underlying und_map, MapKept.run_getObj_map h, chk_pair, find_none, zero_int, MapKept.run_setObj_map _ h, Result.andThen, ChangeMaps.setBlock, goInt]
theorem es_one (w : World) (bm ba bb : Nat) (n : Int) (h : w.heap[bm]? = some (.map #[{ key := pairV ba bb, val := .int .i64 0, born := 0 }] 1)) :
    (Instr.entryStore 46 (.map (some bm)) (.int .i64 0) (.int .i64 n)).run Try.prog w = .ok () (ChangeMaps.setBlock w bm (.map #[{ key := pairV ba bb, val := .int .i64 n, born := 0 }] 1)) := by
  simp [Instr.entryStore, MapKept.run_getObj_map h, MapKept.run_setObj_map _ h, Result.andThen, ChangeMaps.setBlock, asInt, asIntOf]
end Go.Proofs.Ythldeafbclmdcaa
