/- ctype: slices.Clone of texts, of types; printed by tools/genctcl.py. -/
import Derived.Test.YtlkbgdhlbdjbiaaDoorCtPl
import Derived.Test.YtlkbgdhlbdjbiaaDoorCtV
import Derived.Deep.AppendLies
import Derived.Lib.SliceRun
set_option linter.unusedVariables false
set_option linter.unusedSimpArgs false
namespace Go.Proofs.YtlkbgdhlbdjbiaaDoor
open Go.RowKit
open Lex Ct

theorem Kept.cell1 {w w' : World} (k : Kept (fun _ => False) w w') {p : Addr} (h : p.block < w.heap.size) : w'.cell? p = w.cell? p := (k.below (Nat.le_refl _) fun _ q => q.elim).cell h
theorem wpList_append_run {P : Program} {w : World} {ops : Array Oper} {rest : List Oper} {o : Oper} {a : Act} {Q : Exit → Act → World → Prop} (hgd : o.guard = none) (d s : Operand) (dT sT : TypeId)
    (ho : o.op = .call { callee := .builtin .append, args := #[d, s], argTypes := #[dT, sT] }) (v : Value) (w' : World)
    (hrun : (Builtin.append_ #[dT, sT] o.type #[a.eval d, a.eval s]).run P w = .ok v w') (h : wpList P ops Q rest (a.put o.dst v) w') : wpList P ops Q (o :: rest) a w :=
  wpList_plain hgd fun K hK => by
    unfold Oper.wp
    simp [execOp, ho, resolve, invoke, builtin, hrun, Result.andThen]
    exact hK _ _ h
theorem append_none_text (B : Nat) (x : Addr) (cap : Nat) (w : World) (ty : TypeId) :
    (Builtin.append_ #[22, 22] ty #[.slice (some ⟨B, 0, none⟩) 0 0, .slice (some x) 0 cap]).run Tryd.prog w = .ok (.slice (some ⟨B, 0, none⟩) 0 0) w := by
  obtain ⟨ti, hi0, hz0, hz1, hz2⟩ := info_text
  have hl := run_loadCells_list (P := Tryd.prog) w x [] (fun j v hj => by simp at hj)
  rw [List.length_nil] at hl
  simp [Builtin.append_, run_underlying Tryd.underlying22, sizeOf, typeInfo, hi0, hz1, Builtin.lenOf, Builtin.firstCells, storeCells, hl]
set_option maxRecDepth 100000 in
set_option maxHeartbeats 4000000 in
theorem clone_text (a : Option Addr) (n cap : Nat) (vs : List Value) (w : World) (hn : n ≤ 100) (hl : vs.length = n * 1) (h1 : ∀ u ∈ vs, u.oneCell' = true) (h : n = 0 ∨ ∃ g o, a = some ⟨g, o, none⟩ ∧ ∀ j u, vs[j]? = some u → w.cell? ((⟨g, o, none⟩ : Addr).add j) = some u) :
    Calls Tryd.prog 38 #[.slice a n cap] w fun y w' => ∃ a' cap', y = .returned (.slice a' n cap') ∧ w'.ownsRow w.heap.size 9 1 (.slice a' n cap') n vs ∧ Kept (fun _ => False) w w' := by
  obtain ⟨i0, hi, hz0, hz1, hz2⟩ := info_text
  have h0 : Kept (fun _ => False) w (w.alloc (.cells #[] 9)) := (Kept.refl _ _).new _
  cases a with
  | none =>
    obtain rfl : n = 0 := by
      rcases h with h | ⟨g, o, e, _⟩
      · exact h
      · cases e
    obtain rfl : vs = [] := List.length_eq_zero_iff.1 (by omega)
    have heq : ∀ W, (binOp .eql 22 (.slice none 0 cap) (.slice none 0 0)).run Tryd.prog W = .ok (.bool true) W := fun W => Lib.run_eql_slice_nil W 22 9 none 0 cap 0 0 Tryd.underlying22
    go_enter Tryd.func38, Tryd.ntmps38
    go_wp2_with fail
    go_ret
    exact ⟨none, 0, rfl, World.ownsRow_nil _ _ _ _, Kept.refl _ _⟩
  | some x =>
    have heq : ∀ W, (binOp .eql 22 (.slice (some x) n cap) (.slice none 0 0)).run Tryd.prog W = .ok (.bool false) W := fun W => Lib.run_eql_slice_nil W 22 9 (some x) n cap 0 0 Tryd.underlying22
    rcases Nat.eq_zero_or_pos n with hz | hp
    · subst hz
      obtain rfl : vs = [] := List.length_eq_zero_iff.1 (by omega)
      have HA := Lib.hid (append_none_text w.heap.size x cap (w.alloc (.cells #[] 9)))
      go_enter Tryd.func38, Tryd.ntmps38
      go_wp2_with (first
        | (at_builtin; refine wpList_append_run rfl _ _ _ _ rfl _ (w.alloc (.cells #[] 9)) (HA.out _) ?_))
      go_ret
      exact ⟨some ⟨w.heap.size, 0, none⟩, 0, rfl, ⟨rfl, .inr ⟨w.heap.size, 0, #[], rfl, Nat.le_refl _, heap_alloc_new w _, Nat.le_refl _, Nat.zero_le _, rfl, rfl⟩⟩, h0⟩
    · obtain ⟨g, o, e, hc⟩ := h.resolve_left (by omega)
      cases e
      have hown : World.ownsRow (w.alloc (.cells #[] 9)) w.heap.size 9 1 (.slice (some ⟨w.heap.size, 0, none⟩) 0 0) 0 [] := ⟨rfl, .inr ⟨w.heap.size, 0, #[], rfl, Nat.le_refl _, heap_alloc_new w _, Nat.le_refl _, Nat.zero_le _, rfl, rfl⟩⟩
      have hc2 : ∀ j u, vs[j]? = some u → (w.alloc (.cells #[] 9)).cell? ((⟨g, o, none⟩ : Addr).add j) = some u := fun j u hj => (h0.cell1 (World.block_lt_of_cell? w _ (hc j u hj))).trans (hc j u hj)
      have q3 : 0 + n ≤ maxLen := by unfold maxLen; omega
      have q4 : (0 + n) * 16 ≤ 140737488355328 := by omega
      have hsz := h0.size
      have HC := Lib.hid hc2
      have H0 := Lib.hid h0
      clear h hc hc2 h0
      go_enter Tryd.func38, Tryd.ntmps38
      go_wp2_with (first
        | (at_builtin
           refine wpList_append_lies _ rfl _ _ 22 rfl w.heap.size 9 i0 (.string ByteArray.empty) 1 16 Tryd.underlying22 hi hz0 hz1 hz2 rfl (by decide) _ 0 [] rfl hown ⟨g, o, none⟩ n cap vs rfl hl HC.out h1 hp q3 q4 hsz _ rfl ?_
           intro g3 cap3 w3 hown3 hg3 hat hgl
           have HG := Lib.hid (And.intro hown3 hg3)
           clear hown3 hg3 hat hgl hown hsz))
      go_ret
      refine ⟨some ⟨g3, 0, none⟩, cap3, ?_, ?_, ?_⟩
      · first | rfl | (simp; done)
      · have := HG.out.1
        rw [Nat.zero_add, List.nil_append] at this
        exact this
      · exact ((H0.out.any (F := (w.heap.size ≤ ·))).grown HG.out.2 (fun q hq e => by have e : q = w.heap.size := Option.some.inj e; omega)).clear (fun i hi e => by have e : w.heap.size ≤ i := e; omega)
theorem append_none_type (B : Nat) (x : Addr) (cap : Nat) (w : World) (ty : TypeId) :
    (Builtin.append_ #[23, 23] ty #[.slice (some ⟨B, 0, none⟩) 0 0, .slice (some x) 0 cap]).run Tryd.prog w = .ok (.slice (some ⟨B, 0, none⟩) 0 0) w := by
  obtain ⟨ti, hi0, hz0, hz1, hz2⟩ := info_ty
  have hl := run_loadCells_list (P := Tryd.prog) w x [] (fun j v hj => by simp at hj)
  rw [List.length_nil] at hl
  simp [Builtin.append_, run_underlying Tryd.underlying23, sizeOf, typeInfo, hi0, hz1, Builtin.lenOf, Builtin.firstCells, storeCells, hl]
set_option maxRecDepth 100000 in
set_option maxHeartbeats 4000000 in
theorem clone_type (a : Option Addr) (n cap : Nat) (vs : List Value) (w : World) (hn : n ≤ 100) (hl : vs.length = n * 4) (h1 : ∀ u ∈ vs, u.oneCell' = true) (h : n = 0 ∨ ∃ g o, a = some ⟨g, o, none⟩ ∧ ∀ j u, vs[j]? = some u → w.cell? ((⟨g, o, none⟩ : Addr).add j) = some u) :
    Calls Tryd.prog 39 #[.slice a n cap] w fun y w' => ∃ a' cap', y = .returned (.slice a' n cap') ∧ w'.ownsRow w.heap.size 25 4 (.slice a' n cap') n vs ∧ Kept (fun _ => False) w w' := by
  obtain ⟨i0, hi, hz0, hz1, hz2⟩ := info_ty
  have h0 : Kept (fun _ => False) w (w.alloc (.cells #[] 25)) := (Kept.refl _ _).new _
  cases a with
  | none =>
    obtain rfl : n = 0 := by
      rcases h with h | ⟨g, o, e, _⟩
      · exact h
      · cases e
    obtain rfl : vs = [] := List.length_eq_zero_iff.1 (by omega)
    have heq : ∀ W, (binOp .eql 23 (.slice none 0 cap) (.slice none 0 0)).run Tryd.prog W = .ok (.bool true) W := fun W => Lib.run_eql_slice_nil W 23 25 none 0 cap 0 0 Tryd.underlying23
    go_enter Tryd.func39, Tryd.ntmps39
    go_wp2_with fail
    go_ret
    exact ⟨none, 0, rfl, World.ownsRow_nil _ _ _ _, Kept.refl _ _⟩
  | some x =>
    have heq : ∀ W, (binOp .eql 23 (.slice (some x) n cap) (.slice none 0 0)).run Tryd.prog W = .ok (.bool false) W := fun W => Lib.run_eql_slice_nil W 23 25 (some x) n cap 0 0 Tryd.underlying23
    rcases Nat.eq_zero_or_pos n with hz | hp
    · subst hz
      obtain rfl : vs = [] := List.length_eq_zero_iff.1 (by omega)
      have HA := Lib.hid (append_none_type w.heap.size x cap (w.alloc (.cells #[] 25)))
      go_enter Tryd.func39, Tryd.ntmps39
      go_wp2_with (first
        | (at_builtin; refine wpList_append_run rfl _ _ _ _ rfl _ (w.alloc (.cells #[] 25)) (HA.out _) ?_))
      go_ret
      exact ⟨some ⟨w.heap.size, 0, none⟩, 0, rfl, ⟨rfl, .inr ⟨w.heap.size, 0, #[], rfl, Nat.le_refl _, heap_alloc_new w _, Nat.le_refl _, Nat.zero_le _, rfl, rfl⟩⟩, h0⟩
    · obtain ⟨g, o, e, hc⟩ := h.resolve_left (by omega)
      cases e
      have hown : World.ownsRow (w.alloc (.cells #[] 25)) w.heap.size 25 4 (.slice (some ⟨w.heap.size, 0, none⟩) 0 0) 0 [] := ⟨rfl, .inr ⟨w.heap.size, 0, #[], rfl, Nat.le_refl _, heap_alloc_new w _, Nat.le_refl _, Nat.zero_le _, rfl, rfl⟩⟩
      have hc2 : ∀ j u, vs[j]? = some u → (w.alloc (.cells #[] 25)).cell? ((⟨g, o, none⟩ : Addr).add j) = some u := fun j u hj => (h0.cell1 (World.block_lt_of_cell? w _ (hc j u hj))).trans (hc j u hj)
      have q3 : 0 + n ≤ maxLen := by unfold maxLen; omega
      have q4 : (0 + n) * 64 ≤ 140737488355328 := by omega
      have hsz := h0.size
      have HC := Lib.hid hc2
      have H0 := Lib.hid h0
      clear h hc hc2 h0
      go_enter Tryd.func39, Tryd.ntmps39
      go_wp2_with (first
        | (at_builtin
           refine wpList_append_lies _ rfl _ _ 23 rfl w.heap.size 25 i0 (.agg #[.int .i64 0, .slice none 0 0, .slice none 0 0, .int .i64 0]) 4 64 Tryd.underlying23 hi hz0 hz1 hz2 rfl (by decide) _ 0 [] rfl hown ⟨g, o, none⟩ n cap vs rfl hl HC.out h1 hp q3 q4 hsz _ rfl ?_
           intro g3 cap3 w3 hown3 hg3 hat hgl
           have HG := Lib.hid (And.intro hown3 hg3)
           clear hown3 hg3 hat hgl hown hsz))
      go_ret
      refine ⟨some ⟨g3, 0, none⟩, cap3, ?_, ?_, ?_⟩
      · first | rfl | (simp; done)
      · have := HG.out.1
        rw [Nat.zero_add, List.nil_append] at this
        exact this
      · exact ((H0.out.any (F := (w.heap.size ≤ ·))).grown HG.out.2 (fun q hq e => by have e : q = w.heap.size := Option.some.inj e; omega)).clear (fun i hi e => by have e : w.heap.size ≤ i := e; omega)
end Go.Proofs.YtlkbgdhlbdjbiaaDoor
