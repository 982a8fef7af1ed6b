/- ctype W to Cg -/
import Derived.Test.YtikgkjkgdlnekaaGreatDoorCtLV
import Derived.Deep.AppendLies
import Derived.Lib.SliceRun
import Derived.Test.YtikgkjkgdlnekaaGreatDoorSame
import Derived.Deep.RegionHeld3
/- ctype: slices.Clone of texts, of types; printed by tools/genctcl.py. -/
set_option linter.unusedVariables false
set_option linter.unusedSimpArgs false
namespace Go.Proofs.YtikgkjkgdlnekaaGreatDoor
open Go.RowKit
open Lex Ct

theorem Kept.cell1 {w w' : World} (k : Kept (fun _ => False) w w') {p : Addr} (h : p.block < w.heap.size) : w'.cell? p = w.cell? p := (k.below (Nat.le_refl _) fun _ q => q.elim).cell h
theorem wpList_append_run {P : Program} {w : World} {ops : Array Oper} {rest : List Oper} {o : Oper} {a : Act} {Q : Exit → Act → World → Prop} (hgd : o.guard = none) (d s : Operand) (dT sT : TypeId)
    (ho : o.op = .call { callee := .builtin .append, args := #[d, s], argTypes := #[dT, sT] }) (v : Value) (w' : World)
    (hrun : (Builtin.append_ #[dT, sT] o.type #[a.eval d, a.eval s]).run P w = .ok v w') (h : wpList P ops Q rest (a.put o.dst v) w') : wpList P ops Q (o :: rest) a w :=
  wpList_plain hgd fun K hK => by
    unfold Oper.wp
    simp [execOp, ho, resolve, invoke, builtin, hrun, Result.andThen]
    exact hK _ _ h
theorem append_none_text (B : Nat) (x : Addr) (cap : Nat) (w : World) (ty : TypeId) :
    (Builtin.append_ #[22, 22] ty #[.slice (some ⟨B, 0, none⟩) 0 0, .slice (some x) 0 cap]).run Tryz.prog w = .ok (.slice (some ⟨B, 0, none⟩) 0 0) w := by
  obtain ⟨ti, hi0, hz0, hz1, hz2⟩ := info_text
  have hl := run_loadCells_list (P := Tryz.prog) w x [] (fun j v hj => by simp at hj)
  rw [List.length_nil] at hl
  simp [Builtin.append_, run_underlying Tryz.underlying22, sizeOf, typeInfo, hi0, hz1, Builtin.lenOf, Builtin.firstCells, storeCells, hl]
set_option maxRecDepth 100000 in
set_option maxHeartbeats 4000000 in
theorem clone_text (a : Option Addr) (n cap : Nat) (vs : List Value) (w : World) (hn : n ≤ 100) (hl : vs.length = n * 1) (h1 : ∀ u ∈ vs, u.oneCell' = true) (h : n = 0 ∨ ∃ g o, a = some ⟨g, o, none⟩ ∧ ∀ j u, vs[j]? = some u → w.cell? ((⟨g, o, none⟩ : Addr).add j) = some u) :
    Calls Tryz.prog 84 #[.slice a n cap] w fun y w' => ∃ a' cap', y = .returned (.slice a' n cap') ∧ w'.ownsRow w.heap.size 9 1 (.slice a' n cap') n vs ∧ Kept (fun _ => False) w w' := by
  obtain ⟨i0, hi, hz0, hz1, hz2⟩ := info_text
  have h0 : Kept (fun _ => False) w (w.alloc (.cells #[] 9)) := (Kept.refl _ _).new _
  cases a with
  | none =>
    obtain rfl : n = 0 := by
      rcases h with h | ⟨g, o, e, _⟩
      · exact h
      · cases e
    obtain rfl : vs = [] := List.length_eq_zero_iff.1 (by omega)
    have heq : ∀ W, (binOp .eql 22 (.slice none 0 cap) (.slice none 0 0)).run Tryz.prog W = .ok (.bool true) W := fun W => Lib.run_eql_slice_nil W 22 9 none 0 cap 0 0 Tryz.underlying22
    go_enter Tryz.func84, Tryz.ntmps84
    go_wp2_with fail
    go_ret
    exact ⟨none, 0, rfl, World.ownsRow_nil _ _ _ _, Kept.refl _ _⟩
  | some x =>
    have heq : ∀ W, (binOp .eql 22 (.slice (some x) n cap) (.slice none 0 0)).run Tryz.prog W = .ok (.bool false) W := fun W => Lib.run_eql_slice_nil W 22 9 (some x) n cap 0 0 Tryz.underlying22
    rcases Nat.eq_zero_or_pos n with hz | hp
    · subst hz
      obtain rfl : vs = [] := List.length_eq_zero_iff.1 (by omega)
      have HA := Lib.hid (append_none_text w.heap.size x cap (w.alloc (.cells #[] 9)))
      go_enter Tryz.func84, Tryz.ntmps84
      go_wp2_with (first
        | (at_builtin; refine wpList_append_run rfl _ _ _ _ rfl _ (w.alloc (.cells #[] 9)) (HA.out _) ?_))
      go_ret
      exact ⟨some ⟨w.heap.size, 0, none⟩, 0, rfl, ⟨rfl, .inr ⟨w.heap.size, 0, #[], rfl, Nat.le_refl _, heap_alloc_new w _, Nat.le_refl _, Nat.zero_le _, rfl, rfl⟩⟩, h0⟩
    · obtain ⟨g, o, e, hc⟩ := h.resolve_left (by omega)
      cases e
      have hown : World.ownsRow (w.alloc (.cells #[] 9)) w.heap.size 9 1 (.slice (some ⟨w.heap.size, 0, none⟩) 0 0) 0 [] := ⟨rfl, .inr ⟨w.heap.size, 0, #[], rfl, Nat.le_refl _, heap_alloc_new w _, Nat.le_refl _, Nat.zero_le _, rfl, rfl⟩⟩
      have hc2 : ∀ j u, vs[j]? = some u → (w.alloc (.cells #[] 9)).cell? ((⟨g, o, none⟩ : Addr).add j) = some u := fun j u hj => (h0.cell1 (World.block_lt_of_cell? w _ (hc j u hj))).trans (hc j u hj)
      have q3 : 0 + n ≤ maxLen := by unfold maxLen; omega
      have q4 : (0 + n) * 16 ≤ 140737488355328 := by omega
      have hsz := h0.size
      have HC := Lib.hid hc2
      have H0 := Lib.hid h0
      clear h hc hc2 h0
      go_enter Tryz.func84, Tryz.ntmps84
      go_wp2_with (first
        | (at_builtin
           refine wpList_append_lies _ rfl _ _ 22 rfl w.heap.size 9 i0 (.string ByteArray.empty) 1 16 Tryz.underlying22 hi hz0 hz1 hz2 rfl (by decide) _ 0 [] rfl hown ⟨g, o, none⟩ n cap vs rfl hl HC.out h1 hp q3 q4 hsz _ rfl ?_
           intro g3 cap3 w3 hown3 hg3 hat hgl
           have HG := Lib.hid (And.intro hown3 hg3)
           clear hown3 hg3 hat hgl hown hsz))
      go_ret
      refine ⟨some ⟨g3, 0, none⟩, cap3, ?_, ?_, ?_⟩
      · first | rfl | (simp; done)
      · have := HG.out.1
        rw [Nat.zero_add, List.nil_append] at this
        exact this
      · exact ((H0.out.any (F := (w.heap.size ≤ ·))).grown HG.out.2 (fun q hq e => by have e : q = w.heap.size := Option.some.inj e; omega)).clear (fun i hi e => by have e : w.heap.size ≤ i := e; omega)
theorem append_none_type (B : Nat) (x : Addr) (cap : Nat) (w : World) (ty : TypeId) :
    (Builtin.append_ #[23, 23] ty #[.slice (some ⟨B, 0, none⟩) 0 0, .slice (some x) 0 cap]).run Tryz.prog w = .ok (.slice (some ⟨B, 0, none⟩) 0 0) w := by
  obtain ⟨ti, hi0, hz0, hz1, hz2⟩ := info_ty
  have hl := run_loadCells_list (P := Tryz.prog) w x [] (fun j v hj => by simp at hj)
  rw [List.length_nil] at hl
  simp [Builtin.append_, run_underlying Tryz.underlying23, sizeOf, typeInfo, hi0, hz1, Builtin.lenOf, Builtin.firstCells, storeCells, hl]
set_option maxRecDepth 100000 in
set_option maxHeartbeats 4000000 in
theorem clone_type (a : Option Addr) (n cap : Nat) (vs : List Value) (w : World) (hn : n ≤ 100) (hl : vs.length = n * 4) (h1 : ∀ u ∈ vs, u.oneCell' = true) (h : n = 0 ∨ ∃ g o, a = some ⟨g, o, none⟩ ∧ ∀ j u, vs[j]? = some u → w.cell? ((⟨g, o, none⟩ : Addr).add j) = some u) :
    Calls Tryz.prog 45 #[.slice a n cap] w fun y w' => ∃ a' cap', y = .returned (.slice a' n cap') ∧ w'.ownsRow w.heap.size 25 4 (.slice a' n cap') n vs ∧ Kept (fun _ => False) w w' := by
  obtain ⟨i0, hi, hz0, hz1, hz2⟩ := info_ty
  have h0 : Kept (fun _ => False) w (w.alloc (.cells #[] 25)) := (Kept.refl _ _).new _
  cases a with
  | none =>
    obtain rfl : n = 0 := by
      rcases h with h | ⟨g, o, e, _⟩
      · exact h
      · cases e
    obtain rfl : vs = [] := List.length_eq_zero_iff.1 (by omega)
    have heq : ∀ W, (binOp .eql 23 (.slice none 0 cap) (.slice none 0 0)).run Tryz.prog W = .ok (.bool true) W := fun W => Lib.run_eql_slice_nil W 23 25 none 0 cap 0 0 Tryz.underlying23
    go_enter Tryz.func45, Tryz.ntmps45
    go_wp2_with fail
    go_ret
    exact ⟨none, 0, rfl, World.ownsRow_nil _ _ _ _, Kept.refl _ _⟩
  | some x =>
    have heq : ∀ W, (binOp .eql 23 (.slice (some x) n cap) (.slice none 0 0)).run Tryz.prog W = .ok (.bool false) W := fun W => Lib.run_eql_slice_nil W 23 25 (some x) n cap 0 0 Tryz.underlying23
    rcases Nat.eq_zero_or_pos n with hz | hp
    · subst hz
      obtain rfl : vs = [] := List.length_eq_zero_iff.1 (by omega)
      have HA := Lib.hid (append_none_type w.heap.size x cap (w.alloc (.cells #[] 25)))
      go_enter Tryz.func45, Tryz.ntmps45
      go_wp2_with (first
        | (at_builtin; refine wpList_append_run rfl _ _ _ _ rfl _ (w.alloc (.cells #[] 25)) (HA.out _) ?_))
      go_ret
      exact ⟨some ⟨w.heap.size, 0, none⟩, 0, rfl, ⟨rfl, .inr ⟨w.heap.size, 0, #[], rfl, Nat.le_refl _, heap_alloc_new w _, Nat.le_refl _, Nat.zero_le _, rfl, rfl⟩⟩, h0⟩
    · obtain ⟨g, o, e, hc⟩ := h.resolve_left (by omega)
      cases e
      have hown : World.ownsRow (w.alloc (.cells #[] 25)) w.heap.size 25 4 (.slice (some ⟨w.heap.size, 0, none⟩) 0 0) 0 [] := ⟨rfl, .inr ⟨w.heap.size, 0, #[], rfl, Nat.le_refl _, heap_alloc_new w _, Nat.le_refl _, Nat.zero_le _, rfl, rfl⟩⟩
      have hc2 : ∀ j u, vs[j]? = some u → (w.alloc (.cells #[] 25)).cell? ((⟨g, o, none⟩ : Addr).add j) = some u := fun j u hj => (h0.cell1 (World.block_lt_of_cell? w _ (hc j u hj))).trans (hc j u hj)
      have q3 : 0 + n ≤ maxLen := by unfold maxLen; omega
      have q4 : (0 + n) * 64 ≤ 140737488355328 := by omega
      have hsz := h0.size
      have HC := Lib.hid hc2
      have H0 := Lib.hid h0
      clear h hc hc2 h0
      go_enter Tryz.func45, Tryz.ntmps45
      go_wp2_with (first
        | (at_builtin
           refine wpList_append_lies _ rfl _ _ 23 rfl w.heap.size 25 i0 (.agg #[.int .i64 0, .slice none 0 0, .slice none 0 0, .int .i64 0]) 4 64 Tryz.underlying23 hi hz0 hz1 hz2 rfl (by decide) _ 0 [] rfl hown ⟨g, o, none⟩ n cap vs rfl hl HC.out h1 hp q3 q4 hsz _ rfl ?_
           intro g3 cap3 w3 hown3 hg3 hat hgl
           have HG := Lib.hid (And.intro hown3 hg3)
           clear hown3 hg3 hat hgl hown hsz))
      go_ret
      refine ⟨some ⟨g3, 0, none⟩, cap3, ?_, ?_, ?_⟩
      · first | rfl | (simp; done)
      · have := HG.out.1
        rw [Nat.zero_add, List.nil_append] at this
        exact this
      · exact ((H0.out.any (F := (w.heap.size ≤ ·))).grown HG.out.2 (fun q hq e => by have e : q = w.heap.size := Option.some.inj e; omega)).clear (fun i hi e => by have e : w.heap.size ≤ i := e; omega)
end Go.Proofs.YtikgkjkgdlnekaaGreatDoor

/- ctype: core types, one behind the other. -/
set_option linter.unusedVariables false
set_option linter.unusedSimpArgs false
namespace Go.Proofs.YtikgkjkgdlnekaaGreatDoor
open Go.RowKit
open Lex Ct

theorem behL_small {k : Nat} {l : List Ty} (hs : csum k l ≤ 40000) (i : Nat) : (behL (coreK k) (l.take i)).length ≤ 80000 := by
  have h1 := behL_len (coreK_len k) (l.take i)
  have h2 := csum_take k i l
  omega
theorem one_ints (ys : List Int) : ∀ u ∈ ys.map (Value.int .i64), u.oneCell' = true := by
  intro u hu
  obtain ⟨z, _, rfl⟩ := List.mem_map.1 hu
  rfl
end Go.Proofs.YtikgkjkgdlnekaaGreatDoor

/- ctype: core types, one over the other. -/
set_option linter.unusedVariables false
set_option linter.unusedSimpArgs false
namespace Go.Proofs.YtikgkjkgdlnekaaGreatDoor
open Go.RowKit
open Lex Ct

/-- A row that is read while another one is written. -/
def CsAt (w : World) (av : Option Addr) (cs : List Int) (g : Nat) : Prop := ∀ (q : Nat) (c : Int), cs[q]? = some c → ∃ g2, av = some ⟨g2, 0, none⟩ ∧ g2 ≠ g ∧ g2 < w.heap.size ∧ w.cell? ⟨g2, q, none⟩ = some (.int .i64 c)
theorem CsAt.of {b : Nat} {av : Option Addr} {cap g : Nat} {cs : List Int} {w : World} (h : Ints b (.slice av cs.length cap) cs w) (hg : g < b) : CsAt w av cs g := by
  intro q c hq
  have hne : cs ≠ [] := by rintro rfl; cases hq
  obtain ⟨g2, rfl, h1, h2, _, _, h3⟩ := h.at hne
  refine ⟨g2, rfl, by omega, h2, ?_⟩
  have := h3 q (.int .i64 c) (by rw [List.getElem?_map, hq]; rfl)
  have hadd : (⟨g2, 0, none⟩ : Addr).add q = ⟨g2, q, none⟩ := by unfold Addr.add; split <;> simp_all
  rw [hadd] at this
  exact this
theorem CsAt.grown {w w' : World} {av : Option Addr} {cs : List Int} {g g' : Nat} (h : CsAt w av cs g) (hk : ∀ k, k < w.heap.size → k ≠ g → w'.heap[k]? = w.heap[k]?) (hz : w.heap.size ≤ w'.heap.size) (hg : g' = g ∨ w.heap.size ≤ g') : CsAt w' av cs g' := by
  intro q c hq
  obtain ⟨g2, e, h1, h2, h3⟩ := h q c hq
  exact ⟨g2, e, by omega, by omega, (cell_of (hk g2 h2 h1)).trans h3⟩
theorem ovF_small {k : Nat} {l : List Ty} (hs : csum k l ≤ 40000) (i : Nat) : 1 ≤ (ovF (coreK k) (l.take i)).length ∧ (ovF (coreK k) (l.take i)).length ≤ 80001 := by
  have h1 := ovF_len (coreK_len k) (l.take i) [127] 0 (Nat.le_refl _) (Nat.le_refl _)
  have h2 := csum_take k i l
  unfold ovF
  omega
end Go.Proofs.YtikgkjkgdlnekaaGreatDoor

/- ctype: a type's core types; Flat, Args. -/
set_option linter.unusedVariables false
set_option linter.unusedSimpArgs false
namespace Go.Proofs.YtikgkjkgdlnekaaGreatDoor
open Go.RowKit
open Lex Ct

theorem CoreR.lit (w : World) (T : Obj) (xs : List Int) (hl : xs.length ≤ maxLen) (hne : xs ≠ []) (cs : Array Value) (hcs : cs.toList = xs.map (Value.int .i64)) :
    CoreR xs w (.returned (.slice (some ⟨w.heap.size + 1, 0, Option.none⟩) xs.length xs.length)) ((w.alloc T).alloc (.cells cs 3)) := by
  refine ⟨some ⟨w.heap.size + 1, 0, Option.none⟩, xs.length, rfl, ?_, fun e => absurd e hne, ((Kept.refl _ _).new _).new _⟩
  have h1 := World.ownsRow_lit (base := w.heap.size) (e := 3) (size := 1) (w.alloc T) cs xs.length (by simp) hl (by rw [← Array.length_toList, hcs, List.length_map, Nat.mul_one])
  rw [World.size_alloc, hcs] at h1
  exact h1
theorem CoreR.past {xs : List Int} {w w1 w' : World} {y : Ending} (h : CoreR xs w1 y w') (k : Kept (fun _ => False) w w1) : CoreR xs w y w' := by
  obtain ⟨av, cap, e, h1, h2, h3⟩ := h
  exact ⟨av, cap, e, Ints.mono h1 k.size, h2, k.trans h3⟩
end Go.Proofs.YtikgkjkgdlnekaaGreatDoor

/- ctype: Places; the examples. -/
set_option linter.unusedVariables false
set_option linter.unusedSimpArgs false
namespace Go.Proofs.YtikgkjkgdlnekaaGreatDoor
open Go.RowKit
open Lex Ct

/-- A row of numbers, given. -/
def IntR (xs : List Int) (w : World) (y : Ending) (w' : World) : Prop := ∃ av cap, y = .returned (.slice av xs.length cap) ∧ Ints w.heap.size (.slice av xs.length cap) xs w' ∧ Kept (fun _ => False) w w'
theorem CoreR.int {xs : List Int} {w w' : World} {y : Ending} (h : CoreR xs w y w') : IntR xs w y w' := by
  obtain ⟨av, cap, e, h1, _, h3⟩ := h
  exact ⟨av, cap, e, h1, h3⟩
def ints (l : List Nat) : List Int := l.map fun n : Nat => ((n : Nat) : Int)
theorem FieldsR.open {pl : List Nat} {V : Nat × Nat} {w w' : World} {y : Ending} (h : FieldsR pl V w y w') : ∃ av cap, y = .returned (.tuple #[.slice av (ints pl).length cap, cV V]) ∧ Ints w.heap.size (.slice av (ints pl).length cap) (ints pl) w' ∧ Kept (fun _ => False) w w' := by
  obtain ⟨v, e, h1, h2⟩ := h
  have hl : (ints pl).length = pl.length := by unfold ints; rw [List.length_map]
  have hm : (ints pl).map (Value.int .i64) = pl.map fun n => Value.int .i64 (n : Nat) := by unfold ints; rw [List.map_map]; rfl
  unfold Ints
  rw [hl, hm]
  rcases h1.2 with ⟨e2, e3⟩ | ⟨g, cap, cur, e2, _⟩
  · subst e2
    rw [e3] at h1 ⊢
    exact ⟨none, 0, e, h1, h2⟩
  · subst e2
    exact ⟨_, cap, e, h1, h2⟩
theorem fld_kd (kd : Int) (vn : Value) (a : Option Addr) (m c : Nat) (r : Int) : ∀ w : World, (Instr.field 25 (.agg #[.int .i64 kd, vn, .slice a m c, .int .i64 r]) 0).run Tryz.prog w = .ok (.int .i64 kd) w := fun _ => by kernel_rfl
theorem plainT_kind (t : Ty) : (plainT t).kind = if t.kind = 14 then 13 else if t.kind = 16 then 15 else if t.kind = 17 ∧ t.l.length = 1 then 15 else if t.kind = 18 ∧ t.l.length = 2 then 15 else t.kind := by
  unfold plainT
  repeat' split
  all_goals rfl
def placesL (t : Ty) : List Nat := if okT t = true ∧ (t.kind = 13 ∨ t.kind = 14) then (fldS (lieK 15) t.l).1 else []
end Go.Proofs.YtikgkjkgdlnekaaGreatDoor

/- ctype: Places, Case. -/
set_option linter.unusedVariables false
set_option linter.unusedSimpArgs false
namespace Go.Proofs.YtikgkjkgdlnekaaGreatDoor
open Go.RowKit
open Lex Ct

theorem okT_zero {t : Ty} (h : okT t = true) : t.kind ≠ 0 := by
  intro e
  have h1 := (okT_deep h).1
  unfold deepK shapedB at h1
  rw [e] at h1
  simp [okW] at h1
theorem okT_lens {t : Ty} (h : okT t = true) : t.names.length ≤ 64 ∧ t.l.length ≤ 64 ∧ (plainL t).length ≤ 64 :=
  ⟨(plainL_len (okT_fit h) (okT_zero h)).2.1, (plainL_len (okT_fit h) (okT_zero h)).2.2, (plainL_len (okT_fit h) (okT_zero h)).1⟩
/-- PLAIN, of a type that may be. -/
theorem rdPlain_ok (t : Ty) (an : Option Addr) (cn : Nat) (al : Option Addr) (cl : Nat) (w : World) (h : TyAt w t an cn al cl) (ho : okT t = true) :
    Calls Tryz.prog 65 #[tyV t an cn al cl] w (PlainR (plainT t) w) := rdPlain_all t an cn al cl w h (fun _ => (okT_lens ho).2.1) (okT_lens ho).1
def caseP (t : Ty) : Nat × Nat := if (plainT t).kind = 15 then (casB (plainL t).length, casAt (lieK 15) (plainL t)) else (0, 0)
end Go.Proofs.YtikgkjkgdlnekaaGreatDoor

/- ctype: clone: the rows' clones as trees. -/
set_option linter.unusedVariables false
set_option linter.unusedSimpArgs false
namespace Go.Proofs.YtikgkjkgdlnekaaGreatDoor
open Go.RowKit
open Lex Ct

theorem LiesL.one {P : Nat → Prop} {w : World} {xs : List U} {vs : List Value} (h : LiesL P w xs vs) : ∀ u ∈ vs, u.oneCell' = true := LiesL.oneCell h
theorem lies_open {P : Nat → Prop} {w : World} {T : TypeId} {m n : Nat} {us : List U} {a : Option Addr} {cap : Nat} (h : LiesU P w (.sl T m n us) (.slice a n cap)) :
    ∃ vs, LiesL P w us vs ∧ vs.length = n * m ∧ (n = 0 ∨ ∃ g o, a = some ⟨g, o, none⟩ ∧ ∀ j u, vs[j]? = some u → w.cell? ((⟨g, o, none⟩ : Addr).add j) = some u) := by
  unfold LiesU at h
  obtain ⟨a2, cap2, vs, e, h1, h2, h3, h4, h5⟩ := h
  cases e
  refine ⟨vs, h4, by rw [h4.length, h3], ?_⟩
  rcases h5 with h5 | ⟨g, o, e2, hp, hg, hc⟩
  · exact .inl h5
  · refine .inr ⟨g, o, e2, fun j u hj => ?_⟩
    rw [Addr.add_lit]
    exact hc j u hj
theorem row_lies {P : Nat → Prop} {w : World} {T : TypeId} {m n base : Nat} {us : List U} {vs : List Value} {a : Option Addr} {cap : Nat} (ho : w.ownsRow base T m (.slice a n cap) n vs) (hl : LiesL P w us vs) (hu : us.length = n * m) (hP : ∀ g, base ≤ g → P g) :
    LiesU P w (.sl T m n us) (.slice a n cap) := by
  unfold LiesU
  rcases ho.2 with ⟨e, h0⟩ | ⟨g, cp, cur, e, hb, hg, hc, hm, h3, h4⟩
  · cases e
    exact ⟨none, 0, vs, rfl, Nat.le_refl _, by omega, hu, hl, .inl rfl⟩
  · cases e
    refine ⟨_, _, vs, rfl, hc, hm, hu, hl, .inr ⟨g, 0, rfl, hP g hb, (Array.getElem?_eq_some_iff.1 hg).1, fun j v hj => ?_⟩⟩
    have := World.ownsRow.cells ho rfl j v hj
    rw [Addr.add_lit] at this
    exact this
theorem texts_lie {P Q : Nat → Prop} {w w' : World} : ∀ (l : List Nm) {vs : List Value}, LiesL P w (l.map .s) vs → LiesL Q w' (l.map .s) vs
  | [], vs, h => by rw [h.inv_nil]; exact .nil
  | b :: r, vs, h => by
    obtain ⟨v, t, rfl, h1, h2⟩ := LiesL.inv h
    refine .cons ?_ (texts_lie r h2)
    unfold LiesU at h1 ⊢
    exact h1
/-- The clone of a row of texts. -/
theorem rdCloneN (l : List Nm) (a : Option Addr) (cap : Nat) (w : World) (h : LiesU AnyB w (strsU l) (.slice a l.length cap)) (hn : l.length ≤ 100) :
    Calls Tryz.prog 84 #[.slice a l.length cap] w fun y w' => ∃ a' cap', y = .returned (.slice a' l.length cap') ∧ LiesU (w.heap.size ≤ ·) w' (strsU l) (.slice a' l.length cap') ∧ Kept (fun _ => False) w w' := by
  obtain ⟨vs, h1, h2, h3⟩ := lies_open h
  refine (clone_text a l.length cap vs w hn h2 h1.one h3).mono ?_
  rintro y w' ⟨a', cap', rfl, ho, k⟩
  have hs : LiesL (w.heap.size ≤ ·) w' (l.map .s) vs := texts_lie l h1
  exact ⟨a', cap', rfl, row_lies ho hs (by simp) (fun g hg => hg), k⟩
/-- The clone of a row of types: where it lies, what is in it. -/
theorem rdCloneT (B : Nat) (l : List Ty) (a : Option Addr) (cap : Nat) (w : World) (h : LiesU (· < B) w (tysU l) (.slice a l.length cap)) (hn : l.length ≤ 100) :
    Calls Tryz.prog 45 #[.slice a l.length cap] w fun y w' => ∃ a' cap', y = .returned (.slice a' l.length cap') ∧ l.length ≤ cap' ∧ cap' ≤ maxLen ∧
      (l.length = 0 ∨ ∃ g cur, a' = some ⟨g, 0, none⟩ ∧ w.heap.size ≤ g ∧ BlkAt w' g cur 25 ∧ LiesL (· < B) w' (encTys l) (cur.toList.take (l.length * 4)) ∧ cur.size = cap' * 4) ∧ Kept (fun _ => False) w w' := by
  obtain ⟨vs, h1, h2, h3⟩ := lies_open h
  refine (clone_type a l.length cap vs w hn h2 h1.one h3).mono ?_
  rintro y w' ⟨a', cap', rfl, ho, k⟩
  have hl : LiesL (· < B) w' (encTys l) vs := h1.past k (fun _ e => e.elim)
  rcases ho.2 with ⟨e, h0⟩ | ⟨g, cp, cur, e, hb, hg, hc, hm, h3', h4⟩
  · obtain ⟨rfl, _, rfl⟩ : a' = none ∧ l.length = 0 ∧ cap' = 0 := by simpa using e
    exact ⟨none, 0, rfl, by omega, Nat.zero_le _, .inl h0, k⟩
  · obtain ⟨rfl, rfl⟩ : a' = some ⟨g, 0, none⟩ ∧ cap' = cp := by simpa using e
    exact ⟨_, _, rfl, hc, hm, .inr ⟨g, cur, rfl, hb, hg, by rw [h4]; exact hl, h3'⟩, k⟩
end Go.Proofs.YtikgkjkgdlnekaaGreatDoor

/- ctype: clone. -/
set_option linter.unusedVariables false
set_option linter.unusedSimpArgs false
namespace Go.Proofs.YtikgkjkgdlnekaaGreatDoor
open Go.RowKit
open Lex Ct

def cloK : Nat → Ty → Prop
  | 0, _ => False
  | k + 1, t => t.names.length ≤ 100 ∧ t.l.length ≤ 100 ∧ ∀ x ∈ t.l, cloK k x
/-- A clone, given: all that it leans on is new. -/
def CloR (t : Ty) (w : World) (y : Ending) (w' : World) : Prop := ∃ ap cp aq cq, y = .returned (tyV t ap cp aq cq) ∧ LiesU (w.heap.size ≤ ·) w' (strsU t.names) (.slice ap t.names.length cp) ∧ LiesU (w.heap.size ≤ ·) w' (tysU t.l) (.slice aq t.l.length cq) ∧ Kept (fun _ => False) w w'
def CloAt (k : Nat) : Prop := ∀ (t : Ty) (an : Option Addr) (cn : Nat) (al : Option Addr) (cl : Nat) (w : World), TyAt w t an cn al cl → cloK k t → Calls Tryz.prog 64 #[tyV t an cn al cl] w (CloR t w)
theorem put4 {L us rest : List Value} {m p : Nat} {a b c d a' b' c' d' : Value} (h : L.take m = us ++ ([a, b, c, d] ++ rest)) (hp : us.length = p) :
    ((((L.set p a').set (p + 1) b').set (p + 2) c').set (p + 3) d').take m = us ++ ([a', b', c', d'] ++ rest) := by
  subst hp
  rw [List.take_set, List.take_set, List.take_set, List.take_set, h]
  rw [List.set_append_right _ _ (Nat.le_refl _), List.set_append_right _ _ (by omega), List.set_append_right _ _ (by omega), List.set_append_right _ _ (by omega)]
  simp
/-- How far the loop is. -/
structure CloI (g n : Nat) (l : List Ty) (W2 : World) (wr : World) (i : Nat) : Prop where
  ex : ∃ cur us vs, BlkAt wr g cur 25 ∧ cur.toList.take (n * 4) = us ++ vs ∧ LiesL (g < ·) wr (encTys (l.take i)) us ∧ LiesL (· < g) wr (encTys (l.drop i)) vs
  kept : Kept (g = ·) W2 wr
theorem ix_type (b n cap k : Nat) (h : k < n) : ∀ W, (Instr.indexAt 23 (.slice (some ⟨b, 0, none⟩) n cap) (.int .i64 (k : Int))).run Tryz.prog W = .ok (.pointer (some ⟨b, k * 4, none⟩)) W := by
  intro W
  obtain ⟨ti, hi, hz, hs, hb⟩ := info_ty
  have hz : (Go.sizeOf 25).run Tryz.prog W = .ok 4 W := by simp [sizeOf, typeInfo, hi, hs]
  have he : Tryz.prog.elem 23 = 25 := by simp [Program.elem, Tryz.underlying23]
  rw [run_indexAt_slice W 23 ⟨b, 0, none⟩ n cap .i64 (k : Int) (by rw [he]; exact Tryz.underlying23), if_pos ⟨by omega, by omega⟩, he, hz]
  show Result.ok _ _ = _
  rw [Addr.add_lit, Int.toNat_natCast, Nat.zero_add]
/-- Element i, as it lies. -/
theorem CloI.at {g n : Nat} {l : List Ty} {W2 wr : World} {i : Nat} {x : Ty} (h : CloI g n l W2 wr i) (hx : l[i]? = some x) (hn : i < n) :
    ∃ cur us rest ax cx ay cy, BlkAt wr g cur 25 ∧ us.length = i * 4 ∧ cur.toList.take (n * 4) = us ++ ([.int .i64 x.kind, .slice ax x.names.length cx, .slice ay x.l.length cy, .int .i64 x.r] ++ rest) ∧ LiesL (g < ·) wr (encTys (l.take i)) us ∧ LiesL (· < g) wr (encTys (l.drop (i + 1))) rest ∧ TyAt wr x ax cx ay cy ∧
      wr.cell? ⟨g, i * 4, none⟩ = some (.int .i64 x.kind) ∧ wr.cell? ⟨g, i * 4 + 1, none⟩ = some (.slice ax x.names.length cx) ∧ wr.cell? ⟨g, i * 4 + 2, none⟩ = some (.slice ay x.l.length cy) ∧ wr.cell? ⟨g, i * 4 + 3, none⟩ = some (.int .i64 x.r) := by
  obtain ⟨cur, us, vs, h1, h2, h3, h4⟩ := h.ex
  have hd : l.drop i = x :: l.drop (i + 1) := by
    obtain ⟨hlt, e⟩ := List.getElem?_eq_some_iff.1 hx
    rw [List.drop_eq_getElem_cons hlt, e]
  rw [hd] at h4
  have e4 : encTys (x :: l.drop (i + 1)) = encTy x ++ encTys (l.drop (i + 1)) := rfl
  rw [e4] at h4
  obtain ⟨a4, rest, rfl, h5, h6⟩ := h4.split
  obtain ⟨ax, cx, ay, cy, rfl, ht⟩ := lies_ty h5
  have hul : us.length = i * 4 := by
    rw [h3.length, encTys_length, List.length_take]
    have := (List.getElem?_eq_some_iff.1 hx).1
    omega
  have hc : ∀ j u, ([.int .i64 x.kind, .slice ax x.names.length cx, .slice ay x.l.length cy, .int .i64 x.r] : List Value)[j]? = some u → wr.cell? ⟨g, i * 4 + j, none⟩ = some u := by
    intro j u hj
    have hj4 : j < 4 := by have := (List.getElem?_eq_some_iff.1 hj).1; simpa using this
    rw [h1.cell, ← Array.getElem?_toList, ← List.getElem?_take_of_lt (show i * 4 + j < n * 4 by omega), h2, ← hul, List.getElem?_append_right (Nat.le_add_right _ _), Nat.add_sub_cancel_left, List.getElem?_append_left (by simpa using hj4)]
    exact hj
  exact ⟨cur, us, rest, ax, cx, ay, cy, h1, hul, h2, h3, h6, ht, hc 0 _ rfl, hc 1 _ rfl, hc 2 _ rfl, hc 3 _ rfl⟩
/-- One element's clone, stored. -/
theorem CloI.step {g n : Nat} {l : List Ty} {W2 wr w3 : World} {i : Nat} {x : Ty} {cur : Array Value} {us rest : List Value} {ax ay ap aq : Option Addr} {cx cy cp cq : Nat} (hx : l[i]? = some x) (hk : Kept (g = ·) W2 wr) (k : Kept (fun _ => False) wr w3) (hgl : g < wr.heap.size)
    (hb : BlkAt wr g cur 25) (hul : us.length = i * 4) (h2 : cur.toList.take (n * 4) = us ++ ([.int .i64 x.kind, .slice ax x.names.length cx, .slice ay x.l.length cy, .int .i64 x.r] ++ rest)) (h3 : LiesL (g < ·) wr (encTys (l.take i)) us) (h4 : LiesL (· < g) wr (encTys (l.drop (i + 1))) rest)
    (hn : LiesU (wr.heap.size ≤ ·) w3 (strsU x.names) (.slice ap x.names.length cp)) (hl : LiesU (wr.heap.size ≤ ·) w3 (tysU x.l) (.slice aq x.l.length cq)) :
    CloI g n l W2 ((((w3.setCell ⟨g, i * 4, none⟩ (.int .i64 x.kind)).setCell ⟨g, i * 4 + 1, none⟩ (.slice ap x.names.length cp)).setCell ⟨g, i * 4 + 2, none⟩ (.slice aq x.l.length cq)).setCell ⟨g, i * 4 + 3, none⟩ (.int .i64 x.r)) (i + 1) := by
  have k4 : Kept (g = ·) w3 ((((w3.setCell ⟨g, i * 4, none⟩ (.int .i64 x.kind)).setCell ⟨g, i * 4 + 1, none⟩ (.slice ap x.names.length cp)).setCell ⟨g, i * 4 + 2, none⟩ (.slice aq x.l.length cq)).setCell ⟨g, i * 4 + 3, none⟩ (.int .i64 x.r)) :=
    ((((Kept.refl (g = ·) w3).set (p := ⟨g, i * 4, none⟩) rfl _).set (p := ⟨g, i * 4 + 1, none⟩) rfl _).set (p := ⟨g, i * 4 + 2, none⟩) rfl _).set (p := ⟨g, i * 4 + 3, none⟩) rfl _
  have b4 := ((((hb.kept (F := fun _ => False) k id).put (i * 4) (.int .i64 x.kind)).put (i * 4 + 1) (.slice ap x.names.length cp)).put (i * 4 + 2) (.slice aq x.l.length cq)).put (i * 4 + 3) (.int .i64 x.r)
  have kk : Kept (g = ·) wr _ := (k.any (F := (g = ·))).trans k4
  have hsz := k.size
  refine ⟨⟨_, us ++ [.int .i64 x.kind, .slice ap x.names.length cp, .slice aq x.l.length cq, .int .i64 x.r], rest, b4, ?_, ?_, h4.next (kk.agree fun b hb' _ e => by have hb' : b < g := hb'; have e : g = b := e; omega) kk.size (fun _ q _ => q)⟩, hk.trans kk⟩
  · simp only [Array.toList_setIfInBounds]
    rw [put4 h2 hul, List.append_assoc]
  · have et : l.take (i + 1) = l.take i ++ [x] := by rw [List.take_add_one, hx, Option.toList_some]
    rw [et, encTys_append, encTys_one]
    refine (h3.next (kk.agree fun b hb' _ e => by have hb' : g < b := hb'; have e : g = b := e; omega) kk.size (fun _ q _ => q)).append (ty_lies ?_ ?_)
    · exact LiesU.next (k4.agree fun b hb' _ e => by have hb' : wr.heap.size ≤ b := hb'; have e : g = b := e; omega) k4.size (fun b q _ => by have q : wr.heap.size ≤ b := q; show g < b; omega) hn
    · exact LiesU.next (k4.agree fun b hb' _ e => by have hb' : wr.heap.size ≤ b := hb'; have e : g = b := e; omega) k4.size (fun b q _ => by have q : wr.heap.size ≤ b := q; show g < b; omega) hl
end Go.Proofs.YtikgkjkgdlnekaaGreatDoor

/- ctype: clone: the walk. -/
set_option linter.unusedVariables false
set_option linter.unusedSimpArgs false
namespace Go.Proofs.YtikgkjkgdlnekaaGreatDoor
open Go.RowKit
open Lex Ct

/-- What stands behind the loop: put together. -/
theorem CloR.of {t : Ty} {w w1 w2 wr : World} {g : Nat} {a1 a2 : Option Addr} {c1 c2 : Nat} (hk1 : Kept (fun _ => False) w w1) (hs1 : w.heap.size + 2 ≤ w1.heap.size)
    (hn : LiesU (w.heap.size + 2 ≤ ·) w1 (strsU t.names) (.slice a1 t.names.length c1))
    (k2 : Kept (fun _ => False) (w1.setCell ⟨w.heap.size, 1, none⟩ (.slice a1 t.names.length c1)) w2) (hg : w1.heap.size ≤ g)
    (kr : Kept (g = ·) (w2.setCell ⟨w.heap.size, 2, none⟩ (.slice a2 t.l.length c2)) wr)
    (hl : LiesU (g ≤ ·) wr (tysU t.l) (.slice a2 t.l.length c2)) :
    CloR t w (.returned (tyV t a1 c1 a2 c2)) ((((wr.setCell ⟨w.heap.size + 1, 0, none⟩ (.int .i64 t.kind)).setCell ⟨w.heap.size + 1, 1, none⟩ (.slice a1 t.names.length c1)).setCell ⟨w.heap.size + 1, 2, none⟩ (.slice a2 t.l.length c2)).setCell ⟨w.heap.size + 1, 3, none⟩ (.int .i64 t.r)) := by
  have k4 : Kept (fun b => b = w.heap.size + 1) wr ((((wr.setCell ⟨w.heap.size + 1, 0, none⟩ (.int .i64 t.kind)).setCell ⟨w.heap.size + 1, 1, none⟩ (.slice a1 t.names.length c1)).setCell ⟨w.heap.size + 1, 2, none⟩ (.slice a2 t.l.length c2)).setCell ⟨w.heap.size + 1, 3, none⟩ (.int .i64 t.r)) :=
    ((((Kept.refl (fun b => b = w.heap.size + 1) wr).set (p := ⟨w.heap.size + 1, 0, none⟩) rfl _).set (p := ⟨w.heap.size + 1, 1, none⟩) rfl _).set (p := ⟨w.heap.size + 1, 2, none⟩) rfl _).set (p := ⟨w.heap.size + 1, 3, none⟩) rfl _
  have ka : Kept (fun b => b = w.heap.size ∨ b = w.heap.size + 1 ∨ g = b) w1 (w1.setCell ⟨w.heap.size, 1, none⟩ (.slice a1 t.names.length c1)) := (Kept.refl _ w1).set (p := ⟨w.heap.size, 1, none⟩) (.inl rfl) _
  have kb : Kept (fun b => b = w.heap.size ∨ b = w.heap.size + 1 ∨ g = b) w2 (w2.setCell ⟨w.heap.size, 2, none⟩ (.slice a2 t.l.length c2)) := (Kept.refl _ w2).set (p := ⟨w.heap.size, 2, none⟩) (.inl rfl) _
  have kall := (((ka.trans k2.any).trans kb).trans (kr.mono fun _ e => .inr (.inr e))).trans (k4.mono fun _ e => .inr (.inl e))
  refine ⟨a1, c1, a2, c2, rfl, ?_, ?_, ?_⟩
  · have h1 : LiesU (fun b => w.heap.size + 2 ≤ b ∧ b < w1.heap.size) w1 (strsU t.names) (.slice a1 t.names.length c1) := LiesU.next (fun _ _ _ => rfl) (Nat.le_refl _) (fun b q hb => ⟨q, hb⟩) hn
    refine LiesU.next (kall.agree fun b hb _ e => ?_) kall.size (fun b q _ => ?_) h1
    · have hb : w.heap.size + 2 ≤ b ∧ b < w1.heap.size := hb
      rcases e with e | e | e <;> omega
    · have q : w.heap.size + 2 ≤ b ∧ b < w1.heap.size := q
      show w.heap.size ≤ b
      omega
  · refine LiesU.next (k4.agree fun b hb _ e => ?_) k4.size (fun b q _ => ?_) hl
    · have hb : g ≤ b := hb
      omega
    · have q : g ≤ b := q
      show w.heap.size ≤ b
      omega
  · exact ((hk1.any (F := (w.heap.size ≤ ·))).trans (kall.mono fun b e => by show w.heap.size ≤ b; rcases e with e | e | e <;> omega)).clear (fun i hi e => by have e : w.heap.size ≤ i := e; omega)
theorem CloI.done {g n c : Nat} {l : List Ty} {W2 wr : World} (h : CloI g n l W2 wr n) (hn : l.length = n) (h1 : n ≤ c) (h2 : c ≤ maxLen) : LiesU (g ≤ ·) wr (tysU l) (.slice (some ⟨g, 0, none⟩) l.length c) := by
  obtain ⟨cur, us, vs, hb, ht, hl, hv⟩ := h.ex
  subst hn
  rw [List.drop_length] at hv
  have e := hv.inv_nil
  subst e
  rw [List.append_nil] at ht
  rw [List.take_length] at hl
  unfold LiesU
  refine ⟨_, c, us, rfl, h1, h2, encTys_length l, hl.next (fun _ _ _ => rfl) (Nat.le_refl _) (fun b q _ => Nat.le_of_lt q), .inr ⟨g, 0, rfl, Nat.le_refl _, hb.lt, fun j v hj => ?_⟩⟩
  have hjl : j < l.length * 4 := by
    have := (List.getElem?_eq_some_iff.1 hj).1
    rw [hl.length, encTys_length] at this
    exact this
  rw [hb.cell, Nat.zero_add, ← Array.getElem?_toList, ← List.getElem?_take_of_lt hjl, ht]
  exact hj
theorem lies_more {m N : Nat} {w : World} {u : U} {v : Value} (h : LiesU (N ≤ ·) w u v) (e : m ≤ N) : LiesU (m ≤ ·) w u v := LiesU.next (fun _ _ _ => rfl) (Nat.le_refl _) (fun b q _ => Nat.le_trans e q) h
set_option maxRecDepth 100000 in
set_option maxHeartbeats 8000000 in
theorem clone_step (k : Nat) (IH : CloAt k) (t : Ty) (an : Option Addr) (cn : Nat) (al : Option Addr) (cl : Nat) (w : World) (h : TyAt w t an cn al cl) (hf : cloK (k + 1) t) :
    Calls Tryz.prog 64 #[tyV t an cn al cl] w (CloR t w) := by
  have hf1 : t.names.length ≤ 100 := hf.1
  have hf2 : t.l.length ≤ 100 := hf.2.1
  have hf3 : ∀ x ∈ t.l, cloK k x := hf.2.2
  have k0 : Kept (fun _ => False) w ((w.alloc (.cells #[.int .i64 t.kind, .slice an t.names.length cn, .slice al t.l.length cl, .int .i64 t.r] 25)).alloc (.cells #[.int .i64 0, .slice none 0 0, .slice none 0 0, .int .i64 0] 25)) := ((Kept.refl _ _).new _).new _
  have S0 := (BlkAt.new w #[.int .i64 t.kind, .slice an t.names.length cn, .slice al t.l.length cl, .int .i64 t.r] 25).kept (F := fun _ => False) ((Kept.refl _ _).new (.cells #[.int .i64 0, .slice none 0 0, .slice none 0 0, .int .i64 0] 25)) id
  have F0 := BlkAt.new (w.alloc (.cells #[.int .i64 t.kind, .slice an t.names.length cn, .slice al t.l.length cl, .int .i64 t.r] 25)) #[.int .i64 0, .slice none 0 0, .slice none 0 0, .int .i64 0] 25
  rw [World.size_alloc] at F0
  have HN := Lib.hid (fun w' (k' : Kept (fun _ => False) w w') => rdCloneN t.names an cn w' (h.kept k').n hf1)
  have HT := Lib.hid (fun w' (k' : Kept (fun _ => False) w w') => rdCloneT w.heap.size t.l al cl w' (h.l.now.past k' (fun _ e => e.elim)) hf2)
  have HK := Lib.hid k0
  have HF := Lib.hid F0
  have HS := Lib.hid S0
  have HI := Lib.hid IH
  have H3 := Lib.hid hf3
  have hlen : (t.l.length : Int) ≤ 9223372036854775807 := by omega
  clear h hf hf1 hf2 hf3 k0 S0 F0 IH
  go_enter Tryz.func64, Tryz.ntmps64
  go_wp2_with (first
    | (go_at_call 84; refine (HN.out _ HK.out).mono ?_; rintro y w1 ⟨a1, c1, rfl, i1, k1⟩
       have HB1 := Lib.hid (HS.out.kept (F := fun _ => False) k1 id)
       have HR1 := Lib.hid (HF.out.kept (F := fun _ => False) k1 id)
       have b1 := HB1.out.cell 1
       have z1 := HB1.out.frozen 1
       simp at b1
       have HL1 := Lib.hid i1
       have HK1 := Lib.hid (HK.out.trans k1)
       have B2 := HB1.out.put 1 (.slice a1 t.names.length c1)
       simp at B2
       have HB2 := Lib.hid B2
       obtain ⟨u0, u1, u2, u3⟩ := boxT_cells B2
       have v2 := B2.frozen 2
       have HK2 : Hid (Kept (fun _ => False) w (w1.setCell ⟨w.heap.size, 1, none⟩ (.slice a1 t.names.length c1))) := Lib.hid (((HK1.out.any (F := (w.heap.size ≤ ·))).set (p := ⟨w.heap.size, 1, none⟩) (Nat.le_refl _) _).clear (fun i hi e => by have e : w.heap.size ≤ i := e; omega))
       clear i1 k1 B2)
    | (go_at_call 45; refine (HT.out _ HK2.out).mono ?_; rintro y w2 ⟨a2, c2, rfl, j1, j2, j3, k2⟩
       have HB3 := Lib.hid (HB2.out.kept (F := fun _ => False) k2 id)
       have b2 := HB3.out.cell 2
       have z2 := HB3.out.frozen 2
       simp at b2
       have B4 := HB3.out.put 2 (.slice a2 t.l.length c2)
       simp at B4
       have HB4 := Lib.hid B4
       obtain ⟨x0, x1, x2, x3⟩ := boxT_cells B4
       have HJ := Lib.hid (And.intro j1 (And.intro j2 j3))
       have HQ2 := Lib.hid k2
       clear j1 j2 j3 k2 B4 u0 u1 u2 u3 v2 b1 z1))
  have HR2 : Hid (BlkAt (w2.setCell ⟨w.heap.size, 2, none⟩ (.slice a2 t.l.length c2)) (w.heap.size + 1) #[.int .i64 0, .slice none 0 0, .slice none 0 0, .int .i64 0] 25) := Lib.hid (((HR1.out.other (b' := w.heap.size) (by omega) 1 _).kept (F := fun _ => False) HQ2.out id).other (b' := w.heap.size) (by omega) 2 _)
  have hs1 : w.heap.size + 2 ≤ w1.heap.size := by have := HR1.out.lt; omega
  clear b2 z2
  have HL2 : Hid (LiesU (w.heap.size + 2 ≤ ·) w1 (strsU t.names) (.slice a1 t.names.length c1)) := Lib.hid (by have := HL1.out; rw [World.size_alloc, World.size_alloc] at this; exact this)
  rcases HJ.out.2.2 with h0 | ⟨g, cur, rfl, hg, hb, hl, hsz⟩
  · have e0 : decide (0 < t.l.length) = false := by rw [h0]; rfl
    have e1 : decide ((0 : Int) < (t.l.length : Int)) = false := by rw [h0]; rfl
    have H0 := Lib.hid h0
    clear h0
    have r0 := HR2.out.cell 0
    have r1 := HR2.out.cell 1
    have r2 := HR2.out.cell 2
    have r3 := HR2.out.cell 3
    simp at r0 r1 r2 r3
    have y0 := HR2.out.frozen 0
    have y1 := HR2.out.frozen 1
    have y2 := HR2.out.frozen 2
    have y3 := HR2.out.frozen 3
    go_loopw [16] (fun v wr => v = .int .i64 0 ∧ wr = (w2.setCell ⟨w.heap.size, 2, none⟩ (.slice a2 t.l.length c2))) (fun _ _ => 0)
    case atStart => exact ⟨rfl, rfl⟩
    case round =>
      obtain ⟨rfl, rfl⟩ := hrel
      go_wp2_with fail
      have G := (((HR2.out.put 0 (.int .i64 t.kind)).put 1 (.slice a1 t.names.length c1)).put 2 (.slice a2 t.l.length c2)).put 3 (.int .i64 t.r)
      have q0 := G.cell 0
      have q1 := G.cell 1
      have q2 := G.cell 2
      have q3 := G.cell 3
      simp at q0 q1 q2 q3
      refine bodyPost_ret (v := tyV t a1 c1 a2 c2) (by simp [results, Tryz.results64, go_sem, q0, q1, q2, q3]) rfl ?_
      refine CloR.of HK1.out hs1 HL2.out HQ2.out (Nat.le_refl _) (Kept.refl _ _) ?_
      obtain e := List.length_eq_zero_iff.1 H0.out
      have j1 := HJ.out.1
      have j2 := HJ.out.2.1
      rw [e] at j1 ⊢
      unfold LiesU
      exact ⟨_, _, [], rfl, j1, j2, rfl, .nil, .inl rfl⟩
  · have hgw : w1.heap.size ≤ g := by have := hg; simpa using this
    have hgB : g ≠ w.heap.size := by omega
    have HG0 : Hid (CloI g t.l.length t.l (w2.setCell ⟨w.heap.size, 2, none⟩ (.slice (some ⟨g, 0, none⟩) t.l.length c2)) (w2.setCell ⟨w.heap.size, 2, none⟩ (.slice (some ⟨g, 0, none⟩) t.l.length c2)) 0) := Lib.hid ⟨⟨cur, [], _, hb.other hgB 2 _, rfl, by rw [List.take_zero]; exact .nil, by
      have h5 : LiesL (· < w.heap.size) (w2.setCell ⟨w.heap.size, 2, none⟩ (.slice (some ⟨g, 0, none⟩) t.l.length c2)) (encTys t.l) (cur.toList.take (t.l.length * 4)) := hl.past ((Kept.refl (fun b => b = w.heap.size) w2).set (p := ⟨w.heap.size, 2, none⟩) rfl _) (fun b e => by have e : b = w.heap.size := e; omega)
      rw [List.drop_zero]
      exact h5.next (fun _ _ _ => rfl) (Nat.le_refl _) (fun b q _ => by have q : b < w.heap.size := q; show b < g; omega)⟩, Kept.refl _ _⟩
    have HCP := Lib.hid (And.intro HJ.out.1 HJ.out.2.1)
    clear hb hl hsz hg HJ
    go_loopw [16] (fun v wr => ∃ i : Nat, v = .int .i64 i ∧ i ≤ t.l.length ∧ Hid (CloI g t.l.length t.l (w2.setCell ⟨w.heap.size, 2, none⟩ (.slice (some ⟨g, 0, none⟩) t.l.length c2)) wr i)) (fun v _ => t.l.length - (intOf v).toNat)
    case atStart => exact ⟨0, rfl, Nat.zero_le _, HG0⟩
    case round =>
      obtain ⟨i, rfl, hi, hst⟩ := hrel
      clear x0 x1 x2 x3 HG0
      have HB5 : Hid (BlkAt wr w.heap.size #[.int .i64 t.kind, .slice a1 t.names.length c1, .slice (some ⟨g, 0, none⟩) t.l.length c2, .int .i64 t.r] 25) := Lib.hid (HB4.out.kept hst.out.kept hgB)
      have hgR : g ≠ w.heap.size + 1 := by omega
      by_cases hlt : i < t.l.length
      · obtain ⟨x, hx⟩ : ∃ x, t.l[i]? = some x := ⟨_, List.getElem?_eq_getElem hlt⟩
        obtain ⟨cu, us, rest, ax, cx, ay, cy, hb, hul, hct, hl1, hl2, htx, e0, e1, e2, e3⟩ := hst.out.at hx hlt
        have hix := ix_type g t.l.length c2 i hlt
        have HE := Lib.hid (And.intro hb (And.intro hul (And.intro hct (And.intro hl1 hl2))))
        have HX := Lib.hid htx
        clear hb hul hct hl1 hl2 htx
        have hgl : g < wr.heap.size := HE.out.1.lt
        have q0 : Kept (fun _ => False) (wr.alloc (.cells #[.int .i64 x.kind, .slice ax x.names.length cx, .slice ay x.l.length cy, .int .i64 x.r] 25)) (wr.alloc (.cells #[.int .i64 x.kind, .slice ax x.names.length cx, .slice ay x.l.length cy, .int .i64 x.r] 25)).drew := (Kept.refl _ _).drew
        have HCB := Lib.hid (BlkAt.new wr #[.int .i64 x.kind, .slice ax x.names.length cx, .slice ay x.l.length cy, .int .i64 x.r] 25)
        have HB6 := Lib.hid (HB5.out.kept (F := fun _ => False) ((Kept.refl _ _).new (.cells #[.int .i64 x.kind, .slice ax x.names.length cx, .slice ay x.l.length cy, .int .i64 x.r] 25)) id)
        have hgc : wr.heap.size ≠ g := by omega
        have HW : Hid (∀ w', Kept (fun _ => False) (wr.alloc (.cells #[.int .i64 x.kind, .slice ax x.names.length cx, .slice ay x.l.length cy, .int .i64 x.r] 25)) w' → w'.cell? ⟨w.heap.size, 2, none⟩ = some (.slice (some ⟨g, 0, none⟩) t.l.length c2) ∧ w'.cell? ⟨wr.heap.size, 0, none⟩ = some (.int .i64 x.kind) ∧ w'.cell? ⟨wr.heap.size, 1, none⟩ = some (.slice ax x.names.length cx) ∧ w'.cell? ⟨wr.heap.size, 2, none⟩ = some (.slice ay x.l.length cy) ∧ w'.cell? ⟨wr.heap.size, 3, none⟩ = some (.int .i64 x.r)) := Lib.hid (fun w' k' => by
          have B := HB6.out.kept (F := fun _ => False) k' id
          have C := HCB.out.kept (F := fun _ => False) k' id
          exact ⟨B.cell 2, C.cell 0, C.cell 1, C.cell 2, C.cell 3⟩)
        have HWS : Hid (∀ w' v0 v1 v2 v3, Kept (fun _ => False) (wr.alloc (.cells #[.int .i64 x.kind, .slice ax x.names.length cx, .slice ay x.l.length cy, .int .i64 x.r] 25)) w' → (fun w' : World => w'.cell? ⟨w.heap.size, 2, none⟩ = some (.slice (some ⟨g, 0, none⟩) t.l.length c2) ∧ w'.cell? ⟨wr.heap.size, 0, none⟩ = some (.int .i64 x.kind) ∧ w'.cell? ⟨wr.heap.size, 1, none⟩ = some (.slice ax x.names.length cx) ∧ w'.cell? ⟨wr.heap.size, 2, none⟩ = some (.slice ay x.l.length cy) ∧ w'.cell? ⟨wr.heap.size, 3, none⟩ = some (.int .i64 x.r)) ((((w'.setCell ⟨g, i * 4, none⟩ v0).setCell ⟨g, i * 4 + 1, none⟩ v1).setCell ⟨g, i * 4 + 2, none⟩ v2).setCell ⟨g, i * 4 + 3, none⟩ v3)) := Lib.hid (fun w' v0 v1 v2 v3 k' => by
          have B := ((((HB6.out.kept (F := fun _ => False) k' id).other hgB.symm (i * 4) v0).other hgB.symm (i * 4 + 1) v1).other hgB.symm (i * 4 + 2) v2).other hgB.symm (i * 4 + 3) v3
          have C := ((((HCB.out.kept (F := fun _ => False) k' id).other hgc (i * 4) v0).other hgc (i * 4 + 1) v1).other hgc (i * 4 + 2) v2).other hgc (i * 4 + 3) v3
          exact ⟨B.cell 2, C.cell 0, C.cell 1, C.cell 2, C.cell 3⟩)
        have HE0 := Lib.hid (And.intro e0 (And.intro e1 (And.intro e2 e3)))
        have E0 := Lib.hid (HW.out _ q0)
        have hck : cloK k x := H3.out x (List.mem_of_getElem? hx)
        go_wp2_with fail
        clear e0 e1 e2 e3
        go_region_held3 (fun w' => w'.cell? ⟨w.heap.size, 2, none⟩ = some (.slice (some ⟨g, 0, none⟩) t.l.length c2) ∧ w'.cell? ⟨wr.heap.size, 0, none⟩ = some (.int .i64 x.kind) ∧ w'.cell? ⟨wr.heap.size, 1, none⟩ = some (.slice ax x.names.length cx) ∧ w'.cell? ⟨wr.heap.size, 2, none⟩ = some (.slice ay x.l.length cy) ∧ w'.cell? ⟨wr.heap.size, 3, none⟩ = some (.int .i64 x.r))
          (first | exact E0.out | exact HW.out _ q0 | exact HWS.out _ _ _ _ _ q0)
          (first
            | (go_at_call 64; refine (HI.out x ax cx ay cy _ (HX.out.kept (((Kept.refl _ _).new (.cells #[.int .i64 x.kind, .slice ax x.names.length cx, .slice ay x.l.length cy, .int .i64 x.r] 25)).trans q0)) hck).mono ?_; rintro y w3 ⟨ap, cp, aq, cq, rfl, n1, n2, k3⟩
               have HN3 : Hid (LiesU (wr.heap.size ≤ ·) w3 (strsU x.names) (.slice ap x.names.length cp)) := Lib.hid (lies_more n1 (by simp))
               have HT3 : Hid (LiesU (wr.heap.size ≤ ·) w3 (tysU x.l) (.slice aq x.l.length cq)) := Lib.hid (lies_more n2 (by simp))
               replace q0 : Kept (fun _ => False) (wr.alloc (.cells #[.int .i64 x.kind, .slice ax x.names.length cx, .slice ay x.l.length cy, .int .i64 x.r] 25)) w3 := q0.trans k3
               have K3 : Kept (fun _ => False) wr w3 := ((Kept.refl _ _).new (.cells #[.int .i64 x.kind, .slice ax x.names.length cx, .slice ay x.l.length cy, .int .i64 x.r] 25)).trans q0
               have f0 := (K3.cell1 (World.block_lt_of_cell? wr _ HE0.out.1)).trans HE0.out.1
               have f1 := (K3.cell1 (World.block_lt_of_cell? wr _ HE0.out.2.1)).trans HE0.out.2.1
               have f2 := (K3.cell1 (World.block_lt_of_cell? wr _ HE0.out.2.2.1)).trans HE0.out.2.2.1
               have f3 := (K3.cell1 (World.block_lt_of_cell? wr _ HE0.out.2.2.2)).trans HE0.out.2.2.2
               have HG3 := Lib.hid (HE.out.1.kept (F := fun _ => False) K3 id)
               have z0 := HG3.out.frozen (i * 4)
               have z1 := HG3.out.frozen (i * 4 + 1)
               have z2 := HG3.out.frozen (i * 4 + 2)
               have z3 := HG3.out.frozen (i * 4 + 3)
               have HK3 := Lib.hid K3
               clear n1 n2 k3 K3 E0))
        all_goals go_wp2_with fail
        all_goals exact ⟨⟨i + 1, by go_num, by omega, Lib.hid (CloI.step hx hst.out.kept HK3.out hgl HE.out.1 HE.out.2.1 HE.out.2.2.1 HE.out.2.2.2.1 HE.out.2.2.2.2 HN3.out HT3.out)⟩, by simp [intOf]; omega⟩
      · have hke : i = t.l.length := by omega
        subst hke
        have HR5 : Hid (BlkAt wr (w.heap.size + 1) #[.int .i64 0, .slice none 0 0, .slice none 0 0, .int .i64 0] 25) := Lib.hid (HR2.out.kept hst.out.kept hgR)
        obtain ⟨x0, x1, x2, x3⟩ := boxT_cells HB5.out
        have r0 := HR5.out.cell 0
        have r1 := HR5.out.cell 1
        have r2 := HR5.out.cell 2
        have r3 := HR5.out.cell 3
        simp at r0 r1 r2 r3
        have y0 := HR5.out.frozen 0
        have y1 := HR5.out.frozen 1
        have y2 := HR5.out.frozen 2
        have y3 := HR5.out.frozen 3
        go_wp2_with fail
        have G := (((HR5.out.put 0 (.int .i64 t.kind)).put 1 (.slice a1 t.names.length c1)).put 2 (.slice (some ⟨g, 0, none⟩) t.l.length c2)).put 3 (.int .i64 t.r)
        have q0 := G.cell 0
        have q1 := G.cell 1
        have q2 := G.cell 2
        have q3 := G.cell 3
        simp at q0 q1 q2 q3
        refine bodyPost_ret (v := tyV t a1 c1 (some ⟨g, 0, none⟩) c2) (by simp [results, Tryz.results64, go_sem, q0, q1, q2, q3]) rfl ?_
        exact CloR.of HK1.out hs1 HL2.out HQ2.out hgw hst.out.kept (hst.out.done rfl HCP.out.1 HCP.out.2)
end Go.Proofs.YtikgkjkgdlnekaaGreatDoor

/- ctype: Plain. -/
set_option linter.unusedVariables false
set_option linter.unusedSimpArgs false
namespace Go.Proofs.YtikgkjkgdlnekaaGreatDoor
open Go.RowKit
open Lex Ct

theorem clo_all : ∀ k, CloAt k
  | 0 => fun _ _ _ _ _ _ _ hf => hf.elim
  | k + 1 => fun t an cn al cl w h hf => clone_step k (clo_all k) t an cn al cl w h hf
theorem clo_none {k : Nat} {x : Ty} (h : isNone x = true) : cloK (k + 1) x := by
  unfold isNone at h
  simp only [Bool.and_eq_true, beq_iff_eq, decide_eq_true_eq, List.isEmpty_iff] at h
  refine ⟨?_, ?_, fun y hy => ?_⟩
  all_goals simp_all
theorem clo_deep : ∀ (k : Nat) (t : Ty), deepK k t = true → cloK (k + 1) t
  | 0, t, h => by cases h
  | k + 1, t, h => by
    have hfit := deepK_fit h
    unfold deepK at h
    simp only [Bool.and_eq_true, List.all_eq_true, Bool.or_eq_true] at h
    have h0 : t.kind ≠ 0 := by
      intro e
      have h1 := h.1.1
      unfold shapedB at h1
      rw [e] at h1
      simp [okW] at h1
    have hl := hfit.resolve_left h0
    refine ⟨by omega, by omega, fun x hx => ?_⟩
    rcases h.2 x hx with h2 | h2
    · exact clo_none h2.2
    · exact clo_deep k x h2
theorem clo_plain {k : Nat} {t : Ty} (h : cloK (k + 2) t) : cloK (k + 2) (plainT t) := by
  obtain ⟨h1, h2, h3⟩ := h
  unfold plainT
  have hz : cloK (k + 1) Ty.zero := clo_none rfl
  split
  · exact ⟨by simpa [Ty.names] using h2, h2, h3⟩
  · split
    · refine ⟨h1, by simpa [Ty.l] using h1, fun x hx => ?_⟩
      have hx : x ∈ List.replicate t.names.length Ty.zero := hx
      rw [List.eq_of_mem_replicate hx]
      exact hz
    · split
      · rename_i h17
        refine ⟨by simp [Ty.names], by have := h17.2; show (Ty.zero :: t.l).length ≤ 100; rw [List.length_cons]; omega, fun x hx => ?_⟩
        rcases List.mem_cons.1 (show x ∈ Ty.zero :: t.l from hx) with rfl | hx
        · exact hz
        · exact h3 x hx
      · split
        · exact ⟨by simp [Ty.names], h2, h3⟩
        · exact ⟨h1, h2, h3⟩
set_option maxRecDepth 100000 in
set_option maxHeartbeats 8000000 in
/-- PLAIN, the project's. -/
theorem rdPlainC (t : Ty) (an : Option Addr) (cn : Nat) (al : Option Addr) (cl : Nat) (w : World) (h : TyAt w t an cn al cl) (ho : okT t = true) :
    Calls Tryz.prog 44 #[tyV t an cn al cl] w (PlainR (plainT t) w) := by
  have k0 : Kept (fun _ => False) w ((w.alloc (.cells #[.int .i64 t.kind, .slice an t.names.length cn, .slice al t.l.length cl, .int .i64 t.r] 25)).alloc (.cells #[.int .i64 0, .slice none 0 0, .slice none 0 0, .int .i64 0] 25)) := ((Kept.refl _ _).new _).new _
  have F0 := BlkAt.new (w.alloc (.cells #[.int .i64 t.kind, .slice an t.names.length cn, .slice al t.l.length cl, .int .i64 t.r] 25)) #[.int .i64 0, .slice none 0 0, .slice none 0 0, .int .i64 0] 25
  rw [World.size_alloc] at F0
  have HK := Lib.hid k0
  have HF := Lib.hid F0
  have HP := Lib.hid (fun w' (k' : Kept (fun _ => False) w w') => rdPlain_ok t an cn al cl w' (h.kept k') ho)
  have hc : cloK 17 (plainT t) := clo_plain (k := 15) (clo_deep 16 t (okT_deep ho).1)
  clear h ho k0 F0
  revert HP hc
  generalize plainT t = x
  intro HP hc
  go_enter Tryz.func44, Tryz.ntmps44
  go_wp2_with (first
    | (go_at_call 65; refine (HP.out _ HK.out).mono ?_; rintro y w1 ⟨ap, cp, aq, cq, rfl, ht, k1⟩
       have HK1 := Lib.hid (HK.out.trans k1)
       have HT1 := Lib.hid ht
       have HF1 := Lib.hid (HF.out.kept (F := fun _ => False) k1 id)
       clear k1 ht)
    | (go_at_call 64; refine (clo_all 17 x ap cp aq cq _ HT1.out hc).mono ?_; rintro y w2 ⟨bp, dp, bq, dq, rfl, n1, n2, k2⟩
       have HF2 := Lib.hid (HF1.out.kept (F := fun _ => False) k2 id)
       have r0 := HF2.out.cell 0
       have r1 := HF2.out.cell 1
       have r2 := HF2.out.cell 2
       have r3 := HF2.out.cell 3
       simp at r0 r1 r2 r3
       have y0 := HF2.out.frozen 0
       have y1 := HF2.out.frozen 1
       have y2 := HF2.out.frozen 2
       have y3 := HF2.out.frozen 3
       have HK2 := Lib.hid (HK1.out.trans k2)
       have HN := Lib.hid (And.intro n1 n2)
       clear k2 n1 n2))
  have G := (((HF2.out.put 0 (.int .i64 x.kind)).put 1 (.slice bp x.names.length dp)).put 2 (.slice bq x.l.length dq)).put 3 (.int .i64 x.r)
  have q0 := G.cell 0
  have q1 := G.cell 1
  have q2 := G.cell 2
  have q3 := G.cell 3
  simp at q0 q1 q2 q3
  have k4 : Kept (fun b => b = w.heap.size + 1) w2 ((((w2.setCell ⟨w.heap.size + 1, 0, none⟩ (.int .i64 x.kind)).setCell ⟨w.heap.size + 1, 1, none⟩ (.slice bp x.names.length dp)).setCell ⟨w.heap.size + 1, 2, none⟩ (.slice bq x.l.length dq)).setCell ⟨w.heap.size + 1, 3, none⟩ (.int .i64 x.r)) :=
    ((((Kept.refl (fun b => b = w.heap.size + 1) w2).set (p := ⟨w.heap.size + 1, 0, none⟩) rfl _).set (p := ⟨w.heap.size + 1, 1, none⟩) rfl _).set (p := ⟨w.heap.size + 1, 2, none⟩) rfl _).set (p := ⟨w.heap.size + 1, 3, none⟩) rfl _
  have hs1 : w.heap.size + 1 < w1.heap.size := HF1.out.lt
  refine bodyPost_ret (v := tyV x bp dp bq dq) (by simp [results, Tryz.results44, go_sem, q0, q1, q2, q3]) rfl ⟨bp, dp, bq, dq, rfl, ⟨?_, ?_⟩, ?_⟩
  · exact LiesU.next (k4.agree fun b hb _ e => by have hb : w1.heap.size ≤ b := hb; omega) k4.size (fun _ _ _ => trivial) HN.out.1
  · exact LiesU.next (k4.agree fun b hb _ e => by have hb : w1.heap.size ≤ b := hb; omega) k4.size (fun _ _ _ => trivial) HN.out.2
  · exact ((HK2.out.any (F := (w.heap.size ≤ ·))).trans (k4.mono fun b e => by show w.heap.size ≤ b; omega)).clear (fun i hi e => by have e : w.heap.size ≤ i := e; omega)
end Go.Proofs.YtikgkjkgdlnekaaGreatDoor
