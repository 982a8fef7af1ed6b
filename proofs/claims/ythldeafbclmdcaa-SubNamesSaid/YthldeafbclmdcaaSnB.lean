/- subtype: the chapter's example: two resources' types, with a number for the first one, and without. -/
import Derived.Test.YthldeafbclmdcaaSnA
import Derived.Maps.OwnOps
import Derived.LaidEql
set_option linter.unusedVariables false
set_option linter.unusedSimpArgs false
namespace Go.Proofs.Ythldeafbclmdcaa
open Go.RowKit
open Ct

/-- A resource's type, as it lies in a block of its own. -/
abbrev ownC (r : Int) : Array Value := #[.int .i64 20, .slice none 0 0, .slice none 0 0, .int .i64 r]
def Two (w : World) (ba bb : Nat) : Prop := BlkAt w ba (ownC 0) 25 ∧ BlkAt w bb (ownC 2) 25
theorem Two.kept {F : Nat → Prop} {w w' : World} {ba bb : Nat} (h : Two w ba bb) (k : Kept F w w') (hf : ∀ i, i = ba ∨ i = bb → ¬ F i) : Two w' ba bb := ⟨h.1.kept k (hf _ (.inl rfl)), h.2.kept k (hf _ (.inr rfl))⟩
abbrev TwoC (ba bb : Nat) (w : World) : Prop :=
  w.cell? ⟨ba, 0, none⟩ = some (.int .i64 20) ∧ w.cell? ⟨ba, 1, none⟩ = some (.slice none 0 0) ∧ w.cell? ⟨ba, 2, none⟩ = some (.slice none 0 0) ∧ w.cell? ⟨ba, 3, none⟩ = some (.int .i64 0) ∧
  w.cell? ⟨bb, 0, none⟩ = some (.int .i64 20) ∧ w.cell? ⟨bb, 1, none⟩ = some (.slice none 0 0) ∧ w.cell? ⟨bb, 2, none⟩ = some (.slice none 0 0) ∧ w.cell? ⟨bb, 3, none⟩ = some (.int .i64 2)
theorem Two.cells {w : World} {ba bb : Nat} (h : Two w ba bb) : TwoC ba bb w := ⟨h.1.cell 0, h.1.cell 1, h.1.cell 2, h.1.cell 3, h.2.cell 0, h.2.cell 1, h.2.cell 2, h.2.cell 3⟩
set_option maxRecDepth 100000 in
set_option maxHeartbeats 4000000 in
theorem num_yes (w : World) (ba bb g : Nat) (h : Two w ba bb) (hm : w.cell? ⟨g, 0, none⟩ = some (.int .i64 2)) :
    Calls Try.prog 30 #[.pointer (some ⟨ba, 0, none⟩), .pointer (some ⟨bb, 0, none⟩), .slice (some ⟨g, 0, none⟩) 1 1] w fun y w' => y = .returned (.bool true) ∧ Kept (fun _ => False) w w' := by
  obtain ⟨a0, a1, a2, a3, b0, b1, b2, b3⟩ := h.cells
  have K := Kept.refl (fun _ => False) w
  clear h
  go_enter Try.func30, Try.ntmps30
  go_wp2_with fail
  all_goals go_region
  all_goals (go_wp2_with fail)
  all_goals go_ret
  all_goals exact ⟨rfl, (Kept.refl _ w).drew⟩
set_option maxRecDepth 100000 in
set_option maxHeartbeats 4000000 in
theorem num_no (w : World) (ba bb : Nat) (h : Two w ba bb) :
    Calls Try.prog 30 #[.pointer (some ⟨ba, 0, none⟩), .pointer (some ⟨bb, 0, none⟩), .slice none 0 0] w fun y w' => y = .returned (.bool false) ∧ Kept (fun _ => False) w w' := by
  obtain ⟨a0, a1, a2, a3, b0, b1, b2, b3⟩ := h.cells
  clear h
  go_enter Try.func30, Try.ntmps30
  go_wp2_with fail
  all_goals go_region
  all_goals (go_wp2_with fail)
  all_goals go_ret
  all_goals exact ⟨rfl, (Kept.refl _ w).drew⟩
theorem equal_none (w : World) : Calls Try.prog 21 #[.slice none 0 0, .slice none 0 0] w fun y w' => y = .returned (.bool true) ∧ Kept (fun _ => False) w w' :=
  rdEqual [] [] none none 0 0 w ⟨liesU_nil _ _⟩ ⟨liesU_nil _ _⟩ (fun b hb => by cases hb) (fun b hb => by cases hb)
set_option maxRecDepth 100000 in
set_option maxHeartbeats 4000000 in
theorem alike_own (w : World) (ba bb : Nat) (am : Option Addr) (nm cm : Nat) (r : Bool) (h : Two w ba bb)
    (HN : Hid (∀ w', Kept (fun _ => False) w w' → Calls Try.prog 30 #[.pointer (some ⟨ba, 0, none⟩), .pointer (some ⟨bb, 0, none⟩), .slice am nm cm] w' fun y w'' => y = .returned (.bool r) ∧ Kept (fun _ => False) w' w'')) :
    Calls Try.prog 19 #[.pointer (some ⟨ba, 0, none⟩), .pointer (some ⟨bb, 0, none⟩), .slice am nm cm] w fun y w' => y = .returned (.bool r) ∧ Kept (fun _ => False) w w' := by
  have HW : Hid (∀ w', Kept (fun _ => False) w w' → TwoC ba bb w') := Lib.hid fun w' k => (h.kept k fun _ _ => id).cells
  obtain ⟨a0, a1, a2, a3, b0, b1, b2, b3⟩ := h.cells
  have q0 : Kept (fun _ => False) w w.drew := (Kept.refl _ w).drew
  clear h
  go_enter Try.func19, Try.ntmps19
  go_wp2_with fail
  go_region_held3 (TwoC ba bb)
    (first | exact HW.out _ q0)
    (first
      | (go_at_call 21; refine (equal_none _).mono ?_; rintro y w2 ⟨rfl, k2⟩; replace q0 : Kept (fun _ => False) w w2 := q0.trans k2; clear k2)
      | (go_at_call 30; refine (HN.out _ q0).mono ?_; rintro y w3 ⟨rfl, k2⟩; replace q0 : Kept (fun _ => False) w w3 := q0.trans k2; clear k2))
  all_goals (go_wp2_with fail)
  all_goals go_ret
  all_goals exact ⟨rfl, q0⟩
end Go.Proofs.Ythldeafbclmdcaa
