/- The statement ModuleOnly is proved: for every input, without conditions, the call returns true and each argument reads as it did. -/
import Derived.Test.YtekonefnniaheaaGreatRows
import Derived.WalkKit
import Derived.ProofKit
import Derived.OpenShut
import Derived.ShutString
import Derived.Below
import Derived.ChangeOld
import Derived.Test.YtekonefnniaheaaGreatModuleOnlyProofQ1
import Derived.Test.YtekonefnniaheaaGreatModuleBackUptoProofQ1
import Derived.Test.YtekonefnniaheaaGreatModuleBackUptoProofQ2
import Derived.Test.YtekonefnniaheaaGreatModuleBackUptoProofQ3
import Derived.Test.YtekonefnniaheaaGreatModuleBackUptoProofQ4
import Derived.Test.YtekonefnniaheaaGreatModuleBackUptoProofQ5
import Derived.Test.YtekonefnniaheaaGreatModuleBackUptoProofQ6
import Derived.Test.YtekonefnniaheaaGreatModuleBackUptoProofQ7
import Derived.Test.YtekonefnniaheaaGreatModuleBackUptoProofQ8
import Derived.Test.YtekonefnniaheaaGreatModuleBackUptoProofQ9
import Derived.Test.YtekonefnniaheaaGreatModuleBackUptoProofQ10
import Derived.Test.YtekonefnniaheaaGreatModuleBackUptoProofQ11
import Derived.Test.YtekonefnniaheaaGreatModuleBackUptoProofQ12
import Derived.Test.YtekonefnniaheaaGreatModuleBackUptoProofQ13
import Derived.Test.YtekonefnniaheaaGreatModuleBackUptoProofQ14
import Derived.Test.YtekonefnniaheaaGreatModuleBackUptoProofQ15
import Derived.Test.YtekonefnniaheaaGreatModuleBackUptoProofQ16
import Derived.Test.YtekonefnniaheaaGreatModuleBackUptoProofQ17
import Derived.Test.YtekonefnniaheaaGreatModuleBackUptoProofQ18
import Derived.Test.YtekonefnniaheaaGreatModuleBackUptoProofQ19
import Derived.Test.YtekonefnniaheaaGreatModuleBackUptoProofQ20
import Derived.Test.YtekonefnniaheaaGreatModuleBackUptoProofQ21
import Derived.Test.YtekonefnniaheaaGreatModuleBackUptoProofQ22
import Derived.Test.YtekonefnniaheaaGreatModuleBackUptoProofQ23
import Derived.Test.YtekonefnniaheaaGreatModuleBackUptoProofQ24
import Derived.Test.YtekonefnniaheaaGreatModuleBackUptoProofQ25
import Derived.Test.YtekonefnniaheaaGreatModuleBackUptoProofQ26
import Derived.Test.YtekonefnniaheaaGreatModuleBackUptoProofQ27
namespace Go.Proofs.YtekonefnniaheaaGreat.moduleOnly
open Go.ChangeShapes Go.WideShapes Go.ChangeAt Go.RowKit
open Go.ChangeMaps (open_string shut_string)
set_option linter.unusedVariables false      -- a walk need not use every 'w<i>' (that an integer argument fits its kind)

theorem own : ownKnob Tryz.prog.godebug = none := by kernel_rfl

theorem walk (a0 : ByteArray) (w0 : a0.size ≤ maxLen) (w : World) :
    Calls Tryz.prog 5 #[.string a0] w fun e w' => e = .returned (.bool true) ∧ Below w.heap.size w w' :=
  ModuleOnly_walk a0 w0 w

/-! ### THE ROW's STEP: WRITTEN OUT: LEAVE IT -/
set_option maxRecDepth 100000 in
theorem lifted (os : Os) (started : os.Started) (H : Type) (enc : TypeId × Value → H) :
    ReturnsInHanded {} Tryz.checked os 5 .any (Rows.moduleOnlySpec.pre6 enc Tryz.prog Tryz.f5 Rows.moduleOnlyRow.domain false) (Rows.moduleOnlySpec.post enc Tryz.prog Tryz.f5 false true false false) := by
  refine returnsInHanded_of_change (C := Tryz.checked) own started (by kernel_rfl) Tryz.func5
    (ChangeSpec.witness6 (enc := enc) (C := Tryz.checked) false ⟨#[], #[.string ByteArray.empty], []⟩ 8 (by kernel_rfl) (by kernel_rfl) (by kernel_rfl) (by kernel_rfl)) ?_
  intro W base args ds gs before hval0 hW hcnd _
  have hval : ∀ (j : Nat) t v, Tryz.f5.params[j]? = some t → args[j]? = some v → Value.okWide Tryz.prog W .any base t v := hval0
  have hW' := hW
  obtain ⟨p, q, hA0, hV, rfl, hfz, hnd⟩ := hW
  have hA : DataW.TrodAll enc Tryz.prog W 0 (fun _ => true) true Tryz.f5.params.toList args.toList ds p := hA0
  rw [Tryz.params5] at hA hval
  obtain ⟨v0, vs0, d0, ds0, p0, q0, hargs, rfl, rfl, h0, r0⟩ := trodAll_cons hA
  obtain ⟨rfl, rfl, rfl⟩ := trodAll_nil r0
  obtain rfl : args = #[v0] := by cases args; simp_all
  obtain ⟨rfl, rfl⟩ := trodVars_none hV
  obtain ⟨a0, rfl, rfl, rfl, w0⟩ := open_string Tryz.underlying9 (hval 0 9 v0 rfl rfl) h0
  clear hA0 hval0
  simp only [List.append_nil] at hW'
  refine (walk a0 w0 W).mono fun e W' ⟨he, hg⟩ => ?_
  subst he
  exact ⟨_, rfl, _, _, _, [], _, [], hW', (trodAll_cons_mk (shut_bool Tryz.underlying4 _) trodAll_mk0), (trodAll_cons_mk (shut_string Tryz.underlying9 w0) trodAll_mk0), rfl, hg.frame _, fun h => by cases h⟩

theorem over : Rows.moduleOnlyRow.holds Tryz.pinned (OpenSpec.ofChange Rows.moduleOnlySpec) :=
  OpenClaim.holds_of_wide 5 Tryz.f5 rfl rfl rfl rfl rfl rfl rfl ⟨rfl, rfl, rfl, rfl, rfl⟩ rfl rfl rfl rfl rfl (by kernel_rfl) Tryz.func5 (by kernel_rfl)
    (of_decide_eq_true (by kernel_rfl)) (by unfold Func.isWrapper; first | (rw [if_pos (by decide +kernel)]; kernel_rfl) | (rw [if_neg (by decide +kernel)]; exact ⟨rfl, rfl⟩))
    (fun os started H enc _ => lifted os started H enc)

/-- THE STATEMENT -/
theorem proved : Rows.ModuleOnlySaid :=
  over
#print axioms proved
end Go.Proofs.YtekonefnniaheaaGreat.moduleOnly
