/- The statement ModulePuts is proved where what it reads is of bulk at most 1048576: the call returns true and each argument reads as it did. -/
import Derived.Test.YtekonefnniaheaaGreatRows
import Derived.WalkKit
import Derived.ProofKit
import Derived.OpenShut
import Derived.ShutString
import Derived.JoinedCond
import Derived.Below
import Derived.ChangeOld
import Derived.Carry
import Derived.Lib.SmallJoins
import Derived.Test.YtekonefnniaheaaGreatModulePutsUptoProofQ28
namespace Go.Proofs.YtekonefnniaheaaGreat.modulePuts
open Go.ChangeShapes Go.WideShapes Go.ChangeAt Go.RowKit
open Go.ChangeMaps (open_string shut_string)
set_option linter.unusedVariables false

theorem own : ownKnob Tryz.prog.godebug = none := by kernel_rfl
theorem laidOut : laidOutB Tryz.prog = true := by kernel_rfl

set_option maxRecDepth 100000 in
theorem lifted (os : Os) (started : os.Started) (H : Type) (enc : TypeId × Value → H) (F : Stop.Interp) :
    ReturnsInHanded {} Tryz.checked os 3 .any ((Rows.OpenSpec.upto Rows.modulePutsSpec).pre6 enc Tryz.prog Tryz.f3 Rows.modulePutsUptoRow.domain false) (((Rows.OpenSpec.upto Rows.modulePutsSpec).at F).post enc Tryz.prog Tryz.f3 false true false false) := by
  refine returnsInHanded_of_cond (C := Tryz.checked) (s := Rows.OpenSpec.upto Rows.modulePutsSpec) (k := Rows.uptoSmall) rfl own started (by kernel_rfl) Tryz.func3
    (OpenSpec.witness (enc := enc) (C := Tryz.checked) (s := Rows.OpenSpec.upto Rows.modulePutsSpec) (k := Rows.uptoSmall) rfl false ⟨#[], #[.agg #[.slice none 0 0, .slice none 0 0, .slice none 0 0, .slice none 0 0, .slice none 0 0, .slice none 0 0, .slice none 0 0, .int .i64 0, .slice none 0 0, .slice none 0 0, .slice none 0 0]], []⟩ 8 (by kernel_rfl) (by kernel_rfl) (by kernel_rfl)
      (x := ([.agg [.nil, .nil, .nil, .nil, .nil, .nil, .nil, .lit (.int .i64 0), .nil, .nil, .nil]], [], [])) (by kernel_rfl) rfl (by kernel_rfl)) ?_
  intro W base args ds gs before hval0 hW hcnd hk _
  have hval : ∀ (j : Nat) t v, Tryz.f3.params[j]? = some t → args[j]? = some v → Value.okWide Tryz.prog W .any base t v := hval0
  have hW' := hW
  obtain ⟨p, q, hA0, hV, rfl, hfz, hnd⟩ := hW
  have hA : DataW.TrodAll enc Tryz.prog W 0 (fun _ => true) true Tryz.f3.params.toList args.toList ds p := hA0
  rw [Tryz.params3] at hA hval
  obtain ⟨v0, vs0, d0, ds0, p0, q0, hargs, rfl, rfl, h0, r0⟩ := trodAll_cons hA
  obtain ⟨rfl, rfl, rfl⟩ := trodAll_nil r0
  obtain rfl : args = #[v0] := by cases args; simp_all
  obtain ⟨rfl, rfl⟩ := trodVars_none hV
  have k0 := h0
  have lt0 : ∀ x ∈ p0, x.block < W.heap.size := by obtain ⟨m, hm⟩ := k0; exact DataW.trod_lt m _ _ _ hm
  obtain ⟨cs0, rfl, _⟩ := okWide_struct Tryz.underlying32 (hval 0 32 v0 rfl rfl)
  have bk0 : Rows.uptoBulk d0 ≤ 1048576 := bulk_in hk (by simp)
  obtain ⟨m0, x0T, c0T, x0I, c0I, x0F, c0F, x0B, c0B, x0M, c0M, x0G, c0G, x0X, c0X, x0E, c0E, x0C, c0C, x0D, c0D, hc0, D0, U0, R0⟩ : ∃ m x0T c0T x0I c0I x0F c0F x0B c0B x0M c0M x0G c0G x0X c0X x0E c0E x0C c0C x0D c0D, cs0.toList = [.slice x0T m.types.length c0T, .slice x0I m.imports.length c0I, .slice x0F m.funcs.length c0F, .slice x0B m.tables.length c0B, .slice x0M m.mems.length c0M, .slice x0G m.globals.length c0G, .slice x0X m.exports.length c0X, .int .i64 m.start, .slice x0E m.elems.length c0E, .slice x0C m.codes.length c0C, .slice x0D m.datas.length c0D] ∧ MdlIn W m x0T c0T x0I c0I x0F c0F x0B c0B x0M c0M x0G c0G x0X c0X x0E c0E x0C c0C x0D c0D ∧ MdlUp 1048576 m ∧ (-9223372036854775808 ≤ m.start ∧ m.start ≤ 9223372036854775807) := by
    obtain ⟨fuel, hf⟩ := h0
    exact mdl_of meas_bulk hf bk0
  obtain ⟨cl0⟩ := cs0
  obtain rfl : cl0 = _ := hc0
  clear hA0 hval0
  refine (ModulePuts_walk m0 x0T c0T x0I c0I x0F c0F x0B c0B x0M c0M x0G c0G x0X c0X x0E c0E x0C c0C x0D c0D W D0 U0 R0).mono fun e W' ⟨he, bel⟩ => ?_
  subst he
  exact ⟨_, rfl, _, _, _, [], _, [], hW', trodAll_mk1 (shut_bool Tryz.underlying4 _), (trodAll_cons_mk (Below.trod laidOut (by kernel_rfl) (of_decide_eq_true (by kernel_rfl)) k0 bel lt0) trodAll_mk0), rfl, bel.frame _, fun h => by cases h⟩

theorem over : Rows.modulePutsUptoRow.holds Tryz.pinned (Rows.OpenSpec.upto Rows.modulePutsSpec) :=
  OpenClaim.holds_of_cond 3 Tryz.f3 rfl rfl rfl rfl rfl rfl rfl ⟨rfl, rfl, rfl, rfl, rfl⟩ rfl rfl rfl rfl rfl (by kernel_rfl) Tryz.func3 (by kernel_rfl)
    (of_decide_eq_true (by kernel_rfl)) (by unfold Func.isWrapper; first | (rw [if_pos (by decide +kernel)]; kernel_rfl) | (rw [if_neg (by decide +kernel)]; exact ⟨rfl, rfl⟩))
    (fun os started H enc _ F => lifted os started H enc F)

/-- THE STATEMENT -/
theorem proved : Rows.ModulePutsUptoSaid := over
#print axioms proved
end Go.Proofs.YtekonefnniaheaaGreat.modulePuts
