/- The statement ModuleOrder is proved where what it reads is of bulk at most 1048576: the call returns true and each argument reads as it did. -/
import Derived.Test.YtekonefnniaheaaGreatRows
import Derived.WalkKit
import Derived.ProofKit
import Derived.OpenShut
import Derived.ShutString
import Derived.JoinedCond
import Derived.Below
import Derived.ChangeOld
import Derived.Carry
import Derived.Lib.SmallJoins
import Derived.Test.YtekonefnniaheaaGreatModuleOrderUptoProofQ27
namespace Go.Proofs.YtekonefnniaheaaGreat.moduleOrder
open Go.ChangeShapes Go.WideShapes Go.ChangeAt Go.RowKit
open Go.ChangeMaps (open_string shut_string)
set_option linter.unusedVariables false

theorem own : ownKnob Tryz.prog.godebug = none := by kernel_rfl
theorem laidOut : laidOutB Tryz.prog = true := by kernel_rfl

set_option maxRecDepth 100000 in
theorem lifted (os : Os) (started : os.Started) (H : Type) (enc : TypeId × Value → H) (F : Stop.Interp) :
    ReturnsInHanded {} Tryz.checked os 6 .any ((Rows.OpenSpec.upto Rows.moduleOrderSpec).pre6 enc Tryz.prog Tryz.f6 Rows.moduleOrderUptoRow.domain false) (((Rows.OpenSpec.upto Rows.moduleOrderSpec).at F).post enc Tryz.prog Tryz.f6 false true false false) := by
  refine returnsInHanded_of_cond (C := Tryz.checked) (s := Rows.OpenSpec.upto Rows.moduleOrderSpec) (k := Rows.uptoSmall) rfl own started (by kernel_rfl) Tryz.func6
    (OpenSpec.witness (enc := enc) (C := Tryz.checked) (s := Rows.OpenSpec.upto Rows.moduleOrderSpec) (k := Rows.uptoSmall) rfl false ⟨#[], #[.agg #[.slice none 0 0, .slice none 0 0, .slice none 0 0, .slice none 0 0, .slice none 0 0, .slice none 0 0, .slice none 0 0, .int .i64 0, .slice none 0 0, .slice none 0 0, .slice none 0 0], .int .i64 0, .bool false], []⟩ 8 (by kernel_rfl) (by kernel_rfl) (by kernel_rfl)
      (x := ([.agg [.nil, .nil, .nil, .nil, .nil, .nil, .nil, .lit (.int .i64 0), .nil, .nil, .nil], .lit (.int .i64 0), .lit (.bool false)], [], [])) (by kernel_rfl) rfl (by kernel_rfl)) ?_
  intro W base args ds gs before hval0 hW hcnd hk _
  have hval : ∀ (j : Nat) t v, Tryz.f6.params[j]? = some t → args[j]? = some v → Value.okWide Tryz.prog W .any base t v := hval0
  have hW' := hW
  obtain ⟨p, q, hA0, hV, rfl, hfz, hnd⟩ := hW
  have hA : DataW.TrodAll enc Tryz.prog W 0 (fun _ => true) true Tryz.f6.params.toList args.toList ds p := hA0
  rw [Tryz.params6] at hA hval
  obtain ⟨v0, vs0, d0, ds0, p0, q0, hargs, rfl, rfl, h0, r0⟩ := trodAll_cons hA
  obtain ⟨v1, vs1, d1, ds1, p1, q1, rfl, rfl, rfl, h1, r1⟩ := trodAll_cons r0
  obtain ⟨v2, vs2, d2, ds2, p2, q2, rfl, rfl, rfl, h2, r2⟩ := trodAll_cons r1
  obtain ⟨rfl, rfl, rfl⟩ := trodAll_nil r2
  obtain rfl : args = #[v0, v1, v2] := by cases args; simp_all
  obtain ⟨rfl, rfl⟩ := trodVars_none hV
  have k0 := h0
  have lt0 : ∀ x ∈ p0, x.block < W.heap.size := by obtain ⟨m, hm⟩ := k0; exact DataW.trod_lt m _ _ _ hm
  obtain ⟨cs0, rfl, _⟩ := okWide_struct Tryz.underlying32 (hval 0 32 v0 rfl rfl)
  have bk0 : Rows.uptoBulk d0 ≤ 1048576 := bulk_in hk (by simp)
  obtain ⟨m0, x0T, c0T, x0I, c0I, x0F, c0F, x0B, c0B, x0M, c0M, x0G, c0G, x0X, c0X, x0E, c0E, x0C, c0C, x0D, c0D, hc0, D0, U0, R0⟩ : ∃ m x0T c0T x0I c0I x0F c0F x0B c0B x0M c0M x0G c0G x0X c0X x0E c0E x0C c0C x0D c0D, cs0.toList = [.slice x0T m.types.length c0T, .slice x0I m.imports.length c0I, .slice x0F m.funcs.length c0F, .slice x0B m.tables.length c0B, .slice x0M m.mems.length c0M, .slice x0G m.globals.length c0G, .slice x0X m.exports.length c0X, .int .i64 m.start, .slice x0E m.elems.length c0E, .slice x0C m.codes.length c0C, .slice x0D m.datas.length c0D] ∧ MdlIn W m x0T c0T x0I c0I x0F c0F x0B c0B x0M c0M x0G c0G x0X c0X x0E c0E x0C c0C x0D c0D ∧ MdlUp 1048576 m ∧ (-9223372036854775808 ≤ m.start ∧ m.start ≤ 9223372036854775807) := by
    obtain ⟨fuel, hf⟩ := h0
    exact mdl_of meas_bulk hf bk0
  obtain ⟨cl0⟩ := cs0
  obtain rfl : cl0 = _ := hc0
  obtain ⟨a1, rfl, rfl, rfl, w1⟩ := open_int Tryz.underlying3 (hval 1 3 v1 rfl rfl) h1
  obtain ⟨a2, rfl, rfl, rfl⟩ := open_bool Tryz.underlying4 (hval 2 4 v2 rfl rfl) h2
  clear hA0 hval0
  refine (ModuleOrder_walk m0 x0T c0T x0I c0I x0F c0F x0B c0B x0M c0M x0G c0G x0X c0X x0E c0E x0C c0C x0D c0D a1 a2 (i64_of_wf w1) W D0).mono fun e W' ⟨he, bel⟩ => ?_
  subst he
  exact ⟨_, rfl, _, _, _, [], _, [], hW', trodAll_mk1 (shut_bool Tryz.underlying4 _), (trodAll_cons_mk (Below.trod laidOut (by kernel_rfl) (of_decide_eq_true (by kernel_rfl)) k0 bel lt0) (trodAll_cons_mk (shut_int Tryz.underlying3 w1) (trodAll_cons_mk (shut_bool Tryz.underlying4 _) trodAll_mk0))), rfl, bel.frame _, fun h => by cases h⟩

theorem over : Rows.moduleOrderUptoRow.holds Tryz.pinned (Rows.OpenSpec.upto Rows.moduleOrderSpec) :=
  OpenClaim.holds_of_cond 6 Tryz.f6 rfl rfl rfl rfl rfl rfl rfl ⟨rfl, rfl, rfl, rfl, rfl⟩ rfl rfl rfl rfl rfl (by kernel_rfl) Tryz.func6 (by kernel_rfl)
    (of_decide_eq_true (by kernel_rfl)) (by unfold Func.isWrapper; first | (rw [if_pos (by decide +kernel)]; kernel_rfl) | (rw [if_neg (by decide +kernel)]; exact ⟨rfl, rfl⟩))
    (fun os started H enc _ F => lifted os started H enc F)

/-- THE STATEMENT -/
theorem proved : Rows.ModuleOrderUptoSaid := over
#print axioms proved
end Go.Proofs.YtekonefnniaheaaGreat.moduleOrder
