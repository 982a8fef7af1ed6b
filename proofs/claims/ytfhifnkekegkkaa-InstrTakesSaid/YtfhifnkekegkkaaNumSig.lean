/- The reference's signatures (later layers call these alone). -/
import Derived.Test.YtfhifnkekegkkaaKitI
import Derived.Test.YtfhifnkekegkkaaNumFun
namespace Go.Proofs.Ytfhifnkekegkkaa
open Go.RowKit

set_option maxRecDepth 100000 in
set_option maxHeartbeats 1000000 in
theorem refSig_any (op : Int) (w : World) :
    Calls Try.prog 54 #[.int .i64 op] w fun e w' => e = .returned (Num.sigTup op) ∧ w = w' := by
  by_cases he : op = 69 ∨ op = 80 ∨ op = 167 ∨ op = 172 ∨ op = 173 ∨ op = 192 ∨ op = 193
  · rcases he with rfl | rfl | rfl | rfl | rfl | rfl | rfl
    all_goals
      go_enter Try.func54, Try.ntmps54
      go_wp2_with fail
      go_ret3
      exact ⟨rfl, rfl⟩
  · have e (c : Int) (h : op ≠ c) : (op == c) = false := by simpa using h
    have e1 := e 69 (by omega)
    have e2 := e 80 (by omega)
    have e3 := e 167 (by omega)
    have e4 := e 172 (by omega)
    have e5 := e 173 (by omega)
    have e6 := e 192 (by omega)
    have e7 := e 193 (by omega)
    clear e
    rcases Num.sig_cases op with ⟨h, k⟩ | ⟨h, h', k⟩ | ⟨h, k⟩ | ⟨h, k⟩ | ⟨h, k⟩ | ⟨h, k⟩ | ⟨h, h', k⟩ | ⟨h, h', k⟩ | ⟨h, k⟩ | ⟨h, k⟩ | ⟨h, h', k⟩ | ⟨h, h', k⟩ | ⟨h, h', k⟩ | ⟨h, h', k⟩ | ⟨h | ⟨h, h'⟩ | ⟨h, h'⟩ | ⟨h, h'⟩ | ⟨h, h'⟩ | h, k⟩
    all_goals first
      | (exfalso; omega)
      | (rw [k]
         unfold Num.tup3
         clear k he
         go_enter Try.func54, Try.ntmps54
         go_wp2_with fail
         go_ret3
         exact ⟨rfl, rfl⟩)
end Go.Proofs.Ytfhifnkekegkkaa
