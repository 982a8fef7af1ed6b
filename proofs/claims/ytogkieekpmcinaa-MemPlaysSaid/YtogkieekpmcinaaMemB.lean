/- The project's memories: widths, the sign, pages, the greatest size. -/
import Derived.Test.YtogkieekpmcinaaMemA
namespace Go.Proofs.Ytogkieekpmcinaa
open Go.RowKit

theorem ops_of {op : Int} (h : op ∈ Mem.wOps) : op = 40 ∨ op = 41 ∨ op = 44 ∨ op = 45 ∨ op = 46 ∨ op = 47 ∨ op = 48 ∨ op = 49 ∨ op = 50 ∨ op = 51 ∨ op = 52 ∨ op = 53 ∨ op = 54 ∨ op = 55 ∨ op = 58 ∨ op = 59 ∨ op = 60 ∨ op = 61 ∨ op = 62 := by
  simpa [Mem.wOps] using h
theorem ops_not {op : Int} (h : ¬ op ∈ Mem.wOps) : ¬ op = 40 ∧ ¬ op = 41 ∧ ¬ op = 44 ∧ ¬ op = 45 ∧ ¬ op = 46 ∧ ¬ op = 47 ∧ ¬ op = 48 ∧ ¬ op = 49 ∧ ¬ op = 50 ∧ ¬ op = 51 ∧ ¬ op = 52 ∧ ¬ op = 53 ∧ ¬ op = 54 ∧ ¬ op = 55 ∧ ¬ op = 58 ∧ ¬ op = 59 ∧ ¬ op = 60 ∧ ¬ op = 61 ∧ ¬ op = 62 := by
  simpa [Mem.wOps] using h
set_option maxRecDepth 100000 in
set_option maxHeartbeats 1000000 in
theorem width_any (op : Int) (w : World) :
    Calls Try.prog 18 #[.int .i64 op] w fun e w' => e = .returned (Mem.widthTup op) ∧ w = w' := by
  by_cases hm : op ∈ Mem.wOps
  · rcases ops_of hm with rfl | rfl | rfl | rfl | rfl | rfl | rfl | rfl | rfl | rfl | rfl | rfl | rfl | rfl | rfl | rfl | rfl | rfl | rfl
    all_goals
      clear hm
      go_enter Try.func18, Try.ntmps18
      go_wp2_with fail
      go_ret3
      exact ⟨rfl, rfl⟩
  · have hno : Mem.widthTup op = .tuple #[.int .i64 0, .int .i64 0, .bool false] := by
      unfold Mem.widthTup Mem.width
      rw [if_neg hm]
    obtain ⟨h1, h2, h3, h4, h5, h6, h7, h8, h9, h10, h11, h12, h13, h14, h15, h16, h17, h18, h19⟩ := ops_not hm
    rw [hno]
    clear hm hno
    go_enter Try.func18, Try.ntmps18
    go_wp2_with fail
    go_ret3
    exact ⟨rfl, rfl⟩
set_option maxRecDepth 100000 in
theorem signed_any (op : Int) (w : World) :
    Calls Try.prog 41 #[.int .i64 op] w fun e w' => e = .returned (.bool (sgOf op)) ∧ w = w' := by
  by_cases hm : op = 44 ∨ op = 46 ∨ op = 48 ∨ op = 50 ∨ op = 52
  · rcases hm with rfl | rfl | rfl | rfl | rfl
    all_goals
      go_enter Try.func41, Try.ntmps41
      go_wp2_with fail
      go_ret
      exact ⟨rfl, rfl⟩
  · have hno : sgOf op = false := decide_eq_false hm
    obtain ⟨h1, h2, h3, h4, h5⟩ : ¬ op = 44 ∧ ¬ op = 46 ∧ ¬ op = 48 ∧ ¬ op = 50 ∧ ¬ op = 52 := by omega
    rw [hno]
    clear hm hno
    go_enter Try.func41, Try.ntmps41
    go_wp2_with fail
    go_ret
    exact ⟨rfl, rfl⟩
set_option maxRecDepth 100000 in
theorem pages_any (a g cap : Nat) (S : List Int) (mo : Int) (w : World) (h : PMem a g cap S mo w) :
    Calls Try.prog 25 #[.pointer (some ⟨a, 0, none⟩)] w fun e w' => e = .returned (.int .i64 (S.length / 65536 : Nat)) ∧ w = w' := by
  have HA := Lib.hid (all_any a g cap S mo w h)
  have e1 : ((S.length : Nat) : Int).tdiv 65536 = (S.length / 65536 : Nat) := by rw [Int.tdiv_eq_ediv_of_nonneg (by omega)]; rfl
  have hl := h.len
  clear h
  go_enter Try.func25, Try.ntmps25
  go_wp2_with (go_at_call 42; refine HA.out.mono ?_; rintro e w1 ⟨rfl, rfl⟩)
  go_ret
  exact ⟨rfl, rfl⟩
theorem pages_nil (w : World) :
    Calls Try.prog 25 #[.pointer none] w fun e w' => e = .returned (.int .i64 0) ∧ w = w' := by
  have HA := Lib.hid (all_nil w)
  go_enter Try.func25, Try.ntmps25
  go_wp2_with (go_at_call 42; refine HA.out.mono ?_; rintro e w1 ⟨rfl, rfl⟩)
  go_ret
  exact ⟨rfl, rfl⟩
theorem most_any (a g cap : Nat) (S : List Int) (mo : Int) (w : World) (h : PMem a g cap S mo w) :
    Calls Try.prog 26 #[.pointer (some ⟨a, 0, none⟩)] w fun e w' => e = .returned (.int .i64 mo) ∧ w = w' := by
  have hs := h.most
  clear h
  go_enter Try.func26, Try.ntmps26
  go_wp2_with fail
  go_ret
  exact ⟨rfl, rfl⟩
theorem most_nil (w : World) :
    Calls Try.prog 26 #[.pointer none] w fun e w' => e = .returned (.int .i64 0) ∧ w = w' := by
  go_enter Try.func26, Try.ntmps26
  go_wp2_with fail
  go_ret
  exact ⟨rfl, rfl⟩
end Go.Proofs.Ytogkieekpmcinaa
