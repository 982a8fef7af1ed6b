/- handles: may, find. -/
import Derived.Test.YtglhfofofacekaaHdC
set_option linter.unusedVariables false
set_option linter.unusedSimpArgs false
namespace Go.Proofs.Ytglhfofofacekaa
open Go.RowKit

/-- May what a resource's number stands for come to an instance? -/
def mayB (n m : Nat) (i r rep : Int) : Bool := hasB n i && (decide (0 ≤ r) && (decide (r < m) && (decide (0 ≤ rep) && decide (rep ≤ 4294967295))))
theorem ints_slice {B : Nat} {v : Value} {xs : List Int} {w : World} (h : Ints B v xs w) : ∃ a cap, v = .slice a xs.length cap := by
  obtain ⟨a, cap, e, _⟩ := h.view
  exact ⟨a, cap, e⟩
set_option maxRecDepth 100000 in
set_option maxHeartbeats 1000000 in
theorem may_nil (i r rep : Int) (w : World) : Calls Try.prog 50 #[.pointer none, .int .i64 i, .int .i64 r, .int .i64 rep] w fun e w' => e = .returned (.bool false) ∧ w = w' := by
  have HH := has_nil i w
  go_enter Try.func50, Try.ntmps50
  go_wp2_with (go_at_call 44; refine HH.mono ?_; rintro e w' ⟨rfl, rfl⟩)
  go_ret
  exact ⟨rfl, rfl⟩
set_option maxRecDepth 100000 in
set_option maxHeartbeats 1000000 in
theorem may_any (a tg n cap m : Nat) (ma : Option Addr) (mc : Nat) (i r rep : Int) (w : World) (h0 : w.cell? ⟨a, 0, none⟩ = some (.slice ma m mc)) (h1 : w.cell? ⟨a, 1, none⟩ = some (.slice (some ⟨tg, 0, none⟩) n cap)) :
    Calls Try.prog 50 #[.pointer (some ⟨a, 0, none⟩), .int .i64 i, .int .i64 r, .int .i64 rep] w fun e w' => e = .returned (.bool (mayB n m i r rep)) ∧ w = w' := by
  have HH := has_any a tg n cap i w h1
  unfold mayB
  generalize hasB n i = hb at HH ⊢
  clear h1
  cases hb
  · go_enter Try.func50, Try.ntmps50
    go_wp2_with (go_at_call 44; refine HH.mono ?_; rintro e w' ⟨rfl, rfl⟩)
    all_goals go_ret
    all_goals exact ⟨by (simp_all; try omega), rfl⟩
  · go_enter Try.func50, Try.ntmps50
    go_wp2_with (go_at_call 44; refine HH.mono ?_; rintro e w' ⟨rfl, rfl⟩)
    all_goals go_ret
    all_goals exact ⟨by (simp_all; try omega), rfl⟩

/-- The handle of a resource at an index of an instance's table. -/
def findT (tb : List (List Hd)) (i r h : Int) : Hd × Bool :=
  if hasB tb.length i = true then (((at? (tb.getD i.toNat []) h).getD Hd.zero), (at? (tb.getD i.toNat []) h).isSome && decide (((at? (tb.getD i.toNat []) h).getD Hd.zero).r = r)) else (Hd.zero, false)
set_option maxRecDepth 100000 in
set_option maxHeartbeats 1000000 in
theorem find_nil (i r h : Int) (w : World) : Calls Try.prog 53 #[.pointer none, .int .i64 i, .int .i64 r, .int .i64 h] w fun e w' => e = .returned (.tuple #[Hd.zero.v, .bool false]) ∧ Below w.heap.size w w' := by
  have HH := fun w => has_nil i w
  go_enter Try.func53, Try.ntmps53
  go_wp2_with (go_at_call 44; refine (HH _).mono ?_; rintro e w' ⟨rfl, rfl⟩)
  refine bodyPost_ret (v := .tuple #[Hd.zero.v, .bool false]) (by simp [results, Try.results53, go_sem, Hd.zero]) rfl ⟨rfl, ?_⟩
  exact ((Below.refl _ w).alloc (Nat.le_refl _) _)
set_option maxRecDepth 100000 in
set_option maxHeartbeats 4000000 in
theorem find_ok (a tg n cap b : Nat) (T : List Hd) (k : Nat) (r h : Int) (w : World) (hk : k < n) (hh : wf64 h) (h1 : w.cell? ⟨a, 1, none⟩ = some (.slice (some ⟨tg, 0, none⟩) n cap)) (h2 : w.cell? ⟨tg, k, none⟩ = some (.map (some b))) (hm : HMap w b T) :
    Calls Try.prog 53 #[.pointer (some ⟨a, 0, none⟩), .int .i64 (k : Int), .int .i64 r, .int .i64 h] w fun e w' => e = .returned (.tuple #[((at? T h).getD Hd.zero).v, .bool ((at? T h).isSome && decide (((at? T h).getD Hd.zero).r = r))]) ∧ Below w.heap.size w w' := by
  have la := World.block_lt_of_cell? w _ h1
  have lt := World.block_lt_of_cell? w _ h2
  have HH := fun (w : World) (h1 : w.cell? ⟨a, 1, none⟩ = some (.slice (some ⟨tg, 0, none⟩) n cap)) => has_any a tg n cap k w h1
  rw [show hasB n (k : Int) = true by simp [hasB, hk]] at HH
  have hz : Hd.zero.v = .agg #[.int .i64 0, .int .i64 0, .int .i64 0, .bool false, .int .i64 0, .int .i64 0] := rfl
  have hl0 := (hm.kept (F := fun _ => False) (((Kept.refl _ w).new (.cells #[.int .i64 0, .int .i64 0, .int .i64 0, .bool false, .int .i64 0, .int .i64 0] 68))) (by simp)).look hh
  have c1 : (w.alloc (.cells #[.int .i64 0, .int .i64 0, .int .i64 0, .bool false, .int .i64 0, .int .i64 0] 68)).cell? ⟨a, 1, none⟩ = some (.slice (some ⟨tg, 0, none⟩) n cap) := (((Below.refl w.heap.size w).alloc (Nat.le_refl _) _).cell (p := ⟨a, 1, none⟩) la).trans h1
  have c2 : (w.alloc (.cells #[.int .i64 0, .int .i64 0, .int .i64 0, .bool false, .int .i64 0, .int .i64 0] 68)).cell? ⟨tg, k, none⟩ = some (.map (some b)) := (((Below.refl w.heap.size w).alloc (Nat.le_refl _) _).cell (p := ⟨tg, k, none⟩) lt).trans h2
  clear hm hh la lt h1 h2
  revert hl0
  generalize (at? T h).isSome = ok
  generalize (at? T h).getD Hd.zero = x
  intro hl0
  obtain ⟨xh, xr, xrep, xown, xlends, xcall⟩ := x
  simp only at hl0 ⊢
  go_enter Try.func53, Try.ntmps53
  go_wp2_with (go_at_call 44; refine (HH _ c1).mono ?_; rintro e w' ⟨rfl, rfl⟩)
  cases ok
  · go_region
    go_wp2
    refine bodyPost_ret (v := .tuple #[.agg #[.int .i64 xh, .int .i64 xr, .int .i64 xrep, .bool xown, .int .i64 xlends, .int .i64 xcall], .bool false]) (by simp [results, Try.results53, go_sem]) rfl ⟨rfl, ?_⟩
    exact ((((Below.refl w.heap.size w).alloc (Nat.le_refl _) _).alloc (by simp) _).drew)
  · go_region
    go_wp2
    refine bodyPost_ret (v := .tuple #[.agg #[.int .i64 xh, .int .i64 xr, .int .i64 xrep, .bool xown, .int .i64 xlends, .int .i64 xcall], .bool (xr == r)]) (by simp [results, Try.results53, go_sem]) rfl ⟨by by_cases hh : xr = r <;> simp [hh], ?_⟩
    exact ((((Below.refl w.heap.size w).alloc (Nat.le_refl _) _).alloc (by simp) _).drew)
set_option maxRecDepth 100000 in
set_option maxHeartbeats 1000000 in
theorem find_no (a tg n cap : Nat) (i r h : Int) (w : World) (hi : hasB n i = false) (h1 : w.cell? ⟨a, 1, none⟩ = some (.slice (some ⟨tg, 0, none⟩) n cap)) :
    Calls Try.prog 53 #[.pointer (some ⟨a, 0, none⟩), .int .i64 i, .int .i64 r, .int .i64 h] w fun e w' => e = .returned (.tuple #[Hd.zero.v, .bool false]) ∧ Below w.heap.size w w' := by
  have la := World.block_lt_of_cell? w _ h1
  have HH := fun (w : World) (h1 : w.cell? ⟨a, 1, none⟩ = some (.slice (some ⟨tg, 0, none⟩) n cap)) => has_any a tg n cap i w h1
  rw [hi] at HH
  have c1 : (w.alloc (.cells #[.int .i64 0, .int .i64 0, .int .i64 0, .bool false, .int .i64 0, .int .i64 0] 68)).cell? ⟨a, 1, none⟩ = some (.slice (some ⟨tg, 0, none⟩) n cap) := (((Below.refl w.heap.size w).alloc (Nat.le_refl _) _).cell (p := ⟨a, 1, none⟩) la).trans h1
  clear la h1
  go_enter Try.func53, Try.ntmps53
  go_wp2_with (go_at_call 44; refine (HH _ c1).mono ?_; rintro e w' ⟨rfl, rfl⟩)
  refine bodyPost_ret (v := .tuple #[Hd.zero.v, .bool false]) (by simp [results, Try.results53, go_sem, Hd.zero]) rfl ⟨rfl, ?_⟩
  exact ((Below.refl _ w).alloc (Nat.le_refl _) _)

theorem hasB_nat {n : Nat} {i : Int} (h : hasB n i = true) : ∃ k : Nat, i = k ∧ k < n := by
  simp [hasB] at h
  exact ⟨i.toNat, by omega, by omega⟩
/-- What find answers. -/
theorem TbR.find {F : Nat → Prop} {a : Nat} {w : World} {S : Tb} {H : TbH} (h0 : TbR F a w S H) (i r h : Int) (hh : wf64 h) :
    Calls Try.prog 53 #[.pointer (some ⟨a, 0, none⟩), .int .i64 i, .int .i64 r, .int .i64 h] w fun e w' => e = .returned (.tuple #[(findT S.tb i r h).1.v, .bool (findT S.tb i r h).2]) ∧ Below w.heap.size w w' := by
  unfold findT
  cases hb : hasB S.tb.length i
  · exact find_no a H.tg S.tb.length H.tcap i r h w hb h0.cells.2.1
  · obtain ⟨k, rfl, hk⟩ := hasB_nat hb
    have h2 : w.cell? ⟨H.tg, k, none⟩ = some (.map (some (H.bs.getD k 0))) := (h0.tbl.cell k).trans (h0.slot k hk)
    exact find_ok a H.tg S.tb.length H.tcap _ _ k r h w hk hh h0.cells.2.1 h2 (h0.maps k hk)
end Go.Proofs.Ytglhfofofacekaa
