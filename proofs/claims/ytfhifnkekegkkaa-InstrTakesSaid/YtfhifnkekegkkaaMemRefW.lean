/- The reference's widths of loads and stores. -/
import Derived.Test.YtfhifnkekegkkaaKitI
import Derived.Deep.QuietTactic
namespace Go.Proofs.Ytfhifnkekegkkaa
open Go.RowKit

namespace Mem
def wOps : List Int := [40, 41, 44, 45, 46, 47, 48, 49, 50, 51, 52, 53, 54, 55, 58, 59, 60, 61, 62]
def wBytes : List Int := [4, 8, 1, 1, 2, 2, 1, 1, 2, 2, 4, 4, 4, 8, 1, 2, 1, 2, 4]
def wTypes : List Int := [127, 126, 127, 127, 127, 127, 126, 126, 126, 126, 126, 126, 127, 126, 127, 127, 126, 126, 126]
/-- How many bytes, of which type, whether it stores. -/
def width (op : Int) : Int × Int × Bool :=
  if op ∈ wOps then (wBytes.getD (wOps.idxOf op) 0, wTypes.getD (wOps.idxOf op) 0, decide (54 ≤ op)) else (0, 0, false)
def widthTup (op : Int) : Value := .tuple #[.int .i64 (width op).1, .int .i64 (width op).2.1, .bool (width op).2.2]
theorem width_at {op : Int} {k : Nat} (hk : k < 19) (h : wOps.getD k 0 = op) : width op = (wBytes.getD k 0, wTypes.getD k 0, decide (54 ≤ op)) := by
  have hc : k = 0 ∨ k = 1 ∨ k = 2 ∨ k = 3 ∨ k = 4 ∨ k = 5 ∨ k = 6 ∨ k = 7 ∨ k = 8 ∨ k = 9 ∨ k = 10 ∨ k = 11 ∨ k = 12 ∨ k = 13 ∨ k = 14 ∨ k = 15 ∨ k = 16 ∨ k = 17 ∨ k = 18 := by omega
  subst h
  rcases hc with rfl | rfl | rfl | rfl | rfl | rfl | rfl | rfl | rfl | rfl | rfl | rfl | rfl | rfl | rfl | rfl | rfl | rfl | rfl <;> decide
theorem width_none {op : Int} (h : ∀ j, j < 19 → wOps.getD j 0 ≠ op) : width op = (0, 0, false) := by
  unfold width
  rw [if_neg]
  intro hm
  obtain ⟨i, hi, he⟩ := List.getElem_of_mem hm
  exact h i hi (by rw [List.getD_eq_getElem?_getD, List.getElem?_eq_getElem hi]; exact he)
end Mem
theorem view_laid (zs : List Int) (T : TypeId) (w : World) : View (w.alloc (.cells (zs.map (Value.int .i64)).toArray T)) (some ⟨w.heap.size, 0, none⟩) zs.length zs := by
  refine .inr ⟨w.heap.size, 0, rfl, fun i hi => ?_⟩
  rw [World.cell?_alloc_mark]
  simp [List.getElem?_eq_getElem hi]
theorem view_alloc {w : World} {a : Option Addr} {n : Nat} {zs : List Int} (h : View w a n zs) (o : Obj) : View (w.alloc o) a n zs :=
  h.below ((Below.refl _ _).alloc (Nat.le_refl _) o)

set_option maxRecDepth 100000 in
set_option maxHeartbeats 400000 in
theorem refWidth_any (op : Int) (w : World) :
    Calls Try.prog 53 #[.int .i64 op] w fun e w' => e = .returned (Mem.widthTup op) ∧ Below w.heap.size w w' := by
  obtain ⟨R, hR⟩ : ∃ R, R = Mem.widthTup op := ⟨_, rfl⟩
  rw [← hR]
  have HR := Lib.hid hR
  clear hR
  have e1 : (w.alloc (.cells #[Value.int .i64 40, Value.int .i64 41, Value.int .i64 44, Value.int .i64 45, Value.int .i64 46, Value.int .i64 47, Value.int .i64 48, Value.int .i64 49, Value.int .i64 50, Value.int .i64 51, Value.int .i64 52, Value.int .i64 53, Value.int .i64 54, Value.int .i64 55, Value.int .i64 58, Value.int .i64 59, Value.int .i64 60, Value.int .i64 61, Value.int .i64 62] 3)).heap.size = w.heap.size + 1 := by simp
  have e2 : ((w.alloc (.cells #[Value.int .i64 40, Value.int .i64 41, Value.int .i64 44, Value.int .i64 45, Value.int .i64 46, Value.int .i64 47, Value.int .i64 48, Value.int .i64 49, Value.int .i64 50, Value.int .i64 51, Value.int .i64 52, Value.int .i64 53, Value.int .i64 54, Value.int .i64 55, Value.int .i64 58, Value.int .i64 59, Value.int .i64 60, Value.int .i64 61, Value.int .i64 62] 3)).alloc (.cells #[Value.int .i64 4, Value.int .i64 8, Value.int .i64 1, Value.int .i64 1, Value.int .i64 2, Value.int .i64 2, Value.int .i64 1, Value.int .i64 1, Value.int .i64 2, Value.int .i64 2, Value.int .i64 4, Value.int .i64 4, Value.int .i64 4, Value.int .i64 8, Value.int .i64 1, Value.int .i64 2, Value.int .i64 1, Value.int .i64 2, Value.int .i64 4] 3)).heap.size = w.heap.size + 1 + 1 := by simp
  have V1 : Hid (View (((w.alloc (.cells #[Value.int .i64 40, Value.int .i64 41, Value.int .i64 44, Value.int .i64 45, Value.int .i64 46, Value.int .i64 47, Value.int .i64 48, Value.int .i64 49, Value.int .i64 50, Value.int .i64 51, Value.int .i64 52, Value.int .i64 53, Value.int .i64 54, Value.int .i64 55, Value.int .i64 58, Value.int .i64 59, Value.int .i64 60, Value.int .i64 61, Value.int .i64 62] 3)).alloc (.cells #[Value.int .i64 4, Value.int .i64 8, Value.int .i64 1, Value.int .i64 1, Value.int .i64 2, Value.int .i64 2, Value.int .i64 1, Value.int .i64 1, Value.int .i64 2, Value.int .i64 2, Value.int .i64 4, Value.int .i64 4, Value.int .i64 4, Value.int .i64 8, Value.int .i64 1, Value.int .i64 2, Value.int .i64 1, Value.int .i64 2, Value.int .i64 4] 3)).alloc (.cells #[Value.int .i64 127, Value.int .i64 126, Value.int .i64 127, Value.int .i64 127, Value.int .i64 127, Value.int .i64 127, Value.int .i64 126, Value.int .i64 126, Value.int .i64 126, Value.int .i64 126, Value.int .i64 126, Value.int .i64 126, Value.int .i64 127, Value.int .i64 126, Value.int .i64 127, Value.int .i64 127, Value.int .i64 126, Value.int .i64 126, Value.int .i64 126] 3)) (some ⟨w.heap.size, 0, none⟩) 19 Mem.wOps) := Lib.hid (view_alloc (view_alloc (view_laid Mem.wOps _ w) _) _)
  have V2 : Hid (View (((w.alloc (.cells #[Value.int .i64 40, Value.int .i64 41, Value.int .i64 44, Value.int .i64 45, Value.int .i64 46, Value.int .i64 47, Value.int .i64 48, Value.int .i64 49, Value.int .i64 50, Value.int .i64 51, Value.int .i64 52, Value.int .i64 53, Value.int .i64 54, Value.int .i64 55, Value.int .i64 58, Value.int .i64 59, Value.int .i64 60, Value.int .i64 61, Value.int .i64 62] 3)).alloc (.cells #[Value.int .i64 4, Value.int .i64 8, Value.int .i64 1, Value.int .i64 1, Value.int .i64 2, Value.int .i64 2, Value.int .i64 1, Value.int .i64 1, Value.int .i64 2, Value.int .i64 2, Value.int .i64 4, Value.int .i64 4, Value.int .i64 4, Value.int .i64 8, Value.int .i64 1, Value.int .i64 2, Value.int .i64 1, Value.int .i64 2, Value.int .i64 4] 3)).alloc (.cells #[Value.int .i64 127, Value.int .i64 126, Value.int .i64 127, Value.int .i64 127, Value.int .i64 127, Value.int .i64 127, Value.int .i64 126, Value.int .i64 126, Value.int .i64 126, Value.int .i64 126, Value.int .i64 126, Value.int .i64 126, Value.int .i64 127, Value.int .i64 126, Value.int .i64 127, Value.int .i64 127, Value.int .i64 126, Value.int .i64 126, Value.int .i64 126] 3)) (some ⟨w.heap.size + 1, 0, none⟩) 19 Mem.wBytes) := Lib.hid (view_alloc (e1 ▸ view_laid Mem.wBytes _ (w.alloc (.cells #[Value.int .i64 40, Value.int .i64 41, Value.int .i64 44, Value.int .i64 45, Value.int .i64 46, Value.int .i64 47, Value.int .i64 48, Value.int .i64 49, Value.int .i64 50, Value.int .i64 51, Value.int .i64 52, Value.int .i64 53, Value.int .i64 54, Value.int .i64 55, Value.int .i64 58, Value.int .i64 59, Value.int .i64 60, Value.int .i64 61, Value.int .i64 62] 3))) _)
  have V3 : Hid (View (((w.alloc (.cells #[Value.int .i64 40, Value.int .i64 41, Value.int .i64 44, Value.int .i64 45, Value.int .i64 46, Value.int .i64 47, Value.int .i64 48, Value.int .i64 49, Value.int .i64 50, Value.int .i64 51, Value.int .i64 52, Value.int .i64 53, Value.int .i64 54, Value.int .i64 55, Value.int .i64 58, Value.int .i64 59, Value.int .i64 60, Value.int .i64 61, Value.int .i64 62] 3)).alloc (.cells #[Value.int .i64 4, Value.int .i64 8, Value.int .i64 1, Value.int .i64 1, Value.int .i64 2, Value.int .i64 2, Value.int .i64 1, Value.int .i64 1, Value.int .i64 2, Value.int .i64 2, Value.int .i64 4, Value.int .i64 4, Value.int .i64 4, Value.int .i64 8, Value.int .i64 1, Value.int .i64 2, Value.int .i64 1, Value.int .i64 2, Value.int .i64 4] 3)).alloc (.cells #[Value.int .i64 127, Value.int .i64 126, Value.int .i64 127, Value.int .i64 127, Value.int .i64 127, Value.int .i64 127, Value.int .i64 126, Value.int .i64 126, Value.int .i64 126, Value.int .i64 126, Value.int .i64 126, Value.int .i64 126, Value.int .i64 127, Value.int .i64 126, Value.int .i64 127, Value.int .i64 127, Value.int .i64 126, Value.int .i64 126, Value.int .i64 126] 3)) (some ⟨w.heap.size + 1 + 1, 0, none⟩) 19 Mem.wTypes) := Lib.hid (e2 ▸ view_laid Mem.wTypes _ ((w.alloc (.cells #[Value.int .i64 40, Value.int .i64 41, Value.int .i64 44, Value.int .i64 45, Value.int .i64 46, Value.int .i64 47, Value.int .i64 48, Value.int .i64 49, Value.int .i64 50, Value.int .i64 51, Value.int .i64 52, Value.int .i64 53, Value.int .i64 54, Value.int .i64 55, Value.int .i64 58, Value.int .i64 59, Value.int .i64 60, Value.int .i64 61, Value.int .i64 62] 3)).alloc (.cells #[Value.int .i64 4, Value.int .i64 8, Value.int .i64 1, Value.int .i64 1, Value.int .i64 2, Value.int .i64 2, Value.int .i64 1, Value.int .i64 1, Value.int .i64 2, Value.int .i64 2, Value.int .i64 4, Value.int .i64 4, Value.int .i64 4, Value.int .i64 8, Value.int .i64 1, Value.int .i64 2, Value.int .i64 1, Value.int .i64 2, Value.int .i64 4] 3)))
  have HB : Hid (Below w.heap.size w (((w.alloc (.cells #[Value.int .i64 40, Value.int .i64 41, Value.int .i64 44, Value.int .i64 45, Value.int .i64 46, Value.int .i64 47, Value.int .i64 48, Value.int .i64 49, Value.int .i64 50, Value.int .i64 51, Value.int .i64 52, Value.int .i64 53, Value.int .i64 54, Value.int .i64 55, Value.int .i64 58, Value.int .i64 59, Value.int .i64 60, Value.int .i64 61, Value.int .i64 62] 3)).alloc (.cells #[Value.int .i64 4, Value.int .i64 8, Value.int .i64 1, Value.int .i64 1, Value.int .i64 2, Value.int .i64 2, Value.int .i64 1, Value.int .i64 1, Value.int .i64 2, Value.int .i64 2, Value.int .i64 4, Value.int .i64 4, Value.int .i64 4, Value.int .i64 8, Value.int .i64 1, Value.int .i64 2, Value.int .i64 1, Value.int .i64 2, Value.int .i64 4] 3)).alloc (.cells #[Value.int .i64 127, Value.int .i64 126, Value.int .i64 127, Value.int .i64 127, Value.int .i64 127, Value.int .i64 127, Value.int .i64 126, Value.int .i64 126, Value.int .i64 126, Value.int .i64 126, Value.int .i64 126, Value.int .i64 126, Value.int .i64 127, Value.int .i64 126, Value.int .i64 127, Value.int .i64 127, Value.int .i64 126, Value.int .i64 126, Value.int .i64 126] 3))) := Lib.hid ((((Below.refl _ _).alloc (Nat.le_refl _) _).alloc (le_alloc (Nat.le_refl _)) _).alloc (le_alloc (le_alloc (Nat.le_refl _))) _)
  clear e1 e2
  go_enter Try.func53, Try.ntmps53
  go_wp2_with fail
  revert V1 V2 V3 HB
  generalize (((w.alloc (.cells #[Value.int .i64 40, Value.int .i64 41, Value.int .i64 44, Value.int .i64 45, Value.int .i64 46, Value.int .i64 47, Value.int .i64 48, Value.int .i64 49, Value.int .i64 50, Value.int .i64 51, Value.int .i64 52, Value.int .i64 53, Value.int .i64 54, Value.int .i64 55, Value.int .i64 58, Value.int .i64 59, Value.int .i64 60, Value.int .i64 61, Value.int .i64 62] 3)).alloc (.cells #[Value.int .i64 4, Value.int .i64 8, Value.int .i64 1, Value.int .i64 1, Value.int .i64 2, Value.int .i64 2, Value.int .i64 1, Value.int .i64 1, Value.int .i64 2, Value.int .i64 2, Value.int .i64 4, Value.int .i64 4, Value.int .i64 4, Value.int .i64 8, Value.int .i64 1, Value.int .i64 2, Value.int .i64 1, Value.int .i64 2, Value.int .i64 4] 3)).alloc (.cells #[Value.int .i64 127, Value.int .i64 126, Value.int .i64 127, Value.int .i64 127, Value.int .i64 127, Value.int .i64 127, Value.int .i64 126, Value.int .i64 126, Value.int .i64 126, Value.int .i64 126, Value.int .i64 126, Value.int .i64 126, Value.int .i64 127, Value.int .i64 126, Value.int .i64 127, Value.int .i64 127, Value.int .i64 126, Value.int .i64 126, Value.int .i64 126] 3)) = W
  intro V1 V2 V3 HB
  go_loop [8] (fun i => ∃ k : Nat, i = .int .i64 k ∧ k ≤ 19 ∧ ∀ j, j < k → Mem.wOps.getD j 0 ≠ op) (fun i => 19 - (intOf i).toNat)
  case atStart => exact ⟨0, rfl, by decide, fun j hj => by omega⟩
  case round =>
    obtain ⟨k, rfl, hk, hno⟩ := hrel
    have HNO := Lib.hid hno
    clear hno
    by_cases hlt : k < 19
    · obtain ⟨b1, o1, q1, c1⟩ := V1.out.resolve_left (by decide)
      obtain ⟨b2, o2, q2, c2⟩ := V2.out.resolve_left (by decide)
      obtain ⟨b3, o3, q3, c3⟩ := V3.out.resolve_left (by decide)
      cases q1
      cases q2
      cases q3
      have h1 := c1 k hlt
      have h2 := c2 k hlt
      have h3 := c3 k hlt
      rw [Nat.zero_add] at h1 h2 h3
      have hw := Mem.width_at (op := op) hlt
      obtain ⟨z, hz⟩ : ∃ z, z = Mem.wOps.getD k 0 := ⟨_, rfl⟩
      rw [← hz] at h1 hw
      have HW := Lib.hid hw
      have HZ := Lib.hid hz
      clear c1 c2 c3 hw hz V1 V2 V3
      revert h2 h3 HW
      generalize Mem.wBytes.getD k 0 = x
      generalize Mem.wTypes.getD k 0 = y
      intro h2 h3 HW
      by_cases hzo : z = op
      · have hw := HW.out hzo
        subst hzo
        go_wp2_with fail
        go_quiet (fail)
        go_wp2
        go_ret3
        rw [HR.out]
        unfold Mem.widthTup
        rw [hw]
        exact ⟨rfl, below_drewN HB.out _⟩
      · have hzo' : (z == op) = false := by simpa using hzo
        go_wp2_with fail
        refine ⟨⟨k + 1, by go_num, by omega, fun j hj => ?_⟩, by simp [intOf]; omega⟩
        by_cases hjk : j = k
        · rw [hjk, ← HZ.out]
          exact hzo
        · exact HNO.out j (by omega)
    · have hke : k = 19 := by omega
      subst hke
      go_wp2_with fail
      go_ret3
      rw [HR.out]
      unfold Mem.widthTup
      rw [Mem.width_none HNO.out]
      exact ⟨rfl, HB.out⟩
end Go.Proofs.Ytfhifnkekegkkaa
