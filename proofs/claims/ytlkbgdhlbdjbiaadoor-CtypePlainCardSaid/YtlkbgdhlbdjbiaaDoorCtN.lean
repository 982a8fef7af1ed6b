/- ctype: next, whole, a case's bytes, flags; the closures that are told sizes. -/
import Derived.Test.YtlkbgdhlbdjbiaaDoorCtM
import Derived.Test.YtlkbgdhlbdjbiaaDoorKitI
set_option linter.unusedVariables false
set_option linter.unusedSimpArgs false
namespace Go.Proofs.YtlkbgdhlbdjbiaaDoor
open Go.RowKit
open Lex Ct

set_option maxRecDepth 100000 in
set_option maxHeartbeats 4000000 in
theorem rdNext (n b : Nat) (hn : n ≤ 100000) (hb : Al b) (w : World) :
    Calls Tryd.prog 47 #[.int .i64 (n : Int), .int .i64 (b : Int)] w fun y w' => y = .returned (.int .i64 (nxt n b : Nat)) ∧ w = w' := by
  rcases hb with rfl | rfl | rfl | rfl
  all_goals (
    go_enter Tryd.func47, Tryd.ntmps47
    go_wp2_with fail
    go_ret
    refine ⟨?_, rfl⟩
    simp [nxt]
    try omega)
set_option maxRecDepth 100000 in
set_option maxHeartbeats 4000000 in
theorem rdWhole (n b : Nat) (hn : n ≤ 100000) (hb : Al b) (w : World) :
    Calls Tryd.prog 48 #[.int .i64 (n : Int), .int .i64 (b : Int)] w fun y w' => y = .returned (cV (nxt n b, b)) ∧ w = w' := by
  have HN := Lib.hid (rdNext n b hn hb)
  clear hn hb
  revert HN
  generalize nxt n b = m
  intro HN
  go_enter Tryd.func48, Tryd.ntmps48
  go_wp2_with (first
    | (go_at_call 47; refine (HN.out _).mono ?_; rintro y w1 ⟨rfl, rfl⟩))
  go_ret
  exact ⟨rfl, rfl⟩
set_option maxRecDepth 100000 in
set_option maxHeartbeats 4000000 in
theorem rdCaseBytes (n : Nat) (w : World) :
    Calls Tryd.prog 35 #[.int .i64 (n : Int)] w fun y w' => y = .returned (.int .i64 (casB n : Nat)) ∧ w = w' := by
  by_cases h : 256 < n
  · have e : casB n = 2 := by unfold casB; rw [if_pos h]
    rw [e]
    have hb : decide ((n : Int) > 256) = true := by simp; omega
    clear h e
    go_enter Tryd.func35, Tryd.ntmps35
    go_wp2_with fail
    go_ret
    exact ⟨rfl, rfl⟩
  · have e : casB n = 1 := by unfold casB; rw [if_neg h]
    rw [e]
    have hb : decide ((n : Int) > 256) = false := by simp; omega
    clear h e
    go_enter Tryd.func35, Tryd.ntmps35
    go_wp2_with fail
    go_ret
    exact ⟨rfl, rfl⟩
set_option maxRecDepth 100000 in
set_option maxHeartbeats 4000000 in
theorem rdFlagBytes (n : Nat) (w : World) :
    Calls Tryd.prog 44 #[.int .i64 (n : Int)] w fun y w' => y = .returned (cV (flg n)) ∧ w = w' := by
  by_cases h : n ≤ 8
  · have e : flg n = (1, 1) := by unfold flg; rw [if_pos h]
    rw [e, cV_11]
    have hb : decide ((n : Int) ≤ 8) = true := by simp; omega
    clear h e
    go_enter Tryd.func44, Tryd.ntmps44
    go_wp2_with fail
    go_ret
    exact ⟨rfl, rfl⟩
  · have hb : decide ((n : Int) ≤ 8) = false := by simp; omega
    by_cases h2 : n ≤ 16
    · have e : flg n = (2, 2) := by unfold flg; rw [if_neg h, if_pos h2]
      rw [e, cV_22]
      have hb2 : decide ((n : Int) ≤ 16) = true := by simp; omega
      clear h h2 e
      go_enter Tryd.func44, Tryd.ntmps44
      go_wp2_with fail
      go_ret
      exact ⟨rfl, rfl⟩
    · have e : flg n = (4, 4) := by unfold flg; rw [if_neg h, if_neg h2]
      rw [e, cV_44]
      have hb2 : decide ((n : Int) ≤ 16) = false := by simp; omega
      clear h h2 e
      go_enter Tryd.func44, Tryd.ntmps44
      go_wp2_with fail
      go_ret
      exact ⟨rfl, rfl⟩
theorem max_cast (a b : Nat) : max (a : Int) (b : Int) = ((max a b : Nat) : Int) := by omega
set_option maxRecDepth 100000 in
set_option maxHeartbeats 4000000 in
/-- What is told of a case. -/
theorem rdCases1 (r m s a R M : Nat) (w : World) (h1 : BlkAt w R #[.int .i64 (r : Int)] 3) (h2 : BlkAt w M #[.int .i64 (m : Int)] 3) (hne : R ≠ M) :
    Calls Tryd.prog 49 (#[.int .i64 (s : Int), .int .i64 (a : Int)] ++ #[.pointer (some ⟨R, 0, none⟩), .pointer (some ⟨M, 0, none⟩)]) w fun y w' => y = .returned (.tuple #[]) ∧ Kept (fun k => k = R ∨ k = M) w w' ∧ BlkAt w' R #[.int .i64 ((max r s : Nat) : Int)] 3 ∧ BlkAt w' M #[.int .i64 ((max m a : Nat) : Int)] 3 := by
  have b1 := h1.put 0 (.int .i64 ((max r s : Nat) : Int))
  have b2 := h2.other (b' := R) (by omega) 0 (.int .i64 ((max r s : Nat) : Int))
  have b3 := b2.put 0 (.int .i64 ((max m a : Nat) : Int))
  have b4 := b1.other (b' := M) hne 0 (.int .i64 ((max m a : Nat) : Int))
  have k1 : Kept (fun k => k = R ∨ k = M) w ((w.setCell ⟨R, 0, none⟩ (.int .i64 ((max r s : Nat) : Int))).setCell ⟨M, 0, none⟩ (.int .i64 ((max m a : Nat) : Int))) := ((Kept.refl _ w).set (p := ⟨R, 0, none⟩) (.inl rfl) _).set (p := ⟨M, 0, none⟩) (.inr rfl) _
  have m1 := h1.cell 0
  have z1 := h1.frozen 0
  have m2 := b2.cell 0
  have z2 := b2.frozen 0
  simp at m1 m2
  have HK := Lib.hid k1
  have HB3 := Lib.hid b3
  have HB4 := Lib.hid b4
  have e1 := max_cast r s
  have e2 := max_cast m a
  clear b1 b2 b3 b4 k1 h1 h2 hne
  show Calls _ _ #[_, _, _, _] _ _
  go_enter Tryd.func49, Tryd.ntmps49
  go_wp2_with fail
  exact bodyPost_void rfl rfl ⟨rfl, HK.out, HB4.out, HB3.out⟩
end Go.Proofs.YtlkbgdhlbdjbiaaDoor
