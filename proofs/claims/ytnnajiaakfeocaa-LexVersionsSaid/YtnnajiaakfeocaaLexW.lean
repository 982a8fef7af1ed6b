/- lex: LexVersions' walk, whole. -/
import Derived.Test.YtnnajiaakfeocaaLexS
namespace Go.Proofs.Ytnnajiaakfeocaa
open Go.RowKit
open Lex

theorem sz_46 : (⟨#[46]⟩ : ByteArray).size = 1 := rfl
theorem sz_461 : (⟨#[46, 49]⟩ : ByteArray).size = 2 := rfl
theorem sz_48 : (⟨#[48]⟩ : ByteArray).size = 1 := rfl
theorem sz_64 : (⟨#[64]⟩ : ByteArray).size = 1 := rfl
theorem sz_59 : (⟨#[59]⟩ : ByteArray).size = 1 := rfl
theorem bl_46 : bl (⟨#[46]⟩ : ByteArray) = [46] := rfl
theorem bl_461 : bl (⟨#[46, 49]⟩ : ByteArray) = [46, 49] := rfl
theorem bl_48 : bl (⟨#[48]⟩ : ByteArray) = [48] := rfl
theorem bl_64 : bl (⟨#[64]⟩ : ByteArray) = [64] := rfl
theorem bl_59 : bl (⟨#[59]⟩ : ByteArray) = [59] := rfl
theorem digits_any (n : Nat) (h : n < 1024) : ∃ D : ByteArray, Digits (bl D) ∧ D.size ≤ 4 ∧ ∀ w, Calls Try.prog 19 #[.int .i64 n] w fun e w' => e = .returned (.string D) ∧ Below w.heap.size w w' := by
  have hd := digits_ok n h
  have hbl : bl (strOfNums (digL n)) = digL n := bl_str _ fun z hz => by
    have := hd.dig z hz
    unfold dig at this
    have := of_decide_eq_true this
    omega
  exact ⟨strOfNums (digL n), by rw [hbl]; exact hd, by rw [strOfNums_size]; exact hd.len, fun w => digits_k 3 n (by decide) (by omega) (by omega) w⟩

set_option maxRecDepth 100000 in
set_option maxHeartbeats 1000000 in
theorem LexVersions_walk (a b c : Int) (_ha : (Lit.int .i64 a).wf = true) (_hb : (Lit.int .i64 b).wf = true) (_hc : (Lit.int .i64 c).wf = true) (w : World) :
    Calls Try.prog 7 #[.int .i64 a, .int .i64 b, .int .i64 c] w fun e w' => e = .returned (.bool true) ∧ Below w.heap.size w w' := by
  have e1 := i64_and1023 a
  have e2 := i64_and1023 b
  have e3 := i64_and1023 c
  obtain ⟨x, hx, hx4⟩ : ∃ x : Nat, a % 1024 = (x : Int) ∧ x < 1024 := ⟨(a % 1024).toNat, by omega, by omega⟩
  obtain ⟨y, hy, hy4⟩ : ∃ y : Nat, b % 1024 = (y : Int) ∧ y < 1024 := ⟨(b % 1024).toNat, by omega, by omega⟩
  obtain ⟨z, hz, hz4⟩ : ∃ z : Nat, c % 1024 = (z : Int) ∧ z < 1024 := ⟨(c % 1024).toNat, by omega, by omega⟩
  rw [hx] at e1
  rw [hy] at e2
  rw [hz] at e3
  obtain ⟨A, hA, sA, cA⟩ := digits_any x hx4
  obtain ⟨B, hB, sB, cB⟩ := digits_any y hy4
  obtain ⟨C, hC, sC, cC⟩ := digits_any z hz4
  have hS : bl (A ++ ⟨#[46]⟩ ++ B ++ ⟨#[46]⟩ ++ C) = bl A ++ 46 :: (bl B ++ 46 :: bl C) := by
    rw [bl_app, bl_app, bl_app, bl_app, bl_46]
    simp [List.append_assoc]
  have sS : (A ++ ⟨#[46]⟩ ++ B ++ ⟨#[46]⟩ ++ C).size ≤ 14 := by simp only [sz_app, sz_46]; omega
  have F1 : versL (bl (A ++ ⟨#[46]⟩ ++ B ++ ⟨#[46]⟩ ++ C)) = true := by rw [hS]; exact vers3 hA hB hC
  have F2 : versL (bl (⟨#[48]⟩ ++ (A ++ ⟨#[46]⟩ ++ B ++ ⟨#[46]⟩ ++ C))) = false := by
    rw [bl_app, hS, bl_48]; exact vers_zero hA _
  have F3 : versL (bl (A ++ ⟨#[46]⟩ ++ B ++ ⟨#[46]⟩ ++ C ++ ⟨#[46, 49]⟩)) = false := by
    rw [bl_app, hS, bl_461]
    have := vers_four hA hB hC
    simpa [List.append_assoc] using this
  have F4 : versL (bl (A ++ ⟨#[46]⟩ ++ B)) = false := by
    rw [bl_app, bl_app, bl_46]
    have := vers_two hA hB
    simpa [List.append_assoc] using this
  have F5 : resL (bl (⟨#[64]⟩ ++ (A ++ ⟨#[46]⟩ ++ B ++ ⟨#[46]⟩ ++ C) ++ ⟨#[59]⟩)) = ([⟨4, [64], 0⟩, ⟨3, bl (A ++ ⟨#[46]⟩ ++ B ++ ⟨#[46]⟩ ++ C), 1⟩, ⟨4, [59], 1 + (bl (A ++ ⟨#[46]⟩ ++ B ++ ⟨#[46]⟩ ++ C)).length⟩], 0, 0) := by
    rw [bl_app, bl_app, bl_64, bl_59, hS]
    exact cut_vers hA hB hC
  have K1 := Lib.hid cA
  have K2 := Lib.hid cB
  have K3 := Lib.hid cC
  have K4 := Lib.hid cA
  have K5 := Lib.hid cB
  clear hx hy hz hx4 hy4 hz4 hA hB hC cA cB cC hS
  have hb := Below.refl w.heap.size w
  have G1 := Lib.hid F1
  have G2 := Lib.hid F2
  have G3 := Lib.hid F3
  have G4 := Lib.hid F4
  have G5 := Lib.hid F5
  clear F1 F2 F3 F4 F5
  go_enter Try.func7, Try.ntmps7
  go_wp2_with (first
    | (go_at_call 19; refine (K1.out _).mono ?_; rintro e w1 ⟨rfl, k⟩; replace hb := hb.trans (k.mono hb.size); clear k K1)
    | (go_at_call 19; refine (K2.out _).mono ?_; rintro e w1 ⟨rfl, k⟩; replace hb := hb.trans (k.mono hb.size); clear k K2)
    | (go_at_call 19; refine (K3.out _).mono ?_; rintro e w1 ⟨rfl, k⟩; replace hb := hb.trans (k.mono hb.size); clear k K3)
    | (go_at_call 8; refine (Cut_any _ (by simp only [sz_app, sz_46, sz_64, sz_59]; unfold maxLen; omega) _).mono ?_; rw [G5.out]; clear G5; rintro e w1 ⟨v, rfl, t, k⟩; obtain ⟨a1, c1, hv, V⟩ := t.view; rw [show ∀ x y z : Tok, [x, y, z].length = 3 from fun _ _ _ => rfl] at hv V; subst hv; obtain ⟨b, off, rfl, hcc⟩ := V.resolve_left (by decide); obtain ⟨y0, y1, _⟩ := hcc 1 (by decide); clear hcc V t; have lb := World.block_lt_of_cell? w1 _ y0; replace y0 : w1.cell? ⟨b, off + 3, none⟩ = some (.int .i64 3) := y0; replace y1 : w1.cell? ⟨b, off + 3 + 1, none⟩ = some (.string (strOfNums (bl (A ++ ⟨#[46]⟩ ++ B ++ ⟨#[46]⟩ ++ C)))) := y1; rw [bl_back] at y1; replace hb := hb.trans (k.mono hb.size); clear k)
    | (go_at_call 16; refine (Version_pure _ (by first | omega | (simp only [sz_app, sz_46, sz_461, sz_48]; omega)) _).mono ?_; rintro e w1 ⟨rfl, k⟩; replace hb := hb.trans (k.mono hb.size); replace y0 := (k.cell (p := ⟨b, off + 3, none⟩) lb).trans y0; replace y1 := (k.cell (p := ⟨b, off + 3 + 1, none⟩) lb).trans y1; replace lb := Nat.lt_of_lt_of_le lb k.size; clear k; first | rw [G2.out] | rw [G3.out] | rw [G1.out] | rw [G4.out])
    | (go_at_call 19; refine (K4.out _).mono ?_; rintro e w1 ⟨rfl, k⟩; replace hb := hb.trans (k.mono hb.size); replace y0 := (k.cell (p := ⟨b, off + 3, none⟩) lb).trans y0; replace y1 := (k.cell (p := ⟨b, off + 3 + 1, none⟩) lb).trans y1; replace lb := Nat.lt_of_lt_of_le lb k.size; clear k K4)
    | (go_at_call 19; refine (K5.out _).mono ?_; rintro e w1 ⟨rfl, k⟩; replace hb := hb.trans (k.mono hb.size); replace y0 := (k.cell (p := ⟨b, off + 3, none⟩) lb).trans y0; replace y1 := (k.cell (p := ⟨b, off + 3 + 1, none⟩) lb).trans y1; replace lb := Nat.lt_of_lt_of_le lb k.size; clear k K5)
    | (go_at_call 11; refine (awake_any _).mono ?_; rintro e w1 ⟨rfl, k⟩; replace hb := hb.trans (k.mono hb.size); clear k))
  go_ret
  exact ⟨rfl, hb⟩
end Go.Proofs.Ytnnajiaakfeocaa
