/- value: hex of 233. -/
import Derived.Test.YtikgkjkgdlnekaaGreatDoorVbT2
set_option linter.unusedVariables false
set_option linter.unusedSimpArgs false
namespace Go.Proofs.YtikgkjkgdlnekaaGreatDoor
open Go.RowKit
open Lex Ct

theorem blk_some {w : World} {b : Nat} {cs : Array Value} {T : TypeId} (h : BlkAt w b cs T) {i : Nat} (hi : i < cs.size) : ∃ x, w.cell? ⟨b, i, none⟩ = some x := ⟨cs[i], by rw [h.cell]; exact Array.getElem?_eq_getElem hi⟩
set_option maxRecDepth 100000 in
set_option maxHeartbeats 8000000 in
theorem rdBits233 (w : World) (htab : Tab2 w) :
    Calls Tryz.prog 92 #[.slice none 0 0, .int .u64 233, .int .i64 16, .bool false, .bool false] w fun y w' => y = .returned (.tuple #[.slice none 0 0, .string ⟨#[101, 57]⟩]) ∧ Kept (fun _ => False) w w' := by
  have HT := Lib.hid (fun w' (k : Kept (fun _ => False) w w') => rdTz w' (tabIs_kept htab k))
  have HP := Lib.hid rdPow2
  have hal : Tryz.prog.arrayLen 130 = 65 := by kernel_rfl
  have hsl : ∀ W, (Instr.sliceAt 130 (.pointer (some ⟨w.heap.size, 0, none⟩)) (some (.int .i64 63)) none none).run Tryz.prog W = .ok (.slice (some ⟨w.heap.size, 63, none⟩) 2 2) W := fun W => by
    rw [run_sliceAt_array_l W 130 ⟨w.heap.size, 0, none⟩ Tryz.underlying130 .i64 63 (by decide) (by rw [hal]; decide)]
    go_simp
  have b1 : bits .and .u64 233 15 = 9 := by decide +kernel
  have d14 : (((⟨#[48, 49, 50, 51, 52, 53, 54, 55, 56, 57, 97, 98, 99, 100, 101, 102, 103, 104, 105, 106, 107, 108, 109, 110, 111, 112, 113, 114, 115, 116, 117, 118, 119, 120, 121, 122]⟩ : ByteArray)[14]'(by decide)).toNat : Int) = 101 := rfl
  have d9 : (((⟨#[48, 49, 50, 51, 52, 53, 54, 55, 56, 57, 97, 98, 99, 100, 101, 102, 103, 104, 105, 106, 107, 108, 109, 110, 111, 112, 113, 114, 115, 116, 117, 118, 119, 120, 121, 122]⟩ : ByteArray)[9]'(by decide)).toNat : Int) = 57 := rfl
  clear htab hal
  go_enter Tryz.func92, Tryz.ntmps92
  go_wp2_with (first
    | (go_at_call 108; refine (HP.out _).mono ?_; rintro y w1 ⟨rfl, rfl⟩)
    | (go_at_call 109; refine (HT.out _ ((Kept.refl _ _).new _)).mono ?_; rintro y w1 ⟨rfl, rfl⟩))
  go_loopw [1, 13] (fun u i wr => Hid (Kept (fun _ => False) w wr) ∧ ((u = .int .u64 233 ∧ i = .int .i64 65 ∧ Hid (∃ cur, BlkAt wr w.heap.size cur 130 ∧ cur.size = 65)) ∨ (u = .int .u64 14 ∧ i = .int .i64 64 ∧ Hid (∃ cur, BlkAt wr w.heap.size cur 130 ∧ cur.size = 65 ∧ cur[64]? = some (.int .u8 57))))) (fun u _ _ => (intOf u).toNat)
  case atStart => exact ⟨Lib.hid ((Kept.refl _ w).new _), .inl ⟨rfl, rfl, Lib.hid ⟨_, BlkAt.new w _ _, rfl⟩⟩⟩
  case round =>
    obtain ⟨HK, ⟨rfl, rfl, hb⟩ | ⟨rfl, rfl, hb⟩⟩ := hrel
    · obtain ⟨cur, hB, hs⟩ := hb.out
      obtain ⟨x, c0⟩ := blk_some hB (i := 64) (by omega)
      have f0 := hB.frozen 64
      have HB := Lib.hid (hB.put 64 (.int .u8 57))
      have HS := Lib.hid hs
      clear hB hs
      go_wp2_with fail
      exact ⟨⟨Lib.hid ((((HK.out).any (F := (w.heap.size ≤ ·))).set (p := ⟨w.heap.size, 64, none⟩) (Nat.le_refl _) _).clear (fun i hi e => by have e : w.heap.size ≤ i := e; omega)), .inr ⟨rfl, rfl, Lib.hid ⟨_, HB.out, by rw [Array.size_setIfInBounds]; exact HS.out, by rw [Array.getElem?_setIfInBounds]; simp [HS.out]⟩⟩⟩, by decide⟩
    · obtain ⟨cur, hB, hs, h9⟩ := hb.out
      obtain ⟨x, c0⟩ := blk_some hB (i := 63) (by omega)
      have f0 := hB.frozen 63
      have hB2 := hB.put 63 (.int .u8 101)
      have k2 : Kept (fun _ => False) w (wr.setCell ⟨w.heap.size, 63, none⟩ (.int .u8 101)) := (((HK.out).any (F := (w.heap.size ≤ ·))).set (p := ⟨w.heap.size, 63, none⟩) (Nat.le_refl _) _).clear (fun i hi e => by have e : w.heap.size ≤ i := e; omega)
      have g0 : (wr.setCell ⟨w.heap.size, 63, none⟩ (.int .u8 101)).cell? ⟨w.heap.size, 63, none⟩ = some (.int .u8 101) := by rw [hB2.cell, Array.getElem?_setIfInBounds]; simp [hs]
      have g1 : (wr.setCell ⟨w.heap.size, 63, none⟩ (.int .u8 101)).cell? ⟨w.heap.size, 64, none⟩ = some (.int .u8 57) := by rw [hB2.cell, Array.getElem?_setIfInBounds]; simp [h9]
      have hcv : (convert 91 9 (.slice (some ⟨w.heap.size, 63, none⟩) 2 2)).run Tryz.prog (wr.setCell ⟨w.heap.size, 63, none⟩ (.int .u8 101)) = .ok (.string ⟨#[101, 57]⟩) (wr.setCell ⟨w.heap.size, 63, none⟩ (.int .u8 101)) := by
        have h := run_convert_bytes_back (P := Tryz.prog) (wr.setCell ⟨w.heap.size, 63, none⟩ (.int .u8 101)) 91 9 5 ⟨w.heap.size, 63, none⟩ 2 [101, 57] Tryz.underlying91 Tryz.underlying5 Tryz.underlying9 (fun j hj => by
          rw [Addr.add_lit]
          have hj : j < 2 := hj
          obtain rfl | rfl : j = 0 ∨ j = 1 := by omega
          · exact g0
          · exact g1)
        exact h
      have HK2 := Lib.hid k2
      clear hB hs h9 hB2 k2 g0 g1
      go_wp2_with fail
      exact bodyPost_ret (v := .tuple #[.slice none 0 0, .string ⟨#[101, 57]⟩]) (by simp [results, Tryz.results92, go_sem]) rfl ⟨rfl, HK2.out⟩
set_option maxRecDepth 100000 in
theorem rdHex233 (w : World) (htab : Tab2 w) : Calls Tryz.prog 52 #[.int .i64 233] w (TxtR ⟨#[101, 57]⟩ w) := by
  have H1 : Hid (∀ w', Kept (fun _ => False) w w' → Calls Tryz.prog 92 #[.slice none 0 0, .int .u64 233, .int .i64 16, .bool false, .bool false] w' fun y w'' => y = .returned (.tuple #[.slice none 0 0, .string ⟨#[101, 57]⟩]) ∧ Kept (fun _ => False) w' w'') := Lib.hid (fun w' k => rdBits233 w' (tabIs_kept htab k))
  have H2 : Hid (Calls Tryz.prog 100 #[.int .i64 233, .int .i64 16] w (TxtR ⟨#[101, 57]⟩ w)) := Lib.hid (by
    go_enter Tryz.func100, Tryz.ntmps100
    go_wp2_with (first | (go_at_call 92; refine (H1.out _ (Kept.refl _ _)).mono ?_; rintro y w1 ⟨rfl, k1⟩))
    go_ret
    exact ⟨rfl, k1⟩)
  unfold TxtR at H2
  have H3 : Hid (Calls Tryz.prog 80 #[.int .i64 233, .int .i64 16] w (TxtR ⟨#[101, 57]⟩ w)) := Lib.hid (by
    go_enter Tryz.func80, Tryz.ntmps80
    go_wp2_with (first | (go_at_call 100; refine H2.out.mono ?_; rintro y w1 ⟨rfl, k1⟩))
    go_ret
    exact ⟨rfl, k1⟩)
  unfold TxtR at H3
  go_enter Tryz.func52, Tryz.ntmps52
  go_wp2_with (first | (go_at_call 80; refine H3.out.mono ?_; rintro y w1 ⟨rfl, k1⟩))
  go_ret
  exact ⟨rfl, k1⟩
end Go.Proofs.YtikgkjkgdlnekaaGreatDoor
