/- The project's loads. -/
import Derived.Test.YtogkieekpmcinaaMemC
namespace Go.Proofs.Ytogkieekpmcinaa
open Go.RowKit

theorem PMem.cells {a g cap : Nat} {S : List Int} {mo : Int} {w : World} (h : PMem a g cap S mo w) {p n : Nat} (hp : p + n ≤ S.length) : Cells w (some ⟨g, p, none⟩) (part S p n) := by
  refine .inr ⟨g, p, rfl, fun i hi => ?_⟩
  rw [part_length hp] at hi
  rw [h.cell (by omega), part_get hi]
theorem part_any (a g cap : Nat) (S : List Int) (mo : Int) (at' k : Int) (w : World) (h : PMem a g cap S mo w) (hat : at' ≤ 9223372036854775807) :
    Calls Try.prog 39 #[.pointer (some ⟨a, 0, none⟩), .int .i64 at', .int .i64 k] w fun e w' => e = .returned (partV (some ⟨g, 0, none⟩) S.length at' k) ∧ w = w' :=
  part_of _ _ _ _ _ _ h.caps.1 h.caps.2 w hat (all_any a g cap S mo w h)
theorem add_at (g p : Nat) : (⟨g, 0, none⟩ : Addr).add p = ⟨g, p, none⟩ := by unfold Addr.add; split <;> simp_all
theorem partV_yes {g n p k : Nat} (hk : k ≠ 0) (h : p + k ≤ n) : partV (some ⟨g, 0, none⟩) n p k = .tuple #[.slice (some ⟨g, p, none⟩) k k, .bool true] := by
  unfold partV
  have hi : inB n p k = true := decide_eq_true (by omega)
  rw [if_pos hi, if_neg (by omega)]
  simp only [Int.toNat_natCast, Option.map_some, add_at]
theorem loadV_s1 (bs : List Int) (hl : bs.length = 1) (hb : ∀ z ∈ bs, 0 ≤ z ∧ z ≤ 255) (ty : Int) :
    loadV 1 ty true bs = (if 128 ≤ valB bs then (if ty = 127 then valB bs - 256 + 4294967296 else valB bs - 256) else valB bs) ∧ 0 ≤ valB bs ∧ valB bs < 256 := by
  have hv := valB_range hb
  obtain ⟨h1, h2⟩ := top_bytes hl (by decide) hb
  have h3 := valB_range (l := bs.take 0) fun z hz => hb z (List.mem_of_mem_take hz)
  rw [List.length_take, hl, Nat.min_eq_left (by decide)] at h3
  rw [hl] at hv
  have hb2 := hb (bs.getD 0 0) (by rw [List.getD_eq_getElem?_getD, List.getElem?_eq_getElem (by omega)]; exact List.getElem_mem _)
  refine ⟨?_, hv.1, hv.2⟩
  simp only [Nat.reduceSub, Int.reducePow] at h1 h2 h3 hv
  unfold loadV
  simp only [Nat.reduceSub, Int.reducePow, Bool.true_and]
  generalize valB (bs.take 0) = A at h1 h2 h3
  generalize bs.getD 0 0 = b at h1 hb2 ⊢
  generalize valB bs = V at h1 hv ⊢
  by_cases ht : 128 ≤ b
  · rw [if_pos (decide_eq_true ht), if_pos (show 128 ≤ V by omega)]
  · rw [if_neg (by simpa using ht), if_neg (show ¬ 128 ≤ V by omega)]
    unfold wrap64
    omega
theorem loadV_s2 (bs : List Int) (hl : bs.length = 2) (hb : ∀ z ∈ bs, 0 ≤ z ∧ z ≤ 255) (ty : Int) :
    loadV 2 ty true bs = (if 32768 ≤ valB bs then (if ty = 127 then valB bs - 65536 + 4294967296 else valB bs - 65536) else valB bs) ∧ 0 ≤ valB bs ∧ valB bs < 65536 := by
  have hv := valB_range hb
  obtain ⟨h1, h2⟩ := top_bytes hl (by decide) hb
  have h3 := valB_range (l := bs.take 1) fun z hz => hb z (List.mem_of_mem_take hz)
  rw [List.length_take, hl, Nat.min_eq_left (by decide)] at h3
  rw [hl] at hv
  have hb2 := hb (bs.getD 1 0) (by rw [List.getD_eq_getElem?_getD, List.getElem?_eq_getElem (by omega)]; exact List.getElem_mem _)
  refine ⟨?_, hv.1, hv.2⟩
  simp only [Nat.reduceSub, Int.reducePow] at h1 h2 h3 hv
  unfold loadV
  simp only [Nat.reduceSub, Int.reducePow, Bool.true_and]
  generalize valB (bs.take 1) = A at h1 h2 h3
  generalize bs.getD 1 0 = b at h1 hb2 ⊢
  generalize valB bs = V at h1 hv ⊢
  by_cases ht : 128 ≤ b
  · rw [if_pos (decide_eq_true ht), if_pos (show 32768 ≤ V by omega)]
  · rw [if_neg (by simpa using ht), if_neg (show ¬ 32768 ≤ V by omega)]
    unfold wrap64
    omega
theorem loadV_s4 (bs : List Int) (hl : bs.length = 4) (hb : ∀ z ∈ bs, 0 ≤ z ∧ z ≤ 255) (ty : Int) :
    loadV 4 ty true bs = (if 2147483648 ≤ valB bs then (if ty = 127 then valB bs - 4294967296 + 4294967296 else valB bs - 4294967296) else valB bs) ∧ 0 ≤ valB bs ∧ valB bs < 4294967296 := by
  have hv := valB_range hb
  obtain ⟨h1, h2⟩ := top_bytes hl (by decide) hb
  have h3 := valB_range (l := bs.take 3) fun z hz => hb z (List.mem_of_mem_take hz)
  rw [List.length_take, hl, Nat.min_eq_left (by decide)] at h3
  rw [hl] at hv
  have hb2 := hb (bs.getD 3 0) (by rw [List.getD_eq_getElem?_getD, List.getElem?_eq_getElem (by omega)]; exact List.getElem_mem _)
  refine ⟨?_, hv.1, hv.2⟩
  simp only [Nat.reduceSub, Int.reducePow] at h1 h2 h3 hv
  unfold loadV
  simp only [Nat.reduceSub, Int.reducePow, Bool.true_and]
  generalize valB (bs.take 3) = A at h1 h2 h3
  generalize bs.getD 3 0 = b at h1 hb2 ⊢
  generalize valB bs = V at h1 hv ⊢
  by_cases ht : 128 ≤ b
  · rw [if_pos (decide_eq_true ht), if_pos (show 2147483648 ≤ V by omega)]
  · rw [if_neg (by simpa using ht), if_neg (show ¬ 2147483648 ≤ V by omega)]
    unfold wrap64
    omega
set_option maxRecDepth 100000 in
set_option maxHeartbeats 1000000 in
theorem load_40 (a g cap : Nat) (S : List Int) (mo : Int) (p : Nat) (w : World) (h : PMem a g cap S mo w) (hp : p + 4 ≤ S.length) :
    Calls Try.prog 23 #[.pointer (some ⟨a, 0, none⟩), .int .i64 40, .int .i64 p] w fun e w' => e = .returned (.tuple #[.int .i64 (loadV 4 127 false (part S p 4)), .int .i64 0]) ∧ w = w' := by
  have hlen := h.len
  have HW := Lib.hid (width_any 40 w)
  have HS := Lib.hid (signed_any 40 w)
  have HP := Lib.hid (part_any a g cap S mo p (4 : Nat) w h (by omega))
  rw [show Mem.widthTup 40 = .tuple #[.int .i64 4, .int .i64 127, .bool false] from rfl] at HW
  rw [show sgOf 40 = false from by decide] at HS
  rw [partV_yes (by decide) hp] at HP
  have hbs := part_byte h.byte p 4
  have hpl : (part S p 4).length = 4 := part_length hp
  have HNU := Lib.hid (number_any (some ⟨g, p, none⟩) (part S p 4) 4 4 w hbs hpl (by decide) (h.cells hp))
  have hV := valB_range hbs
  rw [hpl] at hV
  simp only [Int.reducePow] at hV
  have hL : loadV 4 127 false (part S p 4) = wrap64 (valB (part S p 4)) := by
    unfold loadV
    rw [Bool.false_and]
    rfl
  rw [hL]
  clear hL h hbs hpl
  revert HNU hV
  generalize valB (part S p 4) = V
  intro HNU hV
  obtain ⟨R, hR⟩ : ∃ R, R = wrap64 V := ⟨_, rfl⟩
  rw [← hR]
  have HM : Hid (wrap64 V % 4294967296 = R) := Lib.hid (by rw [hR]; unfold wrap64; omega)
  clear hR hV
  go_enter Try.func23, Try.ntmps23
  go_wp2_with (first
    | (go_at_call 18; refine HW.out.mono ?_; rintro e w1 ⟨rfl, rfl⟩)
    | (go_at_call 39; refine HP.out.mono ?_; rintro e w1 ⟨rfl, rfl⟩)
    | (go_at_call 40; refine HNU.out.mono ?_; rintro e w1 ⟨rfl, rfl⟩)
    | (go_at_call 41; refine HS.out.mono ?_; rintro e w1 ⟨rfl, rfl⟩))
  go_ret2
  exact ⟨congrArg (fun z => Ending.returned (.tuple #[.int .i64 z, .int .i64 0])) HM.out, rfl⟩
set_option maxRecDepth 100000 in
set_option maxHeartbeats 1000000 in
theorem load_41 (a g cap : Nat) (S : List Int) (mo : Int) (p : Nat) (w : World) (h : PMem a g cap S mo w) (hp : p + 8 ≤ S.length) :
    Calls Try.prog 23 #[.pointer (some ⟨a, 0, none⟩), .int .i64 41, .int .i64 p] w fun e w' => e = .returned (.tuple #[.int .i64 (loadV 8 126 false (part S p 8)), .int .i64 0]) ∧ w = w' := by
  have hlen := h.len
  have HW := Lib.hid (width_any 41 w)
  have HS := Lib.hid (signed_any 41 w)
  have HP := Lib.hid (part_any a g cap S mo p (8 : Nat) w h (by omega))
  rw [show Mem.widthTup 41 = .tuple #[.int .i64 8, .int .i64 126, .bool false] from rfl] at HW
  rw [show sgOf 41 = false from by decide] at HS
  rw [partV_yes (by decide) hp] at HP
  have hbs := part_byte h.byte p 8
  have hpl : (part S p 8).length = 8 := part_length hp
  have HNU := Lib.hid (number_any (some ⟨g, p, none⟩) (part S p 8) 8 8 w hbs hpl (by decide) (h.cells hp))
  have hV := valB_range hbs
  rw [hpl] at hV
  simp only [Int.reducePow] at hV
  have hL : loadV 8 126 false (part S p 8) = wrap64 (valB (part S p 8)) := by
    unfold loadV
    rw [Bool.false_and]
    rfl
  rw [hL]
  clear hL h hbs hpl
  revert HNU hV
  generalize valB (part S p 8) = V
  intro HNU hV
  obtain ⟨R, hR⟩ : ∃ R, R = wrap64 V := ⟨_, rfl⟩
  rw [← hR]
  have HM : Hid (wrap64 V = R) := Lib.hid (by rw [hR])
  clear hR hV
  go_enter Try.func23, Try.ntmps23
  go_wp2_with (first
    | (go_at_call 18; refine HW.out.mono ?_; rintro e w1 ⟨rfl, rfl⟩)
    | (go_at_call 39; refine HP.out.mono ?_; rintro e w1 ⟨rfl, rfl⟩)
    | (go_at_call 40; refine HNU.out.mono ?_; rintro e w1 ⟨rfl, rfl⟩)
    | (go_at_call 41; refine HS.out.mono ?_; rintro e w1 ⟨rfl, rfl⟩))
  go_ret2
  exact ⟨congrArg (fun z => Ending.returned (.tuple #[.int .i64 z, .int .i64 0])) HM.out, rfl⟩
set_option maxRecDepth 100000 in
set_option maxHeartbeats 1000000 in
theorem load_44 (a g cap : Nat) (S : List Int) (mo : Int) (p : Nat) (w : World) (h : PMem a g cap S mo w) (hp : p + 1 ≤ S.length) :
    Calls Try.prog 23 #[.pointer (some ⟨a, 0, none⟩), .int .i64 44, .int .i64 p] w fun e w' => e = .returned (.tuple #[.int .i64 (loadV 1 127 true (part S p 1)), .int .i64 0]) ∧ w = w' := by
  have hlen := h.len
  have HW := Lib.hid (width_any 44 w)
  have HS := Lib.hid (signed_any 44 w)
  have HP := Lib.hid (part_any a g cap S mo p (1 : Nat) w h (by omega))
  rw [show Mem.widthTup 44 = .tuple #[.int .i64 1, .int .i64 127, .bool false] from rfl] at HW
  rw [show sgOf 44 = true from by decide] at HS
  rw [partV_yes (by decide) hp] at HP
  have hbs := part_byte h.byte p 1
  have hpl : (part S p 1).length = 1 := part_length hp
  have HNU := Lib.hid (number_any (some ⟨g, p, none⟩) (part S p 1) 1 1 w hbs hpl (by decide) (h.cells hp))
  obtain ⟨hL, hV⟩ := loadV_s1 (part S p 1) hpl hbs 127
  rw [hL]
  rw [if_pos rfl]
  clear hL h hbs hpl
  revert HNU hV
  generalize valB (part S p 1) = V
  intro HNU hV
  obtain ⟨R, hR⟩ : ∃ R, R = (if 128 ≤ V then V - 256 + 4294967296 else V) := ⟨_, rfl⟩
  rw [← hR]
  have HM : Hid (wrap64 (wrap64 V * 72057594037927936) / 72057594037927936 % 4294967296 = R) := Lib.hid (by rw [hR]; unfold wrap64; split <;> omega)
  clear hR hV
  go_enter Try.func23, Try.ntmps23
  go_wp2_with (first
    | (go_at_call 18; refine HW.out.mono ?_; rintro e w1 ⟨rfl, rfl⟩)
    | (go_at_call 39; refine HP.out.mono ?_; rintro e w1 ⟨rfl, rfl⟩)
    | (go_at_call 40; refine HNU.out.mono ?_; rintro e w1 ⟨rfl, rfl⟩)
    | (go_at_call 41; refine HS.out.mono ?_; rintro e w1 ⟨rfl, rfl⟩))
  go_ret2
  exact ⟨congrArg (fun z => Ending.returned (.tuple #[.int .i64 z, .int .i64 0])) HM.out, rfl⟩
set_option maxRecDepth 100000 in
set_option maxHeartbeats 1000000 in
theorem load_45 (a g cap : Nat) (S : List Int) (mo : Int) (p : Nat) (w : World) (h : PMem a g cap S mo w) (hp : p + 1 ≤ S.length) :
    Calls Try.prog 23 #[.pointer (some ⟨a, 0, none⟩), .int .i64 45, .int .i64 p] w fun e w' => e = .returned (.tuple #[.int .i64 (loadV 1 127 false (part S p 1)), .int .i64 0]) ∧ w = w' := by
  have hlen := h.len
  have HW := Lib.hid (width_any 45 w)
  have HS := Lib.hid (signed_any 45 w)
  have HP := Lib.hid (part_any a g cap S mo p (1 : Nat) w h (by omega))
  rw [show Mem.widthTup 45 = .tuple #[.int .i64 1, .int .i64 127, .bool false] from rfl] at HW
  rw [show sgOf 45 = false from by decide] at HS
  rw [partV_yes (by decide) hp] at HP
  have hbs := part_byte h.byte p 1
  have hpl : (part S p 1).length = 1 := part_length hp
  have HNU := Lib.hid (number_any (some ⟨g, p, none⟩) (part S p 1) 1 1 w hbs hpl (by decide) (h.cells hp))
  have hV := valB_range hbs
  rw [hpl] at hV
  simp only [Int.reducePow] at hV
  have hL : loadV 1 127 false (part S p 1) = wrap64 (valB (part S p 1)) := by
    unfold loadV
    rw [Bool.false_and]
    rfl
  rw [hL]
  clear hL h hbs hpl
  revert HNU hV
  generalize valB (part S p 1) = V
  intro HNU hV
  obtain ⟨R, hR⟩ : ∃ R, R = wrap64 V := ⟨_, rfl⟩
  rw [← hR]
  have HM : Hid (wrap64 V % 4294967296 = R) := Lib.hid (by rw [hR]; unfold wrap64; omega)
  clear hR hV
  go_enter Try.func23, Try.ntmps23
  go_wp2_with (first
    | (go_at_call 18; refine HW.out.mono ?_; rintro e w1 ⟨rfl, rfl⟩)
    | (go_at_call 39; refine HP.out.mono ?_; rintro e w1 ⟨rfl, rfl⟩)
    | (go_at_call 40; refine HNU.out.mono ?_; rintro e w1 ⟨rfl, rfl⟩)
    | (go_at_call 41; refine HS.out.mono ?_; rintro e w1 ⟨rfl, rfl⟩))
  go_ret2
  exact ⟨congrArg (fun z => Ending.returned (.tuple #[.int .i64 z, .int .i64 0])) HM.out, rfl⟩
set_option maxRecDepth 100000 in
set_option maxHeartbeats 1000000 in
theorem load_46 (a g cap : Nat) (S : List Int) (mo : Int) (p : Nat) (w : World) (h : PMem a g cap S mo w) (hp : p + 2 ≤ S.length) :
    Calls Try.prog 23 #[.pointer (some ⟨a, 0, none⟩), .int .i64 46, .int .i64 p] w fun e w' => e = .returned (.tuple #[.int .i64 (loadV 2 127 true (part S p 2)), .int .i64 0]) ∧ w = w' := by
  have hlen := h.len
  have HW := Lib.hid (width_any 46 w)
  have HS := Lib.hid (signed_any 46 w)
  have HP := Lib.hid (part_any a g cap S mo p (2 : Nat) w h (by omega))
  rw [show Mem.widthTup 46 = .tuple #[.int .i64 2, .int .i64 127, .bool false] from rfl] at HW
  rw [show sgOf 46 = true from by decide] at HS
  rw [partV_yes (by decide) hp] at HP
  have hbs := part_byte h.byte p 2
  have hpl : (part S p 2).length = 2 := part_length hp
  have HNU := Lib.hid (number_any (some ⟨g, p, none⟩) (part S p 2) 2 2 w hbs hpl (by decide) (h.cells hp))
  obtain ⟨hL, hV⟩ := loadV_s2 (part S p 2) hpl hbs 127
  rw [hL]
  rw [if_pos rfl]
  clear hL h hbs hpl
  revert HNU hV
  generalize valB (part S p 2) = V
  intro HNU hV
  obtain ⟨R, hR⟩ : ∃ R, R = (if 32768 ≤ V then V - 65536 + 4294967296 else V) := ⟨_, rfl⟩
  rw [← hR]
  have HM : Hid (wrap64 (wrap64 V * 281474976710656) / 281474976710656 % 4294967296 = R) := Lib.hid (by rw [hR]; unfold wrap64; split <;> omega)
  clear hR hV
  go_enter Try.func23, Try.ntmps23
  go_wp2_with (first
    | (go_at_call 18; refine HW.out.mono ?_; rintro e w1 ⟨rfl, rfl⟩)
    | (go_at_call 39; refine HP.out.mono ?_; rintro e w1 ⟨rfl, rfl⟩)
    | (go_at_call 40; refine HNU.out.mono ?_; rintro e w1 ⟨rfl, rfl⟩)
    | (go_at_call 41; refine HS.out.mono ?_; rintro e w1 ⟨rfl, rfl⟩))
  go_ret2
  exact ⟨congrArg (fun z => Ending.returned (.tuple #[.int .i64 z, .int .i64 0])) HM.out, rfl⟩
set_option maxRecDepth 100000 in
set_option maxHeartbeats 1000000 in
theorem load_47 (a g cap : Nat) (S : List Int) (mo : Int) (p : Nat) (w : World) (h : PMem a g cap S mo w) (hp : p + 2 ≤ S.length) :
    Calls Try.prog 23 #[.pointer (some ⟨a, 0, none⟩), .int .i64 47, .int .i64 p] w fun e w' => e = .returned (.tuple #[.int .i64 (loadV 2 127 false (part S p 2)), .int .i64 0]) ∧ w = w' := by
  have hlen := h.len
  have HW := Lib.hid (width_any 47 w)
  have HS := Lib.hid (signed_any 47 w)
  have HP := Lib.hid (part_any a g cap S mo p (2 : Nat) w h (by omega))
  rw [show Mem.widthTup 47 = .tuple #[.int .i64 2, .int .i64 127, .bool false] from rfl] at HW
  rw [show sgOf 47 = false from by decide] at HS
  rw [partV_yes (by decide) hp] at HP
  have hbs := part_byte h.byte p 2
  have hpl : (part S p 2).length = 2 := part_length hp
  have HNU := Lib.hid (number_any (some ⟨g, p, none⟩) (part S p 2) 2 2 w hbs hpl (by decide) (h.cells hp))
  have hV := valB_range hbs
  rw [hpl] at hV
  simp only [Int.reducePow] at hV
  have hL : loadV 2 127 false (part S p 2) = wrap64 (valB (part S p 2)) := by
    unfold loadV
    rw [Bool.false_and]
    rfl
  rw [hL]
  clear hL h hbs hpl
  revert HNU hV
  generalize valB (part S p 2) = V
  intro HNU hV
  obtain ⟨R, hR⟩ : ∃ R, R = wrap64 V := ⟨_, rfl⟩
  rw [← hR]
  have HM : Hid (wrap64 V % 4294967296 = R) := Lib.hid (by rw [hR]; unfold wrap64; omega)
  clear hR hV
  go_enter Try.func23, Try.ntmps23
  go_wp2_with (first
    | (go_at_call 18; refine HW.out.mono ?_; rintro e w1 ⟨rfl, rfl⟩)
    | (go_at_call 39; refine HP.out.mono ?_; rintro e w1 ⟨rfl, rfl⟩)
    | (go_at_call 40; refine HNU.out.mono ?_; rintro e w1 ⟨rfl, rfl⟩)
    | (go_at_call 41; refine HS.out.mono ?_; rintro e w1 ⟨rfl, rfl⟩))
  go_ret2
  exact ⟨congrArg (fun z => Ending.returned (.tuple #[.int .i64 z, .int .i64 0])) HM.out, rfl⟩
set_option maxRecDepth 100000 in
set_option maxHeartbeats 1000000 in
theorem load_48 (a g cap : Nat) (S : List Int) (mo : Int) (p : Nat) (w : World) (h : PMem a g cap S mo w) (hp : p + 1 ≤ S.length) :
    Calls Try.prog 23 #[.pointer (some ⟨a, 0, none⟩), .int .i64 48, .int .i64 p] w fun e w' => e = .returned (.tuple #[.int .i64 (loadV 1 126 true (part S p 1)), .int .i64 0]) ∧ w = w' := by
  have hlen := h.len
  have HW := Lib.hid (width_any 48 w)
  have HS := Lib.hid (signed_any 48 w)
  have HP := Lib.hid (part_any a g cap S mo p (1 : Nat) w h (by omega))
  rw [show Mem.widthTup 48 = .tuple #[.int .i64 1, .int .i64 126, .bool false] from rfl] at HW
  rw [show sgOf 48 = true from by decide] at HS
  rw [partV_yes (by decide) hp] at HP
  have hbs := part_byte h.byte p 1
  have hpl : (part S p 1).length = 1 := part_length hp
  have HNU := Lib.hid (number_any (some ⟨g, p, none⟩) (part S p 1) 1 1 w hbs hpl (by decide) (h.cells hp))
  obtain ⟨hL, hV⟩ := loadV_s1 (part S p 1) hpl hbs 126
  rw [hL]
  rw [if_neg (show ¬ ((126 : Int) = 127) by decide)]
  clear hL h hbs hpl
  revert HNU hV
  generalize valB (part S p 1) = V
  intro HNU hV
  obtain ⟨R, hR⟩ : ∃ R, R = (if 128 ≤ V then V - 256 else V) := ⟨_, rfl⟩
  rw [← hR]
  have HM : Hid (wrap64 (wrap64 V * 72057594037927936) / 72057594037927936 = R) := Lib.hid (by rw [hR]; unfold wrap64; split <;> omega)
  clear hR hV
  go_enter Try.func23, Try.ntmps23
  go_wp2_with (first
    | (go_at_call 18; refine HW.out.mono ?_; rintro e w1 ⟨rfl, rfl⟩)
    | (go_at_call 39; refine HP.out.mono ?_; rintro e w1 ⟨rfl, rfl⟩)
    | (go_at_call 40; refine HNU.out.mono ?_; rintro e w1 ⟨rfl, rfl⟩)
    | (go_at_call 41; refine HS.out.mono ?_; rintro e w1 ⟨rfl, rfl⟩))
  go_ret2
  exact ⟨congrArg (fun z => Ending.returned (.tuple #[.int .i64 z, .int .i64 0])) HM.out, rfl⟩
set_option maxRecDepth 100000 in
set_option maxHeartbeats 1000000 in
theorem load_49 (a g cap : Nat) (S : List Int) (mo : Int) (p : Nat) (w : World) (h : PMem a g cap S mo w) (hp : p + 1 ≤ S.length) :
    Calls Try.prog 23 #[.pointer (some ⟨a, 0, none⟩), .int .i64 49, .int .i64 p] w fun e w' => e = .returned (.tuple #[.int .i64 (loadV 1 126 false (part S p 1)), .int .i64 0]) ∧ w = w' := by
  have hlen := h.len
  have HW := Lib.hid (width_any 49 w)
  have HS := Lib.hid (signed_any 49 w)
  have HP := Lib.hid (part_any a g cap S mo p (1 : Nat) w h (by omega))
  rw [show Mem.widthTup 49 = .tuple #[.int .i64 1, .int .i64 126, .bool false] from rfl] at HW
  rw [show sgOf 49 = false from by decide] at HS
  rw [partV_yes (by decide) hp] at HP
  have hbs := part_byte h.byte p 1
  have hpl : (part S p 1).length = 1 := part_length hp
  have HNU := Lib.hid (number_any (some ⟨g, p, none⟩) (part S p 1) 1 1 w hbs hpl (by decide) (h.cells hp))
  have hV := valB_range hbs
  rw [hpl] at hV
  simp only [Int.reducePow] at hV
  have hL : loadV 1 126 false (part S p 1) = wrap64 (valB (part S p 1)) := by
    unfold loadV
    rw [Bool.false_and]
    rfl
  rw [hL]
  clear hL h hbs hpl
  revert HNU hV
  generalize valB (part S p 1) = V
  intro HNU hV
  obtain ⟨R, hR⟩ : ∃ R, R = wrap64 V := ⟨_, rfl⟩
  rw [← hR]
  have HM : Hid (wrap64 V = R) := Lib.hid (by rw [hR])
  clear hR hV
  go_enter Try.func23, Try.ntmps23
  go_wp2_with (first
    | (go_at_call 18; refine HW.out.mono ?_; rintro e w1 ⟨rfl, rfl⟩)
    | (go_at_call 39; refine HP.out.mono ?_; rintro e w1 ⟨rfl, rfl⟩)
    | (go_at_call 40; refine HNU.out.mono ?_; rintro e w1 ⟨rfl, rfl⟩)
    | (go_at_call 41; refine HS.out.mono ?_; rintro e w1 ⟨rfl, rfl⟩))
  go_ret2
  exact ⟨congrArg (fun z => Ending.returned (.tuple #[.int .i64 z, .int .i64 0])) HM.out, rfl⟩
set_option maxRecDepth 100000 in
set_option maxHeartbeats 1000000 in
theorem load_50 (a g cap : Nat) (S : List Int) (mo : Int) (p : Nat) (w : World) (h : PMem a g cap S mo w) (hp : p + 2 ≤ S.length) :
    Calls Try.prog 23 #[.pointer (some ⟨a, 0, none⟩), .int .i64 50, .int .i64 p] w fun e w' => e = .returned (.tuple #[.int .i64 (loadV 2 126 true (part S p 2)), .int .i64 0]) ∧ w = w' := by
  have hlen := h.len
  have HW := Lib.hid (width_any 50 w)
  have HS := Lib.hid (signed_any 50 w)
  have HP := Lib.hid (part_any a g cap S mo p (2 : Nat) w h (by omega))
  rw [show Mem.widthTup 50 = .tuple #[.int .i64 2, .int .i64 126, .bool false] from rfl] at HW
  rw [show sgOf 50 = true from by decide] at HS
  rw [partV_yes (by decide) hp] at HP
  have hbs := part_byte h.byte p 2
  have hpl : (part S p 2).length = 2 := part_length hp
  have HNU := Lib.hid (number_any (some ⟨g, p, none⟩) (part S p 2) 2 2 w hbs hpl (by decide) (h.cells hp))
  obtain ⟨hL, hV⟩ := loadV_s2 (part S p 2) hpl hbs 126
  rw [hL]
  rw [if_neg (show ¬ ((126 : Int) = 127) by decide)]
  clear hL h hbs hpl
  revert HNU hV
  generalize valB (part S p 2) = V
  intro HNU hV
  obtain ⟨R, hR⟩ : ∃ R, R = (if 32768 ≤ V then V - 65536 else V) := ⟨_, rfl⟩
  rw [← hR]
  have HM : Hid (wrap64 (wrap64 V * 281474976710656) / 281474976710656 = R) := Lib.hid (by rw [hR]; unfold wrap64; split <;> omega)
  clear hR hV
  go_enter Try.func23, Try.ntmps23
  go_wp2_with (first
    | (go_at_call 18; refine HW.out.mono ?_; rintro e w1 ⟨rfl, rfl⟩)
    | (go_at_call 39; refine HP.out.mono ?_; rintro e w1 ⟨rfl, rfl⟩)
    | (go_at_call 40; refine HNU.out.mono ?_; rintro e w1 ⟨rfl, rfl⟩)
    | (go_at_call 41; refine HS.out.mono ?_; rintro e w1 ⟨rfl, rfl⟩))
  go_ret2
  exact ⟨congrArg (fun z => Ending.returned (.tuple #[.int .i64 z, .int .i64 0])) HM.out, rfl⟩
set_option maxRecDepth 100000 in
set_option maxHeartbeats 1000000 in
theorem load_51 (a g cap : Nat) (S : List Int) (mo : Int) (p : Nat) (w : World) (h : PMem a g cap S mo w) (hp : p + 2 ≤ S.length) :
    Calls Try.prog 23 #[.pointer (some ⟨a, 0, none⟩), .int .i64 51, .int .i64 p] w fun e w' => e = .returned (.tuple #[.int .i64 (loadV 2 126 false (part S p 2)), .int .i64 0]) ∧ w = w' := by
  have hlen := h.len
  have HW := Lib.hid (width_any 51 w)
  have HS := Lib.hid (signed_any 51 w)
  have HP := Lib.hid (part_any a g cap S mo p (2 : Nat) w h (by omega))
  rw [show Mem.widthTup 51 = .tuple #[.int .i64 2, .int .i64 126, .bool false] from rfl] at HW
  rw [show sgOf 51 = false from by decide] at HS
  rw [partV_yes (by decide) hp] at HP
  have hbs := part_byte h.byte p 2
  have hpl : (part S p 2).length = 2 := part_length hp
  have HNU := Lib.hid (number_any (some ⟨g, p, none⟩) (part S p 2) 2 2 w hbs hpl (by decide) (h.cells hp))
  have hV := valB_range hbs
  rw [hpl] at hV
  simp only [Int.reducePow] at hV
  have hL : loadV 2 126 false (part S p 2) = wrap64 (valB (part S p 2)) := by
    unfold loadV
    rw [Bool.false_and]
    rfl
  rw [hL]
  clear hL h hbs hpl
  revert HNU hV
  generalize valB (part S p 2) = V
  intro HNU hV
  obtain ⟨R, hR⟩ : ∃ R, R = wrap64 V := ⟨_, rfl⟩
  rw [← hR]
  have HM : Hid (wrap64 V = R) := Lib.hid (by rw [hR])
  clear hR hV
  go_enter Try.func23, Try.ntmps23
  go_wp2_with (first
    | (go_at_call 18; refine HW.out.mono ?_; rintro e w1 ⟨rfl, rfl⟩)
    | (go_at_call 39; refine HP.out.mono ?_; rintro e w1 ⟨rfl, rfl⟩)
    | (go_at_call 40; refine HNU.out.mono ?_; rintro e w1 ⟨rfl, rfl⟩)
    | (go_at_call 41; refine HS.out.mono ?_; rintro e w1 ⟨rfl, rfl⟩))
  go_ret2
  exact ⟨congrArg (fun z => Ending.returned (.tuple #[.int .i64 z, .int .i64 0])) HM.out, rfl⟩
set_option maxRecDepth 100000 in
set_option maxHeartbeats 1000000 in
theorem load_52 (a g cap : Nat) (S : List Int) (mo : Int) (p : Nat) (w : World) (h : PMem a g cap S mo w) (hp : p + 4 ≤ S.length) :
    Calls Try.prog 23 #[.pointer (some ⟨a, 0, none⟩), .int .i64 52, .int .i64 p] w fun e w' => e = .returned (.tuple #[.int .i64 (loadV 4 126 true (part S p 4)), .int .i64 0]) ∧ w = w' := by
  have hlen := h.len
  have HW := Lib.hid (width_any 52 w)
  have HS := Lib.hid (signed_any 52 w)
  have HP := Lib.hid (part_any a g cap S mo p (4 : Nat) w h (by omega))
  rw [show Mem.widthTup 52 = .tuple #[.int .i64 4, .int .i64 126, .bool false] from rfl] at HW
  rw [show sgOf 52 = true from by decide] at HS
  rw [partV_yes (by decide) hp] at HP
  have hbs := part_byte h.byte p 4
  have hpl : (part S p 4).length = 4 := part_length hp
  have HNU := Lib.hid (number_any (some ⟨g, p, none⟩) (part S p 4) 4 4 w hbs hpl (by decide) (h.cells hp))
  obtain ⟨hL, hV⟩ := loadV_s4 (part S p 4) hpl hbs 126
  rw [hL]
  rw [if_neg (show ¬ ((126 : Int) = 127) by decide)]
  clear hL h hbs hpl
  revert HNU hV
  generalize valB (part S p 4) = V
  intro HNU hV
  obtain ⟨R, hR⟩ : ∃ R, R = (if 2147483648 ≤ V then V - 4294967296 else V) := ⟨_, rfl⟩
  rw [← hR]
  have HM : Hid (wrap64 (wrap64 V * 4294967296) / 4294967296 = R) := Lib.hid (by rw [hR]; unfold wrap64; split <;> omega)
  clear hR hV
  go_enter Try.func23, Try.ntmps23
  go_wp2_with (first
    | (go_at_call 18; refine HW.out.mono ?_; rintro e w1 ⟨rfl, rfl⟩)
    | (go_at_call 39; refine HP.out.mono ?_; rintro e w1 ⟨rfl, rfl⟩)
    | (go_at_call 40; refine HNU.out.mono ?_; rintro e w1 ⟨rfl, rfl⟩)
    | (go_at_call 41; refine HS.out.mono ?_; rintro e w1 ⟨rfl, rfl⟩))
  go_ret2
  exact ⟨congrArg (fun z => Ending.returned (.tuple #[.int .i64 z, .int .i64 0])) HM.out, rfl⟩
set_option maxRecDepth 100000 in
set_option maxHeartbeats 1000000 in
theorem load_53 (a g cap : Nat) (S : List Int) (mo : Int) (p : Nat) (w : World) (h : PMem a g cap S mo w) (hp : p + 4 ≤ S.length) :
    Calls Try.prog 23 #[.pointer (some ⟨a, 0, none⟩), .int .i64 53, .int .i64 p] w fun e w' => e = .returned (.tuple #[.int .i64 (loadV 4 126 false (part S p 4)), .int .i64 0]) ∧ w = w' := by
  have hlen := h.len
  have HW := Lib.hid (width_any 53 w)
  have HS := Lib.hid (signed_any 53 w)
  have HP := Lib.hid (part_any a g cap S mo p (4 : Nat) w h (by omega))
  rw [show Mem.widthTup 53 = .tuple #[.int .i64 4, .int .i64 126, .bool false] from rfl] at HW
  rw [show sgOf 53 = false from by decide] at HS
  rw [partV_yes (by decide) hp] at HP
  have hbs := part_byte h.byte p 4
  have hpl : (part S p 4).length = 4 := part_length hp
  have HNU := Lib.hid (number_any (some ⟨g, p, none⟩) (part S p 4) 4 4 w hbs hpl (by decide) (h.cells hp))
  have hV := valB_range hbs
  rw [hpl] at hV
  simp only [Int.reducePow] at hV
  have hL : loadV 4 126 false (part S p 4) = wrap64 (valB (part S p 4)) := by
    unfold loadV
    rw [Bool.false_and]
    rfl
  rw [hL]
  clear hL h hbs hpl
  revert HNU hV
  generalize valB (part S p 4) = V
  intro HNU hV
  obtain ⟨R, hR⟩ : ∃ R, R = wrap64 V := ⟨_, rfl⟩
  rw [← hR]
  have HM : Hid (wrap64 V = R) := Lib.hid (by rw [hR])
  clear hR hV
  go_enter Try.func23, Try.ntmps23
  go_wp2_with (first
    | (go_at_call 18; refine HW.out.mono ?_; rintro e w1 ⟨rfl, rfl⟩)
    | (go_at_call 39; refine HP.out.mono ?_; rintro e w1 ⟨rfl, rfl⟩)
    | (go_at_call 40; refine HNU.out.mono ?_; rintro e w1 ⟨rfl, rfl⟩)
    | (go_at_call 41; refine HS.out.mono ?_; rintro e w1 ⟨rfl, rfl⟩))
  go_ret2
  exact ⟨congrArg (fun z => Ending.returned (.tuple #[.int .i64 z, .int .i64 0])) HM.out, rfl⟩
set_option maxRecDepth 100000 in
theorem load_bad (a g cap : Nat) (S : List Int) (mo : Int) (op at' : Int) (w : World) (h : PMem a g cap S mo w) (hat : at' ≤ 9223372036854775807) (hno : loadOk S op at' = false) :
    Calls Try.prog 23 #[.pointer (some ⟨a, 0, none⟩), .int .i64 op, .int .i64 at'] w fun e w' => e = .returned (.tuple #[.int .i64 0, .int .i64 4]) ∧ w = w' := by
  have HW := Lib.hid (width_any op w)
  unfold Mem.widthTup at HW
  have HP : Hid (∀ k, Calls Try.prog 39 #[.pointer (some ⟨a, 0, none⟩), .int .i64 at', .int .i64 k] w fun e w' => e = .returned (partV (some ⟨g, 0, none⟩) S.length at' k) ∧ w = w') := Lib.hid fun k => part_any a g cap S mo at' k w h hat
  unfold loadOk at hno
  revert HW hno
  generalize (Mem.width op).1 = n
  generalize (Mem.width op).2.1 = ty
  generalize (Mem.width op).2.2 = st
  intro hno HW
  by_cases hn : n = 0
  · subst hn
    clear hno h
    go_enter Try.func23, Try.ntmps23
    go_wp2_with (go_at_call 18; refine HW.out.mono ?_; rintro e w1 ⟨rfl, rfl⟩)
    go_ret2
    exact ⟨rfl, rfl⟩
  have hn' : (n == 0) = false := by simpa using hn
  cases st
  · have hi : inB S.length at' n = false := by simpa [hn] using hno
    have HI := Lib.hid (HP.out n)
    unfold partV at HI
    rw [hi, if_neg (by decide)] at HI
    clear hno hi HP h hn
    go_enter Try.func23, Try.ntmps23
    go_wp2_with (first
      | (go_at_call 18; refine HW.out.mono ?_; rintro e w1 ⟨rfl, rfl⟩)
      | (go_at_call 39; refine HI.out.mono ?_; rintro e w1 ⟨rfl, rfl⟩))
    go_ret2
    exact ⟨rfl, rfl⟩
  · clear hno h hn
    go_enter Try.func23, Try.ntmps23
    go_wp2_with (go_at_call 18; refine HW.out.mono ?_; rintro e w1 ⟨rfl, rfl⟩)
    go_ret2
    exact ⟨rfl, rfl⟩
theorem load_any (a g cap : Nat) (S : List Int) (mo : Int) (op at' : Int) (w : World) (h : PMem a g cap S mo w) (hat : at' ≤ 9223372036854775807) :
    Calls Try.prog 23 #[.pointer (some ⟨a, 0, none⟩), .int .i64 op, .int .i64 at'] w fun e w' => e = .returned (loadTup S op at') ∧ w = w' := by
  unfold loadTup
  by_cases hok : loadOk S op at' = true
  · rw [if_pos hok]
    unfold loadOk at hok
    rw [Bool.and_eq_true, Bool.and_eq_true] at hok
    obtain ⟨⟨h0, h1⟩, h2⟩ := hok
    have h0' := of_decide_eq_true h0
    have h1' : (Mem.width op).2.2 = false := by simpa using h1
    obtain ⟨i1, i2, i3, i4⟩ : 0 ≤ at' ∧ 0 ≤ (Mem.width op).1 ∧ at' ≤ S.length ∧ (Mem.width op).1 ≤ S.length - at' := of_decide_eq_true h2
    obtain ⟨p, rfl⟩ := Int.eq_ofNat_of_zero_le i1
    rw [Int.toNat_natCast]
    clear h0 h1 h2 i1 i2
    rcases loads_of h0' h1' with rfl | rfl | rfl | rfl | rfl | rfl | rfl | rfl | rfl | rfl | rfl | rfl
    · have hw : Mem.width 40 = (4, 127, false) := by decide
      have hp : p + 4 ≤ S.length := by rw [hw] at i4; omega
      rw [hw]
      exact load_40 a g cap S mo p w h hp
    · have hw : Mem.width 41 = (8, 126, false) := by decide
      have hp : p + 8 ≤ S.length := by rw [hw] at i4; omega
      rw [hw]
      exact load_41 a g cap S mo p w h hp
    · have hw : Mem.width 44 = (1, 127, false) := by decide
      have hp : p + 1 ≤ S.length := by rw [hw] at i4; omega
      rw [hw]
      exact load_44 a g cap S mo p w h hp
    · have hw : Mem.width 45 = (1, 127, false) := by decide
      have hp : p + 1 ≤ S.length := by rw [hw] at i4; omega
      rw [hw]
      exact load_45 a g cap S mo p w h hp
    · have hw : Mem.width 46 = (2, 127, false) := by decide
      have hp : p + 2 ≤ S.length := by rw [hw] at i4; omega
      rw [hw]
      exact load_46 a g cap S mo p w h hp
    · have hw : Mem.width 47 = (2, 127, false) := by decide
      have hp : p + 2 ≤ S.length := by rw [hw] at i4; omega
      rw [hw]
      exact load_47 a g cap S mo p w h hp
    · have hw : Mem.width 48 = (1, 126, false) := by decide
      have hp : p + 1 ≤ S.length := by rw [hw] at i4; omega
      rw [hw]
      exact load_48 a g cap S mo p w h hp
    · have hw : Mem.width 49 = (1, 126, false) := by decide
      have hp : p + 1 ≤ S.length := by rw [hw] at i4; omega
      rw [hw]
      exact load_49 a g cap S mo p w h hp
    · have hw : Mem.width 50 = (2, 126, false) := by decide
      have hp : p + 2 ≤ S.length := by rw [hw] at i4; omega
      rw [hw]
      exact load_50 a g cap S mo p w h hp
    · have hw : Mem.width 51 = (2, 126, false) := by decide
      have hp : p + 2 ≤ S.length := by rw [hw] at i4; omega
      rw [hw]
      exact load_51 a g cap S mo p w h hp
    · have hw : Mem.width 52 = (4, 126, false) := by decide
      have hp : p + 4 ≤ S.length := by rw [hw] at i4; omega
      rw [hw]
      exact load_52 a g cap S mo p w h hp
    · have hw : Mem.width 53 = (4, 126, false) := by decide
      have hp : p + 4 ≤ S.length := by rw [hw] at i4; omega
      rw [hw]
      exact load_53 a g cap S mo p w h hp
  · rw [if_neg hok]
    exact load_bad a g cap S mo op at' w h hat (not_true hok)
end Go.Proofs.Ytogkieekpmcinaa
