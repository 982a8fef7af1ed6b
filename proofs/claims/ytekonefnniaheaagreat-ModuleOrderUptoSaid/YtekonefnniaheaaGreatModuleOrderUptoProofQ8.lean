/- Texts of the proof of ModuleOrderUptoProof, part 8. -/
import Derived.LoopN
import Derived.Deep.RegionWith
import Derived.Test.YtekonefnniaheaaGreatModuleOrderUptoProofQ7
namespace Go.Proofs.YtekonefnniaheaaGreat
open Go.RowKit

theorem u8_and192' (n : Nat) (h : n < 256) (k : n / 64 = 2) : bits .and .u8 (n : Int) 192 = 128 := by
  rw [u8_and192 n h]
  omega
theorem u8_ne192 (n : Nat) (h : n < 256) (k : n / 64 ≠ 2) : (bits .and .u8 (n : Int) 192 != 128) = true := by
  rw [u8_and192 n h, bne_iff_ne]
  omega
theorem headU_1 (c : Int) (h1 : c < 128) (w : World) :
    Calls Tryz.prog 175 #[.int .i64 c] w fun e w' => e = .returned (.tuple #[.int .i64 (c), .int .i64 1]) ∧ w = w' := by
  go_enter Tryz.func175, Tryz.ntmps175
  go_wp2_with fail
  go_ret2
  exact ⟨rfl, rfl⟩
theorem headU_0a (c : Int) (h1 : 128 ≤ c) (h2 : c < 192) (w : World) :
    Calls Tryz.prog 175 #[.int .i64 c] w fun e w' => e = .returned (.tuple #[.int .i64 (0), .int .i64 0]) ∧ w = w' := by
  go_enter Tryz.func175, Tryz.ntmps175
  go_wp2_with fail
  go_ret2
  exact ⟨rfl, rfl⟩
theorem headU_2 (c : Int) (h1 : 192 ≤ c) (h2 : c < 224) (w : World) :
    Calls Tryz.prog 175 #[.int .i64 c] w fun e w' => e = .returned (.tuple #[.int .i64 (c % 32), .int .i64 2]) ∧ w = w' := by
  have ha := i64_and31 c
  go_enter Tryz.func175, Tryz.ntmps175
  go_wp2_with fail
  go_ret2
  exact ⟨rfl, rfl⟩
theorem headU_3 (c : Int) (h1 : 224 ≤ c) (h2 : c < 240) (w : World) :
    Calls Tryz.prog 175 #[.int .i64 c] w fun e w' => e = .returned (.tuple #[.int .i64 (c % 16), .int .i64 3]) ∧ w = w' := by
  have ha := i64_and15 c
  go_enter Tryz.func175, Tryz.ntmps175
  go_wp2_with fail
  go_ret2
  exact ⟨rfl, rfl⟩
theorem headU_4 (c : Int) (h1 : 240 ≤ c) (h2 : c < 248) (w : World) :
    Calls Tryz.prog 175 #[.int .i64 c] w fun e w' => e = .returned (.tuple #[.int .i64 (c % 8), .int .i64 4]) ∧ w = w' := by
  have ha := i64_and7 c
  go_enter Tryz.func175, Tryz.ntmps175
  go_wp2_with fail
  go_ret2
  exact ⟨rfl, rfl⟩
theorem headU_0b (c : Int) (h1 : 248 ≤ c) (w : World) :
    Calls Tryz.prog 175 #[.int .i64 c] w fun e w' => e = .returned (.tuple #[.int .i64 (0), .int .i64 0]) ∧ w = w' := by
  go_enter Tryz.func175, Tryz.ntmps175
  go_wp2_with fail
  go_ret2
  exact ⟨rfl, rfl⟩
set_option maxRecDepth 100000 in
theorem first8_0a (s : ByteArray) (hs : 1 ≤ s.size) (c1 : 128 ≤ (bl s).getD 0 0) (c2 : (bl s).getD 0 0 < 192) (w : World) :
    Calls Tryz.prog 155 #[.string s] w fun e w' => GivesFirst 0 s w e w' := by
  obtain ⟨B0, e0⟩ : ∃ B : Nat, s[0].toNat = B := ⟨_, rfl⟩
  have g0 := bl_get s 0 (by omega)
  have b0 : B0 < 256 := e0 ▸ UInt8.toNat_lt _
  rw [e0] at g0
  have HN : Hid (Utf.NoHead 0 (bl s)) := Lib.hid (by
    intro p x hp e
    rcases Utf.head0 hp e with h | h | h | h <;> omega)
  rw [g0] at c1 c2
  clear g0
  go_enter Tryz.func155, Tryz.ntmps155
  go_wp2_with (go_at_call 175; refine (headU_0a (B0 : Int) c1 c2 _).mono ?_; rintro e w1 ⟨rfl, rfl⟩)
  go_ret2
  exact ⟨0, 0, rfl, .inl ⟨rfl, HN.out⟩, Below.refl _ _⟩
set_option maxRecDepth 100000 in
theorem first8_0b (s : ByteArray) (hs : 1 ≤ s.size) (c1 : 248 ≤ (bl s).getD 0 0) (w : World) :
    Calls Tryz.prog 155 #[.string s] w fun e w' => GivesFirst 0 s w e w' := by
  obtain ⟨B0, e0⟩ : ∃ B : Nat, s[0].toNat = B := ⟨_, rfl⟩
  have g0 := bl_get s 0 (by omega)
  have b0 : B0 < 256 := e0 ▸ UInt8.toNat_lt _
  rw [e0] at g0
  have HN : Hid (Utf.NoHead 0 (bl s)) := Lib.hid (by
    intro p x hp e
    rcases Utf.head0 hp e with h | h | h | h <;> omega)
  rw [g0] at c1
  clear g0
  go_enter Tryz.func155, Tryz.ntmps155
  go_wp2_with (go_at_call 175; refine (headU_0b (B0 : Int) c1 _).mono ?_; rintro e w1 ⟨rfl, rfl⟩)
  go_ret2
  exact ⟨0, 0, rfl, .inl ⟨rfl, HN.out⟩, Below.refl _ _⟩
set_option maxRecDepth 100000 in
theorem first8_short2 (s : ByteArray) (hs : 1 ≤ s.size) (c1 : 192 ≤ (bl s).getD 0 0) (c2 : (bl s).getD 0 0 < 224) (hn : s.size < 2) (w : World) :
    Calls Tryz.prog 155 #[.string s] w fun e w' => GivesFirst 0 s w e w' := by
  obtain ⟨B0, e0⟩ : ∃ B : Nat, s[0].toNat = B := ⟨_, rfl⟩
  have g0 := bl_get s 0 (by omega)
  have b0 : B0 < 256 := e0 ▸ UInt8.toNat_lt _
  rw [e0] at g0
  have hl := bl_length s
  have HN : Hid (Utf.NoHead 0 (bl s)) := Lib.hid (by
    intro p x hp e
    rcases Utf.head0 hp e with h | h | h | h <;> omega)
  rw [g0] at c1 c2
  clear g0 hl
  go_enter Tryz.func155, Tryz.ntmps155
  go_wp2_with (go_at_call 175; refine (headU_2 (B0 : Int) c1 c2 _).mono ?_; rintro e w1 ⟨rfl, rfl⟩)
  go_ret2
  exact ⟨0, 0, rfl, .inl ⟨rfl, HN.out⟩, Below.refl _ _⟩
set_option maxRecDepth 100000 in
theorem first8_short3 (s : ByteArray) (hs : 1 ≤ s.size) (c1 : 224 ≤ (bl s).getD 0 0) (c2 : (bl s).getD 0 0 < 240) (hn : s.size < 3) (w : World) :
    Calls Tryz.prog 155 #[.string s] w fun e w' => GivesFirst 0 s w e w' := by
  obtain ⟨B0, e0⟩ : ∃ B : Nat, s[0].toNat = B := ⟨_, rfl⟩
  have g0 := bl_get s 0 (by omega)
  have b0 : B0 < 256 := e0 ▸ UInt8.toNat_lt _
  rw [e0] at g0
  have hl := bl_length s
  have HN : Hid (Utf.NoHead 0 (bl s)) := Lib.hid (by
    intro p x hp e
    rcases Utf.head0 hp e with h | h | h | h <;> omega)
  rw [g0] at c1 c2
  clear g0 hl
  go_enter Tryz.func155, Tryz.ntmps155
  go_wp2_with (go_at_call 175; refine (headU_3 (B0 : Int) c1 c2 _).mono ?_; rintro e w1 ⟨rfl, rfl⟩)
  go_ret2
  exact ⟨0, 0, rfl, .inl ⟨rfl, HN.out⟩, Below.refl _ _⟩
set_option maxRecDepth 100000 in
theorem first8_short4 (s : ByteArray) (hs : 1 ≤ s.size) (c1 : 240 ≤ (bl s).getD 0 0) (c2 : (bl s).getD 0 0 < 248) (hn : s.size < 4) (w : World) :
    Calls Tryz.prog 155 #[.string s] w fun e w' => GivesFirst 0 s w e w' := by
  obtain ⟨B0, e0⟩ : ∃ B : Nat, s[0].toNat = B := ⟨_, rfl⟩
  have g0 := bl_get s 0 (by omega)
  have b0 : B0 < 256 := e0 ▸ UInt8.toNat_lt _
  rw [e0] at g0
  have hl := bl_length s
  have HN : Hid (Utf.NoHead 0 (bl s)) := Lib.hid (by
    intro p x hp e
    rcases Utf.head0 hp e with h | h | h | h <;> omega)
  rw [g0] at c1 c2
  clear g0 hl
  go_enter Tryz.func155, Tryz.ntmps155
  go_wp2_with (go_at_call 175; refine (headU_4 (B0 : Int) c1 c2 _).mono ?_; rintro e w1 ⟨rfl, rfl⟩)
  go_ret2
  exact ⟨0, 0, rfl, .inl ⟨rfl, HN.out⟩, Below.refl _ _⟩
set_option maxRecDepth 100000 in
theorem first8_bad21 (s : ByteArray) (hn : 2 ≤ s.size) (c1 : 192 ≤ (bl s).getD 0 0) (c2 : (bl s).getD 0 0 < 224)  (d1 : (bl s).getD 1 0 / 64 ≠ 2) (w : World) :
    Calls Tryz.prog 155 #[.string s] w fun e w' => GivesFirst 0 s w e w' := by
  obtain ⟨B0, e0⟩ : ∃ B : Nat, s[0].toNat = B := ⟨_, rfl⟩
  have g0 := bl_get s 0 (by omega)
  have b0 : B0 < 256 := e0 ▸ UInt8.toNat_lt _
  rw [e0] at g0
  obtain ⟨B1, e1⟩ : ∃ B : Nat, s[1].toNat = B := ⟨_, rfl⟩
  have g1 := bl_get s 1 (by omega)
  have b1 : B1 < 256 := e1 ▸ UInt8.toNat_lt _
  rw [e1] at g1
  have hl := bl_length s
  have HN : Hid (Utf.NoHead 0 (bl s)) := Lib.hid (by
    intro p x hp e
    rcases Utf.head0 hp e with h | h | h | h <;> omega)
  have k1 : B1 / 64 ≠ 2 := by omega
  have x1 := u8_ne192 B1 b1 k1
  rw [g0] at c1 c2
  clear g0 g1 d1 hl
  go_enter Tryz.func155, Tryz.ntmps155
  go_wp2_with (go_at_call 175; refine (headU_2 (B0 : Int) c1 c2 _).mono ?_; rintro e w1 ⟨rfl, rfl⟩)
  refine wp_loop_rounds 1 ?_
  rw [rounds_succ]
  go_wp2_with fail
  go_ret2
  exact ⟨0, 0, rfl, .inl ⟨rfl, HN.out⟩, Below.refl _ _⟩
set_option maxRecDepth 100000 in
set_option maxHeartbeats 4000000 in
theorem first8_good2 (s : ByteArray) (hn : 2 ≤ s.size) (c1 : 192 ≤ (bl s).getD 0 0) (c2 : (bl s).getD 0 0 < 224) (d1 : (bl s).getD 1 0 / 64 = 2) (w : World) :
    Calls Tryz.prog 155 #[.string s] w fun e w' => GivesFirst 0 s w e w' := by
  obtain ⟨B0, e0⟩ : ∃ B : Nat, s[0].toNat = B := ⟨_, rfl⟩
  have g0 := bl_get s 0 (by omega)
  have b0 : B0 < 256 := e0 ▸ UInt8.toNat_lt _
  rw [e0] at g0
  obtain ⟨B1, e1⟩ : ∃ B : Nat, s[1].toNat = B := ⟨_, rfl⟩
  have g1 := bl_get s 1 (by omega)
  have b1 : B1 < 256 := e1 ▸ UInt8.toNat_lt _
  rw [e1] at g1
  have hl := bl_length s
  have k1 : B1 / 64 = 2 := by omega
  have x1 := u8_and192' B1 b1 k1
  have y1 : bits .and .u8 (B1 : Int) 63 = (B1 : Int) % 64 := u8_and63 _ (by omega) (by omega)
  have o1 : bits .or .i64 (((B0 : Int) % 32) * 64) ((B1 : Int) % 64) = ((B0 : Int) % 32) * 64 + (B1 : Int) % 64 := i64_join 6 _ _ (by decide) (by omega) (by omega) (by omega) (by omega) (by omega)
  obtain ⟨P, hP⟩ : ∃ P : Int, P = ((B0 : Int) % 32) * 64 + (B1 : Int) % 64 := ⟨_, rfl⟩
  obtain ⟨b, hb⟩ : ∃ b, b = Utf.scal P := ⟨_, rfl⟩
  obtain ⟨z, hz⟩ : ∃ z, z = Utf.szL 0 P := ⟨_, rfl⟩
  have key : (b = false ∧ Utf.NoHead 0 (bl s)) ∨ (b = true ∧ (z != 2) = true ∧ Utf.NoHead 0 (bl s)) ∨ (b = true ∧ (z != 2) = false ∧ Utf.First 0 (bl s) P 2) := by
    by_cases hsc : Utf.scal P = true
    · have hp := Utf.scal_parts hsc
      by_cases hr : 128 ≤ P ∧ P < 2048
      · refine .inr (.inr ⟨hb.trans hsc, ?_, Utf.First.two0 (by omega) (by omega) (by omega) hsc (by omega) (by omega)⟩)
        have : z = 2 := by
          rw [hz]
          unfold Utf.szL
          repeat' split
          all_goals omega
        rw [this]
        rfl
      · refine .inr (.inl ⟨hb.trans hsc, ?_, ?_⟩)
        · have : z ≠ 2 := by
            rw [hz]
            unfold Utf.szL
            repeat' split
            all_goals omega
          simpa using this
        · intro p x hp e
          rcases Utf.head0 hp e with h | h | h | h <;> omega
    · refine .inl ⟨hb.trans (not_true hsc), ?_⟩
      intro p x hp e
      have hpp : p = P → False := fun h => hsc (h ▸ (by
        by_cases h : Utf.scal p = true
        · exact h
        · exact absurd (Utf.oneL_no (not_true h)) hp))
      rcases Utf.head0 hp e with h | h | h | h <;> first | omega | exact hpp (by omega)
  have HS : Hid (∀ w, Calls Tryz.prog 176 #[.int .i64 P] w fun e w' => e = .returned (.bool b) ∧ w = w') := Lib.hid fun w => hb ▸ scalar_any P w
  have HW : Hid (∀ w, Calls Tryz.prog 177 #[.int .i64 0, .int .i64 P] w fun e w' => e = .returned (.int .i64 z) ∧ w = w') := Lib.hid fun w => hz ▸ uwidth_any 0 P w
  have HP := Lib.hid hP
  rw [g0] at c1 c2
  clear g0 g1 d1 hl hb hz hP
  rcases key with ⟨rfl, hk⟩ | ⟨rfl, hz, hk⟩ | ⟨rfl, hz, hk⟩
  all_goals
    have HK := Lib.hid hk
    clear hk
    go_enter Tryz.func155, Tryz.ntmps155
    go_wp2_with (go_at_call 175; refine (headU_2 (B0 : Int) c1 c2 _).mono ?_; rintro e w1 ⟨rfl, rfl⟩)
    refine wp_loop_rounds 2 ?_
    rw [rounds_succ]
    go_wp2_with fail
    rw [rounds_succ]
    rw [← HP.out]
    go_wp2_with (first
      | (go_at_call 176; refine (HS.out _).mono ?_; rintro e w1 ⟨rfl, rfl⟩)
      | (go_at_call 177; refine (HW.out _).mono ?_; rintro e w1 ⟨rfl, rfl⟩))
    go_ret2
    first
      | exact ⟨0, 0, rfl, .inl ⟨rfl, HK.out⟩, Below.refl _ _⟩
      | exact ⟨P, 2, rfl, HK.out, Below.refl _ _⟩
set_option maxRecDepth 100000 in
theorem first8_bad31 (s : ByteArray) (hn : 3 ≤ s.size) (c1 : 224 ≤ (bl s).getD 0 0) (c2 : (bl s).getD 0 0 < 240)  (d1 : (bl s).getD 1 0 / 64 ≠ 2) (w : World) :
    Calls Tryz.prog 155 #[.string s] w fun e w' => GivesFirst 0 s w e w' := by
  obtain ⟨B0, e0⟩ : ∃ B : Nat, s[0].toNat = B := ⟨_, rfl⟩
  have g0 := bl_get s 0 (by omega)
  have b0 : B0 < 256 := e0 ▸ UInt8.toNat_lt _
  rw [e0] at g0
  obtain ⟨B1, e1⟩ : ∃ B : Nat, s[1].toNat = B := ⟨_, rfl⟩
  have g1 := bl_get s 1 (by omega)
  have b1 : B1 < 256 := e1 ▸ UInt8.toNat_lt _
  rw [e1] at g1
  obtain ⟨B2, e2⟩ : ∃ B : Nat, s[2].toNat = B := ⟨_, rfl⟩
  have g2 := bl_get s 2 (by omega)
  have b2 : B2 < 256 := e2 ▸ UInt8.toNat_lt _
  rw [e2] at g2
  have hl := bl_length s
  have HN : Hid (Utf.NoHead 0 (bl s)) := Lib.hid (by
    intro p x hp e
    rcases Utf.head0 hp e with h | h | h | h <;> omega)
  have k1 : B1 / 64 ≠ 2 := by omega
  have x1 := u8_ne192 B1 b1 k1
  rw [g0] at c1 c2
  clear g0 g1 g2 d1 hl
  go_enter Tryz.func155, Tryz.ntmps155
  go_wp2_with (go_at_call 175; refine (headU_3 (B0 : Int) c1 c2 _).mono ?_; rintro e w1 ⟨rfl, rfl⟩)
  refine wp_loop_rounds 1 ?_
  rw [rounds_succ]
  go_wp2_with fail
  go_ret2
  exact ⟨0, 0, rfl, .inl ⟨rfl, HN.out⟩, Below.refl _ _⟩
set_option maxRecDepth 100000 in
theorem first8_bad32 (s : ByteArray) (hn : 3 ≤ s.size) (c1 : 224 ≤ (bl s).getD 0 0) (c2 : (bl s).getD 0 0 < 240) (d1 : (bl s).getD 1 0 / 64 = 2) (d2 : (bl s).getD 2 0 / 64 ≠ 2) (w : World) :
    Calls Tryz.prog 155 #[.string s] w fun e w' => GivesFirst 0 s w e w' := by
  obtain ⟨B0, e0⟩ : ∃ B : Nat, s[0].toNat = B := ⟨_, rfl⟩
  have g0 := bl_get s 0 (by omega)
  have b0 : B0 < 256 := e0 ▸ UInt8.toNat_lt _
  rw [e0] at g0
  obtain ⟨B1, e1⟩ : ∃ B : Nat, s[1].toNat = B := ⟨_, rfl⟩
  have g1 := bl_get s 1 (by omega)
  have b1 : B1 < 256 := e1 ▸ UInt8.toNat_lt _
  rw [e1] at g1
  obtain ⟨B2, e2⟩ : ∃ B : Nat, s[2].toNat = B := ⟨_, rfl⟩
  have g2 := bl_get s 2 (by omega)
  have b2 : B2 < 256 := e2 ▸ UInt8.toNat_lt _
  rw [e2] at g2
  have hl := bl_length s
  have HN : Hid (Utf.NoHead 0 (bl s)) := Lib.hid (by
    intro p x hp e
    rcases Utf.head0 hp e with h | h | h | h <;> omega)
  have k1 : B1 / 64 = 2 := by omega
  have k2 : B2 / 64 ≠ 2 := by omega
  have x1 := u8_and192' B1 b1 k1
  have y1 : bits .and .u8 (B1 : Int) 63 = (B1 : Int) % 64 := u8_and63 _ (by omega) (by omega)
  have o1 : bits .or .i64 (((B0 : Int) % 16) * 64) ((B1 : Int) % 64) = ((B0 : Int) % 16) * 64 + (B1 : Int) % 64 := i64_join 6 _ _ (by decide) (by omega) (by omega) (by omega) (by omega) (by omega)
  have x2 := u8_ne192 B2 b2 k2
  rw [g0] at c1 c2
  clear g0 g1 g2 d1 d2 hl
  go_enter Tryz.func155, Tryz.ntmps155
  go_wp2_with (go_at_call 175; refine (headU_3 (B0 : Int) c1 c2 _).mono ?_; rintro e w1 ⟨rfl, rfl⟩)
  refine wp_loop_rounds 2 ?_
  rw [rounds_succ]
  go_wp2_with fail
  rw [rounds_succ]
  go_wp2_with fail
  go_ret2
  exact ⟨0, 0, rfl, .inl ⟨rfl, HN.out⟩, Below.refl _ _⟩
set_option maxRecDepth 100000 in
set_option maxHeartbeats 4000000 in
theorem first8_good3 (s : ByteArray) (hn : 3 ≤ s.size) (c1 : 224 ≤ (bl s).getD 0 0) (c2 : (bl s).getD 0 0 < 240) (d1 : (bl s).getD 1 0 / 64 = 2) (d2 : (bl s).getD 2 0 / 64 = 2) (w : World) :
    Calls Tryz.prog 155 #[.string s] w fun e w' => GivesFirst 0 s w e w' := by
  obtain ⟨B0, e0⟩ : ∃ B : Nat, s[0].toNat = B := ⟨_, rfl⟩
  have g0 := bl_get s 0 (by omega)
  have b0 : B0 < 256 := e0 ▸ UInt8.toNat_lt _
  rw [e0] at g0
  obtain ⟨B1, e1⟩ : ∃ B : Nat, s[1].toNat = B := ⟨_, rfl⟩
  have g1 := bl_get s 1 (by omega)
  have b1 : B1 < 256 := e1 ▸ UInt8.toNat_lt _
  rw [e1] at g1
  obtain ⟨B2, e2⟩ : ∃ B : Nat, s[2].toNat = B := ⟨_, rfl⟩
  have g2 := bl_get s 2 (by omega)
  have b2 : B2 < 256 := e2 ▸ UInt8.toNat_lt _
  rw [e2] at g2
  have hl := bl_length s
  have k1 : B1 / 64 = 2 := by omega
  have k2 : B2 / 64 = 2 := by omega
  have x1 := u8_and192' B1 b1 k1
  have y1 : bits .and .u8 (B1 : Int) 63 = (B1 : Int) % 64 := u8_and63 _ (by omega) (by omega)
  have o1 : bits .or .i64 (((B0 : Int) % 16) * 64) ((B1 : Int) % 64) = ((B0 : Int) % 16) * 64 + (B1 : Int) % 64 := i64_join 6 _ _ (by decide) (by omega) (by omega) (by omega) (by omega) (by omega)
  have x2 := u8_and192' B2 b2 k2
  have y2 : bits .and .u8 (B2 : Int) 63 = (B2 : Int) % 64 := u8_and63 _ (by omega) (by omega)
  have o2 : bits .or .i64 ((((B0 : Int) % 16) * 64 + (B1 : Int) % 64) * 64) ((B2 : Int) % 64) = (((B0 : Int) % 16) * 64 + (B1 : Int) % 64) * 64 + (B2 : Int) % 64 := i64_join 6 _ _ (by decide) (by omega) (by omega) (by omega) (by omega) (by omega)
  obtain ⟨P, hP⟩ : ∃ P : Int, P = (((B0 : Int) % 16) * 64 + (B1 : Int) % 64) * 64 + (B2 : Int) % 64 := ⟨_, rfl⟩
  obtain ⟨b, hb⟩ : ∃ b, b = Utf.scal P := ⟨_, rfl⟩
  obtain ⟨z, hz⟩ : ∃ z, z = Utf.szL 0 P := ⟨_, rfl⟩
  have key : (b = false ∧ Utf.NoHead 0 (bl s)) ∨ (b = true ∧ (z != 3) = true ∧ Utf.NoHead 0 (bl s)) ∨ (b = true ∧ (z != 3) = false ∧ Utf.First 0 (bl s) P 3) := by
    by_cases hsc : Utf.scal P = true
    · have hp := Utf.scal_parts hsc
      by_cases hr : 2048 ≤ P ∧ P < 65536
      · refine .inr (.inr ⟨hb.trans hsc, ?_, Utf.First.three0 (by omega) (by omega) (by omega) (by omega) hsc (by omega) (by omega)⟩)
        have : z = 3 := by
          rw [hz]
          unfold Utf.szL
          repeat' split
          all_goals omega
        rw [this]
        rfl
      · refine .inr (.inl ⟨hb.trans hsc, ?_, ?_⟩)
        · have : z ≠ 3 := by
            rw [hz]
            unfold Utf.szL
            repeat' split
            all_goals omega
          simpa using this
        · intro p x hp e
          rcases Utf.head0 hp e with h | h | h | h <;> omega
    · refine .inl ⟨hb.trans (not_true hsc), ?_⟩
      intro p x hp e
      have hpp : p = P → False := fun h => hsc (h ▸ (by
        by_cases h : Utf.scal p = true
        · exact h
        · exact absurd (Utf.oneL_no (not_true h)) hp))
      rcases Utf.head0 hp e with h | h | h | h <;> first | omega | exact hpp (by omega)
  have HS : Hid (∀ w, Calls Tryz.prog 176 #[.int .i64 P] w fun e w' => e = .returned (.bool b) ∧ w = w') := Lib.hid fun w => hb ▸ scalar_any P w
  have HW : Hid (∀ w, Calls Tryz.prog 177 #[.int .i64 0, .int .i64 P] w fun e w' => e = .returned (.int .i64 z) ∧ w = w') := Lib.hid fun w => hz ▸ uwidth_any 0 P w
  have HP := Lib.hid hP
  rw [g0] at c1 c2
  clear g0 g1 g2 d1 d2 hl hb hz hP
  rcases key with ⟨rfl, hk⟩ | ⟨rfl, hz, hk⟩ | ⟨rfl, hz, hk⟩
  all_goals
    have HK := Lib.hid hk
    clear hk
    go_enter Tryz.func155, Tryz.ntmps155
    go_wp2_with (go_at_call 175; refine (headU_3 (B0 : Int) c1 c2 _).mono ?_; rintro e w1 ⟨rfl, rfl⟩)
    refine wp_loop_rounds 3 ?_
    rw [rounds_succ]
    go_wp2_with fail
    rw [rounds_succ]
    go_wp2_with fail
    rw [rounds_succ]
    rw [← HP.out]
    go_wp2_with (first
      | (go_at_call 176; refine (HS.out _).mono ?_; rintro e w1 ⟨rfl, rfl⟩)
      | (go_at_call 177; refine (HW.out _).mono ?_; rintro e w1 ⟨rfl, rfl⟩))
    go_ret2
    first
      | exact ⟨0, 0, rfl, .inl ⟨rfl, HK.out⟩, Below.refl _ _⟩
      | exact ⟨P, 3, rfl, HK.out, Below.refl _ _⟩
set_option maxRecDepth 100000 in
theorem first8_bad41 (s : ByteArray) (hn : 4 ≤ s.size) (c1 : 240 ≤ (bl s).getD 0 0) (c2 : (bl s).getD 0 0 < 248)  (d1 : (bl s).getD 1 0 / 64 ≠ 2) (w : World) :
    Calls Tryz.prog 155 #[.string s] w fun e w' => GivesFirst 0 s w e w' := by
  obtain ⟨B0, e0⟩ : ∃ B : Nat, s[0].toNat = B := ⟨_, rfl⟩
  have g0 := bl_get s 0 (by omega)
  have b0 : B0 < 256 := e0 ▸ UInt8.toNat_lt _
  rw [e0] at g0
  obtain ⟨B1, e1⟩ : ∃ B : Nat, s[1].toNat = B := ⟨_, rfl⟩
  have g1 := bl_get s 1 (by omega)
  have b1 : B1 < 256 := e1 ▸ UInt8.toNat_lt _
  rw [e1] at g1
  obtain ⟨B2, e2⟩ : ∃ B : Nat, s[2].toNat = B := ⟨_, rfl⟩
  have g2 := bl_get s 2 (by omega)
  have b2 : B2 < 256 := e2 ▸ UInt8.toNat_lt _
  rw [e2] at g2
  obtain ⟨B3, e3⟩ : ∃ B : Nat, s[3].toNat = B := ⟨_, rfl⟩
  have g3 := bl_get s 3 (by omega)
  have b3 : B3 < 256 := e3 ▸ UInt8.toNat_lt _
  rw [e3] at g3
  have hl := bl_length s
  have HN : Hid (Utf.NoHead 0 (bl s)) := Lib.hid (by
    intro p x hp e
    rcases Utf.head0 hp e with h | h | h | h <;> omega)
  have k1 : B1 / 64 ≠ 2 := by omega
  have x1 := u8_ne192 B1 b1 k1
  rw [g0] at c1 c2
  clear g0 g1 g2 g3 d1 hl
  go_enter Tryz.func155, Tryz.ntmps155
  go_wp2_with (go_at_call 175; refine (headU_4 (B0 : Int) c1 c2 _).mono ?_; rintro e w1 ⟨rfl, rfl⟩)
  refine wp_loop_rounds 1 ?_
  rw [rounds_succ]
  go_wp2_with fail
  go_ret2
  exact ⟨0, 0, rfl, .inl ⟨rfl, HN.out⟩, Below.refl _ _⟩
set_option maxRecDepth 100000 in
theorem first8_bad42 (s : ByteArray) (hn : 4 ≤ s.size) (c1 : 240 ≤ (bl s).getD 0 0) (c2 : (bl s).getD 0 0 < 248) (d1 : (bl s).getD 1 0 / 64 = 2) (d2 : (bl s).getD 2 0 / 64 ≠ 2) (w : World) :
    Calls Tryz.prog 155 #[.string s] w fun e w' => GivesFirst 0 s w e w' := by
  obtain ⟨B0, e0⟩ : ∃ B : Nat, s[0].toNat = B := ⟨_, rfl⟩
  have g0 := bl_get s 0 (by omega)
  have b0 : B0 < 256 := e0 ▸ UInt8.toNat_lt _
  rw [e0] at g0
  obtain ⟨B1, e1⟩ : ∃ B : Nat, s[1].toNat = B := ⟨_, rfl⟩
  have g1 := bl_get s 1 (by omega)
  have b1 : B1 < 256 := e1 ▸ UInt8.toNat_lt _
  rw [e1] at g1
  obtain ⟨B2, e2⟩ : ∃ B : Nat, s[2].toNat = B := ⟨_, rfl⟩
  have g2 := bl_get s 2 (by omega)
  have b2 : B2 < 256 := e2 ▸ UInt8.toNat_lt _
  rw [e2] at g2
  obtain ⟨B3, e3⟩ : ∃ B : Nat, s[3].toNat = B := ⟨_, rfl⟩
  have g3 := bl_get s 3 (by omega)
  have b3 : B3 < 256 := e3 ▸ UInt8.toNat_lt _
  rw [e3] at g3
  have hl := bl_length s
  have HN : Hid (Utf.NoHead 0 (bl s)) := Lib.hid (by
    intro p x hp e
    rcases Utf.head0 hp e with h | h | h | h <;> omega)
  have k1 : B1 / 64 = 2 := by omega
  have k2 : B2 / 64 ≠ 2 := by omega
  have x1 := u8_and192' B1 b1 k1
  have y1 : bits .and .u8 (B1 : Int) 63 = (B1 : Int) % 64 := u8_and63 _ (by omega) (by omega)
  have o1 : bits .or .i64 (((B0 : Int) % 8) * 64) ((B1 : Int) % 64) = ((B0 : Int) % 8) * 64 + (B1 : Int) % 64 := i64_join 6 _ _ (by decide) (by omega) (by omega) (by omega) (by omega) (by omega)
  have x2 := u8_ne192 B2 b2 k2
  rw [g0] at c1 c2
  clear g0 g1 g2 g3 d1 d2 hl
  go_enter Tryz.func155, Tryz.ntmps155
  go_wp2_with (go_at_call 175; refine (headU_4 (B0 : Int) c1 c2 _).mono ?_; rintro e w1 ⟨rfl, rfl⟩)
  refine wp_loop_rounds 2 ?_
  rw [rounds_succ]
  go_wp2_with fail
  rw [rounds_succ]
  go_wp2_with fail
  go_ret2
  exact ⟨0, 0, rfl, .inl ⟨rfl, HN.out⟩, Below.refl _ _⟩
set_option maxRecDepth 100000 in
theorem first8_bad43 (s : ByteArray) (hn : 4 ≤ s.size) (c1 : 240 ≤ (bl s).getD 0 0) (c2 : (bl s).getD 0 0 < 248) (d1 : (bl s).getD 1 0 / 64 = 2) (d2 : (bl s).getD 2 0 / 64 = 2) (d3 : (bl s).getD 3 0 / 64 ≠ 2) (w : World) :
    Calls Tryz.prog 155 #[.string s] w fun e w' => GivesFirst 0 s w e w' := by
  obtain ⟨B0, e0⟩ : ∃ B : Nat, s[0].toNat = B := ⟨_, rfl⟩
  have g0 := bl_get s 0 (by omega)
  have b0 : B0 < 256 := e0 ▸ UInt8.toNat_lt _
  rw [e0] at g0
  obtain ⟨B1, e1⟩ : ∃ B : Nat, s[1].toNat = B := ⟨_, rfl⟩
  have g1 := bl_get s 1 (by omega)
  have b1 : B1 < 256 := e1 ▸ UInt8.toNat_lt _
  rw [e1] at g1
  obtain ⟨B2, e2⟩ : ∃ B : Nat, s[2].toNat = B := ⟨_, rfl⟩
  have g2 := bl_get s 2 (by omega)
  have b2 : B2 < 256 := e2 ▸ UInt8.toNat_lt _
  rw [e2] at g2
  obtain ⟨B3, e3⟩ : ∃ B : Nat, s[3].toNat = B := ⟨_, rfl⟩
  have g3 := bl_get s 3 (by omega)
  have b3 : B3 < 256 := e3 ▸ UInt8.toNat_lt _
  rw [e3] at g3
  have hl := bl_length s
  have HN : Hid (Utf.NoHead 0 (bl s)) := Lib.hid (by
    intro p x hp e
    rcases Utf.head0 hp e with h | h | h | h <;> omega)
  have k1 : B1 / 64 = 2 := by omega
  have k2 : B2 / 64 = 2 := by omega
  have k3 : B3 / 64 ≠ 2 := by omega
  have x1 := u8_and192' B1 b1 k1
  have y1 : bits .and .u8 (B1 : Int) 63 = (B1 : Int) % 64 := u8_and63 _ (by omega) (by omega)
  have o1 : bits .or .i64 (((B0 : Int) % 8) * 64) ((B1 : Int) % 64) = ((B0 : Int) % 8) * 64 + (B1 : Int) % 64 := i64_join 6 _ _ (by decide) (by omega) (by omega) (by omega) (by omega) (by omega)
  have x2 := u8_and192' B2 b2 k2
  have y2 : bits .and .u8 (B2 : Int) 63 = (B2 : Int) % 64 := u8_and63 _ (by omega) (by omega)
  have o2 : bits .or .i64 ((((B0 : Int) % 8) * 64 + (B1 : Int) % 64) * 64) ((B2 : Int) % 64) = (((B0 : Int) % 8) * 64 + (B1 : Int) % 64) * 64 + (B2 : Int) % 64 := i64_join 6 _ _ (by decide) (by omega) (by omega) (by omega) (by omega) (by omega)
  have x3 := u8_ne192 B3 b3 k3
  rw [g0] at c1 c2
  clear g0 g1 g2 g3 d1 d2 d3 hl
  go_enter Tryz.func155, Tryz.ntmps155
  go_wp2_with (go_at_call 175; refine (headU_4 (B0 : Int) c1 c2 _).mono ?_; rintro e w1 ⟨rfl, rfl⟩)
  refine wp_loop_rounds 3 ?_
  rw [rounds_succ]
  go_wp2_with fail
  rw [rounds_succ]
  go_wp2_with fail
  rw [rounds_succ]
  go_wp2_with fail
  go_ret2
  exact ⟨0, 0, rfl, .inl ⟨rfl, HN.out⟩, Below.refl _ _⟩
set_option maxRecDepth 100000 in
set_option maxHeartbeats 4000000 in
theorem first8_good4 (s : ByteArray) (hn : 4 ≤ s.size) (c1 : 240 ≤ (bl s).getD 0 0) (c2 : (bl s).getD 0 0 < 248) (d1 : (bl s).getD 1 0 / 64 = 2) (d2 : (bl s).getD 2 0 / 64 = 2) (d3 : (bl s).getD 3 0 / 64 = 2) (w : World) :
    Calls Tryz.prog 155 #[.string s] w fun e w' => GivesFirst 0 s w e w' := by
  obtain ⟨B0, e0⟩ : ∃ B : Nat, s[0].toNat = B := ⟨_, rfl⟩
  have g0 := bl_get s 0 (by omega)
  have b0 : B0 < 256 := e0 ▸ UInt8.toNat_lt _
  rw [e0] at g0
  obtain ⟨B1, e1⟩ : ∃ B : Nat, s[1].toNat = B := ⟨_, rfl⟩
  have g1 := bl_get s 1 (by omega)
  have b1 : B1 < 256 := e1 ▸ UInt8.toNat_lt _
  rw [e1] at g1
  obtain ⟨B2, e2⟩ : ∃ B : Nat, s[2].toNat = B := ⟨_, rfl⟩
  have g2 := bl_get s 2 (by omega)
  have b2 : B2 < 256 := e2 ▸ UInt8.toNat_lt _
  rw [e2] at g2
  obtain ⟨B3, e3⟩ : ∃ B : Nat, s[3].toNat = B := ⟨_, rfl⟩
  have g3 := bl_get s 3 (by omega)
  have b3 : B3 < 256 := e3 ▸ UInt8.toNat_lt _
  rw [e3] at g3
  have hl := bl_length s
  have k1 : B1 / 64 = 2 := by omega
  have k2 : B2 / 64 = 2 := by omega
  have k3 : B3 / 64 = 2 := by omega
  have x1 := u8_and192' B1 b1 k1
  have y1 : bits .and .u8 (B1 : Int) 63 = (B1 : Int) % 64 := u8_and63 _ (by omega) (by omega)
  have o1 : bits .or .i64 (((B0 : Int) % 8) * 64) ((B1 : Int) % 64) = ((B0 : Int) % 8) * 64 + (B1 : Int) % 64 := i64_join 6 _ _ (by decide) (by omega) (by omega) (by omega) (by omega) (by omega)
  have x2 := u8_and192' B2 b2 k2
  have y2 : bits .and .u8 (B2 : Int) 63 = (B2 : Int) % 64 := u8_and63 _ (by omega) (by omega)
  have o2 : bits .or .i64 ((((B0 : Int) % 8) * 64 + (B1 : Int) % 64) * 64) ((B2 : Int) % 64) = (((B0 : Int) % 8) * 64 + (B1 : Int) % 64) * 64 + (B2 : Int) % 64 := i64_join 6 _ _ (by decide) (by omega) (by omega) (by omega) (by omega) (by omega)
  have x3 := u8_and192' B3 b3 k3
  have y3 : bits .and .u8 (B3 : Int) 63 = (B3 : Int) % 64 := u8_and63 _ (by omega) (by omega)
  have o3 : bits .or .i64 (((((B0 : Int) % 8) * 64 + (B1 : Int) % 64) * 64 + (B2 : Int) % 64) * 64) ((B3 : Int) % 64) = ((((B0 : Int) % 8) * 64 + (B1 : Int) % 64) * 64 + (B2 : Int) % 64) * 64 + (B3 : Int) % 64 := i64_join 6 _ _ (by decide) (by omega) (by omega) (by omega) (by omega) (by omega)
  obtain ⟨P, hP⟩ : ∃ P : Int, P = ((((B0 : Int) % 8) * 64 + (B1 : Int) % 64) * 64 + (B2 : Int) % 64) * 64 + (B3 : Int) % 64 := ⟨_, rfl⟩
  obtain ⟨b, hb⟩ : ∃ b, b = Utf.scal P := ⟨_, rfl⟩
  obtain ⟨z, hz⟩ : ∃ z, z = Utf.szL 0 P := ⟨_, rfl⟩
  have key : (b = false ∧ Utf.NoHead 0 (bl s)) ∨ (b = true ∧ (z != 4) = true ∧ Utf.NoHead 0 (bl s)) ∨ (b = true ∧ (z != 4) = false ∧ Utf.First 0 (bl s) P 4) := by
    by_cases hsc : Utf.scal P = true
    · have hp := Utf.scal_parts hsc
      by_cases hr : 65536 ≤ P ∧ P < 1114112
      · refine .inr (.inr ⟨hb.trans hsc, ?_, Utf.First.four0 (by omega) (by omega) (by omega) (by omega) (by omega) hsc (by omega)⟩)
        have : z = 4 := by
          rw [hz]
          unfold Utf.szL
          repeat' split
          all_goals omega
        rw [this]
        rfl
      · refine .inr (.inl ⟨hb.trans hsc, ?_, ?_⟩)
        · have : z ≠ 4 := by
            rw [hz]
            unfold Utf.szL
            repeat' split
            all_goals omega
          simpa using this
        · intro p x hp e
          rcases Utf.head0 hp e with h | h | h | h <;> omega
    · refine .inl ⟨hb.trans (not_true hsc), ?_⟩
      intro p x hp e
      have hpp : p = P → False := fun h => hsc (h ▸ (by
        by_cases h : Utf.scal p = true
        · exact h
        · exact absurd (Utf.oneL_no (not_true h)) hp))
      rcases Utf.head0 hp e with h | h | h | h <;> first | omega | exact hpp (by omega)
  have HS : Hid (∀ w, Calls Tryz.prog 176 #[.int .i64 P] w fun e w' => e = .returned (.bool b) ∧ w = w') := Lib.hid fun w => hb ▸ scalar_any P w
  have HW : Hid (∀ w, Calls Tryz.prog 177 #[.int .i64 0, .int .i64 P] w fun e w' => e = .returned (.int .i64 z) ∧ w = w') := Lib.hid fun w => hz ▸ uwidth_any 0 P w
  have HP := Lib.hid hP
  rw [g0] at c1 c2
  clear g0 g1 g2 g3 d1 d2 d3 hl hb hz hP
  rcases key with ⟨rfl, hk⟩ | ⟨rfl, hz, hk⟩ | ⟨rfl, hz, hk⟩
  all_goals
    have HK := Lib.hid hk
    clear hk
    go_enter Tryz.func155, Tryz.ntmps155
    go_wp2_with (go_at_call 175; refine (headU_4 (B0 : Int) c1 c2 _).mono ?_; rintro e w1 ⟨rfl, rfl⟩)
    refine wp_loop_rounds 4 ?_
    rw [rounds_succ]
    go_wp2_with fail
    rw [rounds_succ]
    go_wp2_with fail
    rw [rounds_succ]
    go_wp2_with fail
    rw [rounds_succ]
    rw [← HP.out]
    go_wp2_with (first
      | (go_at_call 176; refine (HS.out _).mono ?_; rintro e w1 ⟨rfl, rfl⟩)
      | (go_at_call 177; refine (HW.out _).mono ?_; rintro e w1 ⟨rfl, rfl⟩))
    go_ret2
    first
      | exact ⟨0, 0, rfl, .inl ⟨rfl, HK.out⟩, Below.refl _ _⟩
      | exact ⟨P, 4, rfl, HK.out, Below.refl _ _⟩
end Go.Proofs.YtekonefnniaheaaGreat
namespace Go.Proofs.YtekonefnniaheaaGreat
open Go.RowKit

def strLen : Value → Nat
  | .string r => r.size
  | _ => 0
end Go.Proofs.YtekonefnniaheaaGreat
namespace Go.Proofs.YtekonefnniaheaaGreat
open Go.RowKit

set_option maxRecDepth 100000 in
theorem first8_one (s : ByteArray) (hs : 1 ≤ s.size) (c1 : (bl s).getD 0 0 < 128) (w : World) :
    Calls Tryz.prog 155 #[.string s] w fun e w' => GivesFirst 0 s w e w' := by
  obtain ⟨B0, e0⟩ : ∃ B : Nat, s[0].toNat = B := ⟨_, rfl⟩
  have g0 := bl_get s 0 (by omega)
  have b0 : B0 < 256 := e0 ▸ UInt8.toNat_lt _
  rw [e0] at g0
  have hl := bl_length s
  have HF : Hid (Utf.First 0 (bl s) (B0 : Int) 1) := Lib.hid (g0 ▸ Utf.First.one0 (by omega) (by omega) c1)
  rw [g0] at c1
  have hsc : Utf.scal (B0 : Int) = true := decide_eq_true (by omega)
  have hz : Utf.szL 0 (B0 : Int) = 1 := by
    unfold Utf.szL
    repeat' split
    all_goals omega
  have HS : Hid (∀ w, Calls Tryz.prog 176 #[.int .i64 (B0 : Int)] w fun e w' => e = .returned (.bool true) ∧ w = w') := Lib.hid fun w => hsc ▸ scalar_any _ w
  have HW : Hid (∀ w, Calls Tryz.prog 177 #[.int .i64 0, .int .i64 (B0 : Int)] w fun e w' => e = .returned (.int .i64 1) ∧ w = w') := Lib.hid fun w => hz ▸ uwidth_any 0 _ w
  clear g0 hl hsc hz
  go_enter Tryz.func155, Tryz.ntmps155
  go_wp2_with (go_at_call 175; refine (headU_1 (B0 : Int) c1 _).mono ?_; rintro e w1 ⟨rfl, rfl⟩)
  refine wp_loop_rounds 1 ?_
  rw [rounds_succ]
  go_wp2_with (first
    | (go_at_call 176; refine (HS.out _).mono ?_; rintro e w1 ⟨rfl, rfl⟩)
    | (go_at_call 177; refine (HW.out _).mono ?_; rintro e w1 ⟨rfl, rfl⟩))
  go_ret2
  exact ⟨_, 1, rfl, HF.out, Below.refl _ _⟩
theorem first8_any (s : ByteArray) (hs : 1 ≤ s.size) (w : World) :
    Calls Tryz.prog 155 #[.string s] w fun e w' => GivesFirst 0 s w e w' := by
  have hb := bl_byte s 0 (by omega)
  have d (i : Nat) : (bl s).getD i 0 / 64 = 2 ∨ (bl s).getD i 0 / 64 ≠ 2 := by omega
  by_cases h1 : (bl s).getD 0 0 < 128
  · exact first8_one s hs h1 w
  by_cases h2 : (bl s).getD 0 0 < 192
  · exact first8_0a s hs (by omega) h2 w
  by_cases h3 : (bl s).getD 0 0 < 224
  · by_cases n : s.size < 2
    · exact first8_short2 s hs (by omega) h3 n w
    · rcases d 1 with d1 | d1
      · exact first8_good2 s (by omega) (by omega) h3 d1 w
      · exact first8_bad21 s (by omega) (by omega) h3 d1 w
  by_cases h4 : (bl s).getD 0 0 < 240
  · by_cases n : s.size < 3
    · exact first8_short3 s hs (by omega) h4 n w
    · rcases d 1 with d1 | d1
      · rcases d 2 with d2 | d2
        · exact first8_good3 s (by omega) (by omega) h4 d1 d2 w
        · exact first8_bad32 s (by omega) (by omega) h4 d1 d2 w
      · exact first8_bad31 s (by omega) (by omega) h4 d1 w
  by_cases h5 : (bl s).getD 0 0 < 248
  · by_cases n : s.size < 4
    · exact first8_short4 s hs (by omega) h5 n w
    · rcases d 1 with d1 | d1
      · rcases d 2 with d2 | d2
        · rcases d 3 with d3 | d3
          · exact first8_good4 s (by omega) (by omega) h5 d1 d2 d3 w
          · exact first8_bad43 s (by omega) (by omega) h5 d1 d2 d3 w
        · exact first8_bad42 s (by omega) (by omega) h5 d1 d2 w
      · exact first8_bad41 s (by omega) (by omega) h5 d1 w
  · exact first8_0b s hs (by omega) w
theorem first_le {form p : Int} {r : ByteArray} {n : Nat} (hF : Utf.First form (bl r) p n) : n ≤ r.size := by
  rcases hF with ⟨h, _⟩ | ⟨_, h, _⟩
  · omega
  · rw [bl_length] at h
    exact h
/-- What one character's bytes leave of a text. -/
theorem first_step {form p : Int} {r s : ByteArray} {acc : List Int} {n : Nat} (hF : Utf.First form (bl r) p n) (h0 : n ≠ 0) (hbl : bl s = Utf.catL form acc ++ bl r) :
    Utf.oneL form p ≠ [] ∧ bl s = Utf.catL form (acc ++ [p]) ++ bl (r.extract n r.size) ∧ (r.extract n r.size).size < r.size := by
  obtain ⟨hn1, hn2, hn3⟩ := hF.resolve_left (fun h => h0 h.1)
  rw [bl_length] at hn2
  refine ⟨?_, ?_, ?_⟩
  · intro h
    have := congrArg List.length (h.symm.trans hn3)
    rw [List.length_take, bl_length] at this
    simp at this
    omega
  · rw [bl_drop, Utf.catL_snoc, List.append_assoc, hn3, List.take_append_drop]
    exact hbl
  · rw [ByteArray.size_extract]
    omega
set_option maxRecDepth 100000 in
set_option maxHeartbeats 1000000 in
theorem valid_any (s : ByteArray) (w : World) :
    Calls Tryz.prog 124 #[.string s] w fun e w' => ∃ b, e = .returned (.bool b) ∧ Below w.heap.size w w' ∧ ((b = true ∧ ∃ ps, Utf.Reads 0 (bl s) ps) ∨ (b = false ∧ ∀ ps, ¬ Utf.Reads 0 (bl s) ps)) := by
  go_enter Tryz.func124, Tryz.ntmps124
  go_wp2_with fail
  go_loopw [0, 4] (fun sv _ wr => ∃ (r : ByteArray) (acc : List Int), sv = .string r ∧ bl s = Utf.catL 0 acc ++ bl r ∧ Utf.allW 0 acc = true ∧ Below w.heap.size w wr) (fun sv _ _ => strLen sv)
  case atStart => exact ⟨s, [], rfl, rfl, rfl, Below.refl _ _⟩
  case round =>
    obtain ⟨r, acc, rfl, hbl, hall, hbel⟩ := hrel
    have HBL := Lib.hid hbl
    have HAL := Lib.hid hall
    have hsl := hbel.size
    clear hbl hall
    by_cases hpos : 0 < r.size
    · have hbr : bl r ≠ [] := fun h => by have := bl_nil h; omega
      have hemp : r.toList.isEmpty = false := by
        have := Utf.toList_ne hbr
        rw [bl_back] at this
        exact this
      clear hbr
      go_wp2_with (go_at_call 155; refine (first8_any r hpos _).mono ?_; rintro e w1 ⟨p, n, rfl, hF, hb1⟩; have hnr := first_le hF)
      · rename_i hn
        have hn0 : n = 0 := by simpa using hn
        have hN : Utf.NoHead 0 (bl r) := by
          rcases hF with h | ⟨h, _⟩
          · exact h.2
          · omega
        have hbr : bl r ≠ [] := fun h => by have := bl_nil h; omega
        have HN := Lib.hid (Utf.reads_none HAL.out hbr hN)
        rw [← HBL.out] at HN
        go_ret
        exact ⟨false, rfl, hbel.trans (hb1.mono hsl), .inr ⟨rfl, HN.out⟩⟩
      · rename_i hn
        have hn0 : n ≠ 0 := by
          intro h
          subst h
          simp at hn
        obtain ⟨hne, hbl2, hlen⟩ := first_step hF hn0 HBL.out
        exact ⟨⟨_, _, rfl, hbl2, Utf.allW_snoc HAL.out hne, hbel.trans (hb1.mono hsl)⟩, hlen⟩
    · have hr0 : r.size = 0 := by omega
      have hb0 : bl r = [] := List.length_eq_zero_iff.1 (by rw [bl_length, hr0])
      have hemp : r.toList.isEmpty = true := by
        have h : r = strOfNums [] := by rw [← hb0, bl_back]
        rw [h, ByteArray.toList_eq]
        rfl
      have hR : Utf.Reads 0 (bl s) acc := ⟨rfl, HAL.out, by rw [HBL.out, hb0, List.append_nil]⟩
      have HR := Lib.hid hR
      clear hb0 hR
      go_wp2_with fail
      go_ret
      exact ⟨true, rfl, hbel, .inl ⟨rfl, _, HR.out⟩⟩
end Go.Proofs.YtekonefnniaheaaGreat
