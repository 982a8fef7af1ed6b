/- Texts of the proof of ModulePutsUptoProof, part 10. -/
import Derived.LoopN
import Derived.Deep.RegionWith
import Derived.Test.YtekonefnniaheaaGreatModulePutsUptoProofQ1
import Derived.Test.YtekonefnniaheaaGreatModulePutsUptoProofQ9
namespace Go.Proofs.YtekonefnniaheaaGreat
open Go.RowKit

/-- How many bytes a number has in a form. -/
theorem uwidth_any (form p : Int) (w : World) :
    Calls Tryz.prog 177 #[.int .i64 form, .int .i64 p] w fun e w' => e = .returned (.int .i64 (Utf.szL form p)) ∧ w = w' := by
  have hf : ((form == 2) = true ∧ (form == 1) = false ∧ (form != 0) = true ∧ form = 2) ∨ ((form == 2) = false ∧ (form == 1) = true ∧ (form != 0) = true ∧ form = 1) ∨
      ((form == 2) = false ∧ (form == 1) = false ∧ (form != 0) = false ∧ form = 0) ∨ ((form == 2) = false ∧ (form == 1) = false ∧ (form != 0) = true ∧ form ≠ 2 ∧ form ≠ 1 ∧ form ≠ 0) := by
    by_cases h2 : form = 2
    · subst h2; exact .inl ⟨rfl, rfl, rfl, rfl⟩
    · by_cases h1 : form = 1
      · subst h1; exact .inr (.inl ⟨rfl, rfl, rfl, rfl⟩)
      · by_cases h0 : form = 0
        · subst h0; exact .inr (.inr (.inl ⟨rfl, rfl, rfl, rfl⟩))
        · exact .inr (.inr (.inr ⟨by simpa using h2, by simpa using h1, by simpa using h0, h2, h1, h0⟩))
  have hp : (p < 128) ∨ (128 ≤ p ∧ p < 2048) ∨ (2048 ≤ p ∧ p < 65536) ∨ 65536 ≤ p := by omega
  rcases hp with hp | ⟨hp, hp'⟩ | ⟨hp, hp'⟩ | hp
  all_goals
    rcases hf with ⟨f2, f1, f0, hf⟩ | ⟨f2, f1, f0, hf⟩ | ⟨f2, f1, f0, hf⟩ | ⟨f2, f1, f0, hf⟩
    all_goals
      obtain ⟨z, hz⟩ : ∃ z, z = Utf.szL form p := ⟨_, rfl⟩
      have hz' := hz
      unfold Utf.szL at hz'
      (repeat' split at hz') <;> first
        | (exfalso; omega)
        | (have HZ := Lib.hid (hz.symm.trans hz')
           clear hz hz' hf
           go_enter Tryz.func177, Tryz.ntmps177
           go_wp2_with fail
           go_ret
           rw [HZ.out]
           exact ⟨rfl, rfl⟩)
end Go.Proofs.YtekonefnniaheaaGreat
namespace Go.Proofs.YtekonefnniaheaaGreat
open Go.RowKit

theorem scalar_any (p : Int) (w : World) :
    Calls Tryz.prog 176 #[.int .i64 p] w fun e w' => e = .returned (.bool (Utf.scal p)) ∧ w = w' := by
  by_cases h : Utf.scal p = true
  · have h' := Utf.scal_parts h
    rw [h]
    obtain ⟨h1, h2, h3⟩ := h'
    clear h
    rcases h3 with h3 | h3
    all_goals
      go_enter Tryz.func176, Tryz.ntmps176
      go_wp2_with fail
      go_ret
      exact ⟨by first | rfl | (refine congrArg (fun c => Ending.returned (.bool c)) ?_; simp; done) | (refine congrArg (fun c => Ending.returned (.bool c)) ?_; simp; omega), rfl⟩
  · have h' : p < 0 ∨ 1114111 < p ∨ (55296 ≤ p ∧ p ≤ 57343) := by
      have hn : ¬ (0 ≤ p ∧ p ≤ 1114111 ∧ (p < 55296 ∨ 57343 < p)) := fun hp => h (decide_eq_true hp)
      omega
    rw [not_true h]
    clear h
    rcases h' with h | h | ⟨h, h2⟩
    all_goals
      go_enter Tryz.func176, Tryz.ntmps176
      go_wp2_with fail
      go_ret
      exact ⟨by first | rfl | (refine congrArg (fun c => Ending.returned (.bool c)) ?_; simp; done) | (refine congrArg (fun c => Ending.returned (.bool c)) ?_; simp; omega), rfl⟩
end Go.Proofs.YtekonefnniaheaaGreat
namespace Go.Proofs.YtekonefnniaheaaGreat
open Go.RowKit

/-- What a text's first character leaves. -/
def GivesFirst (form : Int) (s : ByteArray) (w : World) (e : Ending) (w' : World) : Prop :=
  ∃ (p : Int) (n : Nat), e = .returned (.tuple #[.int .i64 p, .int .i64 n]) ∧ Utf.First form (bl s) p n ∧ Below w.heap.size w w'
theorem bl_byte (s : ByteArray) (i : Nat) (h : i < s.size) : 0 ≤ (bl s).getD i 0 ∧ (bl s).getD i 0 < 256 := by
  rw [bl_get s i h]
  have := UInt8.toNat_lt s[i]
  omega
end Go.Proofs.YtekonefnniaheaaGreat
namespace Go.Proofs.YtekonefnniaheaaGreat
open Go.RowKit

theorem u8_and192' (n : Nat) (h : n < 256) (k : n / 64 = 2) : bits .and .u8 (n : Int) 192 = 128 := by
  rw [u8_and192 n h]
  omega
theorem u8_ne192 (n : Nat) (h : n < 256) (k : n / 64 ≠ 2) : (bits .and .u8 (n : Int) 192 != 128) = true := by
  rw [u8_and192 n h, bne_iff_ne]
  omega
theorem headU_1 (c : Int) (h1 : c < 128) (w : World) :
    Calls Tryz.prog 175 #[.int .i64 c] w fun e w' => e = .returned (.tuple #[.int .i64 (c), .int .i64 1]) ∧ w = w' := by
  go_enter Tryz.func175, Tryz.ntmps175
  go_wp2_with fail
  go_ret2
  exact ⟨rfl, rfl⟩
theorem headU_0a (c : Int) (h1 : 128 ≤ c) (h2 : c < 192) (w : World) :
    Calls Tryz.prog 175 #[.int .i64 c] w fun e w' => e = .returned (.tuple #[.int .i64 (0), .int .i64 0]) ∧ w = w' := by
  go_enter Tryz.func175, Tryz.ntmps175
  go_wp2_with fail
  go_ret2
  exact ⟨rfl, rfl⟩
theorem headU_2 (c : Int) (h1 : 192 ≤ c) (h2 : c < 224) (w : World) :
    Calls Tryz.prog 175 #[.int .i64 c] w fun e w' => e = .returned (.tuple #[.int .i64 (c % 32), .int .i64 2]) ∧ w = w' := by
  have ha := i64_and31 c
  go_enter Tryz.func175, Tryz.ntmps175
  go_wp2_with fail
  go_ret2
  exact ⟨rfl, rfl⟩
theorem headU_3 (c : Int) (h1 : 224 ≤ c) (h2 : c < 240) (w : World) :
    Calls Tryz.prog 175 #[.int .i64 c] w fun e w' => e = .returned (.tuple #[.int .i64 (c % 16), .int .i64 3]) ∧ w = w' := by
  have ha := i64_and15 c
  go_enter Tryz.func175, Tryz.ntmps175
  go_wp2_with fail
  go_ret2
  exact ⟨rfl, rfl⟩
theorem headU_4 (c : Int) (h1 : 240 ≤ c) (h2 : c < 248) (w : World) :
    Calls Tryz.prog 175 #[.int .i64 c] w fun e w' => e = .returned (.tuple #[.int .i64 (c % 8), .int .i64 4]) ∧ w = w' := by
  have ha := i64_and7 c
  go_enter Tryz.func175, Tryz.ntmps175
  go_wp2_with fail
  go_ret2
  exact ⟨rfl, rfl⟩
theorem headU_0b (c : Int) (h1 : 248 ≤ c) (w : World) :
    Calls Tryz.prog 175 #[.int .i64 c] w fun e w' => e = .returned (.tuple #[.int .i64 (0), .int .i64 0]) ∧ w = w' := by
  go_enter Tryz.func175, Tryz.ntmps175
  go_wp2_with fail
  go_ret2
  exact ⟨rfl, rfl⟩
set_option maxRecDepth 100000 in
theorem first8_0a (s : ByteArray) (hs : 1 ≤ s.size) (c1 : 128 ≤ (bl s).getD 0 0) (c2 : (bl s).getD 0 0 < 192) (w : World) :
    Calls Tryz.prog 155 #[.string s] w fun e w' => GivesFirst 0 s w e w' := by
  obtain ⟨B0, e0⟩ : ∃ B : Nat, s[0].toNat = B := ⟨_, rfl⟩
  have g0 := bl_get s 0 (by omega)
  have b0 : B0 < 256 := e0 ▸ UInt8.toNat_lt _
  rw [e0] at g0
  have HN : Hid (Utf.NoHead 0 (bl s)) := Lib.hid (by
    intro p x hp e
    rcases Utf.head0 hp e with h | h | h | h <;> omega)
  rw [g0] at c1 c2
  clear g0
  go_enter Tryz.func155, Tryz.ntmps155
  go_wp2_with (go_at_call 175; refine (headU_0a (B0 : Int) c1 c2 _).mono ?_; rintro e w1 ⟨rfl, rfl⟩)
  go_ret2
  exact ⟨0, 0, rfl, .inl ⟨rfl, HN.out⟩, Below.refl _ _⟩
set_option maxRecDepth 100000 in
theorem first8_0b (s : ByteArray) (hs : 1 ≤ s.size) (c1 : 248 ≤ (bl s).getD 0 0) (w : World) :
    Calls Tryz.prog 155 #[.string s] w fun e w' => GivesFirst 0 s w e w' := by
  obtain ⟨B0, e0⟩ : ∃ B : Nat, s[0].toNat = B := ⟨_, rfl⟩
  have g0 := bl_get s 0 (by omega)
  have b0 : B0 < 256 := e0 ▸ UInt8.toNat_lt _
  rw [e0] at g0
  have HN : Hid (Utf.NoHead 0 (bl s)) := Lib.hid (by
    intro p x hp e
    rcases Utf.head0 hp e with h | h | h | h <;> omega)
  rw [g0] at c1
  clear g0
  go_enter Tryz.func155, Tryz.ntmps155
  go_wp2_with (go_at_call 175; refine (headU_0b (B0 : Int) c1 _).mono ?_; rintro e w1 ⟨rfl, rfl⟩)
  go_ret2
  exact ⟨0, 0, rfl, .inl ⟨rfl, HN.out⟩, Below.refl _ _⟩
set_option maxRecDepth 100000 in
theorem first8_short2 (s : ByteArray) (hs : 1 ≤ s.size) (c1 : 192 ≤ (bl s).getD 0 0) (c2 : (bl s).getD 0 0 < 224) (hn : s.size < 2) (w : World) :
    Calls Tryz.prog 155 #[.string s] w fun e w' => GivesFirst 0 s w e w' := by
  obtain ⟨B0, e0⟩ : ∃ B : Nat, s[0].toNat = B := ⟨_, rfl⟩
  have g0 := bl_get s 0 (by omega)
  have b0 : B0 < 256 := e0 ▸ UInt8.toNat_lt _
  rw [e0] at g0
  have hl := bl_length s
  have HN : Hid (Utf.NoHead 0 (bl s)) := Lib.hid (by
    intro p x hp e
    rcases Utf.head0 hp e with h | h | h | h <;> omega)
  rw [g0] at c1 c2
  clear g0 hl
  go_enter Tryz.func155, Tryz.ntmps155
  go_wp2_with (go_at_call 175; refine (headU_2 (B0 : Int) c1 c2 _).mono ?_; rintro e w1 ⟨rfl, rfl⟩)
  go_ret2
  exact ⟨0, 0, rfl, .inl ⟨rfl, HN.out⟩, Below.refl _ _⟩
set_option maxRecDepth 100000 in
theorem first8_short3 (s : ByteArray) (hs : 1 ≤ s.size) (c1 : 224 ≤ (bl s).getD 0 0) (c2 : (bl s).getD 0 0 < 240) (hn : s.size < 3) (w : World) :
    Calls Tryz.prog 155 #[.string s] w fun e w' => GivesFirst 0 s w e w' := by
  obtain ⟨B0, e0⟩ : ∃ B : Nat, s[0].toNat = B := ⟨_, rfl⟩
  have g0 := bl_get s 0 (by omega)
  have b0 : B0 < 256 := e0 ▸ UInt8.toNat_lt _
  rw [e0] at g0
  have hl := bl_length s
  have HN : Hid (Utf.NoHead 0 (bl s)) := Lib.hid (by
    intro p x hp e
    rcases Utf.head0 hp e with h | h | h | h <;> omega)
  rw [g0] at c1 c2
  clear g0 hl
  go_enter Tryz.func155, Tryz.ntmps155
  go_wp2_with (go_at_call 175; refine (headU_3 (B0 : Int) c1 c2 _).mono ?_; rintro e w1 ⟨rfl, rfl⟩)
  go_ret2
  exact ⟨0, 0, rfl, .inl ⟨rfl, HN.out⟩, Below.refl _ _⟩
set_option maxRecDepth 100000 in
theorem first8_short4 (s : ByteArray) (hs : 1 ≤ s.size) (c1 : 240 ≤ (bl s).getD 0 0) (c2 : (bl s).getD 0 0 < 248) (hn : s.size < 4) (w : World) :
    Calls Tryz.prog 155 #[.string s] w fun e w' => GivesFirst 0 s w e w' := by
  obtain ⟨B0, e0⟩ : ∃ B : Nat, s[0].toNat = B := ⟨_, rfl⟩
  have g0 := bl_get s 0 (by omega)
  have b0 : B0 < 256 := e0 ▸ UInt8.toNat_lt _
  rw [e0] at g0
  have hl := bl_length s
  have HN : Hid (Utf.NoHead 0 (bl s)) := Lib.hid (by
    intro p x hp e
    rcases Utf.head0 hp e with h | h | h | h <;> omega)
  rw [g0] at c1 c2
  clear g0 hl
  go_enter Tryz.func155, Tryz.ntmps155
  go_wp2_with (go_at_call 175; refine (headU_4 (B0 : Int) c1 c2 _).mono ?_; rintro e w1 ⟨rfl, rfl⟩)
  go_ret2
  exact ⟨0, 0, rfl, .inl ⟨rfl, HN.out⟩, Below.refl _ _⟩
set_option maxRecDepth 100000 in
theorem first8_bad21 (s : ByteArray) (hn : 2 ≤ s.size) (c1 : 192 ≤ (bl s).getD 0 0) (c2 : (bl s).getD 0 0 < 224)  (d1 : (bl s).getD 1 0 / 64 ≠ 2) (w : World) :
    Calls Tryz.prog 155 #[.string s] w fun e w' => GivesFirst 0 s w e w' := by
  obtain ⟨B0, e0⟩ : ∃ B : Nat, s[0].toNat = B := ⟨_, rfl⟩
  have g0 := bl_get s 0 (by omega)
  have b0 : B0 < 256 := e0 ▸ UInt8.toNat_lt _
  rw [e0] at g0
  obtain ⟨B1, e1⟩ : ∃ B : Nat, s[1].toNat = B := ⟨_, rfl⟩
  have g1 := bl_get s 1 (by omega)
  have b1 : B1 < 256 := e1 ▸ UInt8.toNat_lt _
  rw [e1] at g1
  have hl := bl_length s
  have HN : Hid (Utf.NoHead 0 (bl s)) := Lib.hid (by
    intro p x hp e
    rcases Utf.head0 hp e with h | h | h | h <;> omega)
  have k1 : B1 / 64 ≠ 2 := by omega
  have x1 := u8_ne192 B1 b1 k1
  rw [g0] at c1 c2
  clear g0 g1 d1 hl
  go_enter Tryz.func155, Tryz.ntmps155
  go_wp2_with (go_at_call 175; refine (headU_2 (B0 : Int) c1 c2 _).mono ?_; rintro e w1 ⟨rfl, rfl⟩)
  refine wp_loop_rounds 1 ?_
  rw [rounds_succ]
  go_wp2_with fail
  go_ret2
  exact ⟨0, 0, rfl, .inl ⟨rfl, HN.out⟩, Below.refl _ _⟩
set_option maxRecDepth 100000 in
set_option maxHeartbeats 4000000 in
theorem first8_good2 (s : ByteArray) (hn : 2 ≤ s.size) (c1 : 192 ≤ (bl s).getD 0 0) (c2 : (bl s).getD 0 0 < 224) (d1 : (bl s).getD 1 0 / 64 = 2) (w : World) :
    Calls Tryz.prog 155 #[.string s] w fun e w' => GivesFirst 0 s w e w' := by
  obtain ⟨B0, e0⟩ : ∃ B : Nat, s[0].toNat = B := ⟨_, rfl⟩
  have g0 := bl_get s 0 (by omega)
  have b0 : B0 < 256 := e0 ▸ UInt8.toNat_lt _
  rw [e0] at g0
  obtain ⟨B1, e1⟩ : ∃ B : Nat, s[1].toNat = B := ⟨_, rfl⟩
  have g1 := bl_get s 1 (by omega)
  have b1 : B1 < 256 := e1 ▸ UInt8.toNat_lt _
  rw [e1] at g1
  have hl := bl_length s
  have k1 : B1 / 64 = 2 := by omega
  have x1 := u8_and192' B1 b1 k1
  have y1 : bits .and .u8 (B1 : Int) 63 = (B1 : Int) % 64 := u8_and63 _ (by omega) (by omega)
  have o1 : bits .or .i64 (((B0 : Int) % 32) * 64) ((B1 : Int) % 64) = ((B0 : Int) % 32) * 64 + (B1 : Int) % 64 := i64_join 6 _ _ (by decide) (by omega) (by omega) (by omega) (by omega) (by omega)
  obtain ⟨P, hP⟩ : ∃ P : Int, P = ((B0 : Int) % 32) * 64 + (B1 : Int) % 64 := ⟨_, rfl⟩
  obtain ⟨b, hb⟩ : ∃ b, b = Utf.scal P := ⟨_, rfl⟩
  obtain ⟨z, hz⟩ : ∃ z, z = Utf.szL 0 P := ⟨_, rfl⟩
  have key : (b = false ∧ Utf.NoHead 0 (bl s)) ∨ (b = true ∧ (z != 2) = true ∧ Utf.NoHead 0 (bl s)) ∨ (b = true ∧ (z != 2) = false ∧ Utf.First 0 (bl s) P 2) := by
    by_cases hsc : Utf.scal P = true
    · have hp := Utf.scal_parts hsc
      by_cases hr : 128 ≤ P ∧ P < 2048
      · refine .inr (.inr ⟨hb.trans hsc, ?_, Utf.First.two0 (by omega) (by omega) (by omega) hsc (by omega) (by omega)⟩)
        have : z = 2 := by
          rw [hz]
          unfold Utf.szL
          repeat' split
          all_goals omega
        rw [this]
        rfl
      · refine .inr (.inl ⟨hb.trans hsc, ?_, ?_⟩)
        · have : z ≠ 2 := by
            rw [hz]
            unfold Utf.szL
            repeat' split
            all_goals omega
          simpa using this
        · intro p x hp e
          rcases Utf.head0 hp e with h | h | h | h <;> omega
    · refine .inl ⟨hb.trans (not_true hsc), ?_⟩
      intro p x hp e
      have hpp : p = P → False := fun h => hsc (h ▸ (by
        by_cases h : Utf.scal p = true
        · exact h
        · exact absurd (Utf.oneL_no (not_true h)) hp))
      rcases Utf.head0 hp e with h | h | h | h <;> first | omega | exact hpp (by omega)
  have HS : Hid (∀ w, Calls Tryz.prog 176 #[.int .i64 P] w fun e w' => e = .returned (.bool b) ∧ w = w') := Lib.hid fun w => hb ▸ scalar_any P w
  have HW : Hid (∀ w, Calls Tryz.prog 177 #[.int .i64 0, .int .i64 P] w fun e w' => e = .returned (.int .i64 z) ∧ w = w') := Lib.hid fun w => hz ▸ uwidth_any 0 P w
  have HP := Lib.hid hP
  rw [g0] at c1 c2
  clear g0 g1 d1 hl hb hz hP
  rcases key with ⟨rfl, hk⟩ | ⟨rfl, hz, hk⟩ | ⟨rfl, hz, hk⟩
  all_goals
    have HK := Lib.hid hk
    clear hk
    go_enter Tryz.func155, Tryz.ntmps155
    go_wp2_with (go_at_call 175; refine (headU_2 (B0 : Int) c1 c2 _).mono ?_; rintro e w1 ⟨rfl, rfl⟩)
    refine wp_loop_rounds 2 ?_
    rw [rounds_succ]
    go_wp2_with fail
    rw [rounds_succ]
    rw [← HP.out]
    go_wp2_with (first
      | (go_at_call 176; refine (HS.out _).mono ?_; rintro e w1 ⟨rfl, rfl⟩)
      | (go_at_call 177; refine (HW.out _).mono ?_; rintro e w1 ⟨rfl, rfl⟩))
    go_ret2
    first
      | exact ⟨0, 0, rfl, .inl ⟨rfl, HK.out⟩, Below.refl _ _⟩
      | exact ⟨P, 2, rfl, HK.out, Below.refl _ _⟩
set_option maxRecDepth 100000 in
theorem first8_bad31 (s : ByteArray) (hn : 3 ≤ s.size) (c1 : 224 ≤ (bl s).getD 0 0) (c2 : (bl s).getD 0 0 < 240)  (d1 : (bl s).getD 1 0 / 64 ≠ 2) (w : World) :
    Calls Tryz.prog 155 #[.string s] w fun e w' => GivesFirst 0 s w e w' := by
  obtain ⟨B0, e0⟩ : ∃ B : Nat, s[0].toNat = B := ⟨_, rfl⟩
  have g0 := bl_get s 0 (by omega)
  have b0 : B0 < 256 := e0 ▸ UInt8.toNat_lt _
  rw [e0] at g0
  obtain ⟨B1, e1⟩ : ∃ B : Nat, s[1].toNat = B := ⟨_, rfl⟩
  have g1 := bl_get s 1 (by omega)
  have b1 : B1 < 256 := e1 ▸ UInt8.toNat_lt _
  rw [e1] at g1
  obtain ⟨B2, e2⟩ : ∃ B : Nat, s[2].toNat = B := ⟨_, rfl⟩
  have g2 := bl_get s 2 (by omega)
  have b2 : B2 < 256 := e2 ▸ UInt8.toNat_lt _
  rw [e2] at g2
  have hl := bl_length s
  have HN : Hid (Utf.NoHead 0 (bl s)) := Lib.hid (by
    intro p x hp e
    rcases Utf.head0 hp e with h | h | h | h <;> omega)
  have k1 : B1 / 64 ≠ 2 := by omega
  have x1 := u8_ne192 B1 b1 k1
  rw [g0] at c1 c2
  clear g0 g1 g2 d1 hl
  go_enter Tryz.func155, Tryz.ntmps155
  go_wp2_with (go_at_call 175; refine (headU_3 (B0 : Int) c1 c2 _).mono ?_; rintro e w1 ⟨rfl, rfl⟩)
  refine wp_loop_rounds 1 ?_
  rw [rounds_succ]
  go_wp2_with fail
  go_ret2
  exact ⟨0, 0, rfl, .inl ⟨rfl, HN.out⟩, Below.refl _ _⟩
set_option maxRecDepth 100000 in
theorem first8_bad32 (s : ByteArray) (hn : 3 ≤ s.size) (c1 : 224 ≤ (bl s).getD 0 0) (c2 : (bl s).getD 0 0 < 240) (d1 : (bl s).getD 1 0 / 64 = 2) (d2 : (bl s).getD 2 0 / 64 ≠ 2) (w : World) :
    Calls Tryz.prog 155 #[.string s] w fun e w' => GivesFirst 0 s w e w' := by
  obtain ⟨B0, e0⟩ : ∃ B : Nat, s[0].toNat = B := ⟨_, rfl⟩
  have g0 := bl_get s 0 (by omega)
  have b0 : B0 < 256 := e0 ▸ UInt8.toNat_lt _
  rw [e0] at g0
  obtain ⟨B1, e1⟩ : ∃ B : Nat, s[1].toNat = B := ⟨_, rfl⟩
  have g1 := bl_get s 1 (by omega)
  have b1 : B1 < 256 := e1 ▸ UInt8.toNat_lt _
  rw [e1] at g1
  obtain ⟨B2, e2⟩ : ∃ B : Nat, s[2].toNat = B := ⟨_, rfl⟩
  have g2 := bl_get s 2 (by omega)
  have b2 : B2 < 256 := e2 ▸ UInt8.toNat_lt _
  rw [e2] at g2
  have hl := bl_length s
  have HN : Hid (Utf.NoHead 0 (bl s)) := Lib.hid (by
    intro p x hp e
    rcases Utf.head0 hp e with h | h | h | h <;> omega)
  have k1 : B1 / 64 = 2 := by omega
  have k2 : B2 / 64 ≠ 2 := by omega
  have x1 := u8_and192' B1 b1 k1
  have y1 : bits .and .u8 (B1 : Int) 63 = (B1 : Int) % 64 := u8_and63 _ (by omega) (by omega)
  have o1 : bits .or .i64 (((B0 : Int) % 16) * 64) ((B1 : Int) % 64) = ((B0 : Int) % 16) * 64 + (B1 : Int) % 64 := i64_join 6 _ _ (by decide) (by omega) (by omega) (by omega) (by omega) (by omega)
  have x2 := u8_ne192 B2 b2 k2
  rw [g0] at c1 c2
  clear g0 g1 g2 d1 d2 hl
  go_enter Tryz.func155, Tryz.ntmps155
  go_wp2_with (go_at_call 175; refine (headU_3 (B0 : Int) c1 c2 _).mono ?_; rintro e w1 ⟨rfl, rfl⟩)
  refine wp_loop_rounds 2 ?_
  rw [rounds_succ]
  go_wp2_with fail
  rw [rounds_succ]
  go_wp2_with fail
  go_ret2
  exact ⟨0, 0, rfl, .inl ⟨rfl, HN.out⟩, Below.refl _ _⟩
set_option maxRecDepth 100000 in
set_option maxHeartbeats 4000000 in
theorem first8_good3 (s : ByteArray) (hn : 3 ≤ s.size) (c1 : 224 ≤ (bl s).getD 0 0) (c2 : (bl s).getD 0 0 < 240) (d1 : (bl s).getD 1 0 / 64 = 2) (d2 : (bl s).getD 2 0 / 64 = 2) (w : World) :
    Calls Tryz.prog 155 #[.string s] w fun e w' => GivesFirst 0 s w e w' := by
  obtain ⟨B0, e0⟩ : ∃ B : Nat, s[0].toNat = B := ⟨_, rfl⟩
  have g0 := bl_get s 0 (by omega)
  have b0 : B0 < 256 := e0 ▸ UInt8.toNat_lt _
  rw [e0] at g0
  obtain ⟨B1, e1⟩ : ∃ B : Nat, s[1].toNat = B := ⟨_, rfl⟩
  have g1 := bl_get s 1 (by omega)
  have b1 : B1 < 256 := e1 ▸ UInt8.toNat_lt _
  rw [e1] at g1
  obtain ⟨B2, e2⟩ : ∃ B : Nat, s[2].toNat = B := ⟨_, rfl⟩
  have g2 := bl_get s 2 (by omega)
  have b2 : B2 < 256 := e2 ▸ UInt8.toNat_lt _
  rw [e2] at g2
  have hl := bl_length s
  have k1 : B1 / 64 = 2 := by omega
  have k2 : B2 / 64 = 2 := by omega
  have x1 := u8_and192' B1 b1 k1
  have y1 : bits .and .u8 (B1 : Int) 63 = (B1 : Int) % 64 := u8_and63 _ (by omega) (by omega)
  have o1 : bits .or .i64 (((B0 : Int) % 16) * 64) ((B1 : Int) % 64) = ((B0 : Int) % 16) * 64 + (B1 : Int) % 64 := i64_join 6 _ _ (by decide) (by omega) (by omega) (by omega) (by omega) (by omega)
  have x2 := u8_and192' B2 b2 k2
  have y2 : bits .and .u8 (B2 : Int) 63 = (B2 : Int) % 64 := u8_and63 _ (by omega) (by omega)
  have o2 : bits .or .i64 ((((B0 : Int) % 16) * 64 + (B1 : Int) % 64) * 64) ((B2 : Int) % 64) = (((B0 : Int) % 16) * 64 + (B1 : Int) % 64) * 64 + (B2 : Int) % 64 := i64_join 6 _ _ (by decide) (by omega) (by omega) (by omega) (by omega) (by omega)
  obtain ⟨P, hP⟩ : ∃ P : Int, P = (((B0 : Int) % 16) * 64 + (B1 : Int) % 64) * 64 + (B2 : Int) % 64 := ⟨_, rfl⟩
  obtain ⟨b, hb⟩ : ∃ b, b = Utf.scal P := ⟨_, rfl⟩
  obtain ⟨z, hz⟩ : ∃ z, z = Utf.szL 0 P := ⟨_, rfl⟩
  have key : (b = false ∧ Utf.NoHead 0 (bl s)) ∨ (b = true ∧ (z != 3) = true ∧ Utf.NoHead 0 (bl s)) ∨ (b = true ∧ (z != 3) = false ∧ Utf.First 0 (bl s) P 3) := by
    by_cases hsc : Utf.scal P = true
    · have hp := Utf.scal_parts hsc
      by_cases hr : 2048 ≤ P ∧ P < 65536
      · refine .inr (.inr ⟨hb.trans hsc, ?_, Utf.First.three0 (by omega) (by omega) (by omega) (by omega) hsc (by omega) (by omega)⟩)
        have : z = 3 := by
          rw [hz]
          unfold Utf.szL
          repeat' split
          all_goals omega
        rw [this]
        rfl
      · refine .inr (.inl ⟨hb.trans hsc, ?_, ?_⟩)
        · have : z ≠ 3 := by
            rw [hz]
            unfold Utf.szL
            repeat' split
            all_goals omega
          simpa using this
        · intro p x hp e
          rcases Utf.head0 hp e with h | h | h | h <;> omega
    · refine .inl ⟨hb.trans (not_true hsc), ?_⟩
      intro p x hp e
      have hpp : p = P → False := fun h => hsc (h ▸ (by
        by_cases h : Utf.scal p = true
        · exact h
        · exact absurd (Utf.oneL_no (not_true h)) hp))
      rcases Utf.head0 hp e with h | h | h | h <;> first | omega | exact hpp (by omega)
  have HS : Hid (∀ w, Calls Tryz.prog 176 #[.int .i64 P] w fun e w' => e = .returned (.bool b) ∧ w = w') := Lib.hid fun w => hb ▸ scalar_any P w
  have HW : Hid (∀ w, Calls Tryz.prog 177 #[.int .i64 0, .int .i64 P] w fun e w' => e = .returned (.int .i64 z) ∧ w = w') := Lib.hid fun w => hz ▸ uwidth_any 0 P w
  have HP := Lib.hid hP
  rw [g0] at c1 c2
  clear g0 g1 g2 d1 d2 hl hb hz hP
  rcases key with ⟨rfl, hk⟩ | ⟨rfl, hz, hk⟩ | ⟨rfl, hz, hk⟩
  all_goals
    have HK := Lib.hid hk
    clear hk
    go_enter Tryz.func155, Tryz.ntmps155
    go_wp2_with (go_at_call 175; refine (headU_3 (B0 : Int) c1 c2 _).mono ?_; rintro e w1 ⟨rfl, rfl⟩)
    refine wp_loop_rounds 3 ?_
    rw [rounds_succ]
    go_wp2_with fail
    rw [rounds_succ]
    go_wp2_with fail
    rw [rounds_succ]
    rw [← HP.out]
    go_wp2_with (first
      | (go_at_call 176; refine (HS.out _).mono ?_; rintro e w1 ⟨rfl, rfl⟩)
      | (go_at_call 177; refine (HW.out _).mono ?_; rintro e w1 ⟨rfl, rfl⟩))
    go_ret2
    first
      | exact ⟨0, 0, rfl, .inl ⟨rfl, HK.out⟩, Below.refl _ _⟩
      | exact ⟨P, 3, rfl, HK.out, Below.refl _ _⟩
set_option maxRecDepth 100000 in
theorem first8_bad41 (s : ByteArray) (hn : 4 ≤ s.size) (c1 : 240 ≤ (bl s).getD 0 0) (c2 : (bl s).getD 0 0 < 248)  (d1 : (bl s).getD 1 0 / 64 ≠ 2) (w : World) :
    Calls Tryz.prog 155 #[.string s] w fun e w' => GivesFirst 0 s w e w' := by
  obtain ⟨B0, e0⟩ : ∃ B : Nat, s[0].toNat = B := ⟨_, rfl⟩
  have g0 := bl_get s 0 (by omega)
  have b0 : B0 < 256 := e0 ▸ UInt8.toNat_lt _
  rw [e0] at g0
  obtain ⟨B1, e1⟩ : ∃ B : Nat, s[1].toNat = B := ⟨_, rfl⟩
  have g1 := bl_get s 1 (by omega)
  have b1 : B1 < 256 := e1 ▸ UInt8.toNat_lt _
  rw [e1] at g1
  obtain ⟨B2, e2⟩ : ∃ B : Nat, s[2].toNat = B := ⟨_, rfl⟩
  have g2 := bl_get s 2 (by omega)
  have b2 : B2 < 256 := e2 ▸ UInt8.toNat_lt _
  rw [e2] at g2
  obtain ⟨B3, e3⟩ : ∃ B : Nat, s[3].toNat = B := ⟨_, rfl⟩
  have g3 := bl_get s 3 (by omega)
  have b3 : B3 < 256 := e3 ▸ UInt8.toNat_lt _
  rw [e3] at g3
  have hl := bl_length s
  have HN : Hid (Utf.NoHead 0 (bl s)) := Lib.hid (by
    intro p x hp e
    rcases Utf.head0 hp e with h | h | h | h <;> omega)
  have k1 : B1 / 64 ≠ 2 := by omega
  have x1 := u8_ne192 B1 b1 k1
  rw [g0] at c1 c2
  clear g0 g1 g2 g3 d1 hl
  go_enter Tryz.func155, Tryz.ntmps155
  go_wp2_with (go_at_call 175; refine (headU_4 (B0 : Int) c1 c2 _).mono ?_; rintro e w1 ⟨rfl, rfl⟩)
  refine wp_loop_rounds 1 ?_
  rw [rounds_succ]
  go_wp2_with fail
  go_ret2
  exact ⟨0, 0, rfl, .inl ⟨rfl, HN.out⟩, Below.refl _ _⟩
set_option maxRecDepth 100000 in
theorem first8_bad42 (s : ByteArray) (hn : 4 ≤ s.size) (c1 : 240 ≤ (bl s).getD 0 0) (c2 : (bl s).getD 0 0 < 248) (d1 : (bl s).getD 1 0 / 64 = 2) (d2 : (bl s).getD 2 0 / 64 ≠ 2) (w : World) :
    Calls Tryz.prog 155 #[.string s] w fun e w' => GivesFirst 0 s w e w' := by
  obtain ⟨B0, e0⟩ : ∃ B : Nat, s[0].toNat = B := ⟨_, rfl⟩
  have g0 := bl_get s 0 (by omega)
  have b0 : B0 < 256 := e0 ▸ UInt8.toNat_lt _
  rw [e0] at g0
  obtain ⟨B1, e1⟩ : ∃ B : Nat, s[1].toNat = B := ⟨_, rfl⟩
  have g1 := bl_get s 1 (by omega)
  have b1 : B1 < 256 := e1 ▸ UInt8.toNat_lt _
  rw [e1] at g1
  obtain ⟨B2, e2⟩ : ∃ B : Nat, s[2].toNat = B := ⟨_, rfl⟩
  have g2 := bl_get s 2 (by omega)
  have b2 : B2 < 256 := e2 ▸ UInt8.toNat_lt _
  rw [e2] at g2
  obtain ⟨B3, e3⟩ : ∃ B : Nat, s[3].toNat = B := ⟨_, rfl⟩
  have g3 := bl_get s 3 (by omega)
  have b3 : B3 < 256 := e3 ▸ UInt8.toNat_lt _
  rw [e3] at g3
  have hl := bl_length s
  have HN : Hid (Utf.NoHead 0 (bl s)) := Lib.hid (by
    intro p x hp e
    rcases Utf.head0 hp e with h | h | h | h <;> omega)
  have k1 : B1 / 64 = 2 := by omega
  have k2 : B2 / 64 ≠ 2 := by omega
  have x1 := u8_and192' B1 b1 k1
  have y1 : bits .and .u8 (B1 : Int) 63 = (B1 : Int) % 64 := u8_and63 _ (by omega) (by omega)
  have o1 : bits .or .i64 (((B0 : Int) % 8) * 64) ((B1 : Int) % 64) = ((B0 : Int) % 8) * 64 + (B1 : Int) % 64 := i64_join 6 _ _ (by decide) (by omega) (by omega) (by omega) (by omega) (by omega)
  have x2 := u8_ne192 B2 b2 k2
  rw [g0] at c1 c2
  clear g0 g1 g2 g3 d1 d2 hl
  go_enter Tryz.func155, Tryz.ntmps155
  go_wp2_with (go_at_call 175; refine (headU_4 (B0 : Int) c1 c2 _).mono ?_; rintro e w1 ⟨rfl, rfl⟩)
  refine wp_loop_rounds 2 ?_
  rw [rounds_succ]
  go_wp2_with fail
  rw [rounds_succ]
  go_wp2_with fail
  go_ret2
  exact ⟨0, 0, rfl, .inl ⟨rfl, HN.out⟩, Below.refl _ _⟩
set_option maxRecDepth 100000 in
theorem first8_bad43 (s : ByteArray) (hn : 4 ≤ s.size) (c1 : 240 ≤ (bl s).getD 0 0) (c2 : (bl s).getD 0 0 < 248) (d1 : (bl s).getD 1 0 / 64 = 2) (d2 : (bl s).getD 2 0 / 64 = 2) (d3 : (bl s).getD 3 0 / 64 ≠ 2) (w : World) :
    Calls Tryz.prog 155 #[.string s] w fun e w' => GivesFirst 0 s w e w' := by
  obtain ⟨B0, e0⟩ : ∃ B : Nat, s[0].toNat = B := ⟨_, rfl⟩
  have g0 := bl_get s 0 (by omega)
  have b0 : B0 < 256 := e0 ▸ UInt8.toNat_lt _
  rw [e0] at g0
  obtain ⟨B1, e1⟩ : ∃ B : Nat, s[1].toNat = B := ⟨_, rfl⟩
  have g1 := bl_get s 1 (by omega)
  have b1 : B1 < 256 := e1 ▸ UInt8.toNat_lt _
  rw [e1] at g1
  obtain ⟨B2, e2⟩ : ∃ B : Nat, s[2].toNat = B := ⟨_, rfl⟩
  have g2 := bl_get s 2 (by omega)
  have b2 : B2 < 256 := e2 ▸ UInt8.toNat_lt _
  rw [e2] at g2
  obtain ⟨B3, e3⟩ : ∃ B : Nat, s[3].toNat = B := ⟨_, rfl⟩
  have g3 := bl_get s 3 (by omega)
  have b3 : B3 < 256 := e3 ▸ UInt8.toNat_lt _
  rw [e3] at g3
  have hl := bl_length s
  have HN : Hid (Utf.NoHead 0 (bl s)) := Lib.hid (by
    intro p x hp e
    rcases Utf.head0 hp e with h | h | h | h <;> omega)
  have k1 : B1 / 64 = 2 := by omega
  have k2 : B2 / 64 = 2 := by omega
  have k3 : B3 / 64 ≠ 2 := by omega
  have x1 := u8_and192' B1 b1 k1
  have y1 : bits .and .u8 (B1 : Int) 63 = (B1 : Int) % 64 := u8_and63 _ (by omega) (by omega)
  have o1 : bits .or .i64 (((B0 : Int) % 8) * 64) ((B1 : Int) % 64) = ((B0 : Int) % 8) * 64 + (B1 : Int) % 64 := i64_join 6 _ _ (by decide) (by omega) (by omega) (by omega) (by omega) (by omega)
  have x2 := u8_and192' B2 b2 k2
  have y2 : bits .and .u8 (B2 : Int) 63 = (B2 : Int) % 64 := u8_and63 _ (by omega) (by omega)
  have o2 : bits .or .i64 ((((B0 : Int) % 8) * 64 + (B1 : Int) % 64) * 64) ((B2 : Int) % 64) = (((B0 : Int) % 8) * 64 + (B1 : Int) % 64) * 64 + (B2 : Int) % 64 := i64_join 6 _ _ (by decide) (by omega) (by omega) (by omega) (by omega) (by omega)
  have x3 := u8_ne192 B3 b3 k3
  rw [g0] at c1 c2
  clear g0 g1 g2 g3 d1 d2 d3 hl
  go_enter Tryz.func155, Tryz.ntmps155
  go_wp2_with (go_at_call 175; refine (headU_4 (B0 : Int) c1 c2 _).mono ?_; rintro e w1 ⟨rfl, rfl⟩)
  refine wp_loop_rounds 3 ?_
  rw [rounds_succ]
  go_wp2_with fail
  rw [rounds_succ]
  go_wp2_with fail
  rw [rounds_succ]
  go_wp2_with fail
  go_ret2
  exact ⟨0, 0, rfl, .inl ⟨rfl, HN.out⟩, Below.refl _ _⟩
set_option maxRecDepth 100000 in
set_option maxHeartbeats 4000000 in
theorem first8_good4 (s : ByteArray) (hn : 4 ≤ s.size) (c1 : 240 ≤ (bl s).getD 0 0) (c2 : (bl s).getD 0 0 < 248) (d1 : (bl s).getD 1 0 / 64 = 2) (d2 : (bl s).getD 2 0 / 64 = 2) (d3 : (bl s).getD 3 0 / 64 = 2) (w : World) :
    Calls Tryz.prog 155 #[.string s] w fun e w' => GivesFirst 0 s w e w' := by
  obtain ⟨B0, e0⟩ : ∃ B : Nat, s[0].toNat = B := ⟨_, rfl⟩
  have g0 := bl_get s 0 (by omega)
  have b0 : B0 < 256 := e0 ▸ UInt8.toNat_lt _
  rw [e0] at g0
  obtain ⟨B1, e1⟩ : ∃ B : Nat, s[1].toNat = B := ⟨_, rfl⟩
  have g1 := bl_get s 1 (by omega)
  have b1 : B1 < 256 := e1 ▸ UInt8.toNat_lt _
  rw [e1] at g1
  obtain ⟨B2, e2⟩ : ∃ B : Nat, s[2].toNat = B := ⟨_, rfl⟩
  have g2 := bl_get s 2 (by omega)
  have b2 : B2 < 256 := e2 ▸ UInt8.toNat_lt _
  rw [e2] at g2
  obtain ⟨B3, e3⟩ : ∃ B : Nat, s[3].toNat = B := ⟨_, rfl⟩
  have g3 := bl_get s 3 (by omega)
  have b3 : B3 < 256 := e3 ▸ UInt8.toNat_lt _
  rw [e3] at g3
  have hl := bl_length s
  have k1 : B1 / 64 = 2 := by omega
  have k2 : B2 / 64 = 2 := by omega
  have k3 : B3 / 64 = 2 := by omega
  have x1 := u8_and192' B1 b1 k1
  have y1 : bits .and .u8 (B1 : Int) 63 = (B1 : Int) % 64 := u8_and63 _ (by omega) (by omega)
  have o1 : bits .or .i64 (((B0 : Int) % 8) * 64) ((B1 : Int) % 64) = ((B0 : Int) % 8) * 64 + (B1 : Int) % 64 := i64_join 6 _ _ (by decide) (by omega) (by omega) (by omega) (by omega) (by omega)
  have x2 := u8_and192' B2 b2 k2
  have y2 : bits .and .u8 (B2 : Int) 63 = (B2 : Int) % 64 := u8_and63 _ (by omega) (by omega)
  have o2 : bits .or .i64 ((((B0 : Int) % 8) * 64 + (B1 : Int) % 64) * 64) ((B2 : Int) % 64) = (((B0 : Int) % 8) * 64 + (B1 : Int) % 64) * 64 + (B2 : Int) % 64 := i64_join 6 _ _ (by decide) (by omega) (by omega) (by omega) (by omega) (by omega)
  have x3 := u8_and192' B3 b3 k3
  have y3 : bits .and .u8 (B3 : Int) 63 = (B3 : Int) % 64 := u8_and63 _ (by omega) (by omega)
  have o3 : bits .or .i64 (((((B0 : Int) % 8) * 64 + (B1 : Int) % 64) * 64 + (B2 : Int) % 64) * 64) ((B3 : Int) % 64) = ((((B0 : Int) % 8) * 64 + (B1 : Int) % 64) * 64 + (B2 : Int) % 64) * 64 + (B3 : Int) % 64 := i64_join 6 _ _ (by decide) (by omega) (by omega) (by omega) (by omega) (by omega)
  obtain ⟨P, hP⟩ : ∃ P : Int, P = ((((B0 : Int) % 8) * 64 + (B1 : Int) % 64) * 64 + (B2 : Int) % 64) * 64 + (B3 : Int) % 64 := ⟨_, rfl⟩
  obtain ⟨b, hb⟩ : ∃ b, b = Utf.scal P := ⟨_, rfl⟩
  obtain ⟨z, hz⟩ : ∃ z, z = Utf.szL 0 P := ⟨_, rfl⟩
  have key : (b = false ∧ Utf.NoHead 0 (bl s)) ∨ (b = true ∧ (z != 4) = true ∧ Utf.NoHead 0 (bl s)) ∨ (b = true ∧ (z != 4) = false ∧ Utf.First 0 (bl s) P 4) := by
    by_cases hsc : Utf.scal P = true
    · have hp := Utf.scal_parts hsc
      by_cases hr : 65536 ≤ P ∧ P < 1114112
      · refine .inr (.inr ⟨hb.trans hsc, ?_, Utf.First.four0 (by omega) (by omega) (by omega) (by omega) (by omega) hsc (by omega)⟩)
        have : z = 4 := by
          rw [hz]
          unfold Utf.szL
          repeat' split
          all_goals omega
        rw [this]
        rfl
      · refine .inr (.inl ⟨hb.trans hsc, ?_, ?_⟩)
        · have : z ≠ 4 := by
            rw [hz]
            unfold Utf.szL
            repeat' split
            all_goals omega
          simpa using this
        · intro p x hp e
          rcases Utf.head0 hp e with h | h | h | h <;> omega
    · refine .inl ⟨hb.trans (not_true hsc), ?_⟩
      intro p x hp e
      have hpp : p = P → False := fun h => hsc (h ▸ (by
        by_cases h : Utf.scal p = true
        · exact h
        · exact absurd (Utf.oneL_no (not_true h)) hp))
      rcases Utf.head0 hp e with h | h | h | h <;> first | omega | exact hpp (by omega)
  have HS : Hid (∀ w, Calls Tryz.prog 176 #[.int .i64 P] w fun e w' => e = .returned (.bool b) ∧ w = w') := Lib.hid fun w => hb ▸ scalar_any P w
  have HW : Hid (∀ w, Calls Tryz.prog 177 #[.int .i64 0, .int .i64 P] w fun e w' => e = .returned (.int .i64 z) ∧ w = w') := Lib.hid fun w => hz ▸ uwidth_any 0 P w
  have HP := Lib.hid hP
  rw [g0] at c1 c2
  clear g0 g1 g2 g3 d1 d2 d3 hl hb hz hP
  rcases key with ⟨rfl, hk⟩ | ⟨rfl, hz, hk⟩ | ⟨rfl, hz, hk⟩
  all_goals
    have HK := Lib.hid hk
    clear hk
    go_enter Tryz.func155, Tryz.ntmps155
    go_wp2_with (go_at_call 175; refine (headU_4 (B0 : Int) c1 c2 _).mono ?_; rintro e w1 ⟨rfl, rfl⟩)
    refine wp_loop_rounds 4 ?_
    rw [rounds_succ]
    go_wp2_with fail
    rw [rounds_succ]
    go_wp2_with fail
    rw [rounds_succ]
    go_wp2_with fail
    rw [rounds_succ]
    rw [← HP.out]
    go_wp2_with (first
      | (go_at_call 176; refine (HS.out _).mono ?_; rintro e w1 ⟨rfl, rfl⟩)
      | (go_at_call 177; refine (HW.out _).mono ?_; rintro e w1 ⟨rfl, rfl⟩))
    go_ret2
    first
      | exact ⟨0, 0, rfl, .inl ⟨rfl, HK.out⟩, Below.refl _ _⟩
      | exact ⟨P, 4, rfl, HK.out, Below.refl _ _⟩
end Go.Proofs.YtekonefnniaheaaGreat
namespace Go.Proofs.YtekonefnniaheaaGreat
open Go.RowKit

theorem toList_eq_iff (a b : ByteArray) : a.toList = b.toList ↔ a = b := by
  constructor
  · intro h
    rw [ByteArray.toList_eq, ByteArray.toList_eq] at h
    exact ByteArray.ext (Array.toList_inj.1 h)
  · intro h
    rw [h]
theorem hit_list {form : Int} {r : ByteArray} {k : Nat} (hk : k ≤ r.size) : ((strOfNums (Utf.oneL form (Utf.guessL form (bl r) k))).toList == (r.extract 0 k).toList) = Utf.hitB form (bl r) k := by
  rw [Bool.eq_iff_iff, beq_iff_eq, toList_eq_iff]
  exact hit_eq hk

/-- What reading leaves: the characters, or none. -/
def GivesRead (base : Nat) (form : Int) (s : ByteArray) (w : World) (e : Ending) (w' : World) : Prop :=
  ∃ v ok ps, e = .returned (.tuple #[v, .bool ok]) ∧ Ints base v ps w' ∧ Below base w w' ∧
    ((ok = true ∧ Utf.Reads form (bl s) ps) ∨ (ok = false ∧ ps = [] ∧ ∀ qs, ¬ Utf.Reads form (bl s) qs))
def strLen : Value → Nat
  | .string r => r.size
  | _ => 0
def ReadAt (base : Nat) (form : Int) (s : ByteArray) (w : World) (sv lv : Value) (wr : World) : Prop :=
  ∃ (r : ByteArray) (acc : List Int), sv = .string r ∧ bl s = Utf.catL form acc ++ bl r ∧ Utf.allW form acc = true ∧ acc.length + r.size ≤ s.size ∧ Ints base lv acc wr ∧ Below base w wr
def ReadIn (base : Nat) (form : Int) (r : ByteArray) (acc : List Int) (wo : World) (lv nv kv : Value) (wr : World) : Prop :=
  ∃ k : Nat, kv = .int .i64 k ∧ 1 ≤ k ∧ k ≤ 5 ∧ Below base wo wr ∧
    ((nv = .int .i64 0 ∧ (∀ j, 1 ≤ j → j < k → j ≤ r.size → Utf.hitB form (bl r) j = false) ∧ Ints base lv acc wr) ∨
     (∃ n : Nat, 1 ≤ n ∧ n ≤ r.size ∧ nv = .int .i64 n ∧ Utf.hitB form (bl r) n = true ∧ Ints base lv (acc ++ [Utf.guessL form (bl r) n]) wr))

set_option maxRecDepth 100000 in
set_option maxHeartbeats 1000000 in
theorem refRead_go (form : Int) (s : ByteArray) (h0 : 0 ≤ form) (h2 : form ≤ 2) (hs : s.size ≤ 1048576) (w : World) :
    Calls Tryz.prog 112 #[.int .i64 form, .string s] w fun e w' => GivesRead w.heap.size form s w e w' := by
  obtain ⟨i0, hi, hz0, hz1, hz2⟩ := info_parts info_int
  go_enter Tryz.func112, Tryz.ntmps112
  go_wp2_with fail
  go_loopw [1, 6] (fun sv lv wr => ReadAt w.heap.size form s w sv lv wr) (fun sv _ _ => strLen sv)
  case atStart => exact ⟨s, [], rfl, rfl, rfl, by simp, World.ownsRow_nil _ _ _ _, Below.refl _ _⟩
  case round =>
    obtain ⟨r, acc, rfl, hbl, hall, hsz, hown, hbel⟩ := hrel
    have HBL := Lib.hid hbl
    have HAL := Lib.hid hall
    have hsl := hbel.size
    obtain ⟨wo, rfl⟩ : ∃ wo : World, wo = wr := ⟨_, rfl⟩
    clear hbl hall
    by_cases hpos : 0 < r.size
    · go_wp2_with fail
      go_loopw [6, 7, 8] (fun lv nv kv wr => ReadIn w.heap.size form r acc wo lv nv kv wr) (fun _ _ kv _ => (6 - intOf kv).toNat)
      case atStart => exact ⟨1, rfl, by decide, by decide, Below.refl _ _, .inl ⟨rfl, fun j h1 h2 _ => by omega, hown⟩⟩
      case round =>
        obtain ⟨k, rfl, hk1, hk5, hbo, hrest⟩ := hrel
        have hslo := hbo.size
        rcases hrest with ⟨rfl, hno, hown2⟩ | ⟨n, hn1, hnr, rfl, hhit, hown2⟩
        · have HNO := Lib.hid hno
          clear hno
          by_cases hk : k ≤ 4 ∧ k ≤ r.size
          · obtain ⟨hk4, hkr⟩ := hk
            have hT := hit_list (form := form) hkr
            have HG := Lib.hid (guess_any form r k hk1 hk4 hkr)
            obtain ⟨p, hp⟩ : ∃ p, p = Utf.guessL form (bl r) k := ⟨_, rfl⟩
            rw [← hp] at hT HG
            have HP := Lib.hid hp
            clear hp
            by_cases hh : Utf.hitB form (bl r) k = true
            · rw [hh] at hT
              have HH := Lib.hid hh
              have q3 : acc.length + 1 ≤ maxLen := by unfold maxLen; omega
              have q4 : (acc.length + 1) * 8 ≤ 140737488355328 := by omega
              clear hh
              go_wp2_with (go_at_call 130; refine (HG.out _).mono ?_; rintro e w1 ⟨rfl, hb1⟩)
              go_region_with (go_at_call 131; refine (refOne_any form _ _).mono ?_; rintro e w2 ⟨rfl, hb2⟩)
              replace hb1 := hb1.drew
              have hbo2 := (hbo.trans (hb1.mono (Nat.le_trans hsl hslo))).trans (hb2.mono (Nat.le_trans hsl (Nat.le_trans hslo hb1.size)))
              have hown3 := Ints.below (Ints.below hown2 hb1) hb2
              have hsl3 : w.heap.size ≤ w2.heap.size := Nat.le_trans hsl (Nat.le_trans hslo (Nat.le_trans hb1.size hb2.size))
              clear hb1 hb2 hown2
              go_wp2_with (at_builtin; refine wpList_append_own _ rfl _ _ 24 rfl w.heap.size 3 i0 (.int .i64 0) 1 8 Tryz.underlying24 hi hz0 hz1 hz2 rfl (by decide) _ acc.length (acc.map (Value.int .i64)) rfl (World.ownsRow.alloc hown3 _) ⟨w2.heap.size, 0, none⟩ 1 1 [.int .i64 p] rfl rfl (cell_one_new _ _ _) (one_i64 _) q3 q4 (le_alloc hsl3) ?_; intro v' w3 hown4 hg3 _; clear q3 q4)
              exact ⟨⟨k + 1, by go_num, by omega, by omega, grown_below' hown3 hbo2 hsl hg3, .inr ⟨k, hk1, hkr, rfl, HH.out, by rw [← HP.out]; exact Ints.snoc hown4⟩⟩, by simp [intOf]; omega⟩
            · rw [not_true hh] at hT
              have HH := Lib.hid (not_true hh)
              clear hh
              go_wp2_with (go_at_call 130; refine (HG.out _).mono ?_; rintro e w1 ⟨rfl, hb1⟩)
              go_region_with (go_at_call 131; refine (refOne_any form _ _).mono ?_; rintro e w2 ⟨rfl, hb2⟩)
              replace hb1 := hb1.drew
              have hbo2 := (hbo.trans (hb1.mono (Nat.le_trans hsl hslo))).trans (hb2.mono (Nat.le_trans hsl (Nat.le_trans hslo hb1.size)))
              have hown3 := Ints.below (Ints.below hown2 hb1) hb2
              clear hb1 hb2 hown2
              go_wp2_with fail
              refine ⟨⟨k + 1, by go_num, by omega, by omega, hbo2, .inl ⟨rfl, fun j j1 j2 j3 => ?_, hown3⟩⟩, by simp [intOf]; omega⟩
              by_cases hj : j = k
              · rw [hj]; exact HH.out
              · exact HNO.out j j1 (by omega) j3
          · have hbr : bl r ≠ [] := fun h => by have := bl_nil h; omega
            have hnh : Utf.NoHead form (bl r) := Utf.noHead_of (fun j j1 j4 jl => HNO.out j j1 (by rw [bl_length] at jl; omega) (by rw [bl_length] at jl; exact jl))
            have HN := Lib.hid (Utf.reads_none HAL.out hbr hnh)
            rw [← HBL.out] at HN
            clear hbr hnh
            by_cases hk4 : k ≤ 4
            · have hkr : r.size < k := by omega
              go_wp2_with fail
              go_ret2
              exact ⟨.slice none 0 0, false, [], rfl, World.ownsRow_nil _ _ _ _, hbel.trans hbo, .inr ⟨rfl, rfl, HN.out⟩⟩
            · have hk5' : k = 5 := by omega
              subst hk5'
              go_wp2_with fail
              go_ret2
              exact ⟨.slice none 0 0, false, [], rfl, World.ownsRow_nil _ _ _ _, hbel.trans hbo, .inr ⟨rfl, rfl, HN.out⟩⟩
        · obtain ⟨hy1, hy2⟩ := Utf.hit_yes hn1 hhit
          have hbl2 : bl s = Utf.catL form (acc ++ [Utf.guessL form (bl r) n]) ++ bl (r.extract n r.size) := by
            rw [bl_drop, Utf.catL_snoc, List.append_assoc, ← hy2]
            exact HBL.out
          have hal2 := Utf.allW_snoc HAL.out hy1
          have hs2 : (acc ++ [Utf.guessL form (bl r) n]).length + (r.extract n r.size).size ≤ s.size := by
            rw [List.length_append, List.length_singleton, ByteArray.size_extract]
            omega
          have hlen : (r.extract n r.size).size < r.size := by
            rw [ByteArray.size_extract]
            omega
          have hne : ((n : Int) == 0) = false := by simp; omega
          have HX := Lib.hid (show ReadAt w.heap.size form s w (.string (r.extract n r.size)) u6 wr from ⟨_, _, rfl, hbl2, hal2, hs2, hown2, hbel.trans hbo⟩)
          have HLN := Lib.hid hlen
          clear hy1 hy2 hbl2 hal2 hs2 hlen hhit
          go_wp2_with fail
          all_goals exact ⟨HX.out, HLN.out⟩
    · have hr0 : r.size = 0 := by omega
      have hb0 : bl r = [] := List.length_eq_zero_iff.1 (by rw [bl_length, hr0])
      have hR : Utf.Reads form (bl s) acc := ⟨decide_eq_true ⟨h0, h2⟩, HAL.out, by rw [HBL.out, hb0, List.append_nil]⟩
      have HRD := Lib.hid hR
      clear hR hb0
      go_wp2_with fail
      go_ret2
      exact ⟨_, _, _, rfl, hown, hbel, .inl ⟨rfl, HRD.out⟩⟩
theorem refRead_no (form : Int) (s : ByteArray) (h : form < 0 ∨ 2 < form) (w : World) :
    Calls Tryz.prog 112 #[.int .i64 form, .string s] w fun e w' => GivesRead w.heap.size form s w e w' := by
  have HN := Lib.hid (Utf.reads_form (form := form) (decide_eq_false (by omega)) (bl s))
  rcases h with h | h
  · go_enter Tryz.func112, Tryz.ntmps112
    go_wp2_with fail
    go_ret2
    exact ⟨.slice none 0 0, false, [], rfl, World.ownsRow_nil _ _ _ _, Below.refl _ _, .inr ⟨rfl, rfl, HN.out⟩⟩
  · have h0 : 0 ≤ form := by omega
    go_enter Tryz.func112, Tryz.ntmps112
    go_wp2_with fail
    go_ret2
    exact ⟨.slice none 0 0, false, [], rfl, World.ownsRow_nil _ _ _ _, Below.refl _ _, .inr ⟨rfl, rfl, HN.out⟩⟩
theorem refRead_any (form : Int) (s : ByteArray) (hs : s.size ≤ 1048576) (w : World) :
    Calls Tryz.prog 112 #[.int .i64 form, .string s] w fun e w' => GivesRead w.heap.size form s w e w' := by
  by_cases h0 : 0 ≤ form
  · by_cases h2 : form ≤ 2
    · exact refRead_go form s h0 h2 hs w
    · exact refRead_no form s (by omega) w
  · exact refRead_no form s (by omega) w
end Go.Proofs.YtekonefnniaheaaGreat
namespace Go.Proofs.YtekonefnniaheaaGreat
open Go.RowKit

set_option maxRecDepth 100000 in
theorem first8_one (s : ByteArray) (hs : 1 ≤ s.size) (c1 : (bl s).getD 0 0 < 128) (w : World) :
    Calls Tryz.prog 155 #[.string s] w fun e w' => GivesFirst 0 s w e w' := by
  obtain ⟨B0, e0⟩ : ∃ B : Nat, s[0].toNat = B := ⟨_, rfl⟩
  have g0 := bl_get s 0 (by omega)
  have b0 : B0 < 256 := e0 ▸ UInt8.toNat_lt _
  rw [e0] at g0
  have hl := bl_length s
  have HF : Hid (Utf.First 0 (bl s) (B0 : Int) 1) := Lib.hid (g0 ▸ Utf.First.one0 (by omega) (by omega) c1)
  rw [g0] at c1
  have hsc : Utf.scal (B0 : Int) = true := decide_eq_true (by omega)
  have hz : Utf.szL 0 (B0 : Int) = 1 := by
    unfold Utf.szL
    repeat' split
    all_goals omega
  have HS : Hid (∀ w, Calls Tryz.prog 176 #[.int .i64 (B0 : Int)] w fun e w' => e = .returned (.bool true) ∧ w = w') := Lib.hid fun w => hsc ▸ scalar_any _ w
  have HW : Hid (∀ w, Calls Tryz.prog 177 #[.int .i64 0, .int .i64 (B0 : Int)] w fun e w' => e = .returned (.int .i64 1) ∧ w = w') := Lib.hid fun w => hz ▸ uwidth_any 0 _ w
  clear g0 hl hsc hz
  go_enter Tryz.func155, Tryz.ntmps155
  go_wp2_with (go_at_call 175; refine (headU_1 (B0 : Int) c1 _).mono ?_; rintro e w1 ⟨rfl, rfl⟩)
  refine wp_loop_rounds 1 ?_
  rw [rounds_succ]
  go_wp2_with (first
    | (go_at_call 176; refine (HS.out _).mono ?_; rintro e w1 ⟨rfl, rfl⟩)
    | (go_at_call 177; refine (HW.out _).mono ?_; rintro e w1 ⟨rfl, rfl⟩))
  go_ret2
  exact ⟨_, 1, rfl, HF.out, Below.refl _ _⟩
theorem first8_any (s : ByteArray) (hs : 1 ≤ s.size) (w : World) :
    Calls Tryz.prog 155 #[.string s] w fun e w' => GivesFirst 0 s w e w' := by
  have hb := bl_byte s 0 (by omega)
  have d (i : Nat) : (bl s).getD i 0 / 64 = 2 ∨ (bl s).getD i 0 / 64 ≠ 2 := by omega
  by_cases h1 : (bl s).getD 0 0 < 128
  · exact first8_one s hs h1 w
  by_cases h2 : (bl s).getD 0 0 < 192
  · exact first8_0a s hs (by omega) h2 w
  by_cases h3 : (bl s).getD 0 0 < 224
  · by_cases n : s.size < 2
    · exact first8_short2 s hs (by omega) h3 n w
    · rcases d 1 with d1 | d1
      · exact first8_good2 s (by omega) (by omega) h3 d1 w
      · exact first8_bad21 s (by omega) (by omega) h3 d1 w
  by_cases h4 : (bl s).getD 0 0 < 240
  · by_cases n : s.size < 3
    · exact first8_short3 s hs (by omega) h4 n w
    · rcases d 1 with d1 | d1
      · rcases d 2 with d2 | d2
        · exact first8_good3 s (by omega) (by omega) h4 d1 d2 w
        · exact first8_bad32 s (by omega) (by omega) h4 d1 d2 w
      · exact first8_bad31 s (by omega) (by omega) h4 d1 w
  by_cases h5 : (bl s).getD 0 0 < 248
  · by_cases n : s.size < 4
    · exact first8_short4 s hs (by omega) h5 n w
    · rcases d 1 with d1 | d1
      · rcases d 2 with d2 | d2
        · rcases d 3 with d3 | d3
          · exact first8_good4 s (by omega) (by omega) h5 d1 d2 d3 w
          · exact first8_bad43 s (by omega) (by omega) h5 d1 d2 d3 w
        · exact first8_bad42 s (by omega) (by omega) h5 d1 d2 w
      · exact first8_bad41 s (by omega) (by omega) h5 d1 w
  · exact first8_0b s hs (by omega) w
theorem first_le {form p : Int} {r : ByteArray} {n : Nat} (hF : Utf.First form (bl r) p n) : n ≤ r.size := by
  rcases hF with ⟨h, _⟩ | ⟨_, h, _⟩
  · omega
  · rw [bl_length] at h
    exact h
/-- What one character's bytes leave of a text. -/
theorem first_step {form p : Int} {r s : ByteArray} {acc : List Int} {n : Nat} (hF : Utf.First form (bl r) p n) (h0 : n ≠ 0) (hbl : bl s = Utf.catL form acc ++ bl r) :
    Utf.oneL form p ≠ [] ∧ bl s = Utf.catL form (acc ++ [p]) ++ bl (r.extract n r.size) ∧ (r.extract n r.size).size < r.size := by
  obtain ⟨hn1, hn2, hn3⟩ := hF.resolve_left (fun h => h0 h.1)
  rw [bl_length] at hn2
  refine ⟨?_, ?_, ?_⟩
  · intro h
    have := congrArg List.length (h.symm.trans hn3)
    rw [List.length_take, bl_length] at this
    simp at this
    omega
  · rw [bl_drop, Utf.catL_snoc, List.append_assoc, hn3, List.take_append_drop]
    exact hbl
  · rw [ByteArray.size_extract]
    omega
set_option maxRecDepth 100000 in
set_option maxHeartbeats 1000000 in
theorem valid_any (s : ByteArray) (w : World) :
    Calls Tryz.prog 124 #[.string s] w fun e w' => ∃ b, e = .returned (.bool b) ∧ Below w.heap.size w w' ∧ ((b = true ∧ ∃ ps, Utf.Reads 0 (bl s) ps) ∨ (b = false ∧ ∀ ps, ¬ Utf.Reads 0 (bl s) ps)) := by
  go_enter Tryz.func124, Tryz.ntmps124
  go_wp2_with fail
  go_loopw [0, 4] (fun sv _ wr => ∃ (r : ByteArray) (acc : List Int), sv = .string r ∧ bl s = Utf.catL 0 acc ++ bl r ∧ Utf.allW 0 acc = true ∧ Below w.heap.size w wr) (fun sv _ _ => strLen sv)
  case atStart => exact ⟨s, [], rfl, rfl, rfl, Below.refl _ _⟩
  case round =>
    obtain ⟨r, acc, rfl, hbl, hall, hbel⟩ := hrel
    have HBL := Lib.hid hbl
    have HAL := Lib.hid hall
    have hsl := hbel.size
    clear hbl hall
    by_cases hpos : 0 < r.size
    · have hbr : bl r ≠ [] := fun h => by have := bl_nil h; omega
      have hemp : r.toList.isEmpty = false := by
        have := Utf.toList_ne hbr
        rw [bl_back] at this
        exact this
      clear hbr
      go_wp2_with (go_at_call 155; refine (first8_any r hpos _).mono ?_; rintro e w1 ⟨p, n, rfl, hF, hb1⟩; have hnr := first_le hF)
      · rename_i hn
        have hn0 : n = 0 := by simpa using hn
        have hN : Utf.NoHead 0 (bl r) := by
          rcases hF with h | ⟨h, _⟩
          · exact h.2
          · omega
        have hbr : bl r ≠ [] := fun h => by have := bl_nil h; omega
        have HN := Lib.hid (Utf.reads_none HAL.out hbr hN)
        rw [← HBL.out] at HN
        go_ret
        exact ⟨false, rfl, hbel.trans (hb1.mono hsl), .inr ⟨rfl, HN.out⟩⟩
      · rename_i hn
        have hn0 : n ≠ 0 := by
          intro h
          subst h
          simp at hn
        obtain ⟨hne, hbl2, hlen⟩ := first_step hF hn0 HBL.out
        exact ⟨⟨_, _, rfl, hbl2, Utf.allW_snoc HAL.out hne, hbel.trans (hb1.mono hsl)⟩, hlen⟩
    · have hr0 : r.size = 0 := by omega
      have hb0 : bl r = [] := List.length_eq_zero_iff.1 (by rw [bl_length, hr0])
      have hemp : r.toList.isEmpty = true := by
        have h : r = strOfNums [] := by rw [← hb0, bl_back]
        rw [h, ByteArray.toList_eq]
        rfl
      have hR : Utf.Reads 0 (bl s) acc := ⟨rfl, HAL.out, by rw [HBL.out, hb0, List.append_nil]⟩
      have HR := Lib.hid hR
      clear hb0 hR
      go_wp2_with fail
      go_ret
      exact ⟨true, rfl, hbel, .inl ⟨rfl, _, HR.out⟩⟩
end Go.Proofs.YtekonefnniaheaaGreat
