/- The project's own first character of a text. -/
import Derived.Test.YtkmgngmpplgjnaaUtfFstM
import Derived.Test.YtkmgngmpplgjnaaUtfScal
import Derived.Test.YtkmgngmpplgjnaaUtfReadW
namespace Go.Proofs.Ytkmgngmpplgjnaa
open Go.RowKit

theorem i64_join' (i : Nat) (x y : Int) (hi : i ≤ 62) (hx₀ : 0 ≤ x) (hx : x % 2 ^ i = 0) (hx₁ : x < 2 ^ 62) (h₀ : 0 ≤ y) (h₁ : y < 2 ^ i) : bits .or .i64 y x = x + y := by
  have hc : bits .or .i64 y x = bits .or .i64 x y := by simp only [bits, BitVec.or_comm]
  rw [hc, i64_join i x y hi hx₀ hx hx₁ h₀ h₁]

set_option maxRecDepth 100000 in
theorem unit_any (s : ByteArray) (hs : 2 ≤ s.size) (w : World) :
    Calls Try.prog 39 #[.string s] w fun e w' => e = .returned (.int .i64 ((bl s).getD 0 0 + 256 * (bl s).getD 1 0)) ∧ Below w.heap.size w w' := by
  obtain ⟨B0, e0⟩ : ∃ B : Nat, s[0].toNat = B := ⟨_, rfl⟩
  have g0 := bl_get s 0 (by omega)
  have b0 : B0 < 256 := e0 ▸ UInt8.toNat_lt _
  rw [e0] at g0
  obtain ⟨B1, e1⟩ : ∃ B : Nat, s[1].toNat = B := ⟨_, rfl⟩
  have g1 := bl_get s 1 (by omega)
  have b1 : B1 < 256 := e1 ▸ UInt8.toNat_lt _
  rw [e1] at g1
  rw [g0, g1]
  have hw : IntKind.i64.wrap ((B1 : Int) * 256) = (B1 : Int) * 256 := wraps_i64 _ (by omega) (by omega)
  have ho : bits .or .i64 (B0 : Int) ((B1 : Int) * 256) = (B0 : Int) + 256 * (B1 : Int) := by
    rw [i64_join' 8 _ _ (by decide) (by omega) (by omega) (by omega) (by omega) (by omega)]
    omega
  clear g0 g1
  go_enter Try.func39, Try.ntmps39
  go_wp2_with fail
  go_quiet (fail)
  go_wp2
  go_ret
  exact ⟨rfl, below_drewN (Below.refl _ _) _⟩

/-- What a text's first character leaves. -/
def GivesFirst (form : Int) (s : ByteArray) (w : World) (e : Ending) (w' : World) : Prop :=
  ∃ (p : Int) (n : Nat), e = .returned (.tuple #[.int .i64 p, .int .i64 n]) ∧ Utf.First form (bl s) p n ∧ Below w.heap.size w w'
theorem bl_byte (s : ByteArray) (i : Nat) (h : i < s.size) : 0 ≤ (bl s).getD i 0 ∧ (bl s).getD i 0 < 256 := by
  rw [bl_get s i h]
  have := UInt8.toNat_lt s[i]
  omega
theorem noHead_short {s : ByteArray} (h : s.size < 2) : Utf.NoHead 1 (bl s) := by
  intro p x hp e
  have hl := bl_length s
  rcases Utf.head1 hp e with ⟨h1, _⟩ | ⟨h1, _⟩ <;> omega

set_option maxRecDepth 100000 in
theorem first16_any (s : ByteArray) (w : World) :
    Calls Try.prog 34 #[.string s] w fun e w' => GivesFirst 1 s w e w' := by
  by_cases hs : s.size < 2
  · have HN := Lib.hid (noHead_short hs)
    go_enter Try.func34, Try.ntmps34
    go_wp2_with fail
    go_ret2
    exact ⟨0, 0, rfl, .inl ⟨rfl, HN.out⟩, Below.refl _ _⟩
  · have hl := bl_length s
    have b0 := bl_byte s 0 (by omega)
    have b1 := bl_byte s 1 (by omega)
    obtain ⟨u, hu⟩ : ∃ u, u = (bl s).getD 0 0 + 256 * (bl s).getD 1 0 := ⟨_, rfl⟩
    have HU : Hid (∀ w, Calls Try.prog 39 #[.string s] w fun e w' => e = .returned (.int .i64 u) ∧ Below w.heap.size w w') := Lib.hid fun w => hu ▸ unit_any s (by omega) w
    by_cases hsc : Utf.scal u = true
    · have HF : Hid (Utf.First 1 (bl s) u 2) := Lib.hid (Utf.First.two1 (by omega) (by omega) (by omega) hsc (by omega))
      have HS := Lib.hid hsc
      clear hsc hu b0 b1 hl
      go_enter Try.func34, Try.ntmps34
      go_wp2_with (first
        | (go_at_call 39; refine (HU.out _).mono ?_; rintro e w1 ⟨rfl, hb1⟩)
        | (go_at_call 19; refine (scalar_any u _).mono ?_; rintro e w2 ⟨rfl, rfl⟩; rw [HS.out]))
      go_ret2
      exact ⟨u, 2, rfl, HF.out, hb1⟩
    · have hsn : 55296 ≤ u ∧ u ≤ 57343 := by
        have hn : ¬ (0 ≤ u ∧ u ≤ 1114111 ∧ (u < 55296 ∨ 57343 < u)) := fun hp => hsc (decide_eq_true hp)
        omega
      have HS := Lib.hid (not_true hsc)
      have nh : (56320 ≤ u ∨ s.size < 4) → Utf.NoHead 1 (bl s) := by
        intro hor p x hp e
        rcases Utf.head1 hp e with ⟨h1, h2, h3, h4, h5, h6⟩ | ⟨h1, h2, h3, h4, h5, h6, h7⟩
        · have := Utf.scal_parts h6
          omega
        · unfold Utf.hiU at h2 h3
          omega
      by_cases hA : 56320 ≤ u
      · have HN := Lib.hid (nh (.inl hA))
        clear nh hsc hu b0 b1 hl
        go_enter Try.func34, Try.ntmps34
        go_wp2_with (first
          | (go_at_call 39; refine (HU.out _).mono ?_; rintro e w1 ⟨rfl, hb1⟩)
          | (go_at_call 19; refine (scalar_any u _).mono ?_; rintro e w2 ⟨rfl, rfl⟩; rw [HS.out]))
        go_ret2
        exact ⟨0, 0, rfl, .inl ⟨rfl, HN.out⟩, hb1⟩
      · by_cases h4 : s.size < 4
        · have HN := Lib.hid (nh (.inr h4))
          clear nh hsc hu b0 b1 hl
          go_enter Try.func34, Try.ntmps34
          go_wp2_with (first
            | (go_at_call 39; refine (HU.out _).mono ?_; rintro e w1 ⟨rfl, hb1⟩)
            | (go_at_call 19; refine (scalar_any u _).mono ?_; rintro e w2 ⟨rfl, rfl⟩; rw [HS.out]))
          go_ret2
          exact ⟨0, 0, rfl, .inl ⟨rfl, HN.out⟩, hb1⟩
        · have b2 := bl_byte s 2 (by omega)
          have b3 := bl_byte s 3 (by omega)
          have hxs : (s.extract 2 s.size).size = s.size - 2 := by rw [ByteArray.size_extract]; omega
          obtain ⟨v, hv⟩ : ∃ v, v = (bl s).getD 2 0 + 256 * (bl s).getD 3 0 := ⟨_, rfl⟩
          have HV : Hid (∀ w, Calls Try.prog 39 #[.string (s.extract 2 s.size)] w fun e w' => e = .returned (.int .i64 v) ∧ Below w.heap.size w w') := Lib.hid fun w => by
            have h := unit_any (s.extract 2 s.size) (by omega) w
            have e : (bl (s.extract 2 s.size)).getD 0 0 + 256 * (bl (s.extract 2 s.size)).getD 1 0 = v := by
              rw [bl_drop, hv]
              simp [List.getD_eq_getElem?_getD, List.getElem?_drop]
            rw [e] at h
            exact h
          have nh2 : (v < 56320 ∨ 57343 < v) → Utf.NoHead 1 (bl s) := by
            intro hor p x hp e
            rcases Utf.head1 hp e with ⟨h1, h2, h3, h4, h5, h6⟩ | ⟨h1, h2, h3, h4, h5, h6, h7⟩
            · have := Utf.scal_parts h6
              omega
            · unfold Utf.loU at h4 h5
              omega
          have a1 := i64_and1023 u
          have a2 := i64_and1023 v
          have w1 : IntKind.i64.wrap (u % 1024 * 1024) = u % 1024 * 1024 := wraps_i64 _ (by omega) (by omega)
          clear nh
          by_cases hB : v < 56320
          · have HN := Lib.hid (nh2 (.inl hB))
            clear nh2 hsc hu hv b0 b1 b2 b3 hl
            go_enter Try.func34, Try.ntmps34
            go_wp2_with (first
              | (go_at_call_of 39 s.size; refine (HV.out _).mono ?_; rintro e w3 ⟨rfl, hb3⟩)
              | (go_at_call 39; refine (HU.out _).mono ?_; rintro e w1 ⟨rfl, hb1⟩)
              | (go_at_call 19; refine (scalar_any u _).mono ?_; rintro e w2 ⟨rfl, rfl⟩; rw [HS.out]))
            go_ret2
            exact ⟨0, 0, rfl, .inl ⟨rfl, HN.out⟩, hb1.trans (hb3.mono hb1.size)⟩
          · by_cases hC : 57343 < v
            · have HN := Lib.hid (nh2 (.inr hC))
              clear nh2 hsc hu hv b0 b1 b2 b3 hl
              go_enter Try.func34, Try.ntmps34
              go_wp2_with (first
                | (go_at_call_of 39 s.size; refine (HV.out _).mono ?_; rintro e w3 ⟨rfl, hb3⟩)
                | (go_at_call 39; refine (HU.out _).mono ?_; rintro e w1 ⟨rfl, hb1⟩)
                | (go_at_call 19; refine (scalar_any u _).mono ?_; rintro e w2 ⟨rfl, rfl⟩; rw [HS.out]))
              go_ret2
              exact ⟨0, 0, rfl, .inl ⟨rfl, HN.out⟩, hb1.trans (hb3.mono hb1.size)⟩
            · have HF : Hid (Utf.First 1 (bl s) (65536 + u % 1024 * 1024 + v % 1024) 4) := Lib.hid (Utf.First.four1 (by omega) (by unfold Utf.hiU; omega) (by unfold Utf.hiU; omega) (by unfold Utf.loU; omega) (by unfold Utf.loU; omega) (decide_eq_true (by omega)) (by omega))
              have w2 : IntKind.i64.wrap (65536 + u % 1024 * 1024) = 65536 + u % 1024 * 1024 := wraps_i64 _ (by omega) (by omega)
              have w3 : IntKind.i64.wrap (65536 + u % 1024 * 1024 + v % 1024) = 65536 + u % 1024 * 1024 + v % 1024 := wraps_i64 _ (by omega) (by omega)
              clear nh2 hsc hu hv b0 b1 b2 b3 hl
              go_enter Try.func34, Try.ntmps34
              go_wp2_with (first
                | (go_at_call_of 39 s.size; refine (HV.out _).mono ?_; rintro e w3 ⟨rfl, hb3⟩)
                | (go_at_call 39; refine (HU.out _).mono ?_; rintro e w1 ⟨rfl, hb1⟩)
                | (go_at_call 19; refine (scalar_any u _).mono ?_; rintro e w2 ⟨rfl, rfl⟩; rw [HS.out]))
              go_ret2
              exact ⟨_, 4, rfl, HF.out, hb1.trans (hb3.mono hb1.size)⟩
end Go.Proofs.Ytkmgngmpplgjnaa
