/- lex: LexVersions' walk. -/
import Derived.Test.YtnnajiaakfeocaaLexR
import Derived.Test.YtnnajiaakfeocaaUtfBits
import Derived.Deep.RegionWith
namespace Go.Proofs.Ytnnajiaakfeocaa
open Go.RowKit
open Lex

theorem Version_pure (s : ByteArray) (hs : s.size ≤ 2000) (w : World) :
    Calls Try.prog 16 #[.string s] w fun e W' => e = .returned (.bool (versL (bl s))) ∧ Below w.heap.size w W' := by
  have hm : s.size ≤ maxLen := by unfold maxLen; omega
  rw [← versB_eq s hm]
  exact Version_any s hm w

theorem conv_at (b : Nat) (n : Int) (w : World) (hc : w.cell? ⟨b, 0, none⟩ = some (.int .u8 n)) : (convert 50 9 (.slice (some ⟨b, 0, none⟩) 1 1)).run Try.prog w = .ok (.string (strOfNums [n])) w := by
  refine run_convert_bytes_arg _ 50 5 Try.underlying50 Try.underlying5 b 0 1 1 [n] rfl ?_ 9 Try.underlying9
  intro i hi
  obtain rfl : i = 0 := by omega
  exact hc
theorem one_conv_drew' (n : Int) (w : World) : (convert 50 9 (.slice (some ⟨w.heap.size, 0, none⟩) 1 1)).run Try.prog (w.alloc (.cells #[.int .u8 n] 5)).drew = .ok (.string (strOfNums [n])) (w.alloc (.cells #[.int .u8 n] 5)).drew :=
  conv_at _ _ _ (World.cell?_alloc_mark w _ _ _ 0)
theorem digF_len : ∀ (k n : Nat), (digF k n).length ≤ k + 1
  | 0, n => by simp [digF]
  | k + 1, n => by
    rw [digF]
    split
    · simp
    · have := digF_len k (n / 10)
      rw [List.length_append, List.length_singleton]
      omega
theorem digits_one (n : Nat) (h10 : n < 10) (w : World) :
    Calls Try.prog 19 #[.int .i64 n] w fun e w' => e = .returned (.string (strOfNums [48 + (n : Int)])) ∧ Below w.heap.size w w' := by
  have hb := Below.refl w.heap.size w
  have hcv := one_conv (48 + (n : Int)) w
  go_enter Try.func19, Try.ntmps19
  go_wp2_with fail
  go_ret
  exact ⟨rfl, hb.alloc (Nat.le_refl _) _⟩
set_option maxRecDepth 100000 in
set_option maxHeartbeats 1000000 in
theorem digits_k : ∀ (k n : Nat) (_ : k ≤ 3) (_ : n < 10 ^ (k + 1)) (_ : n < 10000) (w : World),
    Calls Try.prog 19 #[.int .i64 n] w fun e w' => e = .returned (.string (strOfNums (digF k n))) ∧ Below w.heap.size w w' := by
  intro k
  induction k with
  | zero =>
    intro n _ hn h2 w
    exact digits_one n (by simpa using hn) w
  | succ k ih =>
    intro n hk3 hn h2 w
    by_cases h10 : n < 10
    · have hd : digF (k + 1) n = [48 + (n : Int)] := if_pos h10
      rw [hd]
      exact digits_one n h10 w
    · have hd : digF (k + 1) n = digF k (n / 10) ++ [48 + ((n % 10 : Nat) : Int)] := if_neg h10
      rw [hd]
      have hi := ih (n / 10) (by omega) (by rw [Nat.pow_succ] at hn; omega) (by omega)
      obtain ⟨r, hr⟩ : ∃ r, r = n % 10 := ⟨_, rfl⟩
      obtain ⟨q, hq⟩ : ∃ q, q = n / 10 := ⟨_, rfl⟩
      have hr9 : r < 10 := by omega
      have hq10 : q < 1000 := by omega
      have e1 : (n : Int).tdiv 10 = (q : Int) := by rw [Int.tdiv_eq_ediv_of_nonneg (by omega), hq]; omega
      have e2 : (n : Int).tmod 10 = (r : Int) := by rw [Int.tmod_eq_emod_of_nonneg (by omega), hr]; omega
      rw [← hr, ← hq]
      rw [← hq] at hi
      obtain ⟨D, hD⟩ : ∃ D, D = strOfNums (digF k q) := ⟨_, rfl⟩
      have hfin : strOfNums (digF k q ++ [48 + (r : Int)]) = D ++ strOfNums [48 + (r : Int)] := by rw [hD, strOfNums_app]
      have hDs : D.size ≤ 4 := by rw [hD, strOfNums_size]; have := digF_len k q; omega
      have hS1 : (strOfNums [48 + (r : Int)]).size = 1 := strOfNums_size _
      rw [← hD] at hi
      rw [hfin]
      have IH := Lib.hid hi
      have hn10 : 10 ≤ n := by omega
      have hb := Below.refl w.heap.size w
      clear hn ih hd hi hfin hD hq hr h10
      have hcv := one_conv_drew' (48 + (r : Int)) w
      have hwq : IntKind.i64.wrap (q : Int) = (q : Int) := by rw [IntKind.wrap_i64]; omega
      have hwr : IntKind.i64.wrap (r : Int) = (r : Int) := by rw [IntKind.wrap_i64]; omega
      have hws : IntKind.i64.wrap (48 + (r : Int)) = 48 + (r : Int) := by rw [IntKind.wrap_i64]; omega
      have hwu : IntKind.u8.wrap (48 + (r : Int)) = 48 + (r : Int) := by simp [IntKind.wrap, IntKind.signed, IntKind.bits]; omega
      go_enter Try.func19, Try.ntmps19
      go_wp2_with fail
      have HPRE : Hid (∀ w2, Below (w.alloc (.cells #[.int .u8 (48 + (r : Int))] 5)).drew.heap.size (w.alloc (.cells #[.int .u8 (48 + (r : Int))] 5)).drew w2 → w2.cell? ⟨w.heap.size, 0, none⟩ = some (.int .u8 (48 + (r : Int)))) :=
        Lib.hid fun w2 k => (k.cell (p := ⟨w.heap.size, 0, none⟩) (by simp)).trans (World.cell?_alloc_mark w _ _ _ 0)
      go_region_with (first
        | (go_at_call 19; refine (IH.out w.drew).mono ?_; rintro e w2 ⟨rfl, k2⟩; have hb2 := hb.drew.trans k2; have hb3 := hb2.alloc hb2.size (.cells #[.int .u8 (48 + (r : Int))] 5); have hcv2 := one_conv (48 + (r : Int)) w2)
        | (go_at_call 19; refine (IH.out (w.alloc (.cells #[.int .u8 (48 + (r : Int))] 5)).drew).mono ?_; rintro e w2 ⟨rfl, k2⟩; have hb2 := ((hb.alloc (Nat.le_refl _) (.cells #[.int .u8 (48 + (r : Int))] 5)).drew).trans (k2.mono (show w.heap.size ≤ (w.alloc (.cells #[.int .u8 (48 + (r : Int))] 5)).drew.heap.size by simp)); have hcv3 := conv_at w.heap.size (48 + (r : Int)) w2 (HPRE.out w2 k2)))
      all_goals go_wp2
      all_goals go_ret
      all_goals first | exact ⟨rfl, hb2⟩ | exact ⟨rfl, hb2.alloc hb2.size _⟩ | exact ⟨rfl, hb3⟩
end Go.Proofs.Ytnnajiaakfeocaa
