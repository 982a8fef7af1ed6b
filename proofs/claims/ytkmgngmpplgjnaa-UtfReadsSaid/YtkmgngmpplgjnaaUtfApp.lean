/- The project's own laying of characters. -/
import Derived.Test.YtkmgngmpplgjnaaUtfLow
namespace Go.Proofs.Ytkmgngmpplgjnaa
open Go.RowKit

theorem many_u8 (l : List Int) : ∀ u ∈ l.map (Value.int .u8), u.oneCell' = true := by
  intro u hu
  obtain ⟨a, _, rfl⟩ := List.mem_map.1 hu
  rfl
theorem Bytes.app {base : Nat} {v : Value} {xs ys : List Int} {w : World} {n : Nat} (h : w.ownsRow base 5 1 v (xs.length + n) (xs.map (Value.int .u8) ++ ys.map (Value.int .u8))) (hn : ys.length = n := by rfl) : Bytes base v (xs ++ ys) w := by
  unfold Bytes
  subst hn
  simpa using h
theorem cell_many_new (w : World) (l : List Int) (T : TypeId) (g : Nat) (hg : w.heap.size = g) : ∀ j u, (l.map (Value.int .u8))[j]? = some u → (w.alloc (.cells (l.map (Value.int .u8)).toArray T)).cell? ((⟨g, 0, none⟩ : Addr).add j) = some u := by
  intro j u h
  subst hg
  have hadd : (⟨w.heap.size, 0, none⟩ : Addr).add j = ⟨w.heap.size, 0 + j, none⟩ := by unfold Addr.add; split <;> simp_all
  rw [hadd, Nat.zero_add, World.cell?_alloc_mark]
  simpa using h
theorem size_alloc_one (w : World) (o : Obj) : (w.alloc o).heap.size = w.heap.size + 1 := by simp
theorem size_alloc_drew (w : World) (o : Obj) : (w.alloc o).drew.heap.size = w.heap.size + 1 := by simp [World.drew]

set_option maxRecDepth 100000 in
set_option maxHeartbeats 1000000 in
theorem appUTF8_1 (base : Nat) (v : Value) (xs : List Int) (p : Int) (w : World) (hown : Bytes base v xs w) (hbase : base ≤ w.heap.size) (hl : xs.length ≤ 100000) (h0 : 0 ≤ p) (h1 : p < 128) :
    Calls Try.prog 37 #[v, .int .i64 p] w fun e w' => GivesBytes base (xs ++ [p]) w e w' := by
  obtain ⟨i0, hi, hz0, hz1, hz2⟩ := info_parts info_u8
  have hmf : ∀ (fn : Fn) (first cap : Array Value) (w : World), (Instr.makeFunc fn first cap).run Try.prog w = .ok (.func fn first cap) w := fun _ _ _ _ => rfl
  have hw : Utf.szL 0 p = 1 := by
    unfold Utf.szL
    repeat' split
    all_goals omega
  have q3 : xs.length + 1 ≤ maxLen := by unfold maxLen; omega
  have q4 : (xs.length + 1) * 1 ≤ 140737488355328 := by omega
  have HOWN := Lib.hid hown
  clear hown
  go_enter Try.func37, Try.ntmps37
  go_wp2_with (first
    | (go_at_call 32; refine (width_any 0 p _).mono ?_; rintro e w1 ⟨rfl, rfl⟩; rw [hw])
    | (at_builtin; refine wpList_append_own _ rfl _ _ 46 rfl base 5 i0 (.int .u8 0) 1 1 Try.underlying46 hi hz0 hz1 hz2 rfl (by decide) v xs.length (xs.map (Value.int .u8)) rfl (World.ownsRow.alloc (World.ownsRow.alloc HOWN.out _) _) _ 1 1 ([p].map (Value.int .u8)) rfl rfl (cell_many_new _ _ _ _ (size_alloc_one _ _)) (many_u8 _) q3 q4 (le_alloc (le_alloc hbase)) ?_; intro v' w1 hown1 hg1 _))
  go_ret
  exact ⟨v', rfl, Bytes.app hown1, grown_below (ys := xs) (World.ownsRow.alloc HOWN.out _) ((Below.refl base w).alloc hbase _) hbase hg1⟩
set_option maxRecDepth 100000 in
set_option maxHeartbeats 1000000 in
theorem appUTF8_2 (base : Nat) (v : Value) (xs : List Int) (p : Int) (w : World) (hown : Bytes base v xs w) (hbase : base ≤ w.heap.size) (hl : xs.length ≤ 100000) (h1 : ¬ p < 128) (h2 : p < 2048) :
    Calls Try.prog 37 #[v, .int .i64 p] w fun e w' => GivesBytes base (xs ++ [192 + p / 64, 128 + p % 64]) w e w' := by
  obtain ⟨i0, hi, hz0, hz1, hz2⟩ := info_parts info_u8
  have hmf : ∀ (fn : Fn) (first cap : Array Value) (w : World), (Instr.makeFunc fn first cap).run Try.prog w = .ok (.func fn first cap) w := fun _ _ _ _ => rfl
  have hw : Utf.szL 0 p = 2 := by
    unfold Utf.szL
    repeat' split
    all_goals omega
  have hwr : IntKind.u8.wrap (p / 64) = p / 64 := wraps_u8 _ (by omega) (by omega)
  have ho : bits .or .u8 192 (p / 64) = 192 + p / 64 := u8_or192 _ (by omega) (by omega)
  have q3 : xs.length + 2 ≤ maxLen := by unfold maxLen; omega
  have q4 : (xs.length + 2) * 1 ≤ 140737488355328 := by omega
  have HOWN := Lib.hid hown
  have HCELL : Hid ((w.alloc (.cells #[.int .i64 p] 3)).drew.cell? ⟨w.heap.size, 0, none⟩ = some (.int .i64 p)) := Lib.hid (World.cell?_alloc_mark w _ _ _ 0)
  clear hown
  go_enter Try.func37, Try.ntmps37
  go_wp2_with (go_at_call 32; refine (width_any 0 p _).mono ?_; rintro e w1 ⟨rfl, rfl⟩; rw [hw])
  go_region_law (first
    | (go_simp; go_at_call_of 40 (Value.int .i64 0); refine (low_0 p _ _ HCELL.out).mono ?_; rintro e w1 ⟨rfl, rfl⟩)
    | (refine step_append_own rfl _ _ 46 rfl base 5 i0 (.int .u8 0) 1 1 Try.underlying46 hi hz0 hz1 hz2 rfl (by decide) v xs.length (xs.map (Value.int .u8)) rfl (World.ownsRow.alloc (World.ownsRow.drew (World.ownsRow.alloc HOWN.out _)) _) _ 2 2 ([192 + p / 64, 128 + p % 64].map (Value.int .u8)) rfl rfl (cell_many_new _ _ _ _ (size_alloc_drew _ _)) (many_u8 _) q3 q4 (le_alloc (le_alloc hbase)) ?_; intro v' w1 hown1 hg1))
  all_goals
    go_wp2_with fail
    go_ret
    exact ⟨v', rfl, Bytes.app hown1, grown_below (ys := xs) (World.ownsRow.drew (World.ownsRow.alloc HOWN.out _)) (((Below.refl base w).alloc hbase _).drew) hbase hg1⟩
set_option maxRecDepth 100000 in
set_option maxHeartbeats 1000000 in
theorem appUTF8_3 (base : Nat) (v : Value) (xs : List Int) (p : Int) (w : World) (hown : Bytes base v xs w) (hbase : base ≤ w.heap.size) (hl : xs.length ≤ 100000) (h1 : ¬ p < 2048) (h2 : p < 65536) :
    Calls Try.prog 37 #[v, .int .i64 p] w fun e w' => GivesBytes base (xs ++ [224 + p / 4096, 128 + p / 64 % 64, 128 + p % 64]) w e w' := by
  obtain ⟨i0, hi, hz0, hz1, hz2⟩ := info_parts info_u8
  have hmf : ∀ (fn : Fn) (first cap : Array Value) (w : World), (Instr.makeFunc fn first cap).run Try.prog w = .ok (.func fn first cap) w := fun _ _ _ _ => rfl
  have hw : Utf.szL 0 p = 3 := by
    unfold Utf.szL
    repeat' split
    all_goals omega
  have hwr : IntKind.u8.wrap (p / 4096) = p / 4096 := wraps_u8 _ (by omega) (by omega)
  have ho : bits .or .u8 224 (p / 4096) = 224 + p / 4096 := u8_or224 _ (by omega) (by omega)
  have q3 : xs.length + 3 ≤ maxLen := by unfold maxLen; omega
  have q4 : (xs.length + 3) * 1 ≤ 140737488355328 := by omega
  have HOWN := Lib.hid hown
  have HCELL : Hid ((w.alloc (.cells #[.int .i64 p] 3)).drew.cell? ⟨w.heap.size, 0, none⟩ = some (.int .i64 p)) := Lib.hid (World.cell?_alloc_mark w _ _ _ 0)
  clear hown
  go_enter Try.func37, Try.ntmps37
  go_wp2_with (go_at_call 32; refine (width_any 0 p _).mono ?_; rintro e w1 ⟨rfl, rfl⟩; rw [hw])
  go_region_law (first
    | (go_simp; go_at_call_of 40 (Value.int .i64 0); refine (low_0 p _ _ HCELL.out).mono ?_; rintro e w1 ⟨rfl, rfl⟩)
    | (go_simp; go_at_call_of 40 (Value.int .i64 6); refine (low_6 p _ _ HCELL.out).mono ?_; rintro e w1 ⟨rfl, rfl⟩)
    | (refine step_append_own rfl _ _ 46 rfl base 5 i0 (.int .u8 0) 1 1 Try.underlying46 hi hz0 hz1 hz2 rfl (by decide) v xs.length (xs.map (Value.int .u8)) rfl (World.ownsRow.alloc (World.ownsRow.drew (World.ownsRow.alloc HOWN.out _)) _) _ 3 3 ([224 + p / 4096, 128 + p / 64 % 64, 128 + p % 64].map (Value.int .u8)) rfl rfl (cell_many_new _ _ _ _ (size_alloc_drew _ _)) (many_u8 _) q3 q4 (le_alloc (le_alloc hbase)) ?_; intro v' w1 hown1 hg1))
  all_goals
    go_wp2_with fail
    go_ret
    exact ⟨v', rfl, Bytes.app hown1, grown_below (ys := xs) (World.ownsRow.drew (World.ownsRow.alloc HOWN.out _)) (((Below.refl base w).alloc hbase _).drew) hbase hg1⟩
set_option maxRecDepth 100000 in
set_option maxHeartbeats 1000000 in
theorem appUTF8_4 (base : Nat) (v : Value) (xs : List Int) (p : Int) (w : World) (hown : Bytes base v xs w) (hbase : base ≤ w.heap.size) (hl : xs.length ≤ 100000) (h1 : ¬ p < 65536) (h2 : p ≤ 1114111) :
    Calls Try.prog 37 #[v, .int .i64 p] w fun e w' => GivesBytes base (xs ++ [240 + p / 262144, 128 + p / 4096 % 64, 128 + p / 64 % 64, 128 + p % 64]) w e w' := by
  obtain ⟨i0, hi, hz0, hz1, hz2⟩ := info_parts info_u8
  have hmf : ∀ (fn : Fn) (first cap : Array Value) (w : World), (Instr.makeFunc fn first cap).run Try.prog w = .ok (.func fn first cap) w := fun _ _ _ _ => rfl
  have hw : Utf.szL 0 p = 4 := by
    unfold Utf.szL
    repeat' split
    all_goals omega
  have hwr : IntKind.u8.wrap (p / 262144) = p / 262144 := wraps_u8 _ (by omega) (by omega)
  have ho : bits .or .u8 240 (p / 262144) = 240 + p / 262144 := u8_or240 _ (by omega) (by omega)
  have q3 : xs.length + 4 ≤ maxLen := by unfold maxLen; omega
  have q4 : (xs.length + 4) * 1 ≤ 140737488355328 := by omega
  have HOWN := Lib.hid hown
  have HCELL : Hid ((w.alloc (.cells #[.int .i64 p] 3)).drew.cell? ⟨w.heap.size, 0, none⟩ = some (.int .i64 p)) := Lib.hid (World.cell?_alloc_mark w _ _ _ 0)
  clear hown
  go_enter Try.func37, Try.ntmps37
  go_wp2_with (go_at_call 32; refine (width_any 0 p _).mono ?_; rintro e w1 ⟨rfl, rfl⟩; rw [hw])
  go_region_law (first
    | (go_simp; go_at_call_of 40 (Value.int .i64 0); refine (low_0 p _ _ HCELL.out).mono ?_; rintro e w1 ⟨rfl, rfl⟩)
    | (go_simp; go_at_call_of 40 (Value.int .i64 6); refine (low_6 p _ _ HCELL.out).mono ?_; rintro e w1 ⟨rfl, rfl⟩)
    | (go_simp; go_at_call_of 40 (Value.int .i64 12); refine (low_12 p _ _ HCELL.out).mono ?_; rintro e w1 ⟨rfl, rfl⟩)
    | (refine step_append_own rfl _ _ 46 rfl base 5 i0 (.int .u8 0) 1 1 Try.underlying46 hi hz0 hz1 hz2 rfl (by decide) v xs.length (xs.map (Value.int .u8)) rfl (World.ownsRow.alloc (World.ownsRow.drew (World.ownsRow.alloc HOWN.out _)) _) _ 4 4 ([240 + p / 262144, 128 + p / 4096 % 64, 128 + p / 64 % 64, 128 + p % 64].map (Value.int .u8)) rfl rfl (cell_many_new _ _ _ _ (size_alloc_drew _ _)) (many_u8 _) q3 q4 (le_alloc (le_alloc hbase)) ?_; intro v' w1 hown1 hg1))
  all_goals
    go_wp2_with fail
    go_ret
    exact ⟨v', rfl, Bytes.app hown1, grown_below (ys := xs) (World.ownsRow.drew (World.ownsRow.alloc HOWN.out _)) (((Below.refl base w).alloc hbase _).drew) hbase hg1⟩
theorem appUTF8_any (base : Nat) (v : Value) (xs : List Int) (p : Int) (w : World) (hown : Bytes base v xs w) (hbase : base ≤ w.heap.size) (hl : xs.length ≤ 100000) (hs : Utf.scal p = true) :
    Calls Try.prog 37 #[v, .int .i64 p] w fun e w' => GivesBytes base (xs ++ Utf.oneL 0 p) w e w' := by
  obtain ⟨p0, p1, _⟩ := Utf.scal_parts hs
  by_cases h1 : p < 128
  · rw [Utf.oneL_0a hs h1]
    exact appUTF8_1 base v xs p w hown hbase hl p0 h1
  · by_cases h2 : p < 2048
    · rw [Utf.oneL_0b hs h1 h2]
      exact appUTF8_2 base v xs p w hown hbase hl h1 h2
    · by_cases h3 : p < 65536
      · rw [Utf.oneL_0c hs h2 h3]
        exact appUTF8_3 base v xs p w hown hbase hl h2 h3
      · rw [Utf.oneL_0d hs h3]
        exact appUTF8_4 base v xs p w hown hbase hl h3 p1
end Go.Proofs.Ytkmgngmpplgjnaa
