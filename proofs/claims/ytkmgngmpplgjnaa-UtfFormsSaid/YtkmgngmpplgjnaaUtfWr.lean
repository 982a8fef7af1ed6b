/- The project's own writing. -/
import Derived.Test.YtkmgngmpplgjnaaUtfApp
import Derived.Test.YtkmgngmpplgjnaaUtfScal
namespace Go.Proofs.Ytkmgngmpplgjnaa
open Go.RowKit

theorem Bytes.drewN {base : Nat} {v : Value} {xs : List Int} {w : World} (h : Bytes base v xs w) : ∀ n, Bytes base v xs (w.drewN n)
  | 0 => h
  | n + 1 => by
    have := World.ownsRow.drew (Bytes.drewN h n)
    exact this
set_option maxRecDepth 100000 in
theorem appUnit_any (base : Nat) (v : Value) (xs : List Int) (u : Int) (w : World) (hown : Bytes base v xs w) (hbase : base ≤ w.heap.size) (hl : xs.length ≤ 100000) (h0 : 0 ≤ u) (h1 : u < 65536) :
    Calls Try.prog 41 #[v, .int .i64 u] w fun e w' => GivesBytes base (xs ++ [u % 256, u / 256]) w e w' := by
  obtain ⟨i0, hi, hz0, hz1, hz2⟩ := info_parts info_u8
  have q3 : xs.length + 2 ≤ maxLen := by unfold maxLen; omega
  have q4 : (xs.length + 2) * 1 ≤ 140737488355328 := by omega
  have hw1 : IntKind.u8.wrap u = u % 256 := IntKind.wrap_u8' u
  have hw2 : IntKind.u8.wrap (u / 256) = u / 256 := wraps_u8 _ (by omega) (by omega)
  have HOWN := Lib.hid hown
  clear hown
  go_enter Try.func41, Try.ntmps41
  go_wp2_with (at_builtin; refine wpList_append_own _ rfl _ _ 46 rfl base 5 i0 (.int .u8 0) 1 1 Try.underlying46 hi hz0 hz1 hz2 rfl (by decide) v xs.length (xs.map (Value.int .u8)) rfl (World.ownsRow.alloc HOWN.out _) _ 2 2 ([u % 256, u / 256].map (Value.int .u8)) rfl rfl (cell_many_new _ _ _ _ rfl) (many_u8 _) q3 q4 (le_alloc hbase) ?_; intro v' w1 hown1 hg1 _)
  go_ret
  exact ⟨v', rfl, Bytes.app hown1, grown_below (ys := xs) HOWN.out (Below.refl base w) hbase hg1⟩
set_option maxRecDepth 100000 in
theorem app16_one (base : Nat) (v : Value) (xs : List Int) (p : Int) (w : World) (hown : Bytes base v xs w) (hbase : base ≤ w.heap.size) (hl : xs.length ≤ 100000) (h0 : 0 ≤ p) (h1 : p < 65536) :
    Calls Try.prog 38 #[v, .int .i64 p] w fun e w' => GivesBytes base (xs ++ [p % 256, p / 256]) w e w' := by
  have HC := Lib.hid (appUnit_any base v xs p w hown hbase hl h0 h1)
  clear hown
  go_enter Try.func38, Try.ntmps38
  go_wp2_with (go_at_call 41; refine HC.out.mono ?_; rintro e w1 ⟨v1, rfl, hby1, hb1⟩)
  go_ret
  exact ⟨v1, rfl, hby1, hb1⟩
set_option maxRecDepth 100000 in
theorem app16_two (base : Nat) (v : Value) (xs : List Int) (p : Int) (w : World) (hown : Bytes base v xs w) (hbase : base ≤ w.heap.size) (hl : xs.length ≤ 90000) (h0 : 65536 ≤ p) (h1 : p ≤ 1114111) :
    Calls Try.prog 38 #[v, .int .i64 p] w fun e w' => GivesBytes base (xs ++ [Utf.hiU p % 256, Utf.hiU p / 256, Utf.loU p % 256, Utf.loU p / 256]) w e w' := by
  unfold Utf.hiU Utf.loU
  have o1 : bits .or .i64 55296 ((p - 65536) / 1024) = 55296 + (p - 65536) / 1024 := i64_join 10 _ _ (by decide) (by decide) (by decide) (by decide) (by omega) (by omega)
  have o2 : bits .and .i64 (p - 65536) 1023 = (p - 65536) % 1024 := i64_and1023 _
  have o3 : bits .or .i64 56320 ((p - 65536) % 1024) = 56320 + (p - 65536) % 1024 := i64_join 10 _ _ (by decide) (by decide) (by decide) (by decide) (by omega) (by omega)
  have HC1 := Lib.hid (appUnit_any base v xs (55296 + (p - 65536) / 1024) w hown hbase (by omega) (by omega) (by omega))
  have HC2 : Hid (∀ v1 w1, Bytes base v1 (xs ++ [(55296 + (p - 65536) / 1024) % 256, (55296 + (p - 65536) / 1024) / 256]) w1 → Below base w w1 → Calls Try.prog 41 #[v1, .int .i64 (56320 + (p - 65536) % 1024)] w1 fun e w' => GivesBytes base (xs ++ [(55296 + (p - 65536) / 1024) % 256, (55296 + (p - 65536) / 1024) / 256] ++ [(56320 + (p - 65536) % 1024) % 256, (56320 + (p - 65536) % 1024) / 256]) w1 e w') :=
    Lib.hid fun v1 w1 h1 h2 => appUnit_any base v1 _ _ w1 h1 (Nat.le_trans hbase h2.size) (by simp; omega) (by omega) (by omega)
  clear hown
  go_enter Try.func38, Try.ntmps38
  go_wp2_with (first
    | (go_at_call_of 41 v; refine HC1.out.mono ?_; rintro e w1 ⟨v1, rfl, hby1, hb1⟩)
    | (go_at_call_of 41 v1; refine (HC2.out v1 w1 hby1 hb1).mono ?_; rintro e w2 ⟨v2, rfl, hby2, hb2⟩))
  go_ret
  rw [List.append_assoc] at hby2
  exact ⟨v2, rfl, hby2, hb1.trans hb2⟩
theorem app16_any (base : Nat) (v : Value) (xs : List Int) (p : Int) (w : World) (hown : Bytes base v xs w) (hbase : base ≤ w.heap.size) (hl : xs.length ≤ 90000) (hs : Utf.scal p = true) :
    Calls Try.prog 38 #[v, .int .i64 p] w fun e w' => GivesBytes base (xs ++ Utf.oneL 1 p) w e w' := by
  obtain ⟨p0, p1, _⟩ := Utf.scal_parts hs
  by_cases h1 : p < 65536
  · rw [Utf.oneL_1a hs h1]
    exact app16_one base v xs p w hown hbase (by omega) p0 h1
  · rw [Utf.oneL_1b hs h1]
    exact app16_two base v xs p w hown hbase (by omega) (by omega) p1

set_option maxRecDepth 100000 in
theorem appOne_0 (base : Nat) (v : Value) (xs : List Int) (p : Int) (w : World) (hown : Bytes base v xs w) (hbase : base ≤ w.heap.size) (hl : xs.length ≤ 90000) (hs : Utf.scal p = true) :
    Calls Try.prog 31 #[v, .int .i64 0, .int .i64 p] w fun e w' => GivesBytes base (xs ++ Utf.oneL 0 p) w e w' := by
  have HC := Lib.hid (appUTF8_any base v xs p w hown hbase (by omega) hs)
  clear hown
  go_enter Try.func31, Try.ntmps31
  go_wp2_with (go_at_call 37; refine HC.out.mono ?_; rintro e w1 ⟨v1, rfl, hby1, hb1⟩)
  go_ret
  exact ⟨v1, rfl, hby1, hb1⟩
set_option maxRecDepth 100000 in
theorem appOne_1 (base : Nat) (v : Value) (xs : List Int) (p : Int) (w : World) (hown : Bytes base v xs w) (hbase : base ≤ w.heap.size) (hl : xs.length ≤ 90000) (hs : Utf.scal p = true) :
    Calls Try.prog 31 #[v, .int .i64 1, .int .i64 p] w fun e w' => GivesBytes base (xs ++ Utf.oneL 1 p) w e w' := by
  have HC := Lib.hid (app16_any base v xs p w hown hbase (by omega) hs)
  clear hown
  go_enter Try.func31, Try.ntmps31
  go_wp2_with (go_at_call 38; refine HC.out.mono ?_; rintro e w1 ⟨v1, rfl, hby1, hb1⟩)
  go_ret
  exact ⟨v1, rfl, hby1, hb1⟩
set_option maxRecDepth 100000 in
theorem appOne_2 (base : Nat) (v : Value) (xs : List Int) (p : Int) (w : World) (hown : Bytes base v xs w) (hbase : base ≤ w.heap.size) (hl : xs.length ≤ 90000) (h0 : 0 ≤ p) (h1 : p ≤ 255) :
    Calls Try.prog 31 #[v, .int .i64 2, .int .i64 p] w fun e w' => GivesBytes base (xs ++ [p]) w e w' := by
  obtain ⟨i0, hi, hz0, hz1, hz2⟩ := info_parts info_u8
  have q3 : xs.length + 1 ≤ maxLen := by unfold maxLen; omega
  have q4 : (xs.length + 1) * 1 ≤ 140737488355328 := by omega
  have hw1 : IntKind.u8.wrap p = p := wraps_u8 _ (by omega) (by omega)
  have HOWN := Lib.hid hown
  clear hown
  go_enter Try.func31, Try.ntmps31
  go_wp2_with (at_builtin; refine wpList_append_own _ rfl _ _ 46 rfl base 5 i0 (.int .u8 0) 1 1 Try.underlying46 hi hz0 hz1 hz2 rfl (by decide) v xs.length (xs.map (Value.int .u8)) rfl (World.ownsRow.alloc HOWN.out _) _ 1 1 ([p].map (Value.int .u8)) rfl rfl (cell_many_new _ _ _ _ rfl) (many_u8 _) q3 q4 (le_alloc hbase) ?_; intro v' w1 hown1 hg1 _)
  go_ret
  exact ⟨v', rfl, Bytes.app hown1, grown_below (ys := xs) HOWN.out (Below.refl base w) hbase hg1⟩
theorem appOne_any (base : Nat) (v : Value) (xs : List Int) (form p : Int) (w : World) (hown : Bytes base v xs w) (hbase : base ≤ w.heap.size) (hl : xs.length ≤ 90000) (hp : Utf.oneL form p ≠ []) :
    Calls Try.prog 31 #[v, .int .i64 form, .int .i64 p] w fun e w' => GivesBytes base (xs ++ Utf.oneL form p) w e w' := by
  have hs : Utf.scal p = true := by
    by_cases h : Utf.scal p = true
    · exact h
    · exact absurd (Utf.oneL_no (not_true h)) hp
  rcases Utf.form_of hp with rfl | rfl | rfl
  · exact appOne_0 base v xs p w hown hbase hl hs
  · exact appOne_1 base v xs p w hown hbase hl hs
  · obtain ⟨e, h0, h1⟩ := Utf.shape2 hp
    rw [e]
    exact appOne_2 base v xs p w hown hbase hl h0 h1

set_option maxRecDepth 100000 in
set_option maxHeartbeats 400000 in
theorem write_any (form : Int) (a : Option Addr) (cap : Nat) (zs : List Int) (w : World) (hv : View w a zs.length zs) (hlen : zs.length ≤ 2000) :
    Calls Try.prog 17 #[.int .i64 form, .slice a zs.length cap] w fun e w' => e = .returned (Utf.wTup form zs) ∧ Below w.heap.size w w' := by
  have HV := Lib.hid hv
  clear hv
  go_enter Try.func17, Try.ntmps17
  go_wp2_with fail
  go_loopw [6, 8, 11] (fun bv _ i wr => ∃ k : Nat, i = .int .i64 k ∧ k ≤ zs.length ∧ Bytes w.heap.size bv (Utf.catL form (zs.take k)) wr ∧ Utf.allW form (zs.take k) = true ∧ Below w.heap.size w wr) (fun _ _ i _ => zs.length - (intOf i).toNat)
  case atStart => exact ⟨0, rfl, by omega, World.ownsRow_nil _ _ _ _, rfl, Below.refl _ _⟩
  case round =>
    obtain ⟨k, rfl, hk, hby, ha, hb⟩ := hrel
    have hsz := hb.size
    have HA := Lib.hid ha
    have HBY := Lib.hid hby
    have hcl := Utf.catL_length form (zs.take k)
    have htl : (zs.take k).length ≤ 2000 := by rw [List.length_take]; omega
    clear ha hby
    by_cases hlt : k < zs.length
    · obtain ⟨b, off, rfl, hc⟩ := HV.out.resolve_left (by omega)
      have hc1 := hc k hlt
      have hbl : b < w.heap.size := World.block_lt_of_cell? w _ hc1
      have hcr := (hb.cell (p := ⟨b, off + k, none⟩) hbl).trans hc1
      have hn1 := Utf.catL_next form hlt
      have hn2 := Utf.allW_next form hlt HA.out
      have hn3 := Utf.allW_no form hlt
      clear hc hc1
      revert hcr hn1 hn2 hn3
      generalize zs.getD k 0 = z
      intro hcr hn1 hn2 hn3
      have HN1 := Lib.hid hn1
      have HN2 := Lib.hid hn2
      have HN3 := Lib.hid hn3
      clear hn1 hn2 hn3
      by_cases hz : Utf.oneL form z = []
      · have HW : Hid (Utf.wTup form zs = .tuple #[.string ⟨#[]⟩, .bool false]) := Lib.hid (by unfold Utf.wTup; rw [HN3.out hz]; rfl)
        have HH : Hid (hasB form z = false) := Lib.hid (decide_eq_false (by rw [hz]; simp))
        clear hz
        go_wp2_with (go_at_call 30; refine (has_any form z _).mono ?_; rintro e w1 ⟨rfl, rfl⟩; rw [HH.out])
        go_ret2
        rw [HW.out]
        exact ⟨rfl, hb⟩
      · have HH : Hid (hasB form z = true) := Lib.hid (decide_eq_true hz)
        have HC := Lib.hid (appOne_any w.heap.size u6 _ form z _ HBY.out hsz (by omega) hz)
        have HZ := Lib.hid hz
        clear hz
        go_wp2_with (first
          | (go_at_call 30; refine (has_any form z _).mono ?_; rintro e w1 ⟨rfl, rfl⟩; rw [HH.out])
          | (go_at_call 31; refine HC.out.mono ?_; rintro e w1 ⟨v1, rfl, hby1, hb1⟩))
        exact ⟨⟨k + 1, by go_num, by omega, by rw [HN1.out]; exact hby1, HN2.out HZ.out, hb.trans hb1⟩, by simp [intOf]; omega⟩
    · have hke : k = zs.length := by omega
      subst hke
      have ha := HA.out
      have hby := HBY.out
      rw [List.take_length] at ha hby
      have HW : Hid (Utf.wTup form zs = .tuple #[.string (strOfNums (Utf.catL form zs)), .bool (Utf.inForm form)]) := Lib.hid (by unfold Utf.wTup; rw [if_pos ha])
      have hcv : ∀ n, (convert 46 9 u6).run Try.prog (wr.drewN n) = .ok (.string (strOfNums (Utf.catL form zs))) (wr.drewN n) := fun n => bytes_conv (Bytes.drewN hby n)
      clear ha hby
      go_wp2_with fail
      go_quiet ((go_at_call 26; exact Calls.quiet_of_same ((isForm_any form _).mono fun e w1 h => ⟨h.1, h.2.symm⟩)))
      go_wp2
      go_ret2
      rw [HW.out]
      exact ⟨rfl, below_drewN hb _⟩
end Go.Proofs.Ytkmgngmpplgjnaa
