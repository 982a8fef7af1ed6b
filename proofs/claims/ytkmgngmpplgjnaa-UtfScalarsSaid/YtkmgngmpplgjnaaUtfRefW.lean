/- The walks of the document's own characters. -/
import Derived.Test.YtkmgngmpplgjnaaKitB
import Derived.Test.YtkmgngmpplgjnaaUtfMath
namespace Go.Proofs.Ytkmgngmpplgjnaa
open Go.RowKit

theorem refScalar_any (p : Int) (w : World) :
    Calls Try.prog 20 #[.int .i64 p] w fun e w' => e = .returned (.bool (Utf.scal p)) ∧ w = w' := by
  by_cases h : Utf.scal p = true
  · have h' := Utf.scal_parts h
    rw [h]
    obtain ⟨h1, h2, h3⟩ := h'
    clear h
    rcases h3 with h3 | h3
    all_goals
      go_enter Try.func20, Try.ntmps20
      go_wp2
      go_ret
      exact ⟨rfl, rfl⟩
  · have h' : p < 0 ∨ 1114111 < p ∨ (55296 ≤ p ∧ p ≤ 57343) := by
      have hn : ¬ (0 ≤ p ∧ p ≤ 1114111 ∧ (p < 55296 ∨ 57343 < p)) := fun hp => h (decide_eq_true hp)
      omega
    rw [not_true h]
    clear h
    rcases h' with h | h | ⟨h, h2⟩
    all_goals
      go_enter Try.func20, Try.ntmps20
      go_wp2
      go_ret
      exact ⟨by first | rfl | (refine congrArg (fun c => Ending.returned (.bool c)) ?_; simp; omega), rfl⟩

/-- A buffer's bytes after k of them. -/
def TextRel (base : Nat) (zs : List Int) (w : World) (b i : Value) (wr : World) : Prop :=
  ∃ k : Nat, i = .int .i64 k ∧ k ≤ zs.length ∧ Bytes base b (zs.take k) wr ∧ Below base w wr

set_option maxHeartbeats 400000 in
theorem text_any (a : Option Addr) (cap : Nat) (zs : List Int) (w : World) (hv : View w a zs.length zs) (hlen : zs.length ≤ 10) (hr : ∀ i, i < zs.length → 0 ≤ zs.getD i 0 ∧ zs.getD i 0 ≤ 255) :
    Calls Try.prog 35 #[.slice a zs.length cap] w fun e w' => e = .returned (.string (strOfNums zs)) ∧ Below w.heap.size w w' := by
  obtain ⟨i0, hi, hz0, hz1, hz2⟩ := info_parts info_u8
  have HV := Lib.hid hv
  have HR := Lib.hid hr
  clear hv hr
  go_enter Try.func35, Try.ntmps35
  go_wp2_with fail
  go_loopw [3, 4] (fun b i wr => TextRel w.heap.size zs w b i wr) (fun _ i _ => zs.length - (intOf i).toNat)
  case atStart => exact ⟨0, rfl, by omega, World.ownsRow_nil _ _ _ _, Below.refl _ _⟩
  case round =>
    obtain ⟨k, rfl, hk, hby, hb⟩ := hrel
    have hsz := hb.size
    by_cases hlt : k < zs.length
    · obtain ⟨b, off, rfl, hc⟩ := HV.out.resolve_left (by omega)
      have hc1 := hc k hlt
      have hbl : b < w.heap.size := World.block_lt_of_cell? w _ hc1
      have hcr := (hb.cell (p := ⟨b, off + k, none⟩) hbl).trans hc1
      have htk : zs.take (k + 1) = zs.take k ++ [zs.getD k 0] := by
        rw [List.take_succ_eq_append_getElem hlt, List.getD_eq_getElem?_getD, List.getElem?_eq_getElem hlt]
        rfl
      have hz := HR.out k hlt
      have hln : (zs.take k).length = k := List.length_take_of_le hk
      clear hc hc1
      revert hcr htk hz
      generalize zs.getD k 0 = z
      intro hcr htk hz
      have HT := Lib.hid htk
      have q3 : (zs.take k).length + 1 ≤ maxLen := by unfold maxLen; omega
      have q4 : ((zs.take k).length + 1) * 1 ≤ 140737488355328 := by omega
      obtain ⟨hzl, hzh⟩ := hz
      clear htk hln
      go_wp2_with (at_builtin; refine wpList_append_own _ rfl _ _ 46 rfl w.heap.size 5 i0 (.int .u8 0) 1 1 Try.underlying46 hi hz0 hz1 hz2 rfl (by decide) _ (zs.take k).length ((zs.take k).map (Value.int .u8)) rfl (World.ownsRow.alloc hby _) ⟨wr.heap.size, 0, none⟩ 1 1 [.int .u8 z] rfl rfl (cell_one_new _ _ _) (one_u8 _) q3 q4 (le_alloc hsz) ?_; intro v' w1 hown1 hg1 _; clear q3 q4)
      have hby1 := Bytes.snoc hown1
      rw [← HT.out] at hby1
      exact ⟨⟨k + 1, by go_num, by omega, hby1, grown_below hby hb (Nat.le_refl _) hg1⟩, by simp [intOf]; omega⟩
    · have hke : k = zs.length := by omega
      subst hke
      rw [List.take_length] at hby
      have hcv := bytes_conv hby
      go_wp2_with fail
      go_ret
      exact ⟨rfl, hb⟩

theorem view_new (zs : List Int) (T : TypeId) (w : World) : View (w.alloc (.cells (zs.map (Value.int .i64)).toArray T)) (some ⟨w.heap.size, 0, none⟩) zs.length zs := by
  refine .inr ⟨w.heap.size, 0, rfl, fun i hi => ?_⟩
  rw [World.cell?_alloc_mark]
  simp [List.getElem?_eq_getElem hi]
/-- text of a slice that was just laid. -/
theorem text_new (zs : List Int) (hlen : zs.length ≤ 10) (hr : ∀ z ∈ zs, 0 ≤ z ∧ z ≤ 255) (w : World) :
    Calls Try.prog 35 #[.slice (some ⟨w.heap.size, 0, none⟩) zs.length zs.length] (w.alloc (.cells (zs.map (Value.int .i64)).toArray 3)) fun e w' => e = .returned (.string (strOfNums zs)) ∧ Below w.heap.size w w' := by
  refine (text_any _ _ zs _ (view_new zs _ w) hlen (fun i hi => ?_)).mono ?_
  · have hm : zs.getD i 0 ∈ zs := by
      rw [List.getD_eq_getElem?_getD, List.getElem?_eq_getElem hi]
      exact List.getElem_mem _
    exact hr _ hm
  · rintro e w' ⟨rfl, hb⟩
    exact ⟨rfl, ((Below.refl _ _).alloc (Nat.le_refl _) _).trans (hb.mono (by simp))⟩

theorem refOne_no (form p : Int) (h : Utf.scal p = false) (w : World) :
    Calls Try.prog 28 #[.int .i64 form, .int .i64 p] w fun e w' => e = .returned (.string (strOfNums (Utf.oneL form p))) ∧ Below w.heap.size w w' := by
  rw [Utf.oneL_no h]
  have hsc : ∀ w, Calls Try.prog 20 #[.int .i64 p] w fun e w' => e = .returned (.bool false) ∧ w = w' := fun w => h ▸ refScalar_any p w
  have HC := Lib.hid hsc
  clear h hsc
  go_enter Try.func28, Try.ntmps28
  go_wp2_with (go_at_call 20; refine (HC.out _).mono ?_; rintro e w1 ⟨rfl, rfl⟩)
  go_ret
  exact ⟨rfl, Below.refl _ _⟩
theorem refOne_2a (p : Int) (h : Utf.scal p = true) (hp : 255 < p) (w : World) :
    Calls Try.prog 28 #[.int .i64 2, .int .i64 p] w fun e w' => e = .returned (.string (strOfNums (Utf.oneL 2 p))) ∧ Below w.heap.size w w' := by
  rw [Utf.oneL_2a h hp]
  have hsc : ∀ w, Calls Try.prog 20 #[.int .i64 p] w fun e w' => e = .returned (.bool true) ∧ w = w' := fun w => h ▸ refScalar_any p w
  have HC := Lib.hid hsc
  clear h hsc
  go_enter Try.func28, Try.ntmps28
  go_wp2_with (go_at_call 20; refine (HC.out _).mono ?_; rintro e w1 ⟨rfl, rfl⟩)
  go_ret
  exact ⟨rfl, Below.refl _ _⟩
theorem refOne_2 (p : Int) (h : Utf.scal p = true) (hp : ¬ 255 < p) (w : World) :
    Calls Try.prog 28 #[.int .i64 2, .int .i64 p] w fun e w' => e = .returned (.string (strOfNums (Utf.oneL 2 p))) ∧ Below w.heap.size w w' := by
  obtain ⟨p0, p1, p2⟩ := Utf.scal_parts h
  rw [Utf.oneL_2 h hp]
  have hsc : ∀ w, Calls Try.prog 20 #[.int .i64 p] w fun e w' => e = .returned (.bool true) ∧ w = w' := fun w => h ▸ refScalar_any p w
  have HC := Lib.hid hsc
  have HB : Hid (∀ z ∈ [p], 0 ≤ z ∧ z ≤ 255) := Lib.hid (by simp; omega)
  clear h hsc p2
  go_enter Try.func28, Try.ntmps28
  go_wp2_with (first
    | (go_at_call 20; refine (HC.out _).mono ?_; rintro e w1 ⟨rfl, rfl⟩)
    | (go_at_call 35; refine (text_new [p] (by simp) HB.out _).mono ?_; rintro e w1 ⟨rfl, hb⟩))
  go_ret
  exact ⟨rfl, hb⟩
theorem refOne_1a (p : Int) (h : Utf.scal p = true) (hp : p < 65536) (w : World) :
    Calls Try.prog 28 #[.int .i64 1, .int .i64 p] w fun e w' => e = .returned (.string (strOfNums (Utf.oneL 1 p))) ∧ Below w.heap.size w w' := by
  obtain ⟨p0, p1, p2⟩ := Utf.scal_parts h
  rw [Utf.oneL_1a h hp]
  have hsc : ∀ w, Calls Try.prog 20 #[.int .i64 p] w fun e w' => e = .returned (.bool true) ∧ w = w' := fun w => h ▸ refScalar_any p w
  have HC := Lib.hid hsc
  have HB : Hid (∀ z ∈ [p % 256, p / 256], 0 ≤ z ∧ z ≤ 255) := Lib.hid (by simp; omega)
  clear h hsc p2
  go_enter Try.func28, Try.ntmps28
  go_wp2_with (first
    | (go_at_call 20; refine (HC.out _).mono ?_; rintro e w1 ⟨rfl, rfl⟩)
    | (go_at_call 35; refine (text_new [p % 256, p / 256] (by simp) HB.out _).mono ?_; rintro e w1 ⟨rfl, hb⟩))
  go_ret
  exact ⟨rfl, hb⟩
theorem refOne_1b (p : Int) (h : Utf.scal p = true) (hp : ¬ p < 65536) (w : World) :
    Calls Try.prog 28 #[.int .i64 1, .int .i64 p] w fun e w' => e = .returned (.string (strOfNums (Utf.oneL 1 p))) ∧ Below w.heap.size w w' := by
  obtain ⟨p0, p1, p2⟩ := Utf.scal_parts h
  rw [Utf.oneL_1b h hp]
  unfold Utf.hiU Utf.loU
  have hsc : ∀ w, Calls Try.prog 20 #[.int .i64 p] w fun e w' => e = .returned (.bool true) ∧ w = w' := fun w => h ▸ refScalar_any p w
  have HC := Lib.hid hsc
  have HB : Hid (∀ z ∈ [(55296 + (p - 65536) / 1024) % 256, (55296 + (p - 65536) / 1024) / 256, (56320 + (p - 65536) % 1024) % 256, (56320 + (p - 65536) % 1024) / 256], 0 ≤ z ∧ z ≤ 255) := Lib.hid (by simp; omega)
  clear h hsc p2
  go_enter Try.func28, Try.ntmps28
  go_wp2_with (first
    | (go_at_call 20; refine (HC.out _).mono ?_; rintro e w1 ⟨rfl, rfl⟩)
    | (go_at_call 35; refine (text_new [(55296 + (p - 65536) / 1024) % 256, (55296 + (p - 65536) / 1024) / 256, (56320 + (p - 65536) % 1024) % 256, (56320 + (p - 65536) % 1024) / 256] (by simp) HB.out _).mono ?_; rintro e w1 ⟨rfl, hb⟩))
  go_ret
  exact ⟨rfl, hb⟩
theorem refOne_0a (p : Int) (h : Utf.scal p = true) (hp : p < 128) (w : World) :
    Calls Try.prog 28 #[.int .i64 0, .int .i64 p] w fun e w' => e = .returned (.string (strOfNums (Utf.oneL 0 p))) ∧ Below w.heap.size w w' := by
  obtain ⟨p0, p1, p2⟩ := Utf.scal_parts h
  rw [Utf.oneL_0a h hp]
  have hsc : ∀ w, Calls Try.prog 20 #[.int .i64 p] w fun e w' => e = .returned (.bool true) ∧ w = w' := fun w => h ▸ refScalar_any p w
  have HC := Lib.hid hsc
  have HB : Hid (∀ z ∈ [p], 0 ≤ z ∧ z ≤ 255) := Lib.hid (by simp; omega)
  clear h hsc p2
  go_enter Try.func28, Try.ntmps28
  go_wp2_with (first
    | (go_at_call 20; refine (HC.out _).mono ?_; rintro e w1 ⟨rfl, rfl⟩)
    | (go_at_call 35; refine (text_new [p] (by simp) HB.out _).mono ?_; rintro e w1 ⟨rfl, hb⟩))
  go_ret
  exact ⟨rfl, hb⟩
theorem refOne_0b (p : Int) (h : Utf.scal p = true) (hp : ¬ p < 128) (hp2 : p < 2048) (w : World) :
    Calls Try.prog 28 #[.int .i64 0, .int .i64 p] w fun e w' => e = .returned (.string (strOfNums (Utf.oneL 0 p))) ∧ Below w.heap.size w w' := by
  obtain ⟨p0, p1, p2⟩ := Utf.scal_parts h
  rw [Utf.oneL_0b h hp hp2]
  have hsc : ∀ w, Calls Try.prog 20 #[.int .i64 p] w fun e w' => e = .returned (.bool true) ∧ w = w' := fun w => h ▸ refScalar_any p w
  have HC := Lib.hid hsc
  have HB : Hid (∀ z ∈ [192 + p / 64, 128 + p % 64], 0 ≤ z ∧ z ≤ 255) := Lib.hid (by simp; omega)
  clear h hsc p2
  go_enter Try.func28, Try.ntmps28
  go_wp2_with (first
    | (go_at_call 20; refine (HC.out _).mono ?_; rintro e w1 ⟨rfl, rfl⟩)
    | (go_at_call 35; refine (text_new [192 + p / 64, 128 + p % 64] (by simp) HB.out _).mono ?_; rintro e w1 ⟨rfl, hb⟩))
  go_ret
  exact ⟨rfl, hb⟩
theorem refOne_0c (p : Int) (h : Utf.scal p = true) (hp : ¬ p < 2048) (hp2 : p < 65536) (w : World) :
    Calls Try.prog 28 #[.int .i64 0, .int .i64 p] w fun e w' => e = .returned (.string (strOfNums (Utf.oneL 0 p))) ∧ Below w.heap.size w w' := by
  obtain ⟨p0, p1, p2⟩ := Utf.scal_parts h
  rw [Utf.oneL_0c h hp hp2]
  have hsc : ∀ w, Calls Try.prog 20 #[.int .i64 p] w fun e w' => e = .returned (.bool true) ∧ w = w' := fun w => h ▸ refScalar_any p w
  have HC := Lib.hid hsc
  have HB : Hid (∀ z ∈ [224 + p / 4096, 128 + p / 64 % 64, 128 + p % 64], 0 ≤ z ∧ z ≤ 255) := Lib.hid (by simp; omega)
  clear h hsc p2
  go_enter Try.func28, Try.ntmps28
  go_wp2_with (first
    | (go_at_call 20; refine (HC.out _).mono ?_; rintro e w1 ⟨rfl, rfl⟩)
    | (go_at_call 35; refine (text_new [224 + p / 4096, 128 + p / 64 % 64, 128 + p % 64] (by simp) HB.out _).mono ?_; rintro e w1 ⟨rfl, hb⟩))
  go_ret
  exact ⟨rfl, hb⟩
theorem refOne_0d (p : Int) (h : Utf.scal p = true) (hp : ¬ p < 65536) (w : World) :
    Calls Try.prog 28 #[.int .i64 0, .int .i64 p] w fun e w' => e = .returned (.string (strOfNums (Utf.oneL 0 p))) ∧ Below w.heap.size w w' := by
  obtain ⟨p0, p1, p2⟩ := Utf.scal_parts h
  rw [Utf.oneL_0d h hp]
  have hsc : ∀ w, Calls Try.prog 20 #[.int .i64 p] w fun e w' => e = .returned (.bool true) ∧ w = w' := fun w => h ▸ refScalar_any p w
  have HC := Lib.hid hsc
  have HB : Hid (∀ z ∈ [240 + p / 262144, 128 + p / 4096 % 64, 128 + p / 64 % 64, 128 + p % 64], 0 ≤ z ∧ z ≤ 255) := Lib.hid (by simp; omega)
  clear h hsc p2
  go_enter Try.func28, Try.ntmps28
  go_wp2_with (first
    | (go_at_call 20; refine (HC.out _).mono ?_; rintro e w1 ⟨rfl, rfl⟩)
    | (go_at_call 35; refine (text_new [240 + p / 262144, 128 + p / 4096 % 64, 128 + p / 64 % 64, 128 + p % 64] (by simp) HB.out _).mono ?_; rintro e w1 ⟨rfl, hb⟩))
  go_ret
  exact ⟨rfl, hb⟩
theorem refOne_x (form p : Int) (h : Utf.scal p = true) (h0 : form ≠ 0) (h1 : form ≠ 1) (h2 : form ≠ 2) (w : World) :
    Calls Try.prog 28 #[.int .i64 form, .int .i64 p] w fun e w' => e = .returned (.string (strOfNums (Utf.oneL form p))) ∧ Below w.heap.size w w' := by
  rw [Utf.oneL_other h0 h1 h2]
  have hsc : ∀ w, Calls Try.prog 20 #[.int .i64 p] w fun e w' => e = .returned (.bool true) ∧ w = w' := fun w => h ▸ refScalar_any p w
  have HC := Lib.hid hsc
  have k0 : (form != 0) = true := by simpa using h0
  have k1 : (form == 1) = false := by simpa using h1
  have k2 : (form == 2) = false := by simpa using h2
  clear h hsc h0 h1 h2
  go_enter Try.func28, Try.ntmps28
  go_wp2_with (go_at_call 20; refine (HC.out _).mono ?_; rintro e w1 ⟨rfl, rfl⟩)
  go_ret
  exact ⟨rfl, Below.refl _ _⟩
theorem refOne_any (form p : Int) (w : World) :
    Calls Try.prog 28 #[.int .i64 form, .int .i64 p] w fun e w' => e = .returned (.string (strOfNums (Utf.oneL form p))) ∧ Below w.heap.size w w' := by
  by_cases h : Utf.scal p = true
  · by_cases h2 : form = 2
    · subst h2
      by_cases hp : 255 < p
      · exact refOne_2a p h hp w
      · exact refOne_2 p h hp w
    · by_cases h1 : form = 1
      · subst h1
        by_cases hp : p < 65536
        · exact refOne_1a p h hp w
        · exact refOne_1b p h hp w
      · by_cases h0 : form = 0
        · subst h0
          by_cases hp : p < 128
          · exact refOne_0a p h hp w
          · by_cases hp2 : p < 2048
            · exact refOne_0b p h hp hp2 w
            · by_cases hp3 : p < 65536
              · exact refOne_0c p h hp2 hp3 w
              · exact refOne_0d p h hp3 w
        · exact refOne_x form p h h0 h1 h2 w
  · exact refOne_no form p (not_true h) w
end Go.Proofs.Ytkmgngmpplgjnaa
