/- Texts of the proof of ModulePutsUptoProof, part 9. -/
import Derived.Lib.Strings
import Derived.Test.YtekonefnniaheaaGreatModulePutsUptoProofQ1
import Derived.Test.YtekonefnniaheaaGreatModulePutsUptoProofQ6
import Derived.Test.YtekonefnniaheaaGreatModulePutsUptoProofQ8
namespace Go.Proofs.YtekonefnniaheaaGreat
open Go.RowKit

theorem refScalar_any (p : Int) (w : World) :
    Calls Tryz.prog 160 #[.int .i64 p] w fun e w' => e = .returned (.bool (Utf.scal p)) ∧ w = w' := by
  by_cases h : Utf.scal p = true
  · have h' := Utf.scal_parts h
    rw [h]
    obtain ⟨h1, h2, h3⟩ := h'
    clear h
    rcases h3 with h3 | h3
    all_goals
      go_enter Tryz.func160, Tryz.ntmps160
      go_wp2
      go_ret
      exact ⟨rfl, rfl⟩
  · have h' : p < 0 ∨ 1114111 < p ∨ (55296 ≤ p ∧ p ≤ 57343) := by
      have hn : ¬ (0 ≤ p ∧ p ≤ 1114111 ∧ (p < 55296 ∨ 57343 < p)) := fun hp => h (decide_eq_true hp)
      omega
    rw [not_true h]
    clear h
    rcases h' with h | h | ⟨h, h2⟩
    all_goals
      go_enter Tryz.func160, Tryz.ntmps160
      go_wp2
      go_ret
      exact ⟨by first | rfl | (refine congrArg (fun c => Ending.returned (.bool c)) ?_; simp; omega), rfl⟩

/-- A buffer's bytes after k of them. -/
def TextRel (base : Nat) (zs : List Int) (w : World) (b i : Value) (wr : World) : Prop :=
  ∃ k : Nat, i = .int .i64 k ∧ k ≤ zs.length ∧ Bytes base b (zs.take k) wr ∧ Below base w wr

set_option maxHeartbeats 400000 in
theorem text_any (a : Option Addr) (cap : Nat) (zs : List Int) (w : World) (hv : View w a zs.length zs) (hlen : zs.length ≤ 10) (hr : ∀ i, i < zs.length → 0 ≤ zs.getD i 0 ∧ zs.getD i 0 ≤ 255) :
    Calls Tryz.prog 161 #[.slice a zs.length cap] w fun e w' => e = .returned (.string (strOfNums zs)) ∧ Below w.heap.size w w' := by
  obtain ⟨i0, hi, hz0, hz1, hz2⟩ := info_parts info_u8
  have HV := Lib.hid hv
  have HR := Lib.hid hr
  clear hv hr
  go_enter Tryz.func161, Tryz.ntmps161
  go_wp2_with fail
  go_loopw [3, 4] (fun b i wr => TextRel w.heap.size zs w b i wr) (fun _ i _ => zs.length - (intOf i).toNat)
  case atStart => exact ⟨0, rfl, by omega, World.ownsRow_nil _ _ _ _, Below.refl _ _⟩
  case round =>
    obtain ⟨k, rfl, hk, hby, hb⟩ := hrel
    have hsz := hb.size
    by_cases hlt : k < zs.length
    · obtain ⟨b, off, rfl, hc⟩ := HV.out.resolve_left (by omega)
      have hc1 := hc k hlt
      have hbl : b < w.heap.size := World.block_lt_of_cell? w _ hc1
      have hcr := (hb.cell (p := ⟨b, off + k, none⟩) hbl).trans hc1
      have htk : zs.take (k + 1) = zs.take k ++ [zs.getD k 0] := by
        rw [List.take_succ_eq_append_getElem hlt, List.getD_eq_getElem?_getD, List.getElem?_eq_getElem hlt]
        rfl
      have hz := HR.out k hlt
      have hln : (zs.take k).length = k := List.length_take_of_le hk
      clear hc hc1
      revert hcr htk hz
      generalize zs.getD k 0 = z
      intro hcr htk hz
      have HT := Lib.hid htk
      have q3 : (zs.take k).length + 1 ≤ maxLen := by unfold maxLen; omega
      have q4 : ((zs.take k).length + 1) * 1 ≤ 140737488355328 := by omega
      obtain ⟨hzl, hzh⟩ := hz
      clear htk hln
      go_wp2_with (at_builtin; refine wpList_append_own _ rfl _ _ 57 rfl w.heap.size 5 i0 (.int .u8 0) 1 1 Tryz.underlying57 hi hz0 hz1 hz2 rfl (by decide) _ (zs.take k).length ((zs.take k).map (Value.int .u8)) rfl (World.ownsRow.alloc hby _) ⟨wr.heap.size, 0, none⟩ 1 1 [.int .u8 z] rfl rfl (cell_one_new _ _ _) (one_u8 _) q3 q4 (le_alloc hsz) ?_; intro v' w1 hown1 hg1 _; clear q3 q4)
      have hby1 := Bytes.snoc hown1
      rw [← HT.out] at hby1
      exact ⟨⟨k + 1, by go_num, by omega, hby1, grown_below hby hb (Nat.le_refl _) hg1⟩, by simp [intOf]; omega⟩
    · have hke : k = zs.length := by omega
      subst hke
      rw [List.take_length] at hby
      have hcv := bytes_conv hby
      go_wp2_with fail
      go_ret
      exact ⟨rfl, hb⟩

theorem view_new (zs : List Int) (T : TypeId) (w : World) : View (w.alloc (.cells (zs.map (Value.int .i64)).toArray T)) (some ⟨w.heap.size, 0, none⟩) zs.length zs := by
  refine .inr ⟨w.heap.size, 0, rfl, fun i hi => ?_⟩
  rw [World.cell?_alloc_mark]
  simp [List.getElem?_eq_getElem hi]
/-- text of a slice that was just laid. -/
theorem text_new (zs : List Int) (hlen : zs.length ≤ 10) (hr : ∀ z ∈ zs, 0 ≤ z ∧ z ≤ 255) (w : World) :
    Calls Tryz.prog 161 #[.slice (some ⟨w.heap.size, 0, none⟩) zs.length zs.length] (w.alloc (.cells (zs.map (Value.int .i64)).toArray 3)) fun e w' => e = .returned (.string (strOfNums zs)) ∧ Below w.heap.size w w' := by
  refine (text_any _ _ zs _ (view_new zs _ w) hlen (fun i hi => ?_)).mono ?_
  · have hm : zs.getD i 0 ∈ zs := by
      rw [List.getD_eq_getElem?_getD, List.getElem?_eq_getElem hi]
      exact List.getElem_mem _
    exact hr _ hm
  · rintro e w' ⟨rfl, hb⟩
    exact ⟨rfl, ((Below.refl _ _).alloc (Nat.le_refl _) _).trans (hb.mono (by simp))⟩

theorem refOne_no (form p : Int) (h : Utf.scal p = false) (w : World) :
    Calls Tryz.prog 131 #[.int .i64 form, .int .i64 p] w fun e w' => e = .returned (.string (strOfNums (Utf.oneL form p))) ∧ Below w.heap.size w w' := by
  rw [Utf.oneL_no h]
  have hsc : ∀ w, Calls Tryz.prog 160 #[.int .i64 p] w fun e w' => e = .returned (.bool false) ∧ w = w' := fun w => h ▸ refScalar_any p w
  have HC := Lib.hid hsc
  clear h hsc
  go_enter Tryz.func131, Tryz.ntmps131
  go_wp2_with (go_at_call 160; refine (HC.out _).mono ?_; rintro e w1 ⟨rfl, rfl⟩)
  go_ret
  exact ⟨rfl, Below.refl _ _⟩
theorem refOne_2a (p : Int) (h : Utf.scal p = true) (hp : 255 < p) (w : World) :
    Calls Tryz.prog 131 #[.int .i64 2, .int .i64 p] w fun e w' => e = .returned (.string (strOfNums (Utf.oneL 2 p))) ∧ Below w.heap.size w w' := by
  rw [Utf.oneL_2a h hp]
  have hsc : ∀ w, Calls Tryz.prog 160 #[.int .i64 p] w fun e w' => e = .returned (.bool true) ∧ w = w' := fun w => h ▸ refScalar_any p w
  have HC := Lib.hid hsc
  clear h hsc
  go_enter Tryz.func131, Tryz.ntmps131
  go_wp2_with (go_at_call 160; refine (HC.out _).mono ?_; rintro e w1 ⟨rfl, rfl⟩)
  go_ret
  exact ⟨rfl, Below.refl _ _⟩
theorem refOne_2 (p : Int) (h : Utf.scal p = true) (hp : ¬ 255 < p) (w : World) :
    Calls Tryz.prog 131 #[.int .i64 2, .int .i64 p] w fun e w' => e = .returned (.string (strOfNums (Utf.oneL 2 p))) ∧ Below w.heap.size w w' := by
  obtain ⟨p0, p1, p2⟩ := Utf.scal_parts h
  rw [Utf.oneL_2 h hp]
  have hsc : ∀ w, Calls Tryz.prog 160 #[.int .i64 p] w fun e w' => e = .returned (.bool true) ∧ w = w' := fun w => h ▸ refScalar_any p w
  have HC := Lib.hid hsc
  have HB : Hid (∀ z ∈ [p], 0 ≤ z ∧ z ≤ 255) := Lib.hid (by simp; omega)
  clear h hsc p2
  go_enter Tryz.func131, Tryz.ntmps131
  go_wp2_with (first
    | (go_at_call 160; refine (HC.out _).mono ?_; rintro e w1 ⟨rfl, rfl⟩)
    | (go_at_call 161; refine (text_new [p] (by simp) HB.out _).mono ?_; rintro e w1 ⟨rfl, hb⟩))
  go_ret
  exact ⟨rfl, hb⟩
theorem refOne_1a (p : Int) (h : Utf.scal p = true) (hp : p < 65536) (w : World) :
    Calls Tryz.prog 131 #[.int .i64 1, .int .i64 p] w fun e w' => e = .returned (.string (strOfNums (Utf.oneL 1 p))) ∧ Below w.heap.size w w' := by
  obtain ⟨p0, p1, p2⟩ := Utf.scal_parts h
  rw [Utf.oneL_1a h hp]
  have hsc : ∀ w, Calls Tryz.prog 160 #[.int .i64 p] w fun e w' => e = .returned (.bool true) ∧ w = w' := fun w => h ▸ refScalar_any p w
  have HC := Lib.hid hsc
  have HB : Hid (∀ z ∈ [p % 256, p / 256], 0 ≤ z ∧ z ≤ 255) := Lib.hid (by simp; omega)
  clear h hsc p2
  go_enter Tryz.func131, Tryz.ntmps131
  go_wp2_with (first
    | (go_at_call 160; refine (HC.out _).mono ?_; rintro e w1 ⟨rfl, rfl⟩)
    | (go_at_call 161; refine (text_new [p % 256, p / 256] (by simp) HB.out _).mono ?_; rintro e w1 ⟨rfl, hb⟩))
  go_ret
  exact ⟨rfl, hb⟩
theorem refOne_1b (p : Int) (h : Utf.scal p = true) (hp : ¬ p < 65536) (w : World) :
    Calls Tryz.prog 131 #[.int .i64 1, .int .i64 p] w fun e w' => e = .returned (.string (strOfNums (Utf.oneL 1 p))) ∧ Below w.heap.size w w' := by
  obtain ⟨p0, p1, p2⟩ := Utf.scal_parts h
  rw [Utf.oneL_1b h hp]
  unfold Utf.hiU Utf.loU
  have hsc : ∀ w, Calls Tryz.prog 160 #[.int .i64 p] w fun e w' => e = .returned (.bool true) ∧ w = w' := fun w => h ▸ refScalar_any p w
  have HC := Lib.hid hsc
  have HB : Hid (∀ z ∈ [(55296 + (p - 65536) / 1024) % 256, (55296 + (p - 65536) / 1024) / 256, (56320 + (p - 65536) % 1024) % 256, (56320 + (p - 65536) % 1024) / 256], 0 ≤ z ∧ z ≤ 255) := Lib.hid (by simp; omega)
  clear h hsc p2
  go_enter Tryz.func131, Tryz.ntmps131
  go_wp2_with (first
    | (go_at_call 160; refine (HC.out _).mono ?_; rintro e w1 ⟨rfl, rfl⟩)
    | (go_at_call 161; refine (text_new [(55296 + (p - 65536) / 1024) % 256, (55296 + (p - 65536) / 1024) / 256, (56320 + (p - 65536) % 1024) % 256, (56320 + (p - 65536) % 1024) / 256] (by simp) HB.out _).mono ?_; rintro e w1 ⟨rfl, hb⟩))
  go_ret
  exact ⟨rfl, hb⟩
theorem refOne_0a (p : Int) (h : Utf.scal p = true) (hp : p < 128) (w : World) :
    Calls Tryz.prog 131 #[.int .i64 0, .int .i64 p] w fun e w' => e = .returned (.string (strOfNums (Utf.oneL 0 p))) ∧ Below w.heap.size w w' := by
  obtain ⟨p0, p1, p2⟩ := Utf.scal_parts h
  rw [Utf.oneL_0a h hp]
  have hsc : ∀ w, Calls Tryz.prog 160 #[.int .i64 p] w fun e w' => e = .returned (.bool true) ∧ w = w' := fun w => h ▸ refScalar_any p w
  have HC := Lib.hid hsc
  have HB : Hid (∀ z ∈ [p], 0 ≤ z ∧ z ≤ 255) := Lib.hid (by simp; omega)
  clear h hsc p2
  go_enter Tryz.func131, Tryz.ntmps131
  go_wp2_with (first
    | (go_at_call 160; refine (HC.out _).mono ?_; rintro e w1 ⟨rfl, rfl⟩)
    | (go_at_call 161; refine (text_new [p] (by simp) HB.out _).mono ?_; rintro e w1 ⟨rfl, hb⟩))
  go_ret
  exact ⟨rfl, hb⟩
theorem refOne_0b (p : Int) (h : Utf.scal p = true) (hp : ¬ p < 128) (hp2 : p < 2048) (w : World) :
    Calls Tryz.prog 131 #[.int .i64 0, .int .i64 p] w fun e w' => e = .returned (.string (strOfNums (Utf.oneL 0 p))) ∧ Below w.heap.size w w' := by
  obtain ⟨p0, p1, p2⟩ := Utf.scal_parts h
  rw [Utf.oneL_0b h hp hp2]
  have hsc : ∀ w, Calls Tryz.prog 160 #[.int .i64 p] w fun e w' => e = .returned (.bool true) ∧ w = w' := fun w => h ▸ refScalar_any p w
  have HC := Lib.hid hsc
  have HB : Hid (∀ z ∈ [192 + p / 64, 128 + p % 64], 0 ≤ z ∧ z ≤ 255) := Lib.hid (by simp; omega)
  clear h hsc p2
  go_enter Tryz.func131, Tryz.ntmps131
  go_wp2_with (first
    | (go_at_call 160; refine (HC.out _).mono ?_; rintro e w1 ⟨rfl, rfl⟩)
    | (go_at_call 161; refine (text_new [192 + p / 64, 128 + p % 64] (by simp) HB.out _).mono ?_; rintro e w1 ⟨rfl, hb⟩))
  go_ret
  exact ⟨rfl, hb⟩
theorem refOne_0c (p : Int) (h : Utf.scal p = true) (hp : ¬ p < 2048) (hp2 : p < 65536) (w : World) :
    Calls Tryz.prog 131 #[.int .i64 0, .int .i64 p] w fun e w' => e = .returned (.string (strOfNums (Utf.oneL 0 p))) ∧ Below w.heap.size w w' := by
  obtain ⟨p0, p1, p2⟩ := Utf.scal_parts h
  rw [Utf.oneL_0c h hp hp2]
  have hsc : ∀ w, Calls Tryz.prog 160 #[.int .i64 p] w fun e w' => e = .returned (.bool true) ∧ w = w' := fun w => h ▸ refScalar_any p w
  have HC := Lib.hid hsc
  have HB : Hid (∀ z ∈ [224 + p / 4096, 128 + p / 64 % 64, 128 + p % 64], 0 ≤ z ∧ z ≤ 255) := Lib.hid (by simp; omega)
  clear h hsc p2
  go_enter Tryz.func131, Tryz.ntmps131
  go_wp2_with (first
    | (go_at_call 160; refine (HC.out _).mono ?_; rintro e w1 ⟨rfl, rfl⟩)
    | (go_at_call 161; refine (text_new [224 + p / 4096, 128 + p / 64 % 64, 128 + p % 64] (by simp) HB.out _).mono ?_; rintro e w1 ⟨rfl, hb⟩))
  go_ret
  exact ⟨rfl, hb⟩
theorem refOne_0d (p : Int) (h : Utf.scal p = true) (hp : ¬ p < 65536) (w : World) :
    Calls Tryz.prog 131 #[.int .i64 0, .int .i64 p] w fun e w' => e = .returned (.string (strOfNums (Utf.oneL 0 p))) ∧ Below w.heap.size w w' := by
  obtain ⟨p0, p1, p2⟩ := Utf.scal_parts h
  rw [Utf.oneL_0d h hp]
  have hsc : ∀ w, Calls Tryz.prog 160 #[.int .i64 p] w fun e w' => e = .returned (.bool true) ∧ w = w' := fun w => h ▸ refScalar_any p w
  have HC := Lib.hid hsc
  have HB : Hid (∀ z ∈ [240 + p / 262144, 128 + p / 4096 % 64, 128 + p / 64 % 64, 128 + p % 64], 0 ≤ z ∧ z ≤ 255) := Lib.hid (by simp; omega)
  clear h hsc p2
  go_enter Tryz.func131, Tryz.ntmps131
  go_wp2_with (first
    | (go_at_call 160; refine (HC.out _).mono ?_; rintro e w1 ⟨rfl, rfl⟩)
    | (go_at_call 161; refine (text_new [240 + p / 262144, 128 + p / 4096 % 64, 128 + p / 64 % 64, 128 + p % 64] (by simp) HB.out _).mono ?_; rintro e w1 ⟨rfl, hb⟩))
  go_ret
  exact ⟨rfl, hb⟩
theorem refOne_x (form p : Int) (h : Utf.scal p = true) (h0 : form ≠ 0) (h1 : form ≠ 1) (h2 : form ≠ 2) (w : World) :
    Calls Tryz.prog 131 #[.int .i64 form, .int .i64 p] w fun e w' => e = .returned (.string (strOfNums (Utf.oneL form p))) ∧ Below w.heap.size w w' := by
  rw [Utf.oneL_other h0 h1 h2]
  have hsc : ∀ w, Calls Tryz.prog 160 #[.int .i64 p] w fun e w' => e = .returned (.bool true) ∧ w = w' := fun w => h ▸ refScalar_any p w
  have HC := Lib.hid hsc
  have k0 : (form != 0) = true := by simpa using h0
  have k1 : (form == 1) = false := by simpa using h1
  have k2 : (form == 2) = false := by simpa using h2
  clear h hsc h0 h1 h2
  go_enter Tryz.func131, Tryz.ntmps131
  go_wp2_with (go_at_call 160; refine (HC.out _).mono ?_; rintro e w1 ⟨rfl, rfl⟩)
  go_ret
  exact ⟨rfl, Below.refl _ _⟩
theorem refOne_any (form p : Int) (w : World) :
    Calls Tryz.prog 131 #[.int .i64 form, .int .i64 p] w fun e w' => e = .returned (.string (strOfNums (Utf.oneL form p))) ∧ Below w.heap.size w w' := by
  by_cases h : Utf.scal p = true
  · by_cases h2 : form = 2
    · subst h2
      by_cases hp : 255 < p
      · exact refOne_2a p h hp w
      · exact refOne_2 p h hp w
    · by_cases h1 : form = 1
      · subst h1
        by_cases hp : p < 65536
        · exact refOne_1a p h hp w
        · exact refOne_1b p h hp w
      · by_cases h0 : form = 0
        · subst h0
          by_cases hp : p < 128
          · exact refOne_0a p h hp w
          · by_cases hp2 : p < 2048
            · exact refOne_0b p h hp hp2 w
            · by_cases hp3 : p < 65536
              · exact refOne_0c p h hp2 hp3 w
              · exact refOne_0d p h hp3 w
        · exact refOne_x form p h h0 h1 h2 w
  · exact refOne_no form p (not_true h) w
end Go.Proofs.YtekonefnniaheaaGreat
namespace Go.Proofs.YtekonefnniaheaaGreat
namespace Utf

theorem oneL_length (form p : Int) : (oneL form p).length ≤ 4 := by
  unfold oneL
  repeat' split
  all_goals simp

/-- The shapes of a character's bytes, by forms. -/
theorem shape2 {p : Int} (h : oneL 2 p ≠ []) : oneL 2 p = [p] ∧ 0 ≤ p ∧ p ≤ 255 := by
  by_cases hs : scal p = true
  · have h' := scal_parts hs
    by_cases hp : 255 < p
    · exact absurd (oneL_2a hs hp) h
    · exact ⟨oneL_2 hs hp, by omega, by omega⟩
  · exact absurd (oneL_no (by cases hb : scal p <;> simp_all)) h
theorem shape1 {p : Int} (h : oneL 1 p ≠ []) : (oneL 1 p = [p % 256, p / 256] ∧ 0 ≤ p ∧ p < 65536 ∧ (p < 55296 ∨ 57343 < p)) ∨
    (oneL 1 p = [hiU p % 256, hiU p / 256, loU p % 256, loU p / 256] ∧ 65536 ≤ p ∧ p ≤ 1114111) := by
  by_cases hs : scal p = true
  · have h' := scal_parts hs
    by_cases hp : p < 65536
    · exact .inl ⟨oneL_1a hs hp, by omega, by omega, by omega⟩
    · exact .inr ⟨oneL_1b hs hp, by omega, by omega⟩
  · exact absurd (oneL_no (by cases hb : scal p <;> simp_all)) h
theorem shape0 {p : Int} (h : oneL 0 p ≠ []) : (oneL 0 p = [p] ∧ 0 ≤ p ∧ p < 128) ∨ (oneL 0 p = [192 + p / 64, 128 + p % 64] ∧ 128 ≤ p ∧ p < 2048) ∨
    (oneL 0 p = [224 + p / 4096, 128 + p / 64 % 64, 128 + p % 64] ∧ 2048 ≤ p ∧ p < 65536) ∨
    (oneL 0 p = [240 + p / 262144, 128 + p / 4096 % 64, 128 + p / 64 % 64, 128 + p % 64] ∧ 65536 ≤ p ∧ p ≤ 1114111) := by
  by_cases hs : scal p = true
  · have h' := scal_parts hs
    by_cases h1 : p < 128
    · exact .inl ⟨oneL_0a hs h1, by omega, h1⟩
    · by_cases h2 : p < 2048
      · exact .inr (.inl ⟨oneL_0b hs h1 h2, by omega, h2⟩)
      · by_cases h3 : p < 65536
        · exact .inr (.inr (.inl ⟨oneL_0c hs h2 h3, by omega, h3⟩))
        · exact .inr (.inr (.inr ⟨oneL_0d hs h3, by omega, by omega⟩))
  · exact absurd (oneL_no (by cases hb : scal p <;> simp_all)) h
theorem form_of {form p : Int} (h : oneL form p ≠ []) : form = 0 ∨ form = 1 ∨ form = 2 := by
  by_cases h0 : form = 0
  · exact .inl h0
  · by_cases h1 : form = 1
    · exact .inr (.inl h1)
    · by_cases h2 : form = 2
      · exact .inr (.inr h2)
      · exact absurd (oneL_other h0 h1 h2) h

/-- What a character would be whose bytes l begins with, if it has so many. -/
def guessL (form : Int) (l : List Int) (n : Nat) : Int :=
  if n = 1 then l.getD 0 0
  else if form = 1 then
    (if n = 2 then l.getD 0 0 + 256 * l.getD 1 0 else if n = 3 then -1
     else 65536 + (l.getD 0 0 + 256 * l.getD 1 0 - 55296) * 1024 + l.getD 2 0 + 256 * l.getD 3 0 - 56320)
  else if n = 2 then l.getD 0 0 % 32 * 64 + l.getD 1 0 % 64
  else if n = 3 then l.getD 0 0 % 16 * 4096 + l.getD 1 0 % 64 * 64 + l.getD 2 0 % 64
  else l.getD 0 0 % 8 * 262144 + l.getD 1 0 % 64 * 4096 + l.getD 2 0 % 64 * 64 + l.getD 3 0 % 64

theorem guess_ok {form p : Int} (x : List Int) (h : oneL form p ≠ []) : guessL form (oneL form p ++ x) (oneL form p).length = p := by
  rcases form_of h with rfl | rfl | rfl
  · rcases shape0 h with ⟨e, h1, h2⟩ | ⟨e, h1, h2⟩ | ⟨e, h1, h2⟩ | ⟨e, h1, h2⟩
    all_goals
      rw [e]
      simp [guessL]
      try omega
  · rcases shape1 h with ⟨e, h1, h2, h3⟩ | ⟨e, h1, h2⟩
    · rw [e]
      simp [guessL]
      omega
    · rw [e]
      simp [guessL, hiU, loU]
      omega
  · obtain ⟨e, h1, h2⟩ := shape2 h
    rw [e]
    simp [guessL]

/-- No character's bytes begin with another one's. -/
theorem uniq {form p q : Int} {x y : List Int} (hp : oneL form p ≠ []) (hq : oneL form q ≠ []) (h : oneL form p ++ x = oneL form q ++ y) : p = q := by
  have hl : (oneL form p).length = (oneL form q).length := by
    rcases form_of hp with rfl | rfl | rfl
    · rcases shape0 hp with ⟨e, h1, h2⟩ | ⟨e, h1, h2⟩ | ⟨e, h1, h2⟩ | ⟨e, h1, h2⟩ <;>
        rcases shape0 hq with ⟨f, h3, h4⟩ | ⟨f, h3, h4⟩ | ⟨f, h3, h4⟩ | ⟨f, h3, h4⟩ <;>
        (rw [e, f] at h; rw [e, f]; simp at h ⊢; try omega)
    · rcases shape1 hp with ⟨e, h1, h2, h3⟩ | ⟨e, h1, h2⟩ <;>
        rcases shape1 hq with ⟨f, h4, h5, h6⟩ | ⟨f, h4, h5⟩ <;>
        (rw [e, f] at h; rw [e, f]; simp [hiU, loU] at h ⊢; try omega)
    · obtain ⟨e, h1, h2⟩ := shape2 hp
      obtain ⟨f, h3, h4⟩ := shape2 hq
      rw [e, f]
      rfl
  have g1 := guess_ok x hp
  have g2 := guess_ok y hq
  rw [h, hl, g2] at g1
  exact g1.symm

def catL (form : Int) (zs : List Int) : List Int := zs.flatMap (oneL form)
def allW (form : Int) (zs : List Int) : Bool := zs.all fun z => decide (oneL form z ≠ [])
def inForm (form : Int) : Bool := decide (0 ≤ form ∧ form ≤ 2)
theorem take_next {zs : List Int} {k : Nat} (h : k < zs.length) : zs.take (k + 1) = zs.take k ++ [zs.getD k 0] := by
  rw [List.take_succ_eq_append_getElem h, List.getD_eq_getElem?_getD, List.getElem?_eq_getElem h]
  rfl
theorem toList_ne {l : List Int} (h : l ≠ []) : (strOfNums l).toList.isEmpty = false := by
  rw [ByteArray.toList_eq, strOfNums_data]
  cases l with
  | nil => exact absurd rfl h
  | cons a l => rfl

/-- These bytes are those of these characters. -/
def Reads (form : Int) (l ps : List Int) : Prop := inForm form = true ∧ allW form ps = true ∧ catL form ps = l
theorem catL_cons (form p : Int) (ps : List Int) : catL form (p :: ps) = oneL form p ++ catL form ps := by
  unfold catL
  rw [List.flatMap_cons]
theorem allW_cons {form p : Int} {ps : List Int} (h : allW form (p :: ps) = true) : oneL form p ≠ [] ∧ allW form ps = true := by
  unfold allW at h ⊢
  rw [List.all_cons, Bool.and_eq_true] at h
  exact ⟨of_decide_eq_true h.1, h.2⟩
theorem allW_snoc {form p : Int} {ps : List Int} (h : allW form ps = true) (hp : oneL form p ≠ []) : allW form (ps ++ [p]) = true := by
  unfold allW at h ⊢
  rw [List.all_append, h, List.all_cons, List.all_nil, decide_eq_true hp]
  rfl
theorem catL_snoc (form p : Int) (ps : List Int) : catL form (ps ++ [p]) = catL form ps ++ oneL form p := by
  unfold catL
  rw [List.flatMap_append, List.flatMap_cons, List.flatMap_nil, List.append_nil]
/-- Two lists of characters, the one's bytes behind the other's beginning. -/
theorem cat_uniq (form : Int) : ∀ (ps qs x : List Int), allW form ps = true → allW form qs = true → catL form qs = catL form ps ++ x → ∃ rs, qs = ps ++ rs ∧ catL form rs = x ∧ allW form rs = true := by
  intro ps
  induction ps with
  | nil => intro qs x _ hq h; exact ⟨qs, rfl, by simpa [catL] using h, hq⟩
  | cons p ps ih =>
    intro qs x hp hq h
    obtain ⟨hp1, hp2⟩ := allW_cons hp
    cases qs with
    | nil =>
      exfalso
      rw [catL_cons, List.append_assoc] at h
      have hl := congrArg List.length h
      have h0 : 0 < (oneL form p).length := List.length_pos_iff.2 hp1
      simp [catL] at hl
      omega
    | cons q qs =>
      obtain ⟨hq1, hq2⟩ := allW_cons hq
      rw [catL_cons, catL_cons, List.append_assoc] at h
      have e := uniq hq1 hp1 h
      subst e
      obtain ⟨rs, h1, h2, h3⟩ := ih qs x hp2 hq2 (List.append_cancel_left h)
      exact ⟨rs, by rw [h1]; rfl, h2, h3⟩
/-- Are the first k bytes a character's? -/
def hitB (form : Int) (l : List Int) (k : Nat) : Bool := decide (k ≤ l.length ∧ oneL form (guessL form l k) = l.take k)
theorem hit_yes {form : Int} {l : List Int} {k : Nat} (hk : 1 ≤ k) (h : hitB form l k = true) : oneL form (guessL form l k) ≠ [] ∧ l = oneL form (guessL form l k) ++ l.drop k := by
  obtain ⟨h1, h2⟩ : k ≤ l.length ∧ oneL form (guessL form l k) = l.take k := of_decide_eq_true h
  constructor
  · intro h0
    rw [h0] at h2
    have hl := congrArg List.length h2
    rw [List.length_take] at hl
    simp at hl
    omega
  · rw [h2, List.take_append_drop]
theorem hit_of {form p : Int} (x : List Int) (h : oneL form p ≠ []) : hitB form (oneL form p ++ x) (oneL form p).length = true := by
  refine decide_eq_true ⟨by rw [List.length_append]; omega, ?_⟩
  rw [guess_ok x h, List.take_left]
/-- No character's bytes stand at the beginning. -/
def NoHead (form : Int) (l : List Int) : Prop := ∀ p x, oneL form p ≠ [] → l ≠ oneL form p ++ x
theorem noHead_of {form : Int} {l : List Int} (h : ∀ k, 1 ≤ k → k ≤ 4 → k ≤ l.length → hitB form l k = false) : NoHead form l := by
  intro p x hp e
  have h1 := hit_of x hp
  rw [← e] at h1
  have h0 : 0 < (oneL form p).length := List.length_pos_iff.2 hp
  have h4 := oneL_length form p
  have hl : (oneL form p).length ≤ l.length := by rw [e, List.length_append]; omega
  rw [h _ h0 h4 hl] at h1
  cases h1
/-- Behind some characters none stands any more: they are none. -/
theorem reads_none {form : Int} {ps l : List Int} (hp : allW form ps = true) (hl : l ≠ []) (hn : NoHead form l) : ∀ qs, ¬ Reads form (catL form ps ++ l) qs := by
  rintro qs ⟨_, hq1, hq2⟩
  obtain ⟨rs, h1, h2, h3⟩ := cat_uniq form ps qs l hp hq1 hq2
  cases rs with
  | nil => exact hl (by rw [← h2]; rfl)
  | cons r rs =>
    rw [catL_cons] at h2
    exact hn r _ (allW_cons h3).1 h2.symm
theorem reads_form {form : Int} (h : inForm form = false) (l : List Int) : ∀ qs, ¬ Reads form l qs := by
  rintro qs ⟨h1, _⟩
  rw [h] at h1
  cases h1
end Utf
end Go.Proofs.YtekonefnniaheaaGreat
namespace Go.Proofs.YtekonefnniaheaaGreat
open Go.RowKit

/-- A text's bytes as numbers. -/
def bl (s : ByteArray) : List Int := s.data.toList.map fun b => (b.toNat : Int)
theorem bl_length (s : ByteArray) : (bl s).length = s.size := by
  unfold bl
  rw [List.length_map, Array.length_toList]
  rfl
theorem bl_get (s : ByteArray) (i : Nat) (h : i < s.size) : (bl s).getD i 0 = (s[i].toNat : Int) := by
  have h' : i < s.data.toList.length := by rw [Array.length_toList]; exact h
  unfold bl
  rw [List.getD_eq_getElem?_getD, List.getElem?_map, List.getElem?_eq_getElem h']
  rfl
theorem bl_back (s : ByteArray) : strOfNums (bl s) = s := by
  unfold strOfNums bl
  rw [List.map_map]
  have e : ((fun n : Int => UInt8.ofNat n.toNat) ∘ fun b : UInt8 => (b.toNat : Int)) = id := by
    funext b
    simp
  rw [e, List.map_id]
theorem bl_str (l : List Int) (h : ∀ z ∈ l, 0 ≤ z ∧ z ≤ 255) : bl (strOfNums l) = l := by
  unfold bl
  rw [strOfNums_data, List.map_map]
  have e : ∀ z ∈ l, ((fun b : UInt8 => (b.toNat : Int)) ∘ fun n : Int => UInt8.ofNat n.toNat) z = z := by
    intro z hz
    have := h z hz
    simp
    omega
  rw [List.map_congr_left e, List.map_id']
theorem bl_drop (s : ByteArray) (k : Nat) : bl (s.extract k s.size) = (bl s).drop k := by
  unfold bl
  rw [Lib.extract_data, List.map_take, List.map_drop, List.take_of_length_le]
  rw [List.length_drop, List.length_map, Array.length_toList]
  exact Nat.le_refl _
theorem bl_take (s : ByteArray) (k : Nat) : bl (s.extract 0 k) = (bl s).take k := by
  unfold bl
  rw [Lib.extract_data, List.map_take, List.drop_zero, Nat.sub_zero]
theorem bl_nil {s : ByteArray} (h : bl s = []) : s.size = 0 := by rw [← bl_length, h]; rfl

theorem oneL_byte (form p : Int) : ∀ z ∈ Utf.oneL form p, 0 ≤ z ∧ z ≤ 255 := by
  intro z hz
  have hne : Utf.oneL form p ≠ [] := fun h => by rw [h] at hz; cases hz
  rcases Utf.form_of hne with rfl | rfl | rfl
  · rcases Utf.shape0 hne with ⟨e, h1, h2⟩ | ⟨e, h1, h2⟩ | ⟨e, h1, h2⟩ | ⟨e, h1, h2⟩ <;> (rw [e] at hz; simp at hz; omega)
  · rcases Utf.shape1 hne with ⟨e, h1, h2, _⟩ | ⟨e, h1, h2⟩ <;> (rw [e] at hz; simp [Utf.hiU, Utf.loU] at hz; omega)
  · obtain ⟨e, h1, h2⟩ := Utf.shape2 hne
    rw [e] at hz
    simp at hz
    omega
theorem hit_eq {form : Int} {s : ByteArray} {k : Nat} (hk : k ≤ s.size) : (strOfNums (Utf.oneL form (Utf.guessL form (bl s) k)) = s.extract 0 k) ↔ Utf.hitB form (bl s) k = true := by
  unfold Utf.hitB
  rw [decide_eq_true_iff, bl_length]
  constructor
  · intro h
    refine ⟨hk, ?_⟩
    have := congrArg bl h
    rw [bl_str _ (oneL_byte _ _), bl_take] at this
    exact this
  · rintro ⟨_, h⟩
    rw [h, ← bl_take, bl_back]

set_option maxRecDepth 100000 in
theorem guess_1 (form : Int) (s : ByteArray) (hs : 1 ≤ s.size) (w : World) :
    Calls Tryz.prog 130 #[.int .i64 form, .string s, .int .i64 1] w fun e w' => e = .returned (.int .i64 (Utf.guessL form (bl s) 1)) ∧ Below w.heap.size w w' := by
  obtain ⟨B0, e0⟩ : ∃ B : Nat, s[0].toNat = B := ⟨_, rfl⟩
  have g0 := bl_get s 0 (by omega)
  have b0 : B0 < 256 := e0 ▸ UInt8.toNat_lt _
  rw [e0] at g0
  have HG : Hid (Utf.guessL form (bl s) 1 = (B0 : Int)) := Lib.hid (by unfold Utf.guessL; rw [if_pos rfl, g0])
  clear g0
  go_enter Tryz.func130, Tryz.ntmps130
  go_wp2_with fail
  go_ret
  rw [HG.out]
  exact ⟨rfl, Below.refl _ _⟩
set_option maxRecDepth 100000 in
theorem guess_u2 (s : ByteArray) (hs : 2 ≤ s.size) (w : World) :
    Calls Tryz.prog 130 #[.int .i64 1, .string s, .int .i64 2] w fun e w' => e = .returned (.int .i64 (Utf.guessL 1 (bl s) 2)) ∧ Below w.heap.size w w' := by
  obtain ⟨B0, e0⟩ : ∃ B : Nat, s[0].toNat = B := ⟨_, rfl⟩
  have g0 := bl_get s 0 (by omega)
  have b0 : B0 < 256 := e0 ▸ UInt8.toNat_lt _
  rw [e0] at g0
  obtain ⟨B1, e1⟩ : ∃ B : Nat, s[1].toNat = B := ⟨_, rfl⟩
  have g1 := bl_get s 1 (by omega)
  have b1 : B1 < 256 := e1 ▸ UInt8.toNat_lt _
  rw [e1] at g1
  have HG : Hid (Utf.guessL 1 (bl s) 2 = (B0 : Int) + 256 * (B1 : Int)) := Lib.hid (by unfold Utf.guessL; rw [if_neg (by decide), if_pos rfl, if_pos rfl, g0, g1])
  clear g0 g1
  go_enter Tryz.func130, Tryz.ntmps130
  go_wp2_with fail
  go_ret
  rw [HG.out]
  exact ⟨rfl, Below.refl _ _⟩
set_option maxRecDepth 100000 in
theorem guess_u3 (s : ByteArray) (hs : 3 ≤ s.size) (w : World) :
    Calls Tryz.prog 130 #[.int .i64 1, .string s, .int .i64 3] w fun e w' => e = .returned (.int .i64 (Utf.guessL 1 (bl s) 3)) ∧ Below w.heap.size w w' := by
  obtain ⟨B0, e0⟩ : ∃ B : Nat, s[0].toNat = B := ⟨_, rfl⟩
  have g0 := bl_get s 0 (by omega)
  have b0 : B0 < 256 := e0 ▸ UInt8.toNat_lt _
  rw [e0] at g0
  obtain ⟨B1, e1⟩ : ∃ B : Nat, s[1].toNat = B := ⟨_, rfl⟩
  have g1 := bl_get s 1 (by omega)
  have b1 : B1 < 256 := e1 ▸ UInt8.toNat_lt _
  rw [e1] at g1
  have HG : Hid (Utf.guessL 1 (bl s) 3 = -1) := Lib.hid (by unfold Utf.guessL; rw [if_neg (by decide), if_pos rfl, if_neg (by decide), if_pos rfl])
  clear g0 g1
  go_enter Tryz.func130, Tryz.ntmps130
  go_wp2_with fail
  go_ret
  rw [HG.out]
  exact ⟨rfl, Below.refl _ _⟩
set_option maxRecDepth 100000 in
theorem guess_u4 (s : ByteArray) (hs : 4 ≤ s.size) (w : World) :
    Calls Tryz.prog 130 #[.int .i64 1, .string s, .int .i64 4] w fun e w' => e = .returned (.int .i64 (Utf.guessL 1 (bl s) 4)) ∧ Below w.heap.size w w' := by
  obtain ⟨B0, e0⟩ : ∃ B : Nat, s[0].toNat = B := ⟨_, rfl⟩
  have g0 := bl_get s 0 (by omega)
  have b0 : B0 < 256 := e0 ▸ UInt8.toNat_lt _
  rw [e0] at g0
  obtain ⟨B1, e1⟩ : ∃ B : Nat, s[1].toNat = B := ⟨_, rfl⟩
  have g1 := bl_get s 1 (by omega)
  have b1 : B1 < 256 := e1 ▸ UInt8.toNat_lt _
  rw [e1] at g1
  obtain ⟨B2, e2⟩ : ∃ B : Nat, s[2].toNat = B := ⟨_, rfl⟩
  have g2 := bl_get s 2 (by omega)
  have b2 : B2 < 256 := e2 ▸ UInt8.toNat_lt _
  rw [e2] at g2
  obtain ⟨B3, e3⟩ : ∃ B : Nat, s[3].toNat = B := ⟨_, rfl⟩
  have g3 := bl_get s 3 (by omega)
  have b3 : B3 < 256 := e3 ▸ UInt8.toNat_lt _
  rw [e3] at g3
  have HG : Hid (Utf.guessL 1 (bl s) 4 = 65536 + ((B0 : Int) + 256 * (B1 : Int) - 55296) * 1024 + (B2 : Int) + 256 * (B3 : Int) - 56320) := Lib.hid (by unfold Utf.guessL; rw [if_neg (by decide), if_pos rfl, if_neg (by decide), if_neg (by decide), g0, g1, g2, g3])
  clear g0 g1 g2 g3
  go_enter Tryz.func130, Tryz.ntmps130
  go_wp2_with fail
  go_quiet (fail)
  go_wp2
  go_ret
  rw [HG.out]
  exact ⟨rfl, below_drewN (Below.refl _ _) _⟩
set_option maxRecDepth 100000 in
theorem guess_b2 (form : Int) (hf : form ≠ 1) (s : ByteArray) (hs : 2 ≤ s.size) (w : World) :
    Calls Tryz.prog 130 #[.int .i64 form, .string s, .int .i64 2] w fun e w' => e = .returned (.int .i64 (Utf.guessL form (bl s) 2)) ∧ Below w.heap.size w w' := by
  obtain ⟨B0, e0⟩ : ∃ B : Nat, s[0].toNat = B := ⟨_, rfl⟩
  have g0 := bl_get s 0 (by omega)
  have b0 : B0 < 256 := e0 ▸ UInt8.toNat_lt _
  rw [e0] at g0
  obtain ⟨B1, e1⟩ : ∃ B : Nat, s[1].toNat = B := ⟨_, rfl⟩
  have g1 := bl_get s 1 (by omega)
  have b1 : B1 < 256 := e1 ▸ UInt8.toNat_lt _
  rw [e1] at g1
  have HG : Hid (Utf.guessL form (bl s) 2 = (B0 : Int) % 32 * 64 + (B1 : Int) % 64) := Lib.hid (by unfold Utf.guessL; rw [if_neg (by decide), if_neg hf, if_pos rfl, g0, g1])
  have f1 : (form == 1) = false := by simpa using hf
  clear g0 g1 hf
  go_enter Tryz.func130, Tryz.ntmps130
  go_wp2_with fail
  go_ret
  rw [HG.out]
  exact ⟨rfl, Below.refl _ _⟩
set_option maxRecDepth 100000 in
theorem guess_b3 (form : Int) (hf : form ≠ 1) (s : ByteArray) (hs : 3 ≤ s.size) (w : World) :
    Calls Tryz.prog 130 #[.int .i64 form, .string s, .int .i64 3] w fun e w' => e = .returned (.int .i64 (Utf.guessL form (bl s) 3)) ∧ Below w.heap.size w w' := by
  obtain ⟨B0, e0⟩ : ∃ B : Nat, s[0].toNat = B := ⟨_, rfl⟩
  have g0 := bl_get s 0 (by omega)
  have b0 : B0 < 256 := e0 ▸ UInt8.toNat_lt _
  rw [e0] at g0
  obtain ⟨B1, e1⟩ : ∃ B : Nat, s[1].toNat = B := ⟨_, rfl⟩
  have g1 := bl_get s 1 (by omega)
  have b1 : B1 < 256 := e1 ▸ UInt8.toNat_lt _
  rw [e1] at g1
  obtain ⟨B2, e2⟩ : ∃ B : Nat, s[2].toNat = B := ⟨_, rfl⟩
  have g2 := bl_get s 2 (by omega)
  have b2 : B2 < 256 := e2 ▸ UInt8.toNat_lt _
  rw [e2] at g2
  have HG : Hid (Utf.guessL form (bl s) 3 = (B0 : Int) % 16 * 4096 + (B1 : Int) % 64 * 64 + (B2 : Int) % 64) := Lib.hid (by unfold Utf.guessL; rw [if_neg (by decide), if_neg hf, if_neg (by decide), if_pos rfl, g0, g1, g2])
  have f1 : (form == 1) = false := by simpa using hf
  clear g0 g1 g2 hf
  go_enter Tryz.func130, Tryz.ntmps130
  go_wp2_with fail
  go_ret
  rw [HG.out]
  exact ⟨rfl, Below.refl _ _⟩
set_option maxRecDepth 100000 in
theorem guess_b4 (form : Int) (hf : form ≠ 1) (s : ByteArray) (hs : 4 ≤ s.size) (w : World) :
    Calls Tryz.prog 130 #[.int .i64 form, .string s, .int .i64 4] w fun e w' => e = .returned (.int .i64 (Utf.guessL form (bl s) 4)) ∧ Below w.heap.size w w' := by
  obtain ⟨B0, e0⟩ : ∃ B : Nat, s[0].toNat = B := ⟨_, rfl⟩
  have g0 := bl_get s 0 (by omega)
  have b0 : B0 < 256 := e0 ▸ UInt8.toNat_lt _
  rw [e0] at g0
  obtain ⟨B1, e1⟩ : ∃ B : Nat, s[1].toNat = B := ⟨_, rfl⟩
  have g1 := bl_get s 1 (by omega)
  have b1 : B1 < 256 := e1 ▸ UInt8.toNat_lt _
  rw [e1] at g1
  obtain ⟨B2, e2⟩ : ∃ B : Nat, s[2].toNat = B := ⟨_, rfl⟩
  have g2 := bl_get s 2 (by omega)
  have b2 : B2 < 256 := e2 ▸ UInt8.toNat_lt _
  rw [e2] at g2
  obtain ⟨B3, e3⟩ : ∃ B : Nat, s[3].toNat = B := ⟨_, rfl⟩
  have g3 := bl_get s 3 (by omega)
  have b3 : B3 < 256 := e3 ▸ UInt8.toNat_lt _
  rw [e3] at g3
  have HG : Hid (Utf.guessL form (bl s) 4 = (B0 : Int) % 8 * 262144 + (B1 : Int) % 64 * 4096 + (B2 : Int) % 64 * 64 + (B3 : Int) % 64) := Lib.hid (by unfold Utf.guessL; rw [if_neg (by decide), if_neg hf, if_neg (by decide), if_neg (by decide), g0, g1, g2, g3])
  have f1 : (form == 1) = false := by simpa using hf
  clear g0 g1 g2 g3 hf
  go_enter Tryz.func130, Tryz.ntmps130
  go_wp2_with fail
  go_quiet (fail)
  go_wp2
  go_ret
  rw [HG.out]
  exact ⟨rfl, below_drewN (Below.refl _ _) _⟩
theorem guess_any (form : Int) (s : ByteArray) (n : Nat) (h1 : 1 ≤ n) (h4 : n ≤ 4) (hs : n ≤ s.size) (w : World) :
    Calls Tryz.prog 130 #[.int .i64 form, .string s, .int .i64 n] w fun e w' => e = .returned (.int .i64 (Utf.guessL form (bl s) n)) ∧ Below w.heap.size w w' := by
  have hn : n = 1 ∨ n = 2 ∨ n = 3 ∨ n = 4 := by omega
  by_cases hf : form = 1
  · subst hf
    rcases hn with rfl | rfl | rfl | rfl
    · exact guess_1 1 s hs w
    · exact guess_u2 s hs w
    · exact guess_u3 s hs w
    · exact guess_u4 s hs w
  · rcases hn with rfl | rfl | rfl | rfl
    · exact guess_1 form s hs w
    · exact guess_b2 form hf s hs w
    · exact guess_b3 form hf s hs w
    · exact guess_b4 form hf s hs w
end Go.Proofs.YtekonefnniaheaaGreat
namespace Go.Proofs.YtekonefnniaheaaGreat
open Go.RowKit Go.Deep
open Leb (putU putS)

/-- What is laid so far; was something refused; were there too many bytes. -/
structure Lay where
  xs : List Int
  no : Bool
  full : Bool
def needP (s : Lay) (h : Bool) : Lay := { s with no := s.no || !h }
def putP (s : Lay) (b : List Int) : Lay := if s.full = true ∨ 65536 < s.xs.length + b.length then { s with full := true } else { s with xs := s.xs ++ b }
def byteP (s : Lay) (n : Int) : Lay := putP s [n % 256]
def bytesP (s : Lay) (b : List Int) : Lay := putP (putP s (putU b.length)) b
def indexP (s : Lay) (n : Int) : Lay := putP (needP s (decide (0 ≤ n ∧ n ≤ 4294967295))) (putU n)
/-- The block of a layer's buffer. -/
def bufOf (w : World) (l : Nat) : Option Nat := match w.cell? ⟨l, 0, none⟩ with
  | some v => v.ownBlock
  | none => none
/-- What a layer's call keeps: all blocks but the layer's own and its buffer's; none of these becomes its buffer. -/
structure KeepL (l : Nat) (w w' : World) : Prop where
  os : w'.os = w.os
  tape : w'.tape = w.tape
  output : w'.output = w.output
  size : w.heap.size ≤ w'.heap.size
  block : ∀ k, k < w.heap.size → k ≠ l → some k ≠ bufOf w l → w'.heap[k]? = w.heap[k]? ∧ some k ≠ bufOf w' l
theorem KeepL.refl (l : Nat) (w : World) : KeepL l w w := ⟨rfl, rfl, rfl, Nat.le_refl _, fun _ _ _ h => ⟨rfl, h⟩⟩
theorem KeepL.trans {l : Nat} {a b c : World} (h : KeepL l a b) (k : KeepL l b c) : KeepL l a c :=
  ⟨k.os.trans h.os, k.tape.trans h.tape, k.output.trans h.output, Nat.le_trans h.size k.size, fun i hi hl hb => by
    obtain ⟨h1, h2⟩ := h.block i hi hl hb
    obtain ⟨k1, k2⟩ := k.block i (Nat.lt_of_lt_of_le hi h.size) hl h2
    exact ⟨k1.trans h1, k2⟩⟩
theorem cell_same {w w' : World} {k : Nat} (h : w'.heap[k]? = w.heap[k]?) (i : Nat) : w'.cell? ⟨k, i, none⟩ = w.cell? ⟨k, i, none⟩ := by
  unfold World.cell?
  rw [h]
theorem buf_same {w w' : World} {l : Nat} (h : w'.heap[l]? = w.heap[l]?) : bufOf w' l = bufOf w l := by
  unfold bufOf
  rw [cell_same h]
theorem KeepL.of_below {l : Nat} {w w' : World} (hl : l < w.heap.size) (h : Below w.heap.size w w') : KeepL l w w' :=
  ⟨h.os, h.tape, h.output, h.size, fun k hk _ hb => ⟨h.block k hk, by rw [buf_same (h.block l hl)]; exact hb⟩⟩
/-- Where a layer stands: behind the world W0, at block l. -/
structure LyAt (W0 : World) (l : Nat) (s : Lay) (v : Value) (w : World) : Prop where
  nl : W0.heap.size ≤ l
  below : Below W0.heap.size W0 w
  blk : BlkAt w l #[v, .bool s.no, .bool s.full] 59
  bytes : Bytes W0.heap.size v s.xs w
  ne : v.ownBlock ≠ some l
  le : s.xs.length ≤ 65536
  rng : ∀ z ∈ s.xs, 0 ≤ z ∧ z < 256
theorem LyAt.lt {W0 : World} {l : Nat} {s : Lay} {v : Value} {w : World} (h : LyAt W0 l s v w) : l < w.heap.size := h.blk.lt
theorem LyAt.buf {W0 : World} {l : Nat} {s : Lay} {v : Value} {w : World} (h : LyAt W0 l s v w) : bufOf w l = v.ownBlock := by
  unfold bufOf
  rw [h.blk.cell 0]
  rfl
theorem LyAt.next {W0 : World} {l : Nat} {s : Lay} {v : Value} {w w' : World} (h : LyAt W0 l s v w) (hb : Below w.heap.size w w') : LyAt W0 l s v w' :=
  ⟨h.nl, h.below.trans (hb.mono h.below.size), h.blk.below hb, h.bytes.below hb, h.ne, h.le, h.rng⟩
theorem LyAt.alloc {W0 : World} {l : Nat} {s : Lay} {v : Value} {w : World} (h : LyAt W0 l s v w) (o : Obj) : LyAt W0 l s v (w.alloc o) := h.next ((Below.refl _ _).alloc (Nat.le_refl _) o)
theorem LyAt.alloc_keep {W0 : World} {l : Nat} {s : Lay} {v : Value} {w : World} (h : LyAt W0 l s v w) (o : Obj) : KeepL l w (w.alloc o) := .of_below h.lt ((Below.refl _ _).alloc (Nat.le_refl _) o)
/-- A block of the caller's own, apart from the layer and its buffer. -/
structure Own (l : Nat) (w : World) (k : Nat) (cs : Array Value) (T : TypeId) : Prop where
  blk : BlkAt w k cs T
  nl : k ≠ l
  nb : some k ≠ bufOf w l
theorem Own.keep {l : Nat} {w w' : World} {k : Nat} {cs : Array Value} {T : TypeId} (h : Own l w k cs T) (hk : KeepL l w w') : Own l w' k cs T :=
  ⟨(hk.block k h.blk.lt h.nl h.nb).1.trans h.blk, h.nl, (hk.block k h.blk.lt h.nl h.nb).2⟩
theorem LyAt.bufLt {W0 : World} {l : Nat} {s : Lay} {v : Value} {w : World} (h : LyAt W0 l s v w) {k : Nat} (hk : v.ownBlock = some k) : k < w.heap.size := (World.ownsRow.lt h.bytes k hk).2
theorem LyAt.own {W0 : World} {l : Nat} {s : Lay} {v : Value} {w : World} (h : LyAt W0 l s v w) (cs : Array Value) (T : TypeId) : Own l (w.alloc (.cells cs T)) w.heap.size cs T :=
  ⟨BlkAt.new w cs T, by have := h.lt; omega, by
    rw [(h.alloc _).buf]
    intro q
    have := h.bufLt q.symm
    omega⟩
/-- What a layer's call leaves. -/
def Does (W0 : World) (l : Nat) (s' : Lay) (w : World) (e : Ending) (w' : World) : Prop := e = .returned (.tuple #[]) ∧ (∃ v', LyAt W0 l s' v' w') ∧ KeepL l w w'
theorem Does.keep {W0 : World} {l : Nat} {s : Lay} {w0 w : World} {e : Ending} {w' : World} (h : Does W0 l s w e w') (k : KeepL l w0 w) : Does W0 l s w0 e w' := ⟨h.1, h.2.1, k.trans h.2.2⟩
theorem setCell_keep {l : Nat} {w : World} {v : Value} {cs : Array Value} {T : TypeId} (h : BlkAt w l cs T) (hv : cs[0]? = some v) (i : Nat) (hi : i ≠ 0) (u : Value) : KeepL l w (w.setCell ⟨l, i, none⟩ u) := by
  have hk := (Kept.refl (fun j => j = l) w).set (p := ⟨l, i, none⟩) rfl u
  refine ⟨hk.os, hk.tape, hk.output, hk.size, fun k hk2 hkl hb => ⟨hk.block k hk2 hkl, ?_⟩⟩
  unfold bufOf at hb ⊢
  rw [h.cell 0, hv] at hb
  rw [(h.put i u).cell 0, Array.getElem?_setIfInBounds_ne hi, hv]
  exact hb
theorem bl_byte256 (s : ByteArray) : ∀ z ∈ bl s, 0 ≤ z ∧ z < 256 := by
  intro z hz
  unfold bl at hz
  obtain ⟨b, _, rfl⟩ := List.mem_map.1 hz
  have := b.toNat_lt
  omega
theorem below_set1 {B : Nat} {w w' : World} (h : Below B w w') {k : Nat} (hk : B ≤ k) (i : Nat) (u : Value) : Below B w (w'.setCell ⟨k, i, none⟩ u) :=
  ⟨h.os, h.tape, h.output, by have := h.size; simpa [World.setCell] using this, fun j hj => (Below.heap_setCell _ _ _ _ (by show j ≠ k; omega)).trans (h.block j hj)⟩
theorem bytes_kept {F : Nat → Prop} {B : Nat} {v : Value} {xs : List Int} {w w' : World} (h : Bytes B v xs w) (hk : Kept F w w') (hf : ∀ k, F k → v.ownBlock ≠ some k) : Bytes B v xs w' := by
  refine ⟨h.1, ?_⟩
  rcases h.2 with hn | ⟨g, cap, cur, rfl, hg, hgg, rest⟩
  · exact .inl hn
  · exact .inr ⟨g, cap, cur, rfl, hg, hk.cells hgg (fun q => hf g q rfl), rest⟩
/-- need -/
theorem lyNeed_any (W0 : World) (l : Nat) (s : Lay) (v : Value) (p : Bool) (w : World) (h : LyAt W0 l s v w) :
    Calls Tryz.prog 28 #[.pointer (some ⟨l, 0, none⟩), .bool p] w fun e w' => Does W0 l (needP s p) w e w' := by
  cases p with
  | true =>
    have HS : Hid (needP s true = s) := Lib.hid (by unfold needP; rw [Bool.not_true, Bool.or_false])
    have H := Lib.hid h
    clear h
    rw [HS.out]
    go_enter Tryz.func28, Tryz.ntmps28
    go_wp2_with fail
    exact bodyPost_void rfl rfl ⟨rfl, ⟨v, H.out⟩, KeepL.refl _ _⟩
  | false =>
    have H := Lib.hid h
    have f1 := h.blk.frozen 1
    have c1 := h.blk.cell 1
    simp at c1
    clear h
    go_enter Tryz.func28, Tryz.ntmps28
    go_wp2_with fail
    refine bodyPost_void rfl rfl ⟨rfl, ⟨v, ?_⟩, setCell_keep H.out.blk rfl 1 (by decide) _⟩
    have hk := (Kept.refl (fun j => j = l) w).set (p := ⟨l, 1, none⟩) rfl (.bool true)
    refine ⟨H.out.nl, ?_, ?_, ?_, H.out.ne, H.out.le, H.out.rng⟩
    · exact below_set1 H.out.below H.out.nl _ _
    · have := H.out.blk.put 1 (.bool true)
      rw [show (needP s false).no = true by unfold needP; simp]
      exact this
    · exact bytes_kept H.out.bytes hk (fun k hk2 => by rw [hk2]; exact fun q => H.out.ne q)
theorem LyAt.setFull {W0 : World} {l : Nat} {s : Lay} {v : Value} {w : World} (h : LyAt W0 l s v w) : LyAt W0 l { s with full := true } v (w.setCell ⟨l, 2, none⟩ (.bool true)) := by
  have hk := (Kept.refl (fun j => j = l) w).set (p := ⟨l, 2, none⟩) rfl (.bool true)
  exact ⟨h.nl, below_set1 h.below h.nl _ _, h.blk.put 2 (.bool true), bytes_kept h.bytes hk (fun k hk2 => by rw [hk2]; exact h.ne), h.ne, h.le, h.rng⟩
/-- Behind an append to the buffer, which is then the layer's again. -/
theorem LyAt.grown {W0 : World} {l : Nat} {s : Lay} {v v' : Value} {b : List Int} {m : Nat} {w w1 : World} (h : LyAt W0 l s v w) (hm : b.length = m) (hown : w1.ownsRow W0.heap.size 5 1 v' (s.xs.length + m) (s.xs.map (Value.int .u8) ++ b.map (Value.int .u8))) (hg : w.grownBy w1 v.ownBlock)
    (hat : ∀ k, v'.ownBlock = some k → v.ownBlock = some k ∨ w.heap.size ≤ k) (hle : s.xs.length + b.length ≤ 65536) (hrb : ∀ z ∈ b, 0 ≤ z ∧ z < 256) :
    LyAt W0 l { s with xs := s.xs ++ b } v' (w1.setCell ⟨l, 0, none⟩ v') ∧ KeepL l w (w1.setCell ⟨l, 0, none⟩ v') := by
  have hl := h.lt
  have hbl : w1.heap[l]? = w.heap[l]? := hg.block l hl (fun q => h.ne q.symm)
  have hblk : BlkAt w1 l #[v, .bool s.no, .bool s.full] 59 := hbl.trans h.blk
  have hne' : v'.ownBlock ≠ some l := fun q => by
    rcases hat l q with r | r
    · exact h.ne r
    · omega
  have hk := (Kept.refl (fun j => j = l) w1).set (p := ⟨l, 0, none⟩) rfl v'
  have hby1 : Bytes W0.heap.size v' (s.xs ++ b) w1 := by
    unfold Bytes
    rw [List.map_append, List.length_append, hm]
    exact hown
  have hb1 : Below W0.heap.size W0 w1 := h.below.grown hg h.below.size (fun k hk => (World.ownsRow.lt h.bytes k hk).1)
  refine ⟨⟨h.nl, below_set1 hb1 h.nl _ _, hblk.put 0 v', bytes_kept hby1 hk (fun k hk2 => by rw [hk2]; exact hne'), hne', by rw [List.length_append]; exact hle, app_byte h.rng hrb⟩, ?_⟩
  refine ⟨hk.os.trans hg.os, hk.tape.trans hg.tape, hk.output.trans hg.output, Nat.le_trans hg.size hk.size, fun k hk2 hkl hkb => ?_⟩
  rw [h.buf] at hkb
  refine ⟨(hk.block k (Nat.lt_of_lt_of_le hk2 hg.size) hkl).trans (hg.block k hk2 hkb), ?_⟩
  unfold bufOf
  rw [(hblk.put 0 v').cell 0]
  show some k ≠ v'.ownBlock
  intro q
  rcases hat k q.symm with r | r
  · exact hkb r.symm
  · omega
/-- An append of a text to a buffer: it lies where it lay, or in a new block. -/
theorem run_append_at (w : World) (base : Nat) (i : TypeInfo) (hi : Tryz.prog.info? 5 = some i) (hz : i.zero = some (.int .u8 0)) (hsize : i.size = 1) (hby : i.bytes = 1) (ty : TypeId)
    (v : Value) (n : Nat) (xs : List Value) (hown : w.ownsRow base 5 1 v n xs) (s : ByteArray) (h63 : n + s.size ≤ maxLen) (hbytes : n + s.size ≤ 140737488355328) (hbase : base ≤ w.heap.size) :
    ∃ v' w', (Builtin.append_ #[57, 9] ty #[v, .string s]).run Tryz.prog w = .ok v' w' ∧ w'.ownsRow base 5 1 v' (n + s.size) (xs ++ Lib.strCells s) ∧ w.grownBy w' v.ownBlock ∧ (∀ k, v'.ownBlock = some k → v.ownBlock = some k ∨ w.heap.size ≤ k) := by
  obtain ⟨v', w', hr, h2, h3, _⟩ := Lib.run_append_own_string (P := Tryz.prog) w base 57 9 ty 5 i Tryz.underlying57 Tryz.underlying9 hi hz hsize hby v n xs hown s h63 hbytes hbase
  refine ⟨v', w', hr, h2, h3, ?_⟩
  rcases hown.2 with ⟨rfl, rfl⟩ | ⟨g, cap, cur, rfl, hbg, hg, hnc, hcm, hcs, htake⟩
  · obtain ⟨v2, w2, hr2, k2, _⟩ := Lib.run_append_own_string (P := Tryz.prog) w w.heap.size 57 9 ty 5 i Tryz.underlying57 Tryz.underlying9 hi hz hsize hby (.slice none 0 0) 0 [] (World.ownsRow_nil _ _ _ _) s h63 hbytes (Nat.le_refl _)
    have hx : xs = [] := List.eq_nil_of_length_eq_zero (by simpa using hown.1)
    rw [hr] at hr2
    cases hr2
    exact fun k hk => .inr (World.ownsRow.lt k2 k hk).1
  · by_cases hroom : n + s.size ≤ cap
    · have hcs' : cur.size = cap := by simpa using hcs
      have hr2 := Lib.run_append_room_string (P := Tryz.prog) w 57 9 ty 5 i Tryz.underlying57 Tryz.underlying9 hi hsize g n cap cur hg s hroom (by omega)
      rw [hr] at hr2
      cases hr2
      exact fun k hk => .inl hk
    · have hxl : xs.length = n := by simpa using hown.1
      have holds : ∀ j u, xs[j]? = some u → w.cell? ((⟨g, 0, none⟩ : Addr).add j) = some u := hown.cells (g := g) rfl
      have hr2 := Lib.run_append_grow_string (P := Tryz.prog) w 57 9 ty 5 i (.int .u8 0) Tryz.underlying57 Tryz.underlying9 hi hz ⟨g, 0, none⟩ n cap xs (by rw [hsize]; simpa using hxl) holds s (by omega) (by omega) (by rw [hby]; exact growslice_fits (by omega) (by omega))
      rw [hr] at hr2
      cases hr2
      intro k hk
      right
      have : k = w.heap.size := (Option.some.inj hk).symm
      omega
theorem wpList_append_at {w : World} {ops : Array Oper} {rest : List Oper} {o : Oper} {a : Act} {Q : Exit → Act → World → Prop} (hgd : o.guard = none) (sl x : Operand)
    (ho : o.op = .call { callee := .builtin .append, args := #[sl, x], argTypes := #[57, 9] })
    (base : Nat) (i : TypeInfo) (hi : Tryz.prog.info? 5 = some i) (hz : i.zero = some (.int .u8 0)) (hsize : i.size = 1) (hby : i.bytes = 1)
    (v : Value) (n : Nat) (xs : List Value) (hs : a.eval sl = v) (hown : w.ownsRow base 5 1 v n xs) (s : ByteArray) (hx : a.eval x = .string s) (h63 : n + s.size ≤ maxLen) (hbytes : n + s.size ≤ 140737488355328) (hbase : base ≤ w.heap.size)
    (h : ∀ v' w', w'.ownsRow base 5 1 v' (n + s.size) (xs ++ Lib.strCells s) → w.grownBy w' v.ownBlock → (∀ k, v'.ownBlock = some k → v.ownBlock = some k ∨ w.heap.size ≤ k) → wpList Tryz.prog ops Q rest (a.put o.dst v') w') : wpList Tryz.prog ops Q (o :: rest) a w := by
  refine wpList_plain hgd fun K hK => ?_
  obtain ⟨v', w', hr, h2, h3, h4⟩ := run_append_at w base i hi hz hsize hby o.type v n xs hown s h63 hbytes hbase
  unfold Oper.wp execOp
  simp only [ho, resolve, invoke, builtin, Sem.run_bind, Sem.run_pure, Result.andThen_ok, List.map_toArray, List.map_cons, List.map_nil, hs, hx, hr]
  exact hK _ _ (h v' w' h2 h3 h4)
end Go.Proofs.YtekonefnniaheaaGreat
namespace Go.Proofs.YtekonefnniaheaaGreat
open Go.RowKit Go.Deep
open Leb (putU putS)

theorem bytes_slice {B : Nat} {v : Value} {xs : List Int} {w : World} (h : Bytes B v xs w) : ∃ a cap, v = .slice a xs.length cap := by
  rcases h.2 with ⟨rfl, h0⟩ | ⟨g, cap, cur, rfl, _⟩
  · exact ⟨none, 0, by rw [h0]⟩
  · exact ⟨_, cap, rfl⟩
theorem own_slice {B n : Nat} {v : Value} {vs : List Value} {w : World} (h : w.ownsRow B 5 1 v n vs) : ∃ a cap, v = .slice a n cap := by
  rcases h.2 with ⟨rfl, h0⟩ | ⟨g, cap, cur, rfl, _⟩
  · exact ⟨none, 0, by rw [h0]⟩
  · exact ⟨_, cap, rfl⟩
theorem LyAt.three {W0 : World} {l : Nat} {s : Lay} {v : Value} {w : World} (h : LyAt W0 l s v w) :
    (w.cell? ⟨l, 0, none⟩ = some v ∧ w.cell? ⟨l, 1, none⟩ = some (.bool s.no) ∧ w.cell? ⟨l, 2, none⟩ = some (.bool s.full)) ∧ w.frozen? ⟨l, 0, none⟩ = false ∧ w.frozen? ⟨l, 1, none⟩ = false ∧ w.frozen? ⟨l, 2, none⟩ = false :=
  ⟨⟨h.blk.cell 0, h.blk.cell 1, h.blk.cell 2⟩, h.blk.frozen 0, h.blk.frozen 1, h.blk.frozen 2⟩
theorem lay_full (s : Lay) (h : s.full = true) : ({ s with full := true } : Lay) = s := by cases s; simp_all
set_option maxRecDepth 100000 in
set_option maxHeartbeats 1000000 in
theorem lyPut_any (W0 : World) (l : Nat) (s : Lay) (v : Value) (S : ByteArray) (w : World) (h : LyAt W0 l s v w) :
    Calls Tryz.prog 27 #[.pointer (some ⟨l, 0, none⟩), .string S] w fun e w' => Does W0 l (putP s (bl S)) w e w' := by
  have H := Lib.hid h
  obtain ⟨⟨c0, c1, c2⟩, f0, f1, f2⟩ := h.three
  obtain ⟨a, cap, hv⟩ := bytes_slice h.bytes
  have hle := h.le
  have hlen := bl_length S
  have wz : IntKind.i64.wrap ((65536 : Int) - (s.xs.length : Int)) = (65536 : Int) - (s.xs.length : Int) := by rw [IntKind.wrap_i64]; omega
  have hsc : Lib.strCells S = (bl S).map (Value.int .u8) := by
    have := strCells_nums (bl_byte256 S)
    rwa [bl_back] at this
  by_cases hc : 65536 < s.xs.length + S.size
  · have HP : Hid (putP s (bl S) = { s with full := true }) := Lib.hid (by unfold putP; rw [if_pos (.inr (by rw [hlen]; exact hc))])
    have t1 : (65536 : Int) - (s.xs.length : Int) < (S.size : Int) := by omega
    have HK := Lib.hid (setCell_keep h.blk rfl 2 (by decide) (.bool true))
    subst hv
    clear h hsc hc hlen
    rw [HP.out]
    go_enter Tryz.func27, Tryz.ntmps27
    go_wp2_with fail
    exact bodyPost_void rfl rfl ⟨rfl, ⟨_, H.out.setFull⟩, HK.out⟩
  have t1 : ¬ (65536 : Int) - (s.xs.length : Int) < (S.size : Int) := by omega
  by_cases hf : s.full = true
  · have HP : Hid (putP s (bl S) = s) := Lib.hid (by unfold putP; rw [if_pos (.inl hf), lay_full s hf])
    subst hv
    rw [hf] at c2
    clear h hsc hc hlen hf
    rw [HP.out]
    go_enter Tryz.func27, Tryz.ntmps27
    go_wp2_with fail
    exact bodyPost_void rfl rfl ⟨rfl, ⟨_, H.out⟩, KeepL.refl _ _⟩
  · have HP : Hid (putP s (bl S) = { s with xs := s.xs ++ bl S }) := Lib.hid (by unfold putP; rw [if_neg (fun q => q.elim hf (fun q => by rw [hlen] at q; exact hc q))])
    obtain ⟨i0, hi0, hz0, hz1, hz2⟩ := info_parts info_u8
    have HB := Lib.hid h.bytes
    have q1 : s.xs.length + S.size ≤ maxLen := by unfold maxLen; omega
    have q2 : s.xs.length + S.size ≤ 140737488355328 := by omega
    have q3 : W0.heap.size ≤ w.heap.size := h.below.size
    have hff : s.full = false := not_true hf
    rw [hff] at c2
    have HSC := Lib.hid hsc
    have HLE : Hid (s.xs.length + (bl S).length ≤ 65536) := Lib.hid (by rw [hlen]; omega)
    have HLN := Lib.hid hlen
    have hll := h.lt
    subst hv
    clear h hsc hc hlen hf hff
    rw [HP.out]
    go_enter Tryz.func27, Tryz.ntmps27
    go_wp2_with (at_builtin; refine wpList_append_at rfl _ _ rfl W0.heap.size i0 hi0 hz0 hz1 hz2 _ s.xs.length (s.xs.map (Value.int .u8)) rfl HB.out S rfl q1 q2 q3 ?_; intro v1 w1 hown1 hg1 hat1; obtain ⟨a1, cap1, hv1⟩ := own_slice hown1; subst hv1; have hfz := (show w1.frozen? ⟨l, 0, none⟩ = false from (BlkAt.frozen (show BlkAt w1 l _ _ from (hg1.block l hll (fun q => H.out.ne q.symm)).trans H.out.blk) 0)); have hcz := (show w1.cell? ⟨l, 0, none⟩ = _ from (cell_same (hg1.block l hll (fun q => H.out.ne q.symm)) 0).trans c0))
    rw [HSC.out] at hown1
    obtain ⟨g1, g2⟩ := H.out.grown HLN.out hown1 hg1 hat1 HLE.out (bl_byte256 S)
    exact bodyPost_void rfl rfl ⟨rfl, ⟨_, g1⟩, g2⟩
/-- What is laid apart, and put behind as bytes. -/
def asB (s : Lay) (g : Lay → Lay) : Lay := bytesP ⟨s.xs, (g ⟨[], s.no, s.full⟩).no, (g ⟨[], s.no, s.full⟩).full⟩ (g ⟨[], s.no, s.full⟩).xs
/-- The buffer is put aside. -/
theorem LyAt.aside {W0 : World} {l : Nat} {s : Lay} {v : Value} {w : World} (h : LyAt W0 l s v w) : LyAt W0 l ⟨[], s.no, s.full⟩ (.slice none 0 0) (w.setCell ⟨l, 0, none⟩ (.slice none 0 0)) ∧ KeepL l w (w.setCell ⟨l, 0, none⟩ (.slice none 0 0)) := by
  have hk := (Kept.refl (fun j => j = l) w).set (p := ⟨l, 0, none⟩) rfl (.slice none 0 0)
  have hb := h.blk.put 0 (.slice none 0 0)
  refine ⟨⟨h.nl, below_set1 h.below h.nl _ _, hb, World.ownsRow_nil _ _ _ _, fun q => (by cases q), Nat.zero_le _, fun z hz => (by cases hz)⟩, ⟨hk.os, hk.tape, hk.output, hk.size, fun k hk2 hkl _ => ⟨hk.block k hk2 hkl, ?_⟩⟩⟩
  unfold bufOf
  rw [hb.cell 0]
  exact fun q => by cases q
/-- The buffer that was put aside is the layer's again. -/
theorem LyAt.again {W0 : World} {l : Nat} {s i : Lay} {v v1 : Value} {w w1 : World} (h : LyAt W0 l s v w) (k : KeepL l (w.setCell ⟨l, 0, none⟩ (.slice none 0 0)) w1) (h1 : LyAt W0 l i v1 w1) :
    LyAt W0 l ⟨s.xs, i.no, i.full⟩ v (w1.setCell ⟨l, 0, none⟩ v) ∧ KeepL l w (w1.setCell ⟨l, 0, none⟩ v) ∧ Bytes W0.heap.size v1 i.xs (w1.setCell ⟨l, 0, none⟩ v) := by
  have ha := h.aside
  have hba : bufOf (w.setCell ⟨l, 0, none⟩ (.slice none 0 0)) l = none := ha.1.buf
  have hk0 := (Kept.refl (fun j => j = l) w).set (p := ⟨l, 0, none⟩) rfl (.slice none 0 0)
  have hsz0 : (w.setCell ⟨l, 0, none⟩ (.slice none 0 0)).heap.size = w.heap.size := by simp [World.setCell]
  have hk1 := (Kept.refl (fun j => j = l) w1).set (p := ⟨l, 0, none⟩) rfl v
  have hb1 := h1.blk.put 0 v
  have same : ∀ j, j < w.heap.size → j ≠ l → w1.heap[j]? = w.heap[j]? := fun j hj hjl => (k.block j (by omega) hjl (by rw [hba]; exact fun q => by cases q)).1.trans (hk0.block j hj hjl)
  have hbv : Bytes W0.heap.size v s.xs w1 := by
    refine ⟨h.bytes.1, ?_⟩
    rcases h.bytes.2 with hn | ⟨g, cap, cur, rfl, hg, hgg, rest⟩
    · exact .inl hn
    · exact .inr ⟨g, cap, cur, rfl, hg, (same g (Array.getElem?_eq_some_iff.1 hgg).1 (fun q => h.ne (by rw [q]; rfl))).trans hgg, rest⟩
  refine ⟨⟨h.nl, below_set1 h1.below h.nl _ _, hb1, bytes_kept hbv hk1 (fun j hj => by rw [hj]; exact h.ne), h.ne, h.le, h.rng⟩, ⟨?_, ?_, ?_, ?_, fun j hj hjl hjb => ⟨(hk1.block j (by have := k.size; omega) hjl).trans (same j hj hjl), ?_⟩⟩, bytes_kept h1.bytes hk1 (fun j hj => by rw [hj]; exact h1.ne)⟩
  · exact hk1.os.trans (k.os.trans hk0.os)
  · exact hk1.tape.trans (k.tape.trans hk0.tape)
  · exact hk1.output.trans (k.output.trans hk0.output)
  · have := k.size
    have := hk1.size
    omega
  · unfold bufOf
    rw [hb1.cell 0]
    rw [h.buf] at hjb
    exact hjb
end Go.Proofs.YtekonefnniaheaaGreat
namespace Go.Proofs.YtekonefnniaheaaGreat
namespace Utf

/-- What a text in the first form begins with where it begins with a character, by its bytes. -/
theorem head0 {L x : List Int} {p : Int} (hp : oneL 0 p ≠ []) (e : L = oneL 0 p ++ x) :
    (1 ≤ L.length ∧ L.getD 0 0 = p ∧ 0 ≤ p ∧ p < 128) ∨
    (2 ≤ L.length ∧ L.getD 0 0 = 192 + p / 64 ∧ L.getD 1 0 = 128 + p % 64 ∧ 128 ≤ p ∧ p < 2048) ∨
    (3 ≤ L.length ∧ L.getD 0 0 = 224 + p / 4096 ∧ L.getD 1 0 = 128 + p / 64 % 64 ∧ L.getD 2 0 = 128 + p % 64 ∧ 2048 ≤ p ∧ p < 65536 ∧ scal p = true) ∨
    (4 ≤ L.length ∧ L.getD 0 0 = 240 + p / 262144 ∧ L.getD 1 0 = 128 + p / 4096 % 64 ∧ L.getD 2 0 = 128 + p / 64 % 64 ∧ L.getD 3 0 = 128 + p % 64 ∧ 65536 ≤ p ∧ p ≤ 1114111 ∧ scal p = true) := by
  have hs : scal p = true := by
    by_cases h : scal p = true
    · exact h
    · exact absurd (oneL_no (by cases hb : scal p <;> simp_all)) hp
  rcases shape0 hp with ⟨h, h1, h2⟩ | ⟨h, h1, h2⟩ | ⟨h, h1, h2⟩ | ⟨h, h1, h2⟩
  all_goals
    rw [h] at e
    subst e
  · exact .inl ⟨by simp, by simp, h1, h2⟩
  · exact .inr (.inl ⟨by simp, by simp, by simp, h1, h2⟩)
  · exact .inr (.inr (.inl ⟨by simp, by simp, by simp, by simp, h1, h2, hs⟩))
  · exact .inr (.inr (.inr ⟨by simp, by simp, by simp, by simp, by simp, h1, h2, hs⟩))
/-- The first n numbers of a list. -/
theorem take1 {L : List Int} (h : 1 ≤ L.length) : L.take 1 = [L.getD 0 0] := by
  match L, h with
  | a :: l, _ => simp
theorem take2 {L : List Int} (h : 2 ≤ L.length) : L.take 2 = [L.getD 0 0, L.getD 1 0] := by
  match L, h with
  | a :: b :: l, _ => simp
theorem take3 {L : List Int} (h : 3 ≤ L.length) : L.take 3 = [L.getD 0 0, L.getD 1 0, L.getD 2 0] := by
  match L, h with
  | a :: b :: c :: l, _ => simp
theorem take4 {L : List Int} (h : 4 ≤ L.length) : L.take 4 = [L.getD 0 0, L.getD 1 0, L.getD 2 0, L.getD 3 0] := by
  match L, h with
  | a :: b :: c :: d :: l, _ => simp

/-- A text begins with this character, of n bytes; or, n being 0, with none. -/
def First (form : Int) (L : List Int) (p : Int) (n : Nat) : Prop :=
  (n = 0 ∧ NoHead form L) ∨ (1 ≤ n ∧ n ≤ L.length ∧ oneL form p = L.take n)
theorem First.two0 {L : List Int} (h : 2 ≤ L.length) {p : Int} (h0 : L.getD 0 0 = 192 + p / 64) (h1 : L.getD 1 0 = 128 + p % 64) (hs : scal p = true) (a : 128 ≤ p) (b : p < 2048) : First 0 L p 2 :=
  .inr ⟨by decide, h, by rw [take2 h, h0, h1, oneL_0b hs (by omega) b]⟩
theorem First.three0 {L : List Int} (h : 3 ≤ L.length) {p : Int} (h0 : L.getD 0 0 = 224 + p / 4096) (h1 : L.getD 1 0 = 128 + p / 64 % 64) (h2 : L.getD 2 0 = 128 + p % 64) (hs : scal p = true) (a : 2048 ≤ p) (b : p < 65536) : First 0 L p 3 :=
  .inr ⟨by decide, h, by rw [take3 h, h0, h1, h2, oneL_0c hs (by omega) b]⟩
theorem First.four0 {L : List Int} (h : 4 ≤ L.length) {p : Int} (h0 : L.getD 0 0 = 240 + p / 262144) (h1 : L.getD 1 0 = 128 + p / 4096 % 64) (h2 : L.getD 2 0 = 128 + p / 64 % 64) (h3 : L.getD 3 0 = 128 + p % 64) (hs : scal p = true) (a : 65536 ≤ p) : First 0 L p 4 :=
  .inr ⟨by decide, h, by rw [take4 h, h0, h1, h2, h3, oneL_0d hs (by omega)]⟩
theorem First.one0 {L : List Int} (h : 1 ≤ L.length) (h0 : 0 ≤ L.getD 0 0) (h1 : L.getD 0 0 < 128) : First 0 L (L.getD 0 0) 1 :=
  .inr ⟨by decide, h, by rw [take1 h, oneL_0a (decide_eq_true (by omega)) h1]⟩
theorem First.one2 {L : List Int} (h : 1 ≤ L.length) (h0 : 0 ≤ L.getD 0 0) (h1 : L.getD 0 0 < 256) : First 2 L (L.getD 0 0) 1 :=
  .inr ⟨by decide, h, by rw [take1 h, oneL_2 (decide_eq_true (by omega)) (by omega)]⟩
theorem First.other {form : Int} (h : form ≠ 0 ∧ form ≠ 1 ∧ form ≠ 2) (L : List Int) (p : Int) : First form L p 0 :=
  .inl ⟨rfl, fun _ _ hq _ => hq (oneL_other h.1 h.2.1 h.2.2)⟩
end Utf
end Go.Proofs.YtekonefnniaheaaGreat
namespace Go.Proofs.YtekonefnniaheaaGreat
open Go.RowKit

namespace Utf
def great (zs : List Int) : Bool := zs.any fun z => decide (255 < z)
def szL (form p : Int) : Int :=
  if form = 2 then 1 else if form = 1 then (if p < 65536 then 2 else 4)
  else if p < 128 then 1 else if p < 2048 then 2 else if p < 65536 ∨ form ≠ 0 then 3 else 4
end Utf
end Go.Proofs.YtekonefnniaheaaGreat
