/- The walks of the statements of layer 2 on what is written and read again. -/
import Derived.Test.YtkmgngmpplgjnaaUtfLaws
namespace Go.Proofs.Ytkmgngmpplgjnaa
open Go.RowKit

theorem bl_cat (form : Int) (ys : List Int) : bl (strOfNums (Utf.catL form ys)) = Utf.catL form ys := bl_str _ (cat_byte form ys)
theorem size_cat (form : Int) (ys : List Int) : (strOfNums (Utf.catL form ys)).size ≤ 4 * ys.length := by
  rw [strOfNums_size]
  exact Utf.catL_length form ys

set_option maxRecDepth 100000 in
theorem UtfBack_walk (form : Int) (a : Option Addr) (len cap : Nat) (zs : List Int) (w : World) (h : RowIn .i64 w a len cap zs) :
    Calls Try.prog 6 #[.int .i64 form, .slice a len cap] w fun e w' => e = .returned (.bool true) ∧ Below w.heap.size w w' := by
  obtain ⟨ys, hl, hv, hsome⟩ := some_out h
  have HV := Lib.hid hv
  have HSO := Lib.hid hsome
  have hb := Below.refl w.heap.size w
  clear h hv hsome
  rcases wTup_out form ys with ⟨hr, hW⟩ | hW
  · have HW := Lib.hid hW
    have hsz := size_cat form ys
    have hR := bl_cat form ys
    have HRD := Lib.hid (read_out (form := form) (s := strOfNums (Utf.catL form ys)) (ok := true) (ps := ys) (.inl ⟨rfl, by rw [hR]; exact hr⟩) (by omega))
    clear hW hr hR
    revert HW hsz HRD
    generalize strOfNums (Utf.catL form ys) = X
    intro HW hsz HRD
    go_enter Try.func6, Try.ntmps6
    go_wp2_with (first
      | (go_at_call 16; refine (HSO.out _).mono ?_; rintro e w1 ⟨rfl, rfl⟩)
      | (go_at_call 17; refine (write_any form a cap ys _ (HV.out.below hb) (by omega)).mono ?_; rintro e w1 ⟨rfl, h1⟩; replace hb := hb.trans (h1.mono hb.size); clear h1; rw [HW.out])
      | (go_at_call 11; refine (HRD.out _).mono ?_; rintro e w2 ⟨a2, cap2, rfl, hown, h1⟩; replace hb := hb.trans (h1.mono hb.size); clear h1)
      | (go_at_call 13; refine (Same_view a a2 ys.length cap cap2 ys _ (by omega) (HV.out.below hb) hown.viewAt).mono ?_; rintro e w4 ⟨rfl, h1⟩; replace hb := hb.trans (h1.mono hb.size); clear h1)
      | (go_at_call 15; refine (awake_any _).mono ?_; rintro e w6 ⟨rfl, h1⟩; replace hb := hb.trans (h1.mono hb.size); clear h1))
    go_ret
    exact ⟨rfl, hb⟩
  · have HW := Lib.hid hW
    clear hW
    go_enter Try.func6, Try.ntmps6
    go_wp2_with (first
      | (go_at_call 16; refine (HSO.out _).mono ?_; rintro e w1 ⟨rfl, rfl⟩)
      | (go_at_call 17; refine (write_any form a cap ys _ (HV.out.below hb) (by omega)).mono ?_; rintro e w1 ⟨rfl, h1⟩; replace hb := hb.trans (h1.mono hb.size); clear h1; rw [HW.out])
      | (go_at_call 15; refine (awake_any _).mono ?_; rintro e w6 ⟨rfl, h1⟩; replace hb := hb.trans (h1.mono hb.size); clear h1))
    go_ret
    exact ⟨rfl, hb⟩

set_option maxRecDepth 100000 in
theorem UtfOnly_walk (form : Int) (s : ByteArray) (w : World) (hs : s.size ≤ maxLen) :
    Calls Try.prog 7 #[.int .i64 form, .string s] w fun e w' => e = .returned (.bool true) ∧ Below w.heap.size w w' := by
  have hT := shortOf_size s
  have HSH := Lib.hid (short_any s hs w)
  revert HSH hT
  generalize shortOf s = t
  intro hT HSH
  clear hs
  have hb := Below.refl w.heap.size w
  obtain ⟨ok, ps, ho⟩ := Utf.out_any form (bl t)
  have hps := Utf.out_length ho
  rw [bl_length] at hps
  have HR := Lib.hid (read_out ho (by omega))
  rcases ho with ⟨rfl, hr⟩ | ⟨rfl, rfl, _⟩
  · have hW : Utf.wTup form ps = .tuple #[.string t, .bool true] := by
      unfold Utf.wTup
      rw [if_pos hr.2.1, hr.1, hr.2.2, bl_back]
    have HW := Lib.hid hW
    clear hW hr
    go_enter Try.func7, Try.ntmps7
    go_wp2_with (first
      | (go_at_call 10; refine HSH.out.mono ?_; rintro e w1 ⟨rfl, rfl⟩)
      | (go_at_call 11; refine (HR.out _).mono ?_; rintro e w2 ⟨a2, cap2, rfl, hown, h1⟩; replace hb := hb.trans (h1.mono hb.size); clear h1)
      | (go_at_call 17; refine (write_any form a2 cap2 ps _ hown.viewAt (by omega)).mono ?_; rintro e w1 ⟨rfl, h1⟩; replace hb := hb.trans (h1.mono hb.size); clear h1; rw [HW.out])
      | (go_at_call 15; refine (awake_any _).mono ?_; rintro e w6 ⟨rfl, h1⟩; replace hb := hb.trans (h1.mono hb.size); clear h1))
    go_ret
    exact ⟨rfl, hb⟩
  · go_enter Try.func7, Try.ntmps7
    go_wp2_with (first
      | (go_at_call 10; refine HSH.out.mono ?_; rintro e w1 ⟨rfl, rfl⟩)
      | (go_at_call 11; refine (HR.out _).mono ?_; rintro e w2 ⟨a2, cap2, rfl, hown, h1⟩; replace hb := hb.trans (h1.mono hb.size); clear h1)
      | (go_at_call 15; refine (awake_any _).mono ?_; rintro e w6 ⟨rfl, h1⟩; replace hb := hb.trans (h1.mono hb.size); clear h1))
    go_ret
    exact ⟨rfl, hb⟩

theorem oneL_size {form p : Int} (h : Utf.oneL form p ≠ []) : ((Utf.oneL form p).length : Int) = Utf.szL form p := by
  rcases Utf.form_of h with rfl | rfl | rfl
  · rcases Utf.shape0 h with ⟨e, h1, h2⟩ | ⟨e, h1, h2⟩ | ⟨e, h1, h2⟩ | ⟨e, h1, h2⟩
    all_goals
      rw [e]
      unfold Utf.szL
      simp
      repeat' split
      all_goals omega
  · rcases Utf.shape1 h with ⟨e, h1, h2, _⟩ | ⟨e, h1, h2⟩
    all_goals
      rw [e]
      unfold Utf.szL
      simp
      repeat' split
      all_goals omega
  · obtain ⟨e, h1, h2⟩ := Utf.shape2 h
    rw [e]
    unfold Utf.szL
    simp
theorem cat_size {form : Int} : ∀ {ys : List Int}, Utf.allW form ys = true → ((Utf.catL form ys).length : Int) = Utf.sizeL form ys := by
  intro ys
  induction ys with
  | nil => intro _; rfl
  | cons y ys ih =>
    intro h
    obtain ⟨h1, h2⟩ := Utf.allW_cons h
    have e := ih h2
    have e1 := oneL_size h1
    unfold Utf.sizeL at e ⊢
    rw [Utf.catL_cons, List.length_append, List.map_cons, List.sum_cons, ← e, ← e1]
    omega

set_option maxRecDepth 100000 in
theorem UtfForms_walk (enc form : Int) (a : Option Addr) (len cap : Nat) (zs : List Int) (w : World) (h : RowIn .i64 w a len cap zs) :
    Calls Try.prog 8 #[.int .i64 enc, .int .i64 form, .slice a len cap] w fun e w' => e = .returned (.bool true) ∧ Below w.heap.size w w' := by
  obtain ⟨ys, hl, hv, hsome⟩ := some_out h
  have HV := Lib.hid hv
  have HSO := Lib.hid hsome
  have hb := Below.refl w.heap.size w
  obtain ⟨A, B, hS, hA⟩ : ∃ A B, sizeTup form ys = .tuple #[.int .i64 A, .int .i64 B] ∧ A = Utf.sizeL form ys := ⟨_, _, rfl, rfl⟩
  have HS := Lib.hid hS
  obtain ⟨F, hF⟩ : ∃ F, F = Utf.formL enc ys := ⟨_, rfl⟩
  have HP : Hid (∀ w, View w a ys.length ys → Calls Try.prog 23 #[.int .i64 enc, .slice a ys.length cap] w fun e w' => e = .returned (.int .i64 F) ∧ w = w') := Lib.hid fun w hv => hF ▸ form_any enc a cap ys w hv hl
  have HQ : Hid (∀ w, View w a ys.length ys → Calls Try.prog 24 #[.int .i64 enc, .slice a ys.length cap] w fun e w' => e = .returned (.int .i64 F) ∧ w = w') := Lib.hid fun w hv => hF ▸ refForm_any enc a cap ys w hv hl
  clear h hv hsome hS hF
  rcases wTup_out form ys with ⟨hr, hW⟩ | hW
  · have HW := Lib.hid hW
    have hsz : ((strOfNums (Utf.catL form ys)).size : Int) = A := by rw [strOfNums_size, hA, cat_size hr.2.1]
    clear hW hr hA
    revert HW hsz
    generalize strOfNums (Utf.catL form ys) = X
    intro HW hsz
    go_enter Try.func8, Try.ntmps8
    go_wp2_with (first
      | (go_at_call 16; refine (HSO.out _).mono ?_; rintro e w1 ⟨rfl, rfl⟩)
      | (go_at_call 21; refine (size_any form a cap ys _ (HV.out.below hb) hl).mono ?_; rintro e w1 ⟨rfl, rfl⟩; rw [HS.out])
      | (go_at_call 22; refine (refSize_any form a cap ys _ (HV.out.below hb) hl).mono ?_; rintro e w1 ⟨rfl, rfl⟩; rw [HS.out])
      | (go_at_call 23; refine (HP.out _ (HV.out.below hb)).mono ?_; rintro e w1 ⟨rfl, rfl⟩)
      | (go_at_call 24; refine (HQ.out _ (HV.out.below hb)).mono ?_; rintro e w1 ⟨rfl, rfl⟩)
      | (go_at_call 17; refine (write_any form a cap ys _ (HV.out.below hb) (by omega)).mono ?_; rintro e w1 ⟨rfl, h1⟩; replace hb := hb.trans (h1.mono hb.size); clear h1; rw [HW.out])
      | (go_at_call 15; refine (awake_any _).mono ?_; rintro e w6 ⟨rfl, h1⟩; replace hb := hb.trans (h1.mono hb.size); clear h1))
    go_ret
    exact ⟨rfl, hb⟩
  · have HW := Lib.hid hW
    clear hW hA
    go_enter Try.func8, Try.ntmps8
    go_wp2_with (first
      | (go_at_call 16; refine (HSO.out _).mono ?_; rintro e w1 ⟨rfl, rfl⟩)
      | (go_at_call 21; refine (size_any form a cap ys _ (HV.out.below hb) hl).mono ?_; rintro e w1 ⟨rfl, rfl⟩; rw [HS.out])
      | (go_at_call 22; refine (refSize_any form a cap ys _ (HV.out.below hb) hl).mono ?_; rintro e w1 ⟨rfl, rfl⟩; rw [HS.out])
      | (go_at_call 23; refine (HP.out _ (HV.out.below hb)).mono ?_; rintro e w1 ⟨rfl, rfl⟩)
      | (go_at_call 24; refine (HQ.out _ (HV.out.below hb)).mono ?_; rintro e w1 ⟨rfl, rfl⟩)
      | (go_at_call 17; refine (write_any form a cap ys _ (HV.out.below hb) (by omega)).mono ?_; rintro e w1 ⟨rfl, h1⟩; replace hb := hb.trans (h1.mono hb.size); clear h1; rw [HW.out])
      | (go_at_call 15; refine (awake_any _).mono ?_; rintro e w6 ⟨rfl, h1⟩; replace hb := hb.trans (h1.mono hb.size); clear h1))
    go_ret
    exact ⟨rfl, hb⟩
end Go.Proofs.Ytkmgngmpplgjnaa
