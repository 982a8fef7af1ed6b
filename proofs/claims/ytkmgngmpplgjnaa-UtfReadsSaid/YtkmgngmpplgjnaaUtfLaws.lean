/- The walks of the statements of layer 2. -/
import Derived.Test.YtkmgngmpplgjnaaUtfAwake
namespace Go.Proofs.Ytkmgngmpplgjnaa
open Go.RowKit

theorem RowIn.caps {k : IntKind} {w : World} {a : Option Addr} {len cap : Nat} {zs : List Int} (h : RowIn k w a len cap zs) : len ≤ cap ∧ cap ≤ maxLen := by
  rcases h with ⟨rfl, rfl, rfl, rfl⟩ | ⟨x, rfl, h1, h2, h3, _⟩
  · exact ⟨by simp, by simp⟩
  · exact ⟨h1, h2⟩
/-- What is looked at of the numbers that came in. -/
theorem some_out {w : World} {a : Option Addr} {len cap : Nat} {zs : List Int} (h : RowIn .i64 w a len cap zs) :
    ∃ ys : List Int, ys.length ≤ 300 ∧ View w a ys.length ys ∧ ∀ w, Calls Try.prog 16 #[.slice a len cap] w fun e w' => e = .returned (.slice a ys.length cap) ∧ w = w' := by
  obtain ⟨hv, hz, _, _⟩ := h.view
  obtain ⟨h1, h2⟩ := h.caps
  have hs := someLen_le len
  refine ⟨someOf len zs, by rw [someOf_length hz]; omega, hv.some hz, fun w => ?_⟩
  rw [someOf_length hz]
  exact some_any a len cap h1 h2 w

theorem wTup_form (form : Int) (ys : List Int) : ∃ X b, Utf.wTup form ys = .tuple #[.string X, .bool b] := by
  unfold Utf.wTup
  split <;> exact ⟨_, _, rfl⟩
theorem cat_byte (form : Int) (ys : List Int) : ∀ z ∈ Utf.catL form ys, 0 ≤ z ∧ z ≤ 255 := by
  intro z hz
  unfold Utf.catL at hz
  obtain ⟨p, _, hp⟩ := List.mem_flatMap.1 hz
  exact oneL_byte form p z hp
theorem wTup_out (form : Int) (ys : List Int) : (Utf.Reads form (Utf.catL form ys) ys ∧ Utf.wTup form ys = .tuple #[.string (strOfNums (Utf.catL form ys)), .bool true]) ∨
    Utf.wTup form ys = .tuple #[.string ⟨#[]⟩, .bool false] := by
  unfold Utf.wTup
  by_cases ha : Utf.allW form ys = true
  · rw [if_pos ha]
    by_cases hf : Utf.inForm form = true
    · rw [hf]
      exact .inl ⟨⟨hf, ha, rfl⟩, rfl⟩
    · right
      rw [not_true hf]
      cases ys with
      | nil => rfl
      | cons y ys =>
        exfalso
        have h1 := (Utf.allW_cons ha).1
        have h2 := Utf.form_of h1
        exact hf (decide_eq_true (by omega))
  · rw [if_neg ha]
    exact .inr rfl

set_option maxRecDepth 100000 in
theorem UtfReads_walk (form : Int) (s : ByteArray) (w : World) (hs : s.size ≤ maxLen) :
    Calls Try.prog 3 #[.int .i64 form, .string s] w fun e w' => e = .returned (.bool true) ∧ Below w.heap.size w w' := by
  have hT := shortOf_size s
  have HSH := Lib.hid (short_any s hs w)
  revert HSH hT
  generalize shortOf s = t
  intro hT HSH
  clear hs
  obtain ⟨ok, ps, ho⟩ := Utf.out_any form (bl t)
  obtain ⟨ok0, rs, ho0⟩ := Utf.out_any 0 (bl t)
  have hps := Utf.out_length ho
  have hrs := Utf.out_length ho0
  rw [bl_length] at hps hrs
  have HR := Lib.hid (read_out ho (by omega))
  have HF := Lib.hid (refRead_out ho hT)
  have HF0 := Lib.hid (refRead_out ho0 hT)
  have HV := Lib.hid (valid_out ho0)
  have hr0 : ok0 = false → rs = [] := fun h => by
    rcases ho0 with ⟨h1, _⟩ | ⟨_, h1, _⟩
    · rw [h] at h1; cases h1
    · exact h1
  have hb := Below.refl w.heap.size w
  clear ho ho0
  cases ok0
  · obtain rfl := hr0 rfl
    go_enter Try.func3, Try.ntmps3
    go_wp2_with (first
      | (go_at_call 10; refine HSH.out.mono ?_; rintro e w1 ⟨rfl, rfl⟩)
      | (go_at_call 11; refine (HR.out _).mono ?_; rintro e w1 ⟨a1, cap1, rfl, hown1, h1⟩; replace hb := hb.trans (h1.mono hb.size); clear h1)
      | (go_at_call_of 12 (Value.int .i64 form); refine (HF.out _).mono ?_; rintro e w2 ⟨a2, cap2, rfl, hown2, h1⟩; replace hb := hb.trans (h1.mono hb.size); replace hown1 := Ints.below hown1 h1; clear h1)
      | (go_at_call_of 12 (Value.int .i64 0); refine (HF0.out _).mono ?_; rintro e w3 ⟨a3, cap3, rfl, hown3, h1⟩; replace hb := hb.trans (h1.mono hb.size); replace hown1 := Ints.below hown1 h1; replace hown2 := Ints.below hown2 h1; clear h1)
      | (go_at_call 13; refine (Same_any hown1 hown2 (by omega)).mono ?_; rintro e w4 ⟨rfl, h1⟩; replace hb := hb.trans (h1.mono hb.size); clear h1)
      | (go_at_call 14; refine (HV.out _).mono ?_; rintro e w5 ⟨rfl, h1⟩; replace hb := hb.trans (h1.mono hb.size); clear h1)
      | (go_at_call 15; refine (awake_any _).mono ?_; rintro e w6 ⟨rfl, h1⟩; replace hb := hb.trans (h1.mono hb.size); clear h1))
    go_ret
    exact ⟨rfl, hb⟩
  · go_enter Try.func3, Try.ntmps3
    go_wp2_with (first
      | (go_at_call 10; refine HSH.out.mono ?_; rintro e w1 ⟨rfl, rfl⟩)
      | (go_at_call 11; refine (HR.out _).mono ?_; rintro e w1 ⟨a1, cap1, rfl, hown1, h1⟩; replace hb := hb.trans (h1.mono hb.size); clear h1)
      | (go_at_call_of 12 (Value.int .i64 form); refine (HF.out _).mono ?_; rintro e w2 ⟨a2, cap2, rfl, hown2, h1⟩; replace hb := hb.trans (h1.mono hb.size); replace hown1 := Ints.below hown1 h1; clear h1)
      | (go_at_call_of 12 (Value.int .i64 0); refine (HF0.out _).mono ?_; rintro e w3 ⟨a3, cap3, rfl, hown3, h1⟩; replace hb := hb.trans (h1.mono hb.size); replace hown1 := Ints.below hown1 h1; replace hown2 := Ints.below hown2 h1; clear h1)
      | (go_at_call 13; refine (Same_any hown1 hown2 (by omega)).mono ?_; rintro e w4 ⟨rfl, h1⟩; replace hb := hb.trans (h1.mono hb.size); clear h1)
      | (go_at_call 14; refine (HV.out _).mono ?_; rintro e w5 ⟨rfl, h1⟩; replace hb := hb.trans (h1.mono hb.size); clear h1)
      | (go_at_call 15; refine (awake_any _).mono ?_; rintro e w6 ⟨rfl, h1⟩; replace hb := hb.trans (h1.mono hb.size); clear h1))
    go_ret
    exact ⟨rfl, hb⟩

set_option maxRecDepth 100000 in
theorem UtfWrites_walk (form : Int) (a : Option Addr) (len cap : Nat) (zs : List Int) (w : World) (h : RowIn .i64 w a len cap zs) :
    Calls Try.prog 4 #[.int .i64 form, .slice a len cap] w fun e w' => e = .returned (.bool true) ∧ Below w.heap.size w w' := by
  obtain ⟨ys, hl, hv, hsome⟩ := some_out h
  obtain ⟨X, b, hW⟩ := wTup_form form ys
  have HW := Lib.hid hW
  have HV := Lib.hid hv
  have HSO := Lib.hid hsome
  have hb := Below.refl w.heap.size w
  clear h hW hv hsome
  go_enter Try.func4, Try.ntmps4
  go_wp2_with (first
    | (go_at_call 16; refine (HSO.out _).mono ?_; rintro e w1 ⟨rfl, rfl⟩)
    | (go_at_call 17; refine (write_any form a cap ys _ (HV.out.below hb) (by omega)).mono ?_; rintro e w1 ⟨rfl, h1⟩; replace hb := hb.trans (h1.mono hb.size); clear h1; rw [HW.out])
    | (go_at_call 18; refine (refWrite_any form a cap ys _ (HV.out.below hb) hl).mono ?_; rintro e w2 ⟨rfl, h1⟩; replace hb := hb.trans (h1.mono hb.size); clear h1; rw [HW.out])
    | (go_at_call 15; refine (awake_any _).mono ?_; rintro e w6 ⟨rfl, h1⟩; replace hb := hb.trans (h1.mono hb.size); clear h1))
  go_ret
  exact ⟨rfl, hb⟩

theorem wTup_one (p : Int) : ∃ X, Utf.wTup 0 [p] = .tuple #[.string X, .bool (Utf.scal p)] := by
  unfold Utf.wTup
  by_cases h : Utf.scal p = true
  · have h1 : Utf.allW 0 [p] = true := by
      unfold Utf.allW
      rw [List.all_cons, List.all_nil, Bool.and_true]
      exact hasB_0 h
    rw [if_pos h1, h]
    exact ⟨_, rfl⟩
  · have h1 : ¬ Utf.allW 0 [p] = true := by
      unfold Utf.allW
      rw [List.all_cons, List.all_nil, Bool.and_true, Utf.oneL_no (not_true h)]
      simp
    rw [if_neg h1, not_true h]
    exact ⟨_, rfl⟩
set_option maxRecDepth 100000 in
theorem UtfScalars_walk (p : Int) (w : World) :
    Calls Try.prog 5 #[.int .i64 p] w fun e w' => e = .returned (.bool true) ∧ Below w.heap.size w w' := by
  obtain ⟨X, hW⟩ := wTup_one p
  have HN := Lib.hid (write_new 0 [p] (by simp))
  rw [hW] at HN
  obtain ⟨b, hbb⟩ : ∃ b, b = Utf.scal p := ⟨_, rfl⟩
  rw [← hbb] at HN
  have HS : Hid (∀ w, Calls Try.prog 19 #[.int .i64 p] w fun e w' => e = .returned (.bool b) ∧ w = w') := Lib.hid fun w => hbb ▸ scalar_any p w
  have HR : Hid (∀ w, Calls Try.prog 20 #[.int .i64 p] w fun e w' => e = .returned (.bool b) ∧ w = w') := Lib.hid fun w => hbb ▸ refScalar_any p w
  have hb := Below.refl w.heap.size w
  clear hW hbb
  go_enter Try.func5, Try.ntmps5
  go_wp2_with (first
    | (go_at_call 17; refine (HN.out _).mono ?_; rintro e w1 ⟨rfl, h1⟩; replace hb := hb.trans (h1.mono hb.size); clear h1)
    | (go_at_call 19; refine (HS.out _).mono ?_; rintro e w2 ⟨rfl, rfl⟩)
    | (go_at_call 20; refine (HR.out _).mono ?_; rintro e w3 ⟨rfl, rfl⟩)
    | (go_at_call 15; refine (awake_any _).mono ?_; rintro e w6 ⟨rfl, h1⟩; replace hb := hb.trans (h1.mono hb.size); clear h1))
  go_ret
  exact ⟨rfl, hb⟩
end Go.Proofs.Ytkmgngmpplgjnaa
