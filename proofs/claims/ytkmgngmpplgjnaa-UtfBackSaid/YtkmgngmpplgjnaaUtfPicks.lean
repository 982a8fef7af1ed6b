/- The walk of the statement on what an encoding lays. -/
import Derived.Test.YtkmgngmpplgjnaaUtfLaws2
namespace Go.Proofs.Ytkmgngmpplgjnaa
open Go.RowKit

theorem great_all {ys : List Int} (h : Utf.great ys = false) : ∀ y ∈ ys, y ≤ 255 := by
  intro y hy
  unfold Utf.great at h
  rw [List.any_eq_false] at h
  have := h y hy
  simpa using this
/-- An encoding lays any characters in the form that it picks. -/
theorem picks_all {enc : Int} {ys : List Int} (he : enc = 0 ∨ enc = 1 ∨ enc = 2) (hs : ∀ y ∈ ys, Utf.scal y = true) : Utf.Reads (Utf.formL enc ys) (Utf.catL (Utf.formL enc ys) ys) ys := by
  have hall : ∀ f, (∀ y ∈ ys, Utf.oneL f y ≠ []) → Utf.allW f ys = true := fun f h => by
    unfold Utf.allW
    rw [List.all_eq_true]
    exact fun y hy => decide_eq_true (h y hy)
  have n0 : ∀ y ∈ ys, Utf.oneL 0 y ≠ [] := fun y hy => of_decide_eq_true (hasB_0 (hs y hy))
  have n1 : ∀ y ∈ ys, Utf.oneL 1 y ≠ [] := fun y hy => of_decide_eq_true (hasB_1 (hs y hy))
  rcases he with rfl | rfl | rfl
  · exact ⟨rfl, hall 0 n0, rfl⟩
  · exact ⟨rfl, hall 1 n1, rfl⟩
  · by_cases hg : Utf.great ys = true
    · have e : Utf.formL 2 ys = 1 := by unfold Utf.formL; rw [if_pos rfl, if_pos hg]
      rw [e]
      exact ⟨rfl, hall 1 n1, rfl⟩
    · have e : Utf.formL 2 ys = 2 := by unfold Utf.formL; rw [if_pos rfl, if_neg hg]
      rw [e]
      exact ⟨rfl, hall 2 (fun y hy => of_decide_eq_true (hasB_2 (hs y hy) (great_all (not_true hg) y hy))), rfl⟩

theorem enc_three {enc : Int} : (wrap64 (enc.tmod 3 + 3)).tmod 3 = 0 ∨ (wrap64 (enc.tmod 3 + 3)).tmod 3 = 1 ∨ (wrap64 (enc.tmod 3 + 3)).tmod 3 = 2 := by
  have h1 : -3 < enc.tmod 3 := Int.lt_tmod_of_pos enc (by decide)
  have h2 : enc.tmod 3 < 3 := Int.tmod_lt_of_pos enc (by decide)
  generalize enc.tmod 3 = x at h1 h2
  have e : wrap64 (x + 3) = x + 3 := by unfold wrap64; omega
  rw [e, Int.tmod_eq_emod_of_nonneg (by omega)]
  omega
/-- What the statement's last calls come to. -/
theorem picks_out {enc : Int} {ys : List Int} (he : enc = 0 ∨ enc = 1 ∨ enc = 2) (hs : ∀ y ∈ ys, Utf.scal y = true) (hl : ys.length ≤ 300) :
    ∃ F X, Utf.formL enc ys = F ∧ Utf.wTup F ys = .tuple #[.string X, .bool true] ∧ X.size ≤ 1200 ∧ Utf.Out F (bl X) true ys ∧ (enc = 0 → F = 0) := by
  have hr := picks_all he hs
  refine ⟨_, strOfNums (Utf.catL (Utf.formL enc ys) ys), rfl, ?_, ?_, ?_, ?_⟩
  · unfold Utf.wTup
    rw [if_pos hr.2.1, hr.1]
  · have := size_cat (Utf.formL enc ys) ys
    omega
  · rw [bl_cat]
    exact .inl ⟨rfl, hr⟩
  · intro h
    subst h
    rfl

set_option maxRecDepth 100000 in
set_option maxHeartbeats 1000000 in
theorem UtfPicks_walk (enc : Int) (a : Option Addr) (len cap : Nat) (zs : List Int) (w : World) (h0 : (Lit.int .i64 enc).wf = true) (h : RowIn .i64 w a len cap zs) :
    Calls Try.prog 9 #[.int .i64 enc, .slice a len cap] w fun e w' => e = .returned (.bool true) ∧ Below w.heap.size w w' := by
  obtain ⟨ys, hl, hv, hsome⟩ := some_out h
  have HV := Lib.hid hv
  have HSO := Lib.hid hsome
  have hb := Below.refl w.heap.size w
  have hr := i64_of_wf h0
  have h3 := enc_three (enc := enc)
  clear h hv hsome h0
  go_enter Try.func9, Try.ntmps9
  go_wp2_with (go_at_call 16; refine (HSO.out _).mono ?_; rintro e w1 ⟨rfl, rfl⟩)
  revert h3
  generalize (wrap64 (enc.tmod 3 + 3)).tmod 3 = E
  intro h3
  go_loop [5] (fun i => ∃ k : Nat, i = .int .i64 k ∧ k ≤ ys.length ∧ ∀ y ∈ ys.take k, Utf.scal y = true) (fun i => ys.length - (intOf i).toNat)
  case atStart => exact ⟨0, rfl, by omega, by simp⟩
  case round =>
    obtain ⟨k, rfl, hk, hall⟩ := hrel
    have HALL := Lib.hid hall
    clear hall
    by_cases hlt : k < ys.length
    · obtain ⟨b, off, rfl, hc⟩ := HV.out.resolve_left (by omega)
      have hcr := hc k hlt
      have htk := Utf.take_next hlt
      clear hc
      revert hcr htk
      generalize ys.getD k 0 = z
      intro hcr htk
      have HT := Lib.hid htk
      clear htk
      by_cases hz : Utf.scal z = true
      · have HZ := Lib.hid hz
        clear hz
        go_wp2_with (go_at_call 20; refine (refScalar_any z _).mono ?_; rintro e w2 ⟨rfl, rfl⟩; rw [HZ.out])
        refine ⟨⟨k + 1, by go_num, by omega, ?_⟩, by simp [intOf]; omega⟩
        rw [HT.out]
        intro y hy
        rcases List.mem_append.1 hy with hy | hy
        · exact HALL.out y hy
        · rw [List.mem_singleton.1 hy]
          exact HZ.out
      · have HZ := Lib.hid (not_true hz)
        clear hz
        go_wp2_with (first
          | (go_at_call 20; refine (refScalar_any z _).mono ?_; rintro e w2 ⟨rfl, rfl⟩; rw [HZ.out])
          | (go_at_call 15; refine (awake_any _).mono ?_; rintro e w6 ⟨rfl, h1⟩; replace hb := hb.trans (h1.mono hb.size); clear h1))
        go_ret
        exact ⟨rfl, hb⟩
    · have hke : k = ys.length := by omega
      subst hke
      have hall := HALL.out
      rw [List.take_length] at hall
      obtain ⟨F, X, hF, hW, hX, hO, hE⟩ := picks_out h3 hall hl
      have HF : Hid (∀ w, View w a ys.length ys → Calls Try.prog 23 #[.int .i64 E, .slice a ys.length cap] w fun e w' => e = .returned (.int .i64 F) ∧ w = w') := Lib.hid fun w hv => hF ▸ form_any E a cap ys w hv hl
      have HW := Lib.hid hW
      have HRD := Lib.hid (read_out hO (by omega))
      have HVD : Hid (E = 0 → ∀ w, Calls Try.prog 14 #[.string X] w fun e w' => e = .returned (.bool true) ∧ Below w.heap.size w w') := Lib.hid fun h => by
        obtain rfl := hE h
        exact valid_out hO
      clear hall hF hW hO hE
      rcases h3 with rfl | rfl | rfl
      all_goals
        go_wp2_with (first
          | (go_at_call 23; refine (HF.out _ (HV.out.below hb)).mono ?_; rintro e w1 ⟨rfl, rfl⟩)
          | (go_at_call 17; refine (write_any F a cap ys _ (HV.out.below hb) (by omega)).mono ?_; rintro e w1 ⟨rfl, h1⟩; replace hb := hb.trans (h1.mono hb.size); clear h1; rw [HW.out])
          | (go_at_call 11; refine (HRD.out _).mono ?_; rintro e w2 ⟨a2, cap2, rfl, hown, h1⟩; replace hb := hb.trans (h1.mono hb.size); clear h1)
          | (go_at_call 13; refine (Same_view a a2 ys.length cap cap2 ys _ (by omega) (HV.out.below hb) hown.viewAt).mono ?_; rintro e w4 ⟨rfl, h1⟩; replace hb := hb.trans (h1.mono hb.size); clear h1)
          | (go_at_call 14; refine (HVD.out (by first | rfl | trivial) _).mono ?_; rintro e w5 ⟨rfl, h1⟩; replace hb := hb.trans (h1.mono hb.size); clear h1)
          | (go_at_call 15; refine (awake_any _).mono ?_; rintro e w6 ⟨rfl, h1⟩; replace hb := hb.trans (h1.mono hb.size); clear h1))
        go_ret
        exact ⟨rfl, hb⟩
end Go.Proofs.Ytkmgngmpplgjnaa
