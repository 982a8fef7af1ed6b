/- The walk of the document's own taking of many numbers (for later layers). -/
import Derived.Test.YtfhifnkekegkkaaInsLA
import Derived.Test.YtfhifnkekegkkaaLebRefAll
namespace Go.Proofs.Ytfhifnkekegkkaa
open Go.RowKit
open Leb (byt len7 lenF sum7 sg7)

set_option maxHeartbeats 400000 in
set_option maxRecDepth 100000 in
theorem refTakeAll_go (s : ByteArray) (most : Int) (hs : s.size ≤ 1000000000) (hu : okU s = true) (hm : ¬ most < (sum7 s (len7 s 5) : Int)) (w : World) :
    Calls Try.prog 61 #[.string s, .int .i64 most] w fun e w' => GivesRows w.heap.size (allRes s most) w e w' := by
  obtain ⟨i0, hi, hz0, hz1, hz2⟩ := info_parts info_int
  have HM : Hid (s.size ≤ maxLen) := Lib.hid (by unfold maxLen; omega)
  have HU := Lib.hid (uTup_good hu)
  have HO := Lib.hid hu
  have HN := Lib.hid (Int.not_lt.1 hm)
  have hm1 : decide (most < (sum7 s (len7 s 5) : Int)) = false := decide_eq_false hm
  have HNI := Lib.hid (num_U (s := s))
  clear hu hm
  go_enter Try.func61, Try.ntmps61
  go_wp2_with (go_at_call 34; refine (refTakeU_any s HM.out _).mono ?_; rintro e w1 ⟨rfl, hb⟩; rw [HU.out])
  go_loopw [8, 10, 11] (fun rest v idx wr => RowsAt w.heap.size s (sum7 s (len7 s 5)) w rest v idx wr) (fun _ _ idx _ => sum7 s (len7 s 5) - (intOf idx).toNat)
  case atStart => exact ⟨0, [], _, rfl, rfl, by omega, by simp, rfl, World.ownsRow_nil _ _ _ _, hb⟩
  case round =>
    obtain ⟨k, l, r, rfl, rfl, hk, hsz, hF, hown, hbel⟩ := hrel
    clear hb
    have HF := Lib.hid hF
    have hsl := hbel.size
    have HRM : Hid (r.size ≤ maxLen) := Lib.hid (by unfold maxLen; omega)
    have hkb : (k : Int) ≤ 4294967295 := by have := (okU_parts HO.out).2; omega
    clear hF
    by_cases hlt : k < sum7 s (len7 s 5)
    · by_cases hr : okU r = true
      · have HT := Lib.hid (uTup_good hr)
        have HK := Lib.hid hr
        have q3 : l.length + 1 ≤ maxLen := by unfold maxLen; omega
        have q4 : (l.length + 1) * 8 ≤ 140737488355328 := by omega
        clear hr
        go_wp2_with (first
          | (go_at_call 34; refine (refTakeU_any r HRM.out _).mono ?_; rintro e w2 ⟨rfl, hb3⟩; rw [HT.out]; have hown2 := Ints.below hown hb3; have hbel2 := hbel.trans (hb3.mono hsl); have hsl2 := hbel2.size; clear hb3)
          | (at_builtin; refine wpList_append_own _ rfl _ _ 45 rfl w.heap.size 3 i0 (.int .i64 0) 1 8 Try.underlying45 hi hz0 hz1 hz2 rfl (by decide) _ l.length (l.map (Value.int .i64)) rfl (World.ownsRow.alloc hown2 _) ⟨w2.heap.size, 0, none⟩ 1 1 [.int .i64 (sum7 r (len7 r 5) : Int)] rfl rfl (cell_one_new _ _ _) (one_i64 _) q3 q4 (le_alloc hsl2) ?_; intro v' w3 hown3 hg3 _; clear q3 q4))
        have h := rows_ok HK.out hlt hsz HF.out hown3 (grown_below' hown2 hbel2 (Nat.le_refl _) hg3)
        rw [show ((k + 1 : Nat) : Int) = (k : Int) + 1 from by omega] at h
        exact ⟨h, by simp [intOf]; omega⟩
      · have HT := Lib.hid (uTup_bad (not_true hr))
        have HE := Lib.hid (allRes_none HO.out (Int.not_lt.2 HN.out) (rows_bad (not_true hr) hlt HF.out))
        clear hr
        go_wp2_with (go_at_call 34; refine (refTakeU_any r HRM.out _).mono ?_; rintro e w2 ⟨rfl, hb3⟩; rw [HT.out])
        go_ret3
        rw [HE.out]
        exact ⟨_, rfl, World.ownsRow_nil _ _ _ _, hbel.trans (hb3.mono hsl)⟩
    · have hke : k = sum7 s (len7 s 5) := by omega
      subst hke
      have HE := Lib.hid (allRes_some HO.out (Int.not_lt.2 HN.out) (rows_end HF.out))
      go_wp2_with fail
      go_ret3
      rw [HE.out]
      exact ⟨_, rfl, hown, hbel⟩
theorem refTakeAll_full (s : ByteArray) (most : Int) (hs : s.size ≤ 1000000000) (hu : okU s = true) (hm : most < (sum7 s (len7 s 5) : Int)) (w : World) :
    Calls Try.prog 61 #[.string s, .int .i64 most] w fun e w' => GivesRows w.heap.size (allRes s most) w e w' := by
  have HM : Hid (s.size ≤ maxLen) := Lib.hid (by unfold maxLen; omega)
  have HU := Lib.hid (uTup_good hu)
  have HE := Lib.hid (allRes_full hu hm)
  clear hu
  go_enter Try.func61, Try.ntmps61
  go_wp2_with (go_at_call 34; refine (refTakeU_any s HM.out _).mono ?_; rintro e w1 ⟨rfl, hb⟩; rw [HU.out])
  go_ret3
  rw [HE.out]
  exact ⟨_, rfl, World.ownsRow_nil _ _ _ _, hb⟩
theorem refTakeAll_bad (s : ByteArray) (most : Int) (hs : s.size ≤ 1000000000) (hu : okU s = false) (w : World) :
    Calls Try.prog 61 #[.string s, .int .i64 most] w fun e w' => GivesRows w.heap.size (allRes s most) w e w' := by
  have HM : Hid (s.size ≤ maxLen) := Lib.hid (by unfold maxLen; omega)
  have HU := Lib.hid (uTup_bad hu)
  have HE := Lib.hid (allRes_bad most hu)
  clear hu
  go_enter Try.func61, Try.ntmps61
  go_wp2_with (go_at_call 34; refine (refTakeU_any s HM.out _).mono ?_; rintro e w1 ⟨rfl, hb⟩; rw [HU.out])
  go_ret3
  rw [HE.out]
  exact ⟨_, rfl, World.ownsRow_nil _ _ _ _, hb⟩
theorem refTakeAll_any (s : ByteArray) (most : Int) (hs : s.size ≤ 1000000000) (w : World) :
    Calls Try.prog 61 #[.string s, .int .i64 most] w fun e w' => GivesRows w.heap.size (allRes s most) w e w' := by
  by_cases hu : okU s = true
  · by_cases hm : most < (sum7 s (len7 s 5) : Int)
    · exact refTakeAll_full s most hs hu hm w
    · exact refTakeAll_go s most hs hu hm w
  · exact refTakeAll_bad s most hs (not_true hu) w

theorem rowsF_len : ∀ (n : Nat) (l : List Int) (r : ByteArray) (x : List Int × ByteArray), rowsF n l r = some x → x.1.length + x.2.size ≤ l.length + r.size := by
  intro n
  induction n with
  | zero =>
    intro l r x h
    cases h
    exact Nat.le_refl _
  | succ n ih =>
    intro l r x h
    rw [rowsF] at h
    by_cases hu : okU r = true
    · rw [if_pos hu] at h
      have h1 := ih _ _ _ h
      have h0 := (okU_parts hu).1
      have hle := Leb.len7_le r 5
      rw [List.length_append, List.length_singleton, ByteArray.size_extract] at h1
      omega
    · rw [if_neg hu] at h
      cases h
theorem allRes_len (s : ByteArray) (most : Int) : (allRes s most).1.length ≤ s.size := by
  unfold allRes
  split
  · split
    · simp
    · cases hr : rowsF (sum7 s (len7 s 5)) [] (s.extract (len7 s 5) s.size) with
      | none => simp
      | some x =>
        have h := rowsF_len _ _ _ _ hr
        have h2 := size_rest s
        simp only [List.length_nil] at h
        show x.1.length ≤ s.size
        omega
  · simp
end Go.Proofs.Ytfhifnkekegkkaa
