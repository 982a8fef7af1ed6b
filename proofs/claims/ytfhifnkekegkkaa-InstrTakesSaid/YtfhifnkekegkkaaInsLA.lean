/- The walks of taking many numbers, and of comparing them (for later layers). -/
import Derived.Test.YtfhifnkekegkkaaInsLP
import Derived.Test.YtfhifnkekegkkaaKitI
namespace Go.Proofs.Ytfhifnkekegkkaa
open Go.RowKit
open Leb (byt len7 lenF sum7 sg7)

/-- n numbers more, behind those that there are. -/
def rowsF : Nat → List Int → ByteArray → Option (List Int × ByteArray)
  | 0, l, r => some (l, r)
  | n + 1, l, r => if okU r = true then rowsF n (l ++ [(sum7 r (len7 r 5) : Int)]) (r.extract (len7 r 5) r.size) else none
def allRes (s : ByteArray) (most : Int) : List Int × ByteArray × Int :=
  if okU s = true then
    if most < (sum7 s (len7 s 5) : Int) then ([], ⟨#[]⟩, 14)
    else match rowsF (sum7 s (len7 s 5)) [] (s.extract (len7 s 5) s.size) with
      | none => ([], ⟨#[]⟩, 2)
      | some (l, r) => (l, r, 0)
  else ([], ⟨#[]⟩, 2)
theorem allRes_bad {s : ByteArray} (most : Int) (h : okU s = false) : allRes s most = ([], ⟨#[]⟩, 2) := by
  unfold allRes
  rw [h]
  rfl
theorem allRes_full {s : ByteArray} {most : Int} (h : okU s = true) (hm : most < (sum7 s (len7 s 5) : Int)) : allRes s most = ([], ⟨#[]⟩, 14) := by
  unfold allRes
  rw [if_pos h, if_pos hm]
theorem allRes_none {s : ByteArray} {most : Int} (h : okU s = true) (hm : ¬ most < (sum7 s (len7 s 5) : Int)) (hr : rowsF (sum7 s (len7 s 5)) [] (s.extract (len7 s 5) s.size) = none) : allRes s most = ([], ⟨#[]⟩, 2) := by
  unfold allRes
  rw [if_pos h, if_neg hm, hr]
theorem allRes_some {s : ByteArray} {most : Int} {l : List Int} {r : ByteArray} (h : okU s = true) (hm : ¬ most < (sum7 s (len7 s 5) : Int)) (hr : rowsF (sum7 s (len7 s 5)) [] (s.extract (len7 s 5) s.size) = some (l, r)) : allRes s most = (l, r, 0) := by
  unfold allRes
  rw [if_pos h, if_neg hm, hr]

/-- What taking them leaves. -/
def GivesRows (base : Nat) (res : List Int × ByteArray × Int) (w : World) (e : Ending) (w' : World) : Prop :=
  ∃ v, e = .returned (.tuple #[v, .string res.2.1, .int .i64 res.2.2]) ∧ Ints base v res.1 w' ∧ Below base w w'
def RowsAt (base : Nat) (s : ByteArray) (N : Nat) (w : World) (rest v idx : Value) (wr : World) : Prop :=
  ∃ (k : Nat) (l : List Int) (r : ByteArray), idx = .int .i64 k ∧ rest = .string r ∧ k ≤ N ∧ l.length + r.size ≤ s.size ∧
    rowsF (N - k) l r = rowsF N [] (s.extract (len7 s 5) s.size) ∧ Ints base v l wr ∧ Below base w wr

theorem rows_ok {base : Nat} {s r : ByteArray} {N k : Nat} {l : List Int} {w w1 : World} {v : Value} (hu : okU r = true) (hk : k < N) (hs : l.length + r.size ≤ s.size)
    (hF : rowsF (N - k) l r = rowsF N [] (s.extract (len7 s 5) s.size))
    (hown : w1.ownsRow base 3 1 v (l.length + 1) (l.map (Value.int .i64) ++ [.int .i64 (sum7 r (len7 r 5) : Int)])) (hb : Below base w w1) :
    RowsAt base s N w (.string (r.extract (len7 r 5) r.size)) v (.int .i64 ((k + 1 : Nat) : Int)) w1 := by
  have h0 := (okU_parts hu).1
  have hle := Leb.len7_le r 5
  obtain ⟨f, hf⟩ : ∃ f, N - k = f + 1 := ⟨N - k - 1, by omega⟩
  rw [hf, rowsF, if_pos hu] at hF
  refine ⟨k + 1, _, _, rfl, rfl, by omega, ?_, ?_, Ints.snoc hown, hb⟩
  · rw [List.length_append, ByteArray.size_extract, List.length_singleton]
    omega
  · rw [show N - (k + 1) = f from by omega]
    exact hF
theorem rows_bad {s r : ByteArray} {N k : Nat} {l : List Int} (hu : okU r = false) (hk : k < N) (hF : rowsF (N - k) l r = rowsF N [] (s.extract (len7 s 5) s.size)) : rowsF N [] (s.extract (len7 s 5) s.size) = none := by
  obtain ⟨f, hf⟩ : ∃ f, N - k = f + 1 := ⟨N - k - 1, by omega⟩
  rw [hf, rowsF, hu] at hF
  exact hF.symm
theorem rows_end {s r : ByteArray} {N : Nat} {l : List Int} (hF : rowsF (N - N) l r = rowsF N [] (s.extract (len7 s 5) s.size)) : rowsF N [] (s.extract (len7 s 5) s.size) = some (l, r) := by
  rw [Nat.sub_self] at hF
  exact hF.symm
theorem size_rest (s : ByteArray) : (s.extract (len7 s 5) s.size).size ≤ s.size := by
  rw [ByteArray.size_extract]
  omega

set_option maxHeartbeats 400000 in
set_option maxRecDepth 100000 in
theorem TakeAll_go (s : ByteArray) (most : Int) (hs : s.size ≤ 1000000000) (hu : okU s = true) (hm : ¬ most < (sum7 s (len7 s 5) : Int)) (w : World) :
    Calls Try.prog 85 #[.string s, .int .i64 most] w fun e w' => GivesRows w.heap.size (allRes s most) w e w' := by
  obtain ⟨i0, hi, hz0, hz1, hz2⟩ := info_parts info_int
  have HM : Hid (s.size ≤ maxLen) := Lib.hid (by unfold maxLen; omega)
  have HU := Lib.hid (uTup_good hu)
  have HO := Lib.hid hu
  have HN := Lib.hid (Int.not_lt.1 hm)
  have hm1 : decide (most < (sum7 s (len7 s 5) : Int)) = false := decide_eq_false hm
  have HNI := Lib.hid (num_U (s := s))
  clear hu hm
  go_enter Try.func85, Try.ntmps85
  go_wp2_with (go_at_call 72; refine (TakeU_any s HM.out _).mono ?_; rintro e w1 ⟨rfl, hb⟩; rw [HU.out])
  go_loopw [8, 10, 27] (fun rest v idx wr => RowsAt w.heap.size s (sum7 s (len7 s 5)) w rest v idx wr) (fun _ _ idx _ => sum7 s (len7 s 5) - (intOf idx).toNat)
  case atStart => exact ⟨0, [], _, rfl, rfl, by omega, by simp, rfl, World.ownsRow_nil _ _ _ _, hb⟩
  case round =>
    obtain ⟨k, l, r, rfl, rfl, hk, hsz, hF, hown, hbel⟩ := hrel
    clear hb
    have HF := Lib.hid hF
    have hsl := hbel.size
    have HRM : Hid (r.size ≤ maxLen) := Lib.hid (by unfold maxLen; omega)
    have hkb : (k : Int) ≤ 4294967295 := by have := (okU_parts HO.out).2; omega
    clear hF
    by_cases hlt : k < sum7 s (len7 s 5)
    · by_cases hr : okU r = true
      · have HT := Lib.hid (uTup_good hr)
        have HK := Lib.hid hr
        have q3 : l.length + 1 ≤ maxLen := by unfold maxLen; omega
        have q4 : (l.length + 1) * 8 ≤ 140737488355328 := by omega
        clear hr
        go_wp2_with (first
          | (go_at_call 72; refine (TakeU_any r HRM.out _).mono ?_; rintro e w2 ⟨rfl, hb3⟩; rw [HT.out]; have hown2 := Ints.below hown hb3; have hbel2 := hbel.trans (hb3.mono hsl); have hsl2 := hbel2.size; clear hb3)
          | (at_builtin; refine wpList_append_own _ rfl _ _ 45 rfl w.heap.size 3 i0 (.int .i64 0) 1 8 Try.underlying45 hi hz0 hz1 hz2 rfl (by decide) _ l.length (l.map (Value.int .i64)) rfl (World.ownsRow.alloc hown2 _) ⟨w2.heap.size, 0, none⟩ 1 1 [.int .i64 (sum7 r (len7 r 5) : Int)] rfl rfl (cell_one_new _ _ _) (one_i64 _) q3 q4 (le_alloc hsl2) ?_; intro v' w3 hown3 hg3 _; clear q3 q4))
        have h := rows_ok HK.out hlt hsz HF.out hown3 (grown_below' hown2 hbel2 (Nat.le_refl _) hg3)
        rw [show ((k + 1 : Nat) : Int) = (k : Int) + 1 from by omega] at h
        exact ⟨h, by simp [intOf]; omega⟩
      · have HT := Lib.hid (uTup_bad (not_true hr))
        have HE := Lib.hid (allRes_none HO.out (Int.not_lt.2 HN.out) (rows_bad (not_true hr) hlt HF.out))
        clear hr
        go_wp2_with (go_at_call 72; refine (TakeU_any r HRM.out _).mono ?_; rintro e w2 ⟨rfl, hb3⟩; rw [HT.out])
        go_ret3
        rw [HE.out]
        exact ⟨_, rfl, World.ownsRow_nil _ _ _ _, hbel.trans (hb3.mono hsl)⟩
    · have hke : k = sum7 s (len7 s 5) := by omega
      subst hke
      have HE := Lib.hid (allRes_some HO.out (Int.not_lt.2 HN.out) (rows_end HF.out))
      go_wp2_with fail
      go_ret3
      rw [HE.out]
      exact ⟨_, rfl, hown, hbel⟩
theorem TakeAll_full (s : ByteArray) (most : Int) (hs : s.size ≤ 1000000000) (hu : okU s = true) (hm : most < (sum7 s (len7 s 5) : Int)) (w : World) :
    Calls Try.prog 85 #[.string s, .int .i64 most] w fun e w' => GivesRows w.heap.size (allRes s most) w e w' := by
  have HM : Hid (s.size ≤ maxLen) := Lib.hid (by unfold maxLen; omega)
  have HU := Lib.hid (uTup_good hu)
  have HE := Lib.hid (allRes_full hu hm)
  clear hu
  go_enter Try.func85, Try.ntmps85
  go_wp2_with (go_at_call 72; refine (TakeU_any s HM.out _).mono ?_; rintro e w1 ⟨rfl, hb⟩; rw [HU.out])
  go_ret3
  rw [HE.out]
  exact ⟨_, rfl, World.ownsRow_nil _ _ _ _, hb⟩
theorem TakeAll_bad (s : ByteArray) (most : Int) (hs : s.size ≤ 1000000000) (hu : okU s = false) (w : World) :
    Calls Try.prog 85 #[.string s, .int .i64 most] w fun e w' => GivesRows w.heap.size (allRes s most) w e w' := by
  have HM : Hid (s.size ≤ maxLen) := Lib.hid (by unfold maxLen; omega)
  have HU := Lib.hid (uTup_bad hu)
  have HE := Lib.hid (allRes_bad most hu)
  clear hu
  go_enter Try.func85, Try.ntmps85
  go_wp2_with (go_at_call 72; refine (TakeU_any s HM.out _).mono ?_; rintro e w1 ⟨rfl, hb⟩; rw [HU.out])
  go_ret3
  rw [HE.out]
  exact ⟨_, rfl, World.ownsRow_nil _ _ _ _, hb⟩
theorem TakeAll_any (s : ByteArray) (most : Int) (hs : s.size ≤ 1000000000) (w : World) :
    Calls Try.prog 85 #[.string s, .int .i64 most] w fun e w' => GivesRows w.heap.size (allRes s most) w e w' := by
  by_cases hu : okU s = true
  · by_cases hm : most < (sum7 s (len7 s 5) : Int)
    · exact TakeAll_full s most hs hu hm w
    · exact TakeAll_go s most hs hu hm w
  · exact TakeAll_bad s most hs (not_true hu) w
end Go.Proofs.Ytfhifnkekegkkaa
