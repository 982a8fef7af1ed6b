/- The walk of the document's own taking of many numbers; two rows that are the same; the statement on rows. -/
import Derived.Test.YtanfdkbdmaljhaaLebAllW
namespace Go.Proofs.Ytanfdkbdmaljhaa
open Go.RowKit
open Leb (byt len7 lenF sum7 sg7)

set_option maxHeartbeats 400000 in
set_option maxRecDepth 100000 in
theorem refTakeAll_go (s : ByteArray) (most : Int) (hs : s.size ≤ 3000) (hu : okU s = true) (hm : ¬ most < (sum7 s (len7 s 5) : Int)) (w : World) :
    Calls Try.prog 24 #[.string s, .int .i64 most] w fun e w' => GivesRows w.heap.size (allRes s most) w e w' := by
  obtain ⟨i0, hi, hz0, hz1, hz2⟩ := info_parts info_int
  have HM : Hid (s.size ≤ maxLen) := Lib.hid (by unfold maxLen; omega)
  have HU := Lib.hid (uTup_good hu)
  have HO := Lib.hid hu
  have HN := Lib.hid (Int.not_lt.1 hm)
  have hm1 : decide (most < (sum7 s (len7 s 5) : Int)) = false := decide_eq_false hm
  have HNI := Lib.hid (num_U (s := s))
  clear hu hm
  go_enter Try.func24, Try.ntmps24
  go_wp2_with (go_at_call 16; refine (refTakeU_any s HM.out _).mono ?_; rintro e w1 ⟨rfl, hb⟩; rw [HU.out])
  go_loopw [8, 10, 11] (fun rest v idx wr => RowsAt w.heap.size s (sum7 s (len7 s 5)) w rest v idx wr) (fun _ _ idx _ => sum7 s (len7 s 5) - (intOf idx).toNat)
  case atStart => exact ⟨0, [], _, rfl, rfl, by omega, by simp, rfl, World.ownsRow_nil _ _ _ _, hb⟩
  case round =>
    obtain ⟨k, l, r, rfl, rfl, hk, hsz, hF, hown, hbel⟩ := hrel
    clear hb
    have HF := Lib.hid hF
    have hsl := hbel.size
    have HRM : Hid (r.size ≤ maxLen) := Lib.hid (by unfold maxLen; omega)
    have hkb : (k : Int) ≤ 4294967295 := by have := (okU_parts HO.out).2; omega
    clear hF
    by_cases hlt : k < sum7 s (len7 s 5)
    · by_cases hr : okU r = true
      · have HT := Lib.hid (uTup_good hr)
        have HK := Lib.hid hr
        have q3 : l.length + 1 ≤ maxLen := by unfold maxLen; omega
        have q4 : (l.length + 1) * 8 ≤ 140737488355328 := by omega
        clear hr
        go_wp2_with (first
          | (go_at_call 16; refine (refTakeU_any r HRM.out _).mono ?_; rintro e w2 ⟨rfl, hb3⟩; rw [HT.out]; have hown2 := Ints.below hown hb3; have hbel2 := hbel.trans (hb3.mono hsl); have hsl2 := hbel2.size; clear hb3)
          | (at_builtin; refine wpList_append_own _ rfl _ _ 41 rfl w.heap.size 3 i0 (.int .i64 0) 1 8 Try.underlying41 hi hz0 hz1 hz2 rfl (by decide) _ l.length (l.map (Value.int .i64)) rfl (World.ownsRow.alloc hown2 _) ⟨w2.heap.size, 0, none⟩ 1 1 [.int .i64 (sum7 r (len7 r 5) : Int)] rfl rfl (cell_one_new _ _ _) (one_i64 _) q3 q4 (le_alloc hsl2) ?_; intro v' w3 hown3 hg3 _; clear q3 q4))
        have h := rows_ok HK.out hlt hsz HF.out hown3 (grown_below' hown2 hbel2 (Nat.le_refl _) hg3)
        rw [show ((k + 1 : Nat) : Int) = (k : Int) + 1 from by omega] at h
        exact ⟨h, by simp [intOf]; omega⟩
      · have HT := Lib.hid (uTup_bad (not_true hr))
        have HE := Lib.hid (allRes_none HO.out (Int.not_lt.2 HN.out) (rows_bad (not_true hr) hlt HF.out))
        clear hr
        go_wp2_with (go_at_call 16; refine (refTakeU_any r HRM.out _).mono ?_; rintro e w2 ⟨rfl, hb3⟩; rw [HT.out])
        go_ret3
        rw [HE.out]
        exact ⟨_, rfl, World.ownsRow_nil _ _ _ _, hbel.trans (hb3.mono hsl)⟩
    · have hke : k = sum7 s (len7 s 5) := by omega
      subst hke
      have HE := Lib.hid (allRes_some HO.out (Int.not_lt.2 HN.out) (rows_end HF.out))
      go_wp2_with fail
      go_ret3
      rw [HE.out]
      exact ⟨_, rfl, hown, hbel⟩
theorem refTakeAll_full (s : ByteArray) (most : Int) (hs : s.size ≤ 3000) (hu : okU s = true) (hm : most < (sum7 s (len7 s 5) : Int)) (w : World) :
    Calls Try.prog 24 #[.string s, .int .i64 most] w fun e w' => GivesRows w.heap.size (allRes s most) w e w' := by
  have HM : Hid (s.size ≤ maxLen) := Lib.hid (by unfold maxLen; omega)
  have HU := Lib.hid (uTup_good hu)
  have HE := Lib.hid (allRes_full hu hm)
  clear hu
  go_enter Try.func24, Try.ntmps24
  go_wp2_with (go_at_call 16; refine (refTakeU_any s HM.out _).mono ?_; rintro e w1 ⟨rfl, hb⟩; rw [HU.out])
  go_ret3
  rw [HE.out]
  exact ⟨_, rfl, World.ownsRow_nil _ _ _ _, hb⟩
theorem refTakeAll_bad (s : ByteArray) (most : Int) (hs : s.size ≤ 3000) (hu : okU s = false) (w : World) :
    Calls Try.prog 24 #[.string s, .int .i64 most] w fun e w' => GivesRows w.heap.size (allRes s most) w e w' := by
  have HM : Hid (s.size ≤ maxLen) := Lib.hid (by unfold maxLen; omega)
  have HU := Lib.hid (uTup_bad hu)
  have HE := Lib.hid (allRes_bad most hu)
  clear hu
  go_enter Try.func24, Try.ntmps24
  go_wp2_with (go_at_call 16; refine (refTakeU_any s HM.out _).mono ?_; rintro e w1 ⟨rfl, hb⟩; rw [HU.out])
  go_ret3
  rw [HE.out]
  exact ⟨_, rfl, World.ownsRow_nil _ _ _ _, hb⟩
theorem refTakeAll_any (s : ByteArray) (most : Int) (hs : s.size ≤ 3000) (w : World) :
    Calls Try.prog 24 #[.string s, .int .i64 most] w fun e w' => GivesRows w.heap.size (allRes s most) w e w' := by
  by_cases hu : okU s = true
  · by_cases hm : most < (sum7 s (len7 s 5) : Int)
    · exact refTakeAll_full s most hs hu hm w
    · exact refTakeAll_go s most hs hu hm w
  · exact refTakeAll_bad s most hs (not_true hu) w

theorem Ints.view {base : Nat} {v : Value} {xs : List Int} {w : World} (h : Ints base v xs w) : ∃ a cap, v = .slice a xs.length cap ∧ View w a xs.length xs := by
  rcases h.2 with ⟨hn, h0⟩ | ⟨g, cap, cur, hn, hb, hg, _⟩
  · exact ⟨none, 0, by rw [hn, h0], .inl h0⟩
  · subst hn
    refine ⟨_, cap, rfl, .inr ⟨g, 0, rfl, fun i hi => ?_⟩⟩
    have hc := World.ownsRow.cells h (g := g) rfl i (.int .i64 (xs.getD i 0)) (by simp [List.getElem?_eq_getElem hi])
    have hadd : (⟨g, 0, none⟩ : Addr).add i = ⟨g, 0 + i, none⟩ := by unfold Addr.add; split <;> simp_all
    rw [hadd] at hc
    exact hc

set_option maxHeartbeats 400000 in
set_option maxRecDepth 100000 in
theorem Same_view (a c : Option Addr) (n cap cap2 : Nat) (xs : List Int) (w : World) (hn : n ≤ 3000) (ha : View w a n xs) (hc : View w c n xs) :
    Calls Try.prog 27 #[.slice a n cap, .slice c n cap2] w fun e w' => e = .returned (.bool true) ∧ Below w.heap.size w w' := by
  have HA := Lib.hid ha
  have HC := Lib.hid hc
  have hne : ((n : Int) != (n : Int)) = false := by simp
  clear ha hc
  go_enter Try.func27, Try.ntmps27
  go_wp2_with fail
  go_loopw [5] (fun i wr => ∃ k : Nat, i = .int .i64 k ∧ k ≤ n ∧ Below w.heap.size w wr) (fun i _ => n - (intOf i).toNat)
  case atStart => exact ⟨0, rfl, by omega, Below.refl _ _⟩
  case round =>
    obtain ⟨k, rfl, hk, hb⟩ := hrel
    by_cases hlt : k < n
    · obtain ⟨b, off, rfl, hca⟩ := HA.out.resolve_left (by omega)
      obtain ⟨d, off2, rfl, hcc⟩ := HC.out.resolve_left (by omega)
      have h1 := hca k hlt
      have h2 := hcc k hlt
      have g1 := (hb.cell (p := ⟨b, off + k, none⟩) (World.block_lt_of_cell? w _ h1)).trans h1
      have g2 := (hb.cell (p := ⟨d, off2 + k, none⟩) (World.block_lt_of_cell? w _ h2)).trans h2
      clear hca hcc h1 h2
      revert g1 g2
      generalize xs.getD k 0 = z
      intro g1 g2
      go_wp2_with fail
      go_quiet (fail)
      go_wp2
      exact ⟨⟨k + 1, by go_num, by omega, below_drewN hb _⟩, by simp [intOf]; omega⟩
    · have hke : k = n := by omega
      subst hke
      go_wp2_with fail
      go_ret
      exact ⟨rfl, hb⟩
theorem Same_any {b1 b2 : Nat} {va vb : Value} {xs : List Int} {w : World} (ha : Ints b1 va xs w) (hc : Ints b2 vb xs w) (hn : xs.length ≤ 3000) :
    Calls Try.prog 27 #[va, vb] w fun e w' => e = .returned (.bool true) ∧ Below w.heap.size w w' := by
  obtain ⟨a, cap, rfl, h1⟩ := ha.view
  obtain ⟨c, cap2, rfl, h2⟩ := hc.view
  exact Same_view a c xs.length cap cap2 xs w hn h1 h2

theorem rowsF_len : ∀ (n : Nat) (l : List Int) (r : ByteArray) (x : List Int × ByteArray), rowsF n l r = some x → x.1.length + x.2.size ≤ l.length + r.size := by
  intro n
  induction n with
  | zero =>
    intro l r x h
    cases h
    exact Nat.le_refl _
  | succ n ih =>
    intro l r x h
    rw [rowsF] at h
    by_cases hu : okU r = true
    · rw [if_pos hu] at h
      have h1 := ih _ _ _ h
      have h0 := (okU_parts hu).1
      have hle := Leb.len7_le r 5
      rw [List.length_append, List.length_singleton, ByteArray.size_extract] at h1
      omega
    · rw [if_neg hu] at h
      cases h
theorem allRes_len (s : ByteArray) (most : Int) : (allRes s most).1.length ≤ s.size := by
  unfold allRes
  split
  · split
    · simp
    · cases hr : rowsF (sum7 s (len7 s 5)) [] (s.extract (len7 s 5) s.size) with
      | none => simp
      | some x =>
        have h := rowsF_len _ _ _ _ hr
        have h2 := size_rest s
        simp only [List.length_nil] at h
        show x.1.length ≤ s.size
        omega
  · simp

/-- A slice of numbers that came in, as the frame tells it. -/
def RowIn (k : IntKind) (w : World) (a : Option Addr) (len cap : Nat) (zs : List Int) : Prop :=
  (a = none ∧ len = 0 ∧ cap = 0 ∧ zs = []) ∨
  ∃ x, a = some x ∧ len ≤ cap ∧ cap ≤ maxLen ∧ zs.length = cap ∧ (∀ i, i < zs.length → w.cell? (x.add i) = some (.int k (zs.getD i 0))) ∧ ∀ n ∈ zs, (Lit.int k n).wf = true
theorem RowIn.view {w : World} {a : Option Addr} {len cap : Nat} {zs : List Int} (h : RowIn .i64 w a len cap zs) :
    View w a len zs ∧ len ≤ zs.length ∧ len ≤ maxLen ∧ ∀ i, i < len → zs.getD i 0 ≤ 9223372036854775807 := by
  rcases h with ⟨rfl, rfl, rfl, rfl⟩ | ⟨x, rfl, h1, h2, h3, hc, hw⟩
  · exact ⟨.inl rfl, by simp, by simp, fun i hi => absurd hi (by omega)⟩
  · refine ⟨?_, by omega, by omega, fun i hi => ?_⟩
    · by_cases h0 : len = 0
      · exact .inl h0
      · obtain ⟨b, off, spot⟩ := x
        have hc0 := hc 0 (by omega)
        have hspot : spot = none := by simpa [Addr.add] using World.cell?_spot hc0
        subst hspot
        refine .inr ⟨b, off, rfl, fun i hi => ?_⟩
        have hci := hc i (by omega)
        have hadd : (⟨b, off, none⟩ : Addr).add i = ⟨b, off + i, none⟩ := by unfold Addr.add; split <;> simp_all
        rw [hadd] at hci
        exact hci
    · have hm : zs.getD i 0 ∈ zs := by
        rw [List.getD_eq_getElem?_getD, List.getElem?_eq_getElem (show i < zs.length by omega)]
        exact List.getElem_mem _
      exact (i64_of_wf (hw _ hm)).2

theorem LebRows_long (a : Option Addr) (len cap : Nat) (s : ByteArray) (most : Int) (hlen : len ≤ maxLen) (hs : s.size ≤ maxLen) (h : 300 < len ∨ 3000 < s.size) (w : World) :
    Calls Try.prog 9 #[.slice a len cap, .string s, .int .i64 most] w fun e w' => e = .returned (.bool true) ∧ Below w.heap.size w w' := by
  unfold maxLen at hlen hs
  have hb := Below.refl w.heap.size w
  by_cases h1 : 300 < len
  · clear h
    go_enter Try.func9, Try.ntmps9
    go_wp2_with (go_at_call 14; refine (awake_any _).mono ?_; rintro e w1 ⟨rfl, k1⟩; replace hb := hb.trans (k1.mono hb.size); clear k1)
    go_ret
    exact ⟨rfl, hb⟩
  · have h2 : 3000 < s.size := by omega
    clear h
    go_enter Try.func9, Try.ntmps9
    go_wp2_with (go_at_call 14; refine (awake_any _).mono ?_; rintro e w1 ⟨rfl, k1⟩; replace hb := hb.trans (k1.mono hb.size); clear k1)
    go_ret
    exact ⟨rfl, hb⟩

set_option maxHeartbeats 400000 in
set_option maxRecDepth 100000 in
theorem LebRows_short (a : Option Addr) (len cap : Nat) (zs : List Int) (s : ByteArray) (most : Int) (hlen : len ≤ 300) (hs : s.size ≤ 3000) (w : World)
    (hv0 : View w a len zs) (hz0 : len ≤ zs.length) (hr0 : ∀ i, i < len → zs.getD i 0 ≤ 9223372036854775807) :
    Calls Try.prog 9 #[.slice a len cap, .string s, .int .i64 most] w fun e w' => e = .returned (.bool true) ∧ Below w.heap.size w w' := by
  have hb := Below.refl w.heap.size w
  have hv := Lib.hid hv0
  have HR := Lib.hid hr0
  have HL : Hid ((allRes s most).1.length ≤ 3000) := Lib.hid (Nat.le_trans (allRes_len s most) hs)
  clear hv0 hr0
  go_enter Try.func9, Try.ntmps9
  go_wp2_with (first
    | (go_at_call 23; refine (TakeAll_any s most hs _).mono ?_; rintro e w1 ⟨va, rfl, ia, k1⟩; replace hb := hb.trans (k1.mono hb.size); replace hv := Lib.hid (View.below hv.out k1); clear k1)
    | (go_at_call 24; refine (refTakeAll_any s most hs _).mono ?_; rintro e w1 ⟨vb, rfl, ib, k1⟩; replace hb := hb.trans (k1.mono hb.size); replace hv := Lib.hid (View.below hv.out k1); replace ia := Ints.below ia k1; clear k1)
    | (go_at_call 25; refine (PutAll_any a len cap zs _ hv.out hlen hz0 HR.out).mono ?_; rintro e w1 ⟨rfl, k1⟩; replace hb := hb.trans (k1.mono hb.size); replace hv := Lib.hid (View.below hv.out k1); replace ia := Ints.below ia k1; replace ib := Ints.below ib k1; clear k1)
    | (go_at_call 26; refine (refPutAll_any a len cap zs _ hv.out hlen hz0 HR.out).mono ?_; rintro e w1 ⟨rfl, k1⟩; replace hb := hb.trans (k1.mono hb.size); replace hv := Lib.hid (View.below hv.out k1); replace ia := Ints.below ia k1; replace ib := Ints.below ib k1; clear k1)
    | (go_at_call 27; refine (Same_any ia ib HL.out).mono ?_; rintro e w1 ⟨rfl, k1⟩; replace hb := hb.trans (k1.mono hb.size); clear k1)
    | (go_at_call 14; refine (awake_any _).mono ?_; rintro e w1 ⟨rfl, k1⟩; replace hb := hb.trans (k1.mono hb.size); clear k1))
  go_ret
  exact ⟨rfl, hb⟩
theorem LebRows_walk (a : Option Addr) (len cap : Nat) (zs : List Int) (s : ByteArray) (most : Int) (w : World) (h : RowIn .i64 w a len cap zs) (hs : s.size ≤ maxLen) (_h : (Lit.int .i64 most).wf = true) :
    Calls Try.prog 9 #[.slice a len cap, .string s, .int .i64 most] w fun e w' => e = .returned (.bool true) ∧ Below w.heap.size w w' := by
  obtain ⟨hv, hz, hl, hr⟩ := h.view
  by_cases hb : 300 < len ∨ 3000 < s.size
  · exact LebRows_long a len cap s most hl hs hb w
  · exact LebRows_short a len cap zs s most (by omega) (by omega) w hv hz hr
end Go.Proofs.Ytanfdkbdmaljhaa
