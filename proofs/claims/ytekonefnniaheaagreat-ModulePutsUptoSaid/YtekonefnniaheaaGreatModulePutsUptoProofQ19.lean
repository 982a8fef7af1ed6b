/- Texts of the proof of ModulePutsUptoProof, part 19. -/
import Derived.Test.YtekonefnniaheaaGreatModulePutsUptoProofQ10
import Derived.Test.YtekonefnniaheaaGreatModulePutsUptoProofQ12
namespace Go.Proofs.YtekonefnniaheaaGreat
open Go.RowKit Go.Deep
open Leb (putU putS)

def rmIn (n : Int) : Bool := decide (0 ≤ n ∧ n ≤ 4294967295)
def rmLim (mn mx : Int) : Bool := rmIn mn && (decide (mx = -1) || rmIn mx)
def rmZero (mn mx : Int) : Bool := decide (mn = 0) && decide (mx = 0)
def rmTypes (l : List Int) (most : Int) : Bool := l.all (fun c => decide ((typeV c).2 = 0)) && decide ((l.length : Int) ≤ most)
def rmInAll (l : List Int) : Bool := l.all rmIn && decide (l.length ≤ 1000)

set_option maxRecDepth 100000 in
theorem rmIn_any (n : Int) (w : World) :
    Calls Tryz.prog 53 #[.int .i64 n] w fun e w' => e = .returned (.bool (rmIn n)) ∧ w = w' := by
  unfold rmIn
  by_cases h1 : 0 ≤ n
  · by_cases h2 : n ≤ 4294967295
    · rw [show decide (0 ≤ n ∧ n ≤ 4294967295) = true from decide_eq_true ⟨h1, h2⟩]
      have e2 : decide (n ≤ (4294967295 : Int)) = true := decide_eq_true h2
      have e1 : decide ((0 : Int) ≤ n) = true := decide_eq_true h1
      clear h1 h2
      go_enter Tryz.func53, Tryz.ntmps53
      go_wp2_with fail
      go_ret
      exact ⟨by first | rfl | simp [e1, e2], rfl⟩
    · rw [show decide (0 ≤ n ∧ n ≤ 4294967295) = false from decide_eq_false (by omega)]
      have e2 : decide (n ≤ (4294967295 : Int)) = false := decide_eq_false h2
      have e1 : decide ((0 : Int) ≤ n) = true := decide_eq_true h1
      clear h2
      go_enter Tryz.func53, Tryz.ntmps53
      go_wp2_with fail
      go_ret
      exact ⟨by first | rfl | simp [e1, e2], rfl⟩
  · rw [show decide (0 ≤ n ∧ n ≤ 4294967295) = false from decide_eq_false (by omega)]
    have e1 : decide ((0 : Int) ≤ n) = false := decide_eq_false h1
    go_enter Tryz.func53, Tryz.ntmps53
    go_wp2_with fail
    go_ret
    exact ⟨by first | rfl | simp [e1], rfl⟩
set_option maxRecDepth 100000 in
theorem rmOne_any (n : Int) (w : World) :
    Calls Tryz.prog 55 #[.int .i64 n] w fun e w' => e = .returned (.string (strOfNums [n % 256])) ∧ Below w.heap.size w w' := by
  have hu : IntKind.u8.wrap n = n % 256 := by
    simp [IntKind.wrap, IntKind.signed, IntKind.bits]
  have hcv := one_conv (n % 256) w
  have HB := Lib.hid ((Below.refl w.heap.size w).alloc (Nat.le_refl _) (.cells #[.int .u8 (n % 256)] 5))
  go_enter Tryz.func55, Tryz.ntmps55
  go_wp2_with fail
  go_ret
  exact ⟨rfl, HB.out⟩
set_option maxRecDepth 100000 in
theorem rmYes_any (b : Bool) (w : World) :
    Calls Tryz.prog 61 #[.bool b] w fun e w' => e = .returned (.string (strOfNums [if b = true then 1 else 0])) ∧ Below w.heap.size w w' := by
  cases b
  · go_enter Tryz.func61, Tryz.ntmps61
    go_wp2_with (go_at_call 55; refine (rmOne_any _ _).mono ?_; rintro e w1 ⟨rfl, k1⟩)
    go_ret
    exact ⟨rfl, k1⟩
  · go_enter Tryz.func61, Tryz.ntmps61
    go_wp2_with (go_at_call 55; refine (rmOne_any _ _).mono ?_; rintro e w1 ⟨rfl, k1⟩)
    go_ret
    exact ⟨rfl, k1⟩
set_option maxRecDepth 100000 in
theorem rmZero_any (mn mx : Int) (w : World) :
    Calls Tryz.prog 127 #[.agg #[.int .i64 mn, .int .i64 mx]] w fun e w' => e = .returned (.bool (rmZero mn mx)) ∧ Below w.heap.size w w' := by
  unfold rmZero
  have HB := Lib.hid ((Below.refl w.heap.size w).alloc (Nat.le_refl _) (.cells #[.int .i64 mn, .int .i64 mx] 83))
  have c0 : (w.alloc (.cells #[.int .i64 mn, .int .i64 mx] 83)).cell? ⟨w.heap.size, 0, none⟩ = some (.int .i64 mn) := World.cell?_alloc_mark w _ _ _ 0
  have c1 : (w.alloc (.cells #[.int .i64 mn, .int .i64 mx] 83)).cell? ⟨w.heap.size, 1, none⟩ = some (.int .i64 mx) := World.cell?_alloc_mark w _ _ _ 1
  by_cases h1 : mn = 0
  · subst h1
    by_cases h2 : mx = 0
    · subst h2
      go_enter Tryz.func127, Tryz.ntmps127
      go_wp2_with fail
      go_ret
      exact ⟨rfl, HB.out⟩
    · have e2 := eq_no h2
      rw [decide_eq_false h2, Bool.and_false]
      clear h2
      go_enter Tryz.func127, Tryz.ntmps127
      go_wp2_with fail
      go_ret
      exact ⟨by first | rfl | simp [e2], HB.out⟩
  · have e1 := eq_no h1
    rw [decide_eq_false h1, Bool.false_and]
    clear h1
    go_enter Tryz.func127, Tryz.ntmps127
    go_wp2_with fail
    go_ret
    exact ⟨by first | rfl | simp [e1], HB.out⟩
set_option maxRecDepth 100000 in
theorem rmLim_any (mn mx : Int) (w : World) :
    Calls Tryz.prog 109 #[.agg #[.int .i64 mn, .int .i64 mx]] w fun e w' => e = .returned (.bool (rmLim mn mx)) ∧ Below w.heap.size w w' := by
  unfold rmLim
  have HB := Lib.hid ((Below.refl w.heap.size w).alloc (Nat.le_refl _) (.cells #[.int .i64 mn, .int .i64 mx] 83))
  have c0 : (w.alloc (.cells #[.int .i64 mn, .int .i64 mx] 83)).cell? ⟨w.heap.size, 0, none⟩ = some (.int .i64 mn) := World.cell?_alloc_mark w _ _ _ 0
  have c1 : (w.alloc (.cells #[.int .i64 mn, .int .i64 mx] 83)).cell? ⟨w.heap.size, 1, none⟩ = some (.int .i64 mx) := World.cell?_alloc_mark w _ _ _ 1
  have H0 := Lib.hid (fun w2 => rmIn_any mn w2)
  have H1 := Lib.hid (fun w2 => rmIn_any mx w2)
  cases hA : rmIn mn
  · rw [hA] at H0
    rw [Bool.false_and]
    go_enter Tryz.func109, Tryz.ntmps109
    go_wp2_with (go_at_call 53; refine (H0.out _).mono ?_; rintro e w1 ⟨rfl, rfl⟩)
    go_ret
    exact ⟨rfl, HB.out⟩
  · rw [hA] at H0
    rw [Bool.true_and]
    by_cases h2 : mx = -1
    · subst h2
      rw [show decide ((-1 : Int) = -1) = true from rfl, Bool.true_or]
      go_enter Tryz.func109, Tryz.ntmps109
      go_wp2_with (go_at_call 53; refine (H0.out _).mono ?_; rintro e w1 ⟨rfl, rfl⟩)
      go_ret
      exact ⟨rfl, HB.out⟩
    · have e2 := eq_no h2
      rw [decide_eq_false h2, Bool.false_or]
      clear h2
      generalize rmIn mx = r at H1 ⊢
      go_enter Tryz.func109, Tryz.ntmps109
      go_wp2_with (first | (go_at_call 53; refine (H0.out _).mono ?_; rintro e w1 ⟨rfl, rfl⟩; clear H0) | (go_at_call 53; refine (H1.out _).mono ?_; rintro e w1 ⟨rfl, rfl⟩))
      go_ret
      exact ⟨rfl, HB.out⟩
end Go.Proofs.YtekonefnniaheaaGreat
namespace Go.Proofs.YtekonefnniaheaaGreat
open Go.RowKit Go.Deep
open Leb (putU putS)

theorem all_none {l : List Int} {p : Int → Bool} {i : Nat} (hi : i < l.length) (h : p (l.getD i 0) = false) : l.all p = false := by
  rw [List.all_eq_false]
  refine ⟨l.getD i 0, ?_, by rw [h]; decide⟩
  rw [List.getD_eq_getElem?_getD, List.getElem?_eq_getElem hi]
  exact List.getElem_mem _
theorem all_all {l : List Int} {p : Int → Bool} (h : ∀ i, i < l.length → p (l.getD i 0) = true) : l.all p = true := by
  rw [List.all_eq_true]
  intro c hc
  obtain ⟨i, hi, he⟩ := List.getElem_of_mem hc
  have := h i hi
  rwa [List.getD_eq_getElem?_getD, List.getElem?_eq_getElem hi, Option.getD_some, he] at this
set_option maxRecDepth 100000 in
set_option maxHeartbeats 1000000 in
theorem rmTypes_any (l : List Int) (most : Int) (a : Option Addr) (len cap : Nat) (w : World) (hv : View w a len l) (hl : len = l.length) (hlen : len ≤ 1048576) :
    Calls Tryz.prog 50 #[.slice a len cap, .int .i64 most] w fun e w' => e = .returned (.bool (rmTypes l most)) ∧ Below w.heap.size w w' := by
  have HL := Lib.hid hl
  have HV := Lib.hid hv
  obtain ⟨r, hr⟩ : ∃ r, r = rmTypes l most := ⟨_, rfl⟩
  rw [← hr]
  have HR := Lib.hid hr
  clear hl hv hr
  go_enter Tryz.func50, Tryz.ntmps50
  go_wp2_with fail
  go_loopw [5] (fun iv wr => ∃ i : Nat, iv = .int .i64 i ∧ i ≤ len ∧ (∀ j, j < i → (typeV (l.getD j 0)).2 = 0) ∧ Below w.heap.size w wr) (fun iv _ => len - (intOf iv).toNat)
  case atStart => exact ⟨0, rfl, by omega, fun j hj => by omega, Below.refl _ _⟩
  case round =>
    obtain ⟨i, rfl, hi, hno, hb⟩ := hrel
    have HNO := Lib.hid hno
    clear hno
    by_cases hlt : i < len
    · obtain ⟨b, off, rfl, hc⟩ := (HV.out.below hb).resolve_left (by omega)
      have hci := hc i hlt
      obtain ⟨z, hz⟩ : ∃ z, z = l.getD i 0 := ⟨_, rfl⟩
      rw [← hz] at hci
      have HZ := Lib.hid hz
      have HT := Lib.hid (refType_any z)
      clear hc hz
      by_cases hzn : (typeV z).2 = 0
      · have hT : ∀ w2, Calls Tryz.prog 110 #[.int .i64 z] w2 fun e w' => e = .returned (.tuple #[.int .i64 (typeV z).1, .int .i64 0]) ∧ Below w2.heap.size w2 w' := fun w2 => by
          have := HT.out w2
          rwa [hzn] at this
        have HT2 := Lib.hid hT
        clear hT HT
        revert HT2
        generalize (typeV z).1 = y
        intro HT2
        have HZN : Hid ((typeV z).2 = 0) := Lib.hid hzn
        clear hzn
        go_wp2_with (go_at_call 110; refine (HT2.out _).mono ?_; rintro e w1 ⟨rfl, k1⟩; replace hb := hb.trans (k1.mono hb.size))
        refine ⟨⟨i + 1, by go_num, by omega, fun j hj => ?_, hb⟩, by simp [intOf]; omega⟩
        by_cases hji : j = i
        · rw [hji, ← HZ.out]
          exact HZN.out
        · exact HNO.out j (by omega)
      · have HF : Hid (r = false) := Lib.hid (by
          rw [HR.out, rmTypes, all_none (i := i) (by rw [← HL.out]; exact hlt) (by rw [← HZ.out]; exact decide_eq_false hzn), Bool.false_and])
        have e1 := eq_no hzn
        clear hzn
        revert HT e1
        generalize typeV z = y
        intro HT e1
        go_wp2_with (go_at_call 110; refine (HT.out _).mono ?_; rintro e w1 ⟨rfl, k1⟩; replace hb := hb.trans (k1.mono hb.size))
        go_ret
        rw [HF.out]
        exact ⟨rfl, hb⟩
    · have hil : i = len := by omega
      have HT : Hid (r = decide ((len : Int) ≤ most)) := Lib.hid (by
        rw [HR.out, rmTypes, all_all (fun k hk => decide_eq_true (HNO.out k (by rw [hil, HL.out]; exact hk))), Bool.true_and, HL.out])
      subst hil
      go_wp2_with fail
      go_ret
      rw [HT.out]
      exact ⟨rfl, hb⟩
set_option maxRecDepth 100000 in
set_option maxHeartbeats 1000000 in
theorem rmInAll_any (l : List Int) (a : Option Addr) (len cap : Nat) (w : World) (hv : View w a len l) (hl : len = l.length) (hlen : len ≤ 1048576) :
    Calls Tryz.prog 54 #[.slice a len cap] w fun e w' => e = .returned (.bool (rmInAll l)) ∧ w = w' := by
  have HL := Lib.hid hl
  have HV := Lib.hid hv
  obtain ⟨r, hr⟩ : ∃ r, r = rmInAll l := ⟨_, rfl⟩
  rw [← hr]
  have HR := Lib.hid hr
  clear hl hv hr
  go_enter Tryz.func54, Tryz.ntmps54
  go_wp2_with fail
  go_loop [3] (fun iv => ∃ i : Nat, iv = .int .i64 i ∧ i ≤ len ∧ (∀ j, j < i → rmIn (l.getD j 0) = true)) (fun iv => len - (intOf iv).toNat)
  case atStart => exact ⟨0, rfl, by omega, fun j hj => by omega⟩
  case round =>
    obtain ⟨i, rfl, hi, hno⟩ := hrel
    have HNO := Lib.hid hno
    clear hno
    by_cases hlt : i < len
    · obtain ⟨b, off, rfl, hc⟩ := HV.out.resolve_left (by omega)
      have hci := hc i hlt
      obtain ⟨z, hz⟩ : ∃ z, z = l.getD i 0 := ⟨_, rfl⟩
      rw [← hz] at hci
      have HZ := Lib.hid hz
      have HT := Lib.hid (rmIn_any z)
      clear hc hz
      cases hzn : rmIn z
      · have HF : Hid (r = false) := Lib.hid (by
          rw [HR.out, rmInAll, all_none (i := i) (by rw [← HL.out]; exact hlt) (by rw [← HZ.out]; exact hzn), Bool.false_and])
        rw [hzn] at HT
        clear hzn
        go_wp2_with (go_at_call 53; refine (HT.out _).mono ?_; rintro e w1 ⟨rfl, rfl⟩)
        go_ret
        rw [HF.out]
        exact ⟨rfl, rfl⟩
      · rw [hzn] at HT
        have HZN : Hid (rmIn z = true) := Lib.hid hzn
        clear hzn
        go_wp2_with (go_at_call 53; refine (HT.out _).mono ?_; rintro e w1 ⟨rfl, rfl⟩)
        refine ⟨⟨i + 1, by go_num, by omega, fun j hj => ?_⟩, by simp [intOf]; omega⟩
        by_cases hji : j = i
        · rw [hji, ← HZ.out]
          exact HZN.out
        · exact HNO.out j (by omega)
    · have hil : i = len := by omega
      have HT : Hid (r = decide ((len : Int) ≤ 1000)) := Lib.hid (by
        rw [HR.out, rmInAll, all_all (fun k hk => HNO.out k (by rw [hil, HL.out]; exact hk)), Bool.true_and, HL.out]
        exact decide_eq_decide.2 (by omega))
      subst hil
      go_wp2_with fail
      go_ret
      rw [HT.out]
      exact ⟨rfl, rfl⟩
set_option maxRecDepth 100000 in
set_option maxHeartbeats 1000000 in
theorem rmSpan_any (mn mx : Int) (w : World) (h0 : mn ≤ 9223372036854775807) (h1 : mx ≤ 9223372036854775807) :
    Calls Tryz.prog 59 #[.agg #[.int .i64 mn, .int .i64 mx]] w fun e w' => e = .returned (.string (strOfNums (if mx = -1 then [0 % 256] ++ putU mn else [1 % 256] ++ putU mn ++ putU mx))) ∧ Below w.heap.size w w' := by
  have HB := Lib.hid ((Below.refl w.heap.size w).alloc (Nat.le_refl _) (.cells #[.int .i64 mn, .int .i64 mx] 83))
  have D0 : Hid (∀ w2, Below (w.alloc (.cells #[.int .i64 mn, .int .i64 mx] 83)).heap.size (w.alloc (.cells #[.int .i64 mn, .int .i64 mx] 83)) w2 → w2.cell? ⟨w.heap.size, 0, none⟩ = some (.int .i64 mn) ∧ w2.cell? ⟨w.heap.size, 1, none⟩ = some (.int .i64 mx)) := Lib.hid fun w2 hb => ⟨(hb.cell (World.block_lt_of_cell? _ _ (World.cell?_alloc_mark w _ _ _ 0))).trans (World.cell?_alloc_mark w _ _ _ 0), (hb.cell (World.block_lt_of_cell? _ _ (World.cell?_alloc_mark w _ _ _ 1))).trans (World.cell?_alloc_mark w _ _ _ 1)⟩
  have q0 : Below (w.alloc (.cells #[.int .i64 mn, .int .i64 mx] 83)).heap.size (w.alloc (.cells #[.int .i64 mn, .int .i64 mx] 83)) (w.alloc (.cells #[.int .i64 mn, .int .i64 mx] 83)).drew := (Below.refl _ _).drew
  obtain ⟨f00, f01⟩ := D0.out _ (Below.refl _ _)
  obtain ⟨g00, g01⟩ := D0.out _ q0
  have H1 := Lib.hid (fun w2 => refPutU_any mn w2 h0)
  have H2 := Lib.hid (fun w2 => refPutU_any mx w2 h1)
  have z1 : (strOfNums (putU mn)).size ≤ 100000 := by rw [strOfNums_size]; have := Leb.putU_length mn; omega
  have z2 : (strOfNums (putU mx)).size ≤ 100000 := by rw [strOfNums_size]; have := Leb.putU_length mx; omega
  by_cases h2 : mx = -1
  · rw [if_pos h2, ← strOfNums_app]
    subst h2
    have H0 := Lib.hid (fun w2 => rmOne_any 0 w2)
    have z0 : (strOfNums [(0 : Int) % 256]).size ≤ 100000 := by rw [strOfNums_size]; show 1 ≤ 100000; omega
    revert H0 H1 z0 z1
    generalize strOfNums [(0 : Int) % 256] = S0
    generalize strOfNums (putU mn) = S1
    intro H1 z1 H0 z0
    have n1 : ¬ 9223372036854775807 < S0.size + S1.size := by omega
    clear H2 z2 h0 h1
    go_enter Tryz.func59, Tryz.ntmps59
    go_wp2_with fail
    go_region_with (first | (go_at_call 55; refine (H0.out _).mono ?_; rintro e w1 ⟨rfl, k1⟩; have q1 := q0.trans (k1.mono q0.size); obtain ⟨g10, g11⟩ := D0.out _ q1; clear k1) | (go_at_call 58; refine (H1.out _).mono ?_; rintro e w2 ⟨rfl, k2⟩; have q2 := q1.trans (k2.mono q1.size); obtain ⟨g20, g21⟩ := D0.out _ q2; clear k2))
    all_goals go_wp2_with fail
    all_goals go_ret
    all_goals exact ⟨rfl, HB.out.trans (q2.mono HB.out.size)⟩
  · rw [if_neg h2, ← strOfNums_app, ← strOfNums_app]
    have e2 := eq_no h2
    clear h2
    have H0 := Lib.hid (fun w2 => rmOne_any 1 w2)
    have z0 : (strOfNums [(1 : Int) % 256]).size ≤ 100000 := by rw [strOfNums_size]; show 1 ≤ 100000; omega
    revert H0 H1 H2 z0 z1 z2
    generalize strOfNums [(1 : Int) % 256] = S0
    generalize strOfNums (putU mn) = S1
    generalize strOfNums (putU mx) = S2
    intro H1 H2 z1 z2 H0 z0
    have n1 : ¬ 9223372036854775807 < S0.size + S1.size := by omega
    have n2 : ¬ 9223372036854775807 < (S0 ++ S1).size + S2.size := by rw [ByteArray.size_append]; omega
    clear h0 h1
    go_enter Tryz.func59, Tryz.ntmps59
    go_wp2_with fail
    go_region_with (first | (go_at_call 55; refine (H0.out _).mono ?_; rintro e w1 ⟨rfl, k1⟩; have q1 := q0.trans (k1.mono q0.size); obtain ⟨g10, g11⟩ := D0.out _ q1; clear k1) | (go_at_call 58; refine (H1.out _).mono ?_; rintro e w2 ⟨rfl, k2⟩; have q2 := q1.trans (k2.mono q1.size); obtain ⟨g20, g21⟩ := D0.out _ q2; clear k2; clear H1) | (go_at_call 58; refine (H2.out _).mono ?_; rintro e w3 ⟨rfl, k3⟩; have q3 := q2.trans (k3.mono q2.size); obtain ⟨g30, g31⟩ := D0.out _ q3; clear k3))
    all_goals go_wp2_with fail
    all_goals go_ret
    all_goals exact ⟨rfl, HB.out.trans (q3.mono HB.out.size)⟩
end Go.Proofs.YtekonefnniaheaaGreat
namespace Go.Proofs.YtekonefnniaheaaGreat
open Go.RowKit Go.Deep

set_option maxRecDepth 100000 in
theorem rmName_any (s : ByteArray) (hs : s.size ≤ 1048576) (w : World) :
    Calls Tryz.prog 52 #[.string s] w fun e w' => e = .returned (.bool (nameB s)) ∧ Below w.heap.size w w' := by
  have HR := Lib.hid (fun w2 => refRead_any 0 s hs w2)
  have HY := Lib.hid ((validB_iff s).2)
  have HN : Hid ((∀ ps, ¬ Utf.Reads 0 (bl s) ps) → validB s = false) := Lib.hid fun h => not_true fun q => by
    obtain ⟨ps, hp⟩ := (validB_iff s).1 q
    exact h ps hp
  unfold nameB
  by_cases h : s.size ≤ 100
  · have h' : Hid (s.size ≤ 100) := Lib.hid h
    rw [decide_eq_true h, Bool.true_and]
    go_enter Tryz.func52, Tryz.ntmps52
    go_wp2_with (go_at_call 112; refine (HR.out _).mono ?_; rintro e w1 ⟨v, ok, ps, rfl, _, k1, hx⟩; rcases hx with ⟨rfl, hp⟩ | ⟨rfl, _, hp⟩)
    all_goals go_ret
    · rw [HY.out ⟨_, hp⟩]
      exact ⟨congrArg (fun b => Ending.returned (.bool b)) (decide_eq_true (by omega)), k1⟩
    · rw [HN.out hp]
      exact ⟨rfl, k1⟩
  · rw [decide_eq_false h, Bool.false_and]
    go_enter Tryz.func52, Tryz.ntmps52
    go_wp2_with (go_at_call 112; refine (HR.out _).mono ?_; rintro e w1 ⟨v, ok, ps, rfl, _, k1, hx⟩; clear hx; cases ok)
    all_goals go_ret
    · exact ⟨rfl, k1⟩
    · exact ⟨congrArg (fun b => Ending.returned (.bool b)) (decide_eq_false (by omega)), k1⟩
end Go.Proofs.YtekonefnniaheaaGreat
namespace Go.Proofs.YtekonefnniaheaaGreat
open Go.RowKit Go.Deep
open Leb (putU putS)

def rmCode (ls : List Ins) : Bool := decide (0 ≤ cntL 0 0 ls)
set_option maxRecDepth 100000 in
theorem rmCode_any (ls : List Ins) (x : Option Addr) (len cap : Nat) (w : World) (h : InsIn w x len cap ls) :
    Calls Tryz.prog 51 #[.slice x len cap] w fun e w' => e = .returned (.bool (rmCode ls)) ∧ Below w.heap.size w w' := by
  have HC := Lib.hid (refCount_any 0 (by decide) ls x len cap w h)
  unfold rmCode
  revert HC
  generalize cntL 0 0 ls = c
  intro HC
  clear h
  go_enter Tryz.func51, Tryz.ntmps51
  go_wp2_with (go_at_call 111; refine HC.out.mono ?_; rintro e w1 ⟨rfl, k1⟩)
  go_ret
  exact ⟨rfl, k1⟩
def rmRow (l : List Int) : List Int := putU l.length ++ l.map (· % 256)
theorem row_next (l : List Int) (p : List Int) (i : Nat) (hi : i < l.length) : strOfNums (p ++ (l.take (i + 1)).map (· % 256)) = strOfNums (p ++ (l.take i).map (· % 256)) ++ strOfNums [l.getD i 0 % 256] := by
  rw [strOfNums_app, List.take_succ_eq_append_getElem hi, List.map_append, ← List.append_assoc, List.getD_eq_getElem?_getD, List.getElem?_eq_getElem hi]
  rfl
set_option maxRecDepth 100000 in
set_option maxHeartbeats 1000000 in
theorem rmRow_any (l : List Int) (a : Option Addr) (len cap : Nat) (w : World) (hv : View w a len l) (hl : len = l.length) (hlen : len ≤ 1048576) :
    Calls Tryz.prog 56 #[.slice a len cap] w fun e w' => e = .returned (.string (strOfNums (rmRow l))) ∧ Below w.heap.size w w' := by
  have HL := Lib.hid hl
  have HV := Lib.hid hv
  have HP := Lib.hid (fun w2 => refPutU_any (len : Int) w2 (by omega))
  have HEND : Hid (strOfNums (putU (len : Int) ++ (l.take len).map (· % 256)) = strOfNums (rmRow l)) := Lib.hid (by rw [hl, List.take_length]; rfl)
  have HSTA : Hid (strOfNums (putU (len : Int)) = strOfNums (putU (len : Int) ++ (l.take 0).map (· % 256))) := Lib.hid (by rw [List.take_zero, List.map_nil, List.append_nil])
  have HSZ : Hid (∀ i, i ≤ len → (strOfNums (putU (len : Int) ++ (l.take i).map (· % 256))).size ≤ 2000000) := Lib.hid fun i hi => by
    have h1 := Leb.putU_length (len : Int)
    rw [strOfNums_size, List.length_append, List.length_map, List.length_take]
    omega
  have HONE : Hid (∀ z : Int, (strOfNums [z % 256]).size ≤ 100) := Lib.hid fun z => by rw [strOfNums_size]; show 1 ≤ 100; omega
  obtain ⟨p, hp⟩ : ∃ p, p = putU (len : Int) := ⟨_, rfl⟩
  rw [← hp] at HP HEND HSTA HSZ
  clear hl hv hp
  go_enter Tryz.func56, Tryz.ntmps56
  go_wp2_with (go_at_call 58; refine (HP.out _).mono ?_; rintro e w1 ⟨rfl, k1⟩)
  go_loopw [3, 4] (fun sv iv wr => ∃ i : Nat, iv = .int .i64 i ∧ i ≤ len ∧ sv = .string (strOfNums (p ++ (l.take i).map (· % 256))) ∧ Below w.heap.size w wr) (fun _ iv _ => len - (intOf iv).toNat)
  case atStart => exact ⟨0, rfl, by omega, congrArg Value.string HSTA.out, k1⟩
  case round =>
    obtain ⟨i, rfl, hi, rfl, hb⟩ := hrel
    have hs := HSZ.out i hi
    by_cases hlt : i < len
    · obtain ⟨b, off, rfl, hc⟩ := (HV.out.below hb).resolve_left (by omega)
      have hci := hc i hlt
      have HNX := Lib.hid (row_next l p i (by rw [← HL.out]; exact hlt))
      have ho := HONE.out (l.getD i 0)
      have H1 := Lib.hid (rmOne_any (l.getD i 0))
      clear hc
      revert HNX ho H1 hs hci
      generalize strOfNums [l.getD i 0 % 256] = S1
      generalize strOfNums (p ++ (l.take i).map (· % 256)) = S0
      generalize l.getD i 0 = z
      intro hs hci HNX ho H1
      have n1 : ¬ 9223372036854775807 < S0.size + S1.size := by omega
      go_wp2_with (go_at_call 55; refine (H1.out _).mono ?_; rintro e w2 ⟨rfl, k2⟩; replace hb := hb.trans (k2.mono hb.size))
      exact ⟨⟨i + 1, by go_num, by omega, congrArg Value.string HNX.out.symm, hb⟩, by simp [intOf]; omega⟩
    · have hil : i = len := by omega
      subst hil
      go_wp2_with fail
      go_ret
      rw [HEND.out]
      exact ⟨rfl, hb⟩
end Go.Proofs.YtekonefnniaheaaGreat
namespace Go.Proofs.YtekonefnniaheaaGreat
open Go.RowKit Go.Deep
open Leb (putU putS)

set_option maxRecDepth 100000 in
theorem rPutBytes_any (s : ByteArray) (hs : s.size ≤ 140737488351232) (w : World) :
    Calls Tryz.prog 63 #[.string s] w fun e w' => e = .returned (.string (strOfNums (putU s.size) ++ s)) ∧ Below w.heap.size w w' := by
  have H1 := Lib.hid (fun w2 => refPutU_any (s.size : Int) w2 (by omega))
  have z1 : (strOfNums (putU (s.size : Int))).size ≤ 100 := by rw [strOfNums_size]; have := Leb.putU_length (s.size : Int); omega
  revert H1 z1
  generalize strOfNums (putU (s.size : Int)) = S1
  intro H1 z1
  have n1 : ¬ 9223372036854775807 < S1.size + s.size := by omega
  go_enter Tryz.func63, Tryz.ntmps63
  go_wp2_with (go_at_call 58; refine (H1.out _).mono ?_; rintro e w1 ⟨rfl, k1⟩)
  go_ret
  exact ⟨rfl, k1⟩
def rmSect (id : Int) (n : Nat) (s : ByteArray) : ByteArray := if n = 0 then ByteArray.empty else strOfNums [id % 256] ++ (strOfNums (putU (strOfNums (putU n) ++ s).size) ++ (strOfNums (putU n) ++ s))
set_option maxRecDepth 100000 in
theorem rmSect_any (id : Int) (n : Nat) (s : ByteArray) (hs : s.size ≤ 140737488350000) (hn : n ≤ 1048576) (w : World) :
    Calls Tryz.prog 60 #[.int .i64 id, .int .i64 n, .string s] w fun e w' => e = .returned (.string (rmSect id n s)) ∧ Below w.heap.size w w' := by
  unfold rmSect
  by_cases h0 : n = 0
  · subst h0
    rw [if_pos rfl]
    go_enter Tryz.func60, Tryz.ntmps60
    go_wp2_with fail
    go_ret
    exact ⟨rfl, Below.refl _ _⟩
  · rw [if_neg h0]
    have z1 : (strOfNums (putU (n : Int))).size ≤ 100 := by rw [strOfNums_size]; have := Leb.putU_length (n : Int); omega
    have H1 := Lib.hid (fun w2 => refPutU_any (n : Int) w2 (by omega))
    have e1 : ((n : Int) == 0) = false := eq_no (by omega)
    have H0 := Lib.hid (fun w2 => rmOne_any id w2)
    have z0 : (strOfNums [id % 256]).size ≤ 100 := by rw [strOfNums_size]; show 1 ≤ 100; omega
    revert H1 z1
    generalize strOfNums (putU (n : Int)) = S1
    intro z1 H1
    have n1 : ¬ 9223372036854775807 < S1.size + s.size := by omega
    have zz : (S1 ++ s).size ≤ 140737488351232 := by rw [ByteArray.size_append]; omega
    have H2 := Lib.hid (fun w2 => rPutBytes_any (S1 ++ s) zz w2)
    have z2 : (strOfNums (putU ((S1 ++ s).size : Int))).size ≤ 100 := by rw [strOfNums_size]; have := Leb.putU_length ((S1 ++ s).size : Int); omega
    have z3 : (strOfNums (putU ((S1 ++ s).size : Int)) ++ (S1 ++ s)).size ≤ 140737488352232 := by rw [ByteArray.size_append]; omega
    revert H2 z3
    generalize strOfNums (putU ((S1 ++ s).size : Int)) ++ (S1 ++ s) = S2
    intro H2 z3
    revert H0 z0
    generalize strOfNums [id % 256] = S0
    intro H0 z0
    have n2 : ¬ 9223372036854775807 < S0.size + S2.size := by omega
    have q0 := Below.refl w.heap.size w
    clear z2 zz h0 hs hn
    go_enter Tryz.func60, Tryz.ntmps60
    go_wp2_with fail
    go_wp2_with (first
      | (go_at_call 55; refine (H0.out _).mono ?_; rintro e w1 ⟨rfl, k1⟩; replace q0 := q0.trans (k1.mono q0.size); clear k1)
      | (go_at_call 58; refine (H1.out _).mono ?_; rintro e w1 ⟨rfl, k1⟩; replace q0 := q0.trans (k1.mono q0.size); clear k1)
      | (go_at_call 63; refine (H2.out _).mono ?_; rintro e w1 ⟨rfl, k1⟩; replace q0 := q0.trans (k1.mono q0.size); clear k1))
    go_ret
    exact ⟨rfl, q0⟩
end Go.Proofs.YtekonefnniaheaaGreat
namespace Go.Proofs.YtekonefnniaheaaGreat
open Go.RowKit Go.Deep
open Leb (putU putS)

set_option maxRecDepth 100000 in
theorem rmSingle_any (t most : Int) (w : World) (b : Nat) (hc : w.cell? ⟨b, 0, none⟩ = some (.int .i64 t)) :
    Calls Tryz.prog 50 #[.slice (some ⟨b, 0, none⟩) 1 1, .int .i64 most] w fun e w' => e = .returned (.bool (decide ((typeV t).2 = 0) && decide (1 ≤ most))) ∧ Below w.heap.size w w' := by
  have := rmTypes_any [t] most (some ⟨b, 0, none⟩) 1 1 w (.inr ⟨b, 0, rfl, fun i hi => by
    have : i = 0 := by omega
    subst this
    exact hc⟩) rfl (by omega)
  refine this.mono ?_
  rintro e w1 ⟨rfl, k⟩
  refine ⟨?_, k⟩
  simp [rmTypes]
end Go.Proofs.YtekonefnniaheaaGreat
