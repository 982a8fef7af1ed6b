/- The walks of laying and taking bytes. -/
import Derived.Test.YtanfdkbdmaljhaaLebBackW
namespace Go.Proofs.Ytanfdkbdmaljhaa
open Go.RowKit
open Leb (byt len7 lenF sum7 sg7)

/-- There are as many bytes as are told. -/
def okB (s : ByteArray) : Bool := decide (okU s = true ∧ sum7 s (len7 s 5) + len7 s 5 ≤ s.size)
def bA (s : ByteArray) : ByteArray := if okB s then (s.extract (len7 s 5) s.size).extract 0 (sum7 s (len7 s 5)) else ⟨#[]⟩
def bB (s : ByteArray) : ByteArray := if okB s then (s.extract (len7 s 5) s.size).extract (sum7 s (len7 s 5)) (s.extract (len7 s 5) s.size).size else ⟨#[]⟩
def bE (s : ByteArray) : Int := if okB s then 0 else 2
def bTup (s : ByteArray) : Value := .tuple #[.string (bA s), .string (bB s), .int .i64 (bE s)]
theorem bTup_bad {s : ByteArray} (h : okB s = false) : bTup s = .tuple #[.string ⟨#[]⟩, .string ⟨#[]⟩, .int .i64 2] := by
  unfold bTup bA bB bE
  rw [h]
  rfl
theorem bTup_good {s : ByteArray} (h : okB s = true) : bTup s = .tuple #[.string ((s.extract (len7 s 5) s.size).extract 0 (sum7 s (len7 s 5))), .string ((s.extract (len7 s 5) s.size).extract (sum7 s (len7 s 5)) (s.extract (len7 s 5) s.size).size), .int .i64 0] := by
  unfold bTup bA bB bE
  rw [h]
  rfl

theorem TakeBytes_good (s : ByteArray) (hs : s.size ≤ maxLen) (h : okB s = true) (w : World) :
    Calls Try.prog 19 #[.string s] w fun e w' => e = .returned (bTup s) ∧ Below w.heap.size w w' := by
  obtain ⟨hu, hle⟩ : okU s = true ∧ sum7 s (len7 s 5) + len7 s 5 ≤ s.size := of_decide_eq_true h
  have HB := bTup_good h
  have HU := uTup_good hu
  have hR : sum7 s (len7 s 5) ≤ (s.extract (len7 s 5) s.size).size := by rw [ByteArray.size_extract]; omega
  have hR2 : (s.extract (len7 s 5) s.size).size ≤ 9223372036854775807 := by
    rw [ByteArray.size_extract]
    unfold maxLen at hs
    omega
  clear h hu hle
  revert HB HU hR hR2
  generalize s.extract (len7 s 5) s.size = R
  generalize sum7 s (len7 s 5) = n
  intro HB' HU' hR hR2
  have HB := Lib.hid HB'
  have HU := Lib.hid HU'
  have hb := Below.refl w.heap.size w
  clear HB' HU'
  go_enter Try.func19, Try.ntmps19
  go_wp2_with (go_at_call 15; refine (TakeU_any s hs _).mono ?_; rintro e w1 ⟨rfl, k1⟩; replace hb := hb.trans (k1.mono hb.size); clear k1; rw [HU.out])
  go_quiet (fail)
  go_wp2
  go_ret3
  rw [HB.out]
  exact ⟨rfl, below_drewN hb _⟩
theorem TakeBytes_none (s : ByteArray) (hs : s.size ≤ maxLen) (h : okU s = false) (w : World) :
    Calls Try.prog 19 #[.string s] w fun e w' => e = .returned (bTup s) ∧ Below w.heap.size w w' := by
  have HB := Lib.hid (bTup_bad (s := s) (decide_eq_false (by rw [h]; exact fun h => absurd h.1 (by decide))))
  have HU := Lib.hid (uTup_bad h)
  have hb := Below.refl w.heap.size w
  clear h
  go_enter Try.func19, Try.ntmps19
  go_wp2_with (go_at_call 15; refine (TakeU_any s hs _).mono ?_; rintro e w1 ⟨rfl, k1⟩; replace hb := hb.trans (k1.mono hb.size); clear k1; rw [HU.out])
  go_ret3
  rw [HB.out]
  exact ⟨rfl, hb⟩
theorem TakeBytes_few (s : ByteArray) (hs : s.size ≤ maxLen) (hu : okU s = true) (h : s.size < sum7 s (len7 s 5) + len7 s 5) (w : World) :
    Calls Try.prog 19 #[.string s] w fun e w' => e = .returned (bTup s) ∧ Below w.heap.size w w' := by
  have HB := Lib.hid (bTup_bad (s := s) (decide_eq_false (by omega)))
  have HU' := uTup_good hu
  have hle := Leb.len7_le s 5
  have hR : (s.extract (len7 s 5) s.size).size < sum7 s (len7 s 5) := by rw [ByteArray.size_extract]; omega
  clear h hu hle
  revert HU' hR
  generalize s.extract (len7 s 5) s.size = R
  generalize sum7 s (len7 s 5) = n
  intro HU' hR
  have HU := Lib.hid HU'
  have hb := Below.refl w.heap.size w
  clear HU'
  go_enter Try.func19, Try.ntmps19
  go_wp2_with (go_at_call 15; refine (TakeU_any s hs _).mono ?_; rintro e w1 ⟨rfl, k1⟩; replace hb := hb.trans (k1.mono hb.size); clear k1; rw [HU.out])
  go_ret3
  rw [HB.out]
  exact ⟨rfl, hb⟩
theorem TakeBytes_any (s : ByteArray) (hs : s.size ≤ maxLen) (w : World) :
    Calls Try.prog 19 #[.string s] w fun e w' => e = .returned (bTup s) ∧ Below w.heap.size w w' := by
  by_cases hu : okU s = true
  · by_cases hle : sum7 s (len7 s 5) + len7 s 5 ≤ s.size
    · exact TakeBytes_good s hs (decide_eq_true ⟨hu, hle⟩) w
    · exact TakeBytes_few s hs hu (by omega) w
  · exact TakeBytes_none s hs (not_true hu) w

theorem refTakeBytes_good (s : ByteArray) (hs : s.size ≤ maxLen) (h : okB s = true) (w : World) :
    Calls Try.prog 20 #[.string s] w fun e w' => e = .returned (bTup s) ∧ Below w.heap.size w w' := by
  obtain ⟨hu, hle⟩ : okU s = true ∧ sum7 s (len7 s 5) + len7 s 5 ≤ s.size := of_decide_eq_true h
  have HB := bTup_good h
  have HU := uTup_good hu
  have hR : sum7 s (len7 s 5) ≤ (s.extract (len7 s 5) s.size).size := by rw [ByteArray.size_extract]; omega
  have hR2 : (s.extract (len7 s 5) s.size).size ≤ 9223372036854775807 := by
    rw [ByteArray.size_extract]
    unfold maxLen at hs
    omega
  clear h hu hle
  revert HB HU hR hR2
  generalize s.extract (len7 s 5) s.size = R
  generalize sum7 s (len7 s 5) = n
  intro HB' HU' hR hR2
  have HB := Lib.hid HB'
  have HU := Lib.hid HU'
  have hb := Below.refl w.heap.size w
  clear HB' HU'
  go_enter Try.func20, Try.ntmps20
  go_wp2_with (go_at_call 16; refine (refTakeU_any s hs _).mono ?_; rintro e w1 ⟨rfl, k1⟩; replace hb := hb.trans (k1.mono hb.size); clear k1; rw [HU.out])
  go_quiet (fail)
  go_wp2
  go_ret3
  rw [HB.out]
  exact ⟨rfl, below_drewN hb _⟩
theorem refTakeBytes_none (s : ByteArray) (hs : s.size ≤ maxLen) (h : okU s = false) (w : World) :
    Calls Try.prog 20 #[.string s] w fun e w' => e = .returned (bTup s) ∧ Below w.heap.size w w' := by
  have HB := Lib.hid (bTup_bad (s := s) (decide_eq_false (by rw [h]; exact fun h => absurd h.1 (by decide))))
  have HU := Lib.hid (uTup_bad h)
  have hb := Below.refl w.heap.size w
  clear h
  go_enter Try.func20, Try.ntmps20
  go_wp2_with (go_at_call 16; refine (refTakeU_any s hs _).mono ?_; rintro e w1 ⟨rfl, k1⟩; replace hb := hb.trans (k1.mono hb.size); clear k1; rw [HU.out])
  go_ret3
  rw [HB.out]
  exact ⟨rfl, hb⟩
theorem refTakeBytes_few (s : ByteArray) (hs : s.size ≤ maxLen) (hu : okU s = true) (h : s.size < sum7 s (len7 s 5) + len7 s 5) (w : World) :
    Calls Try.prog 20 #[.string s] w fun e w' => e = .returned (bTup s) ∧ Below w.heap.size w w' := by
  have HB := Lib.hid (bTup_bad (s := s) (decide_eq_false (by omega)))
  have HU' := uTup_good hu
  have hle := Leb.len7_le s 5
  have hR : (s.extract (len7 s 5) s.size).size < sum7 s (len7 s 5) := by rw [ByteArray.size_extract]; omega
  clear h hu hle
  revert HU' hR
  generalize s.extract (len7 s 5) s.size = R
  generalize sum7 s (len7 s 5) = n
  intro HU' hR
  have HU := Lib.hid HU'
  have hb := Below.refl w.heap.size w
  clear HU'
  go_enter Try.func20, Try.ntmps20
  go_wp2_with (go_at_call 16; refine (refTakeU_any s hs _).mono ?_; rintro e w1 ⟨rfl, k1⟩; replace hb := hb.trans (k1.mono hb.size); clear k1; rw [HU.out])
  go_ret3
  rw [HB.out]
  exact ⟨rfl, hb⟩
theorem refTakeBytes_any (s : ByteArray) (hs : s.size ≤ maxLen) (w : World) :
    Calls Try.prog 20 #[.string s] w fun e w' => e = .returned (bTup s) ∧ Below w.heap.size w w' := by
  by_cases hu : okU s = true
  · by_cases hle : sum7 s (len7 s 5) + len7 s 5 ≤ s.size
    · exact refTakeBytes_good s hs (decide_eq_true ⟨hu, hle⟩) w
    · exact refTakeBytes_few s hs hu (by omega) w
  · exact refTakeBytes_none s hs (not_true hu) w

theorem PutBytes_any (s : ByteArray) (hs : s.size ≤ 140737488351232) (w : World) :
    Calls Try.prog 21 #[.string s] w fun e w' => e = .returned (.string (strOfNums (Leb.putU s.size) ++ s)) ∧ Below w.heap.size w w' := by
  have hz := strOfNums_size
  have hu := Leb.putU_length s.size
  have HI : Hid ((s.size : Int) ≤ 9223372036854775807) := Lib.hid (by omega)
  have hb := Below.refl w.heap.size w
  go_enter Try.func21, Try.ntmps21
  go_wp2_with (go_at_call 10; refine (PutU_any _ _ HI.out).mono ?_; rintro e w1 ⟨rfl, k1⟩; replace hb := hb.trans (k1.mono hb.size); clear k1)
  go_ret
  exact ⟨rfl, hb⟩
theorem refPutBytes_any (s : ByteArray) (hs : s.size ≤ 140737488351232) (w : World) :
    Calls Try.prog 22 #[.string s] w fun e w' => e = .returned (.string (strOfNums (Leb.putU s.size) ++ s)) ∧ Below w.heap.size w w' := by
  have hz := strOfNums_size
  have hu := Leb.putU_length s.size
  have HI : Hid ((s.size : Int) ≤ 9223372036854775807) := Lib.hid (by omega)
  have hb := Below.refl w.heap.size w
  go_enter Try.func22, Try.ntmps22
  go_wp2_with (go_at_call 11; refine (refPutU_any _ _ HI.out).mono ?_; rintro e w1 ⟨rfl, k1⟩; replace hb := hb.trans (k1.mono hb.size); clear k1)
  go_ret
  exact ⟨rfl, hb⟩

theorem back_bytes (s more : ByteArray) (h : s.size ≤ 5000) :
    bTup (strOfNums (Leb.putU s.size) ++ s ++ more) = .tuple #[.string s, .string more, .int .i64 0] := by
  rw [ByteArray.append_assoc]
  obtain ⟨hL, hs⟩ := Leb.putU_laid s.size (s ++ more) (by omega) (by omega)
  have hsh : (Leb.putU s.size).length ≤ 5 := by
    unfold Leb.putU
    rw [if_neg (by omega)]
    exact Leb.putF_short 10 _ 5 (by omega) (by simp; omega) (by decide)
  have hlen := hL.len7 5 hsh
  have hp := hL.pos
  have hn : sum7 (strOfNums (Leb.putU s.size) ++ (s ++ more)) (Leb.putU s.size).length = s.size := by omega
  have hok : okU (strOfNums (Leb.putU s.size) ++ (s ++ more)) = true := okU_yes (by rw [hlen]; omega) (by rw [hlen]; omega)
  have hB : okB (strOfNums (Leb.putU s.size) ++ (s ++ more)) = true := decide_eq_true ⟨hok, by rw [hlen, hn, Leb.size_app, ByteArray.size_append]; omega⟩
  have e1 : (s ++ more).extract 0 s.size = s := ByteArray.extract_append_eq_left rfl
  have e2 : (s ++ more).extract s.size (s ++ more).size = more := ByteArray.extract_append_eq_right rfl ByteArray.size_append
  rw [bTup_good hB, hlen, hn, ext_app, e1, e2]

theorem LebBytes_long (s more : ByteArray) (hm : 5000 < s.size + more.size) (h1 : s.size ≤ 140737488351232) (h2 : more.size ≤ 140737488351232) (w : World) :
    Calls Try.prog 8 #[.string s, .string more] w fun e w' => e = .returned (.bool true) ∧ Below w.heap.size w w' := by
  have hb := Below.refl w.heap.size w
  have hd : decide ((5000 : Int) < (s.size : Int) + (more.size : Int)) = true := by simp; omega
  clear hm
  go_enter Try.func8, Try.ntmps8
  go_wp2_with (go_at_call 14; refine (awake_any _).mono ?_; rintro e w1 ⟨rfl, k1⟩; replace hb := hb.trans (k1.mono hb.size); clear k1)
  go_ret
  exact ⟨rfl, hb⟩

set_option maxRecDepth 100000 in
theorem LebBytes_short (s more : ByteArray) (hm : s.size + more.size ≤ 5000) (w : World) :
    Calls Try.prog 8 #[.string s, .string more] w fun e w' => e = .returned (.bool true) ∧ Below w.heap.size w w' := by
  have hb := Below.refl w.heap.size w
  have hz := strOfNums_size
  have hu := Leb.putU_length s.size
  have hd : decide ((5000 : Int) < (s.size : Int) + (more.size : Int)) = false := by simp; omega
  have k1 : s.size ≤ 5000 := by omega
  have k2 : more.size ≤ 5000 := by omega
  have HK := Lib.hid (back_bytes s more k1)
  have HM : Hid (more.size ≤ maxLen) := Lib.hid (by unfold maxLen; omega)
  have HP : Hid (s.size ≤ 140737488351232) := Lib.hid (by omega)
  have hza := fun (a b : ByteArray) => ByteArray.size_append (a := a) (b := b)
  have HA : Hid ((strOfNums (Leb.putU s.size) ++ s ++ more).size ≤ maxLen) := Lib.hid (by rw [ByteArray.size_append, Leb.size_app]; unfold maxLen; omega)
  clear hm
  go_enter Try.func8, Try.ntmps8
  go_wp2_with (first
    | (go_at_call 21; refine (PutBytes_any s HP.out _).mono ?_; rintro e w1 ⟨rfl, j1⟩; replace hb := hb.trans (j1.mono hb.size); clear j1)
    | (go_at_call 22; refine (refPutBytes_any s HP.out _).mono ?_; rintro e w1 ⟨rfl, j1⟩; replace hb := hb.trans (j1.mono hb.size); clear j1)
    | (go_at_call 19; refine (TakeBytes_any _ (by first | exact HM.out | exact HA.out) _).mono ?_; rintro e w1 ⟨rfl, j1⟩; replace hb := hb.trans (j1.mono hb.size); clear j1; (first | rw [HK.out] | unfold bTup))
    | (go_at_call 20; refine (refTakeBytes_any _ HM.out _).mono ?_; rintro e w1 ⟨rfl, j1⟩; replace hb := hb.trans (j1.mono hb.size); clear j1; unfold bTup)
    | (go_at_call 14; refine (awake_any _).mono ?_; rintro e w1 ⟨rfl, j1⟩; replace hb := hb.trans (j1.mono hb.size); clear j1))
  go_ret
  exact ⟨rfl, hb⟩
theorem LebBytes_walk (s more : ByteArray) (_w0 : s.size ≤ maxLen) (_w1 : more.size ≤ maxLen) (z0 : s.size ≤ 140737488351232) (z1 : more.size ≤ 140737488351232) (w : World) :
    Calls Try.prog 8 #[.string s, .string more] w fun e w' => e = .returned (.bool true) ∧ Below w.heap.size w w' := by
  by_cases hm : s.size + more.size ≤ 5000
  · exact LebBytes_short s more hm w
  · exact LebBytes_long s more (by omega) z0 z1 w
end Go.Proofs.Ytanfdkbdmaljhaa
