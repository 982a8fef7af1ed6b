/- ctype: nothing; names that differ: the project's and the reference's. -/
import Derived.Test.YtlkbgdhlbdjbiaaDoorCtE
set_option linter.unusedVariables false
set_option linter.unusedSimpArgs false
namespace Go.Proofs.YtlkbgdhlbdjbiaaDoor
open Go.RowKit
open Lex Ct

set_option maxRecDepth 100000 in
set_option maxHeartbeats 4000000 in
theorem rdNone (t : Ty) (an : Option Addr) (cn : Nat) (al : Option Addr) (cl : Nat) (w : World) :
    Calls Tryd.prog 54 #[tyV t an cn al cl] w fun y w' => y = .returned (.bool (isNone t)) ∧ Kept (fun _ => False) w w' := by
  go_enter Tryd.func54, Tryd.ntmps54
  go_wp2_with fail
  all_goals go_ret
  all_goals refine ⟨?_, (Kept.refl _ w).new _⟩
  all_goals (unfold isNone; simp_all)
  all_goals (try first | rfl | (rw [Bool.eq_iff_iff]; simp; done))
set_option maxRecDepth 100000 in
set_option maxHeartbeats 4000000 in
theorem rdRefNone (t : Ty) (an : Option Addr) (cn : Nat) (al : Option Addr) (cl : Nat) (w : World) :
    Calls Tryd.prog 37 #[tyV t an cn al cl] w fun y w' => y = .returned (.bool (isNone t)) ∧ Kept (fun _ => False) w w' := by
  go_enter Tryd.func37, Tryd.ntmps37
  go_wp2_with fail
  all_goals go_ret
  all_goals refine ⟨?_, (Kept.refl _ w).new _⟩
  all_goals (unfold isNone; simp_all)
  all_goals (try first | rfl | (rw [Bool.eq_iff_iff]; simp; done))
/-- Where a text stands first, or -1. -/
def IdxOf (l : List Nm) (x : Nm) (z : Int) : Prop := -1 ≤ z ∧ z < 9223372036854775807 ∧ (decide (0 ≤ z)) = l.contains x
theorem contains_step {l : List Nm} {i : Nat} {y x : Nm} (h : l[i]? = some y) (hno : (l.take i).contains x = false) : (l.take (i + 1)).contains x = (y == x) := by
  rw [List.take_add_one, h, Option.toList_some, List.contains_eq_any_beq, List.any_append, ← List.contains_eq_any_beq, hno]
  rw [Bool.eq_iff_iff]
  simp
  exact eq_comm
theorem take_all_of {l : List Nm} {x : Nm} {i : Nat} (h : (l.take i).contains x = true) : l.contains x = true := by
  rw [List.contains_iff_mem] at h ⊢
  exact List.mem_of_mem_take h
set_option maxRecDepth 100000 in
set_option maxHeartbeats 4000000 in
theorem rdIndex (l : List Nm) (a : Option Addr) (cap : Nat) (x : Nm) (w : World) (hl : NmsAt w l a cap) (hf : ∀ b ∈ l, NmOk b) (hx : NmOk x) :
    Calls Tryd.prog 63 #[.slice a l.length cap, .string (strOfNums x)] w fun y w' => (∃ z, y = .returned (.int .i64 z) ∧ IdxOf l x z) ∧ w = w' := by
  have HL := Lib.hid hl
  have HF := Lib.hid hf
  have hbd := hl.bound
  have hlen : (l.length : Int) ≤ 9223372036854775807 := by omega
  clear hl hf hbd
  go_enter Tryd.func63, Tryd.ntmps63
  go_wp2_with fail
  go_loopw [8] (fun v wr => ∃ i : Nat, v = .int .i64 i ∧ i ≤ l.length ∧ wr = w ∧ Hid ((l.take i).contains x = false)) (fun v _ => l.length - (intOf v).toNat)
  case atStart => exact ⟨0, rfl, Nat.zero_le _, rfl, Lib.hid rfl⟩
  case round =>
    obtain ⟨i, rfl, hi, rfl, hno⟩ := hrel
    by_cases hlt : i < l.length
    · obtain ⟨s, hs⟩ : ∃ s, l[i]? = some s := ⟨_, List.getElem?_eq_getElem hlt⟩
      obtain ⟨g, o, rfl, hg, c0⟩ := HL.out.at hs
      have hsn := HF.out s (List.mem_of_getElem? hs)
      have hq := nums_same hx hsn
      have hst := contains_step hs hno.out
      have hmem := fun h => take_all_of (l := l) (x := x) (i := i + 1) h
      have HS := Lib.hid hst
      have HM := Lib.hid hmem
      have hltI : ((i : Int) < (l.length : Int)) = True := by simp; omega
      clear hs hst hmem hsn
      cases hE : (x == s)
      · rw [hE] at hq
        have HN : Hid ((l.take (i + 1)).contains x = false) := Lib.hid (by rw [HS.out]; rw [Bool.eq_false_iff] at hE ⊢; simp at hE ⊢; exact fun e => hE e.symm)
        clear hE
        go_wp2_with fail
        exact ⟨⟨i + 1, by go_num, by omega, by first | rfl | trivial, HN⟩, by simp [intOf]; omega⟩
      · rw [hE] at hq
        have HN : Hid (IdxOf l x (i : Int)) := Lib.hid ⟨by omega, by omega, by
          rw [decide_eq_true (by omega), HM.out (by rw [HS.out]; simp at hE ⊢; exact hE.symm)]⟩
        clear hE
        go_wp2_with fail
        go_ret
        exact ⟨⟨_, rfl, HN.out⟩, rfl⟩
    · have hie : i = l.length := by omega
      have HN : Hid (IdxOf l x (-1)) := Lib.hid ⟨by omega, by omega, by
        rw [hie, List.take_length] at hno; rw [hno.out]; rfl⟩
      subst hie
      clear hlt
      go_wp2_with fail
      go_ret
      exact ⟨⟨_, rfl, HN.out⟩, rfl⟩
set_option maxRecDepth 100000 in
set_option maxHeartbeats 4000000 in
theorem rdContains (l : List Nm) (a : Option Addr) (cap : Nat) (x : Nm) (w : World) (hl : NmsAt w l a cap) (hf : ∀ b ∈ l, NmOk b) (hx : NmOk x) :
    Calls Tryd.prog 58 #[.slice a l.length cap, .string (strOfNums x)] w fun y w' => y = .returned (.bool (l.contains x)) ∧ w = w' := by
  have HX := Lib.hid (rdIndex l a cap x w hl hf hx)
  clear hl hf hx
  go_enter Tryd.func58, Tryd.ntmps58
  go_wp2_with (first
    | (go_at_call 63; refine HX.out.mono ?_; rintro y w1 ⟨⟨z, rfl, hz⟩, rfl⟩))
  all_goals go_ret
  all_goals exact ⟨by rw [← hz.2.2]; first | rfl | simp_all, rfl⟩
set_option maxRecDepth 100000 in
set_option maxHeartbeats 4000000 in
theorem rdDiffer (l : List Nm) (a : Option Addr) (cap : Nat) (w : World) (hl : NmsAt w l a cap) (hf : ∀ b ∈ l, NmOk b) :
    Calls Tryd.prog 53 #[.slice a l.length cap] w fun y w' => y = .returned (.bool (difL l)) ∧ Kept (fun _ => False) w w' := by
  have HL := Lib.hid hl
  have HF := Lib.hid hf
  have hbd := hl.bound
  have hlen : (l.length : Int) ≤ 9223372036854775807 := by omega
  clear hl hf
  go_enter Tryd.func53, Tryd.ntmps53
  go_wp2_with fail
  go_loopw [7] (fun v wr => ∃ i : Nat, v = .int .i64 i ∧ i ≤ l.length ∧ Kept (fun _ => False) w wr ∧ Hid (difL l = difG (l.take i) (l.drop i))) (fun v _ => l.length - (intOf v).toNat)
  case atStart => exact ⟨0, rfl, Nat.zero_le _, Kept.refl _ _, Lib.hid rfl⟩
  case round =>
    obtain ⟨i, rfl, hi, hk, hno⟩ := hrel
    have HK := Lib.hid hk
    clear hk
    by_cases hlt : i < l.length
    · obtain ⟨s, hs⟩ : ∃ s, l[i]? = some s := ⟨_, List.getElem?_eq_getElem hlt⟩
      obtain ⟨g, o, rfl, hg, c0⟩ := (HL.out.kept HK.out).at hs
      have hsn := HF.out s (List.mem_of_getElem? hs)
      have HN := Lib.hid (rdNm s hsn)
      have HC : Hid (∀ w', Kept (fun _ => False) w w' → Calls Tryd.prog 58 #[.slice (some ⟨g, o, none⟩) i cap, .string (strOfNums s)] w' fun y w'' => y = .returned (.bool ((l.take i).contains s)) ∧ w' = w'') := Lib.hid fun w' k => by
        have := rdContains (l.take i) (some ⟨g, o, none⟩) cap s w' ((HL.out.kept k).take hi) (fun b hb => HF.out b (List.mem_of_mem_take hb)) hsn
        rw [List.length_take, Nat.min_eq_left hi] at this
        exact this
      have hst := difG_step hs
      have HS := Lib.hid hst
      have hltI : ((i : Int) < (l.length : Int)) = True := by simp; omega
      have hic : i ≤ cap := by omega
      clear hs hst hsn hbd
      revert HN HS HC
      generalize (l.take i).contains s = cb
      generalize nameL s = nb
      intro HN HC HS
      cases nb
      · have HR : Hid (difL l = false) := Lib.hid (by rw [hno.out, HS.out]; rfl)
        go_wp2_with (first
          | (go_at_call 57; refine (HN.out _).mono ?_; rintro y w1 ⟨rfl, k1⟩))
        go_ret
        exact ⟨by rw [HR.out] <;> rfl, HK.out.trans k1⟩
      · cases cb
        · have HR : Hid (difL l = difG (l.take (i + 1)) (l.drop (i + 1))) := Lib.hid (by rw [hno.out, HS.out]; rfl)
          go_wp2_with (first
            | (go_at_call 57; refine (HN.out _).mono ?_; rintro y w1 ⟨rfl, k1⟩)
            | (go_at_call 58; refine (HC.out _ (HK.out.trans k1)).mono ?_; rintro y w2 ⟨rfl, rfl⟩))
          exact ⟨⟨i + 1, by go_num, by omega, HK.out.trans k1, HR⟩, by simp [intOf]; omega⟩
        · have HR : Hid (difL l = false) := Lib.hid (by rw [hno.out, HS.out]; rfl)
          go_wp2_with (first
            | (go_at_call 57; refine (HN.out _).mono ?_; rintro y w1 ⟨rfl, k1⟩)
            | (go_at_call 58; refine (HC.out _ (HK.out.trans k1)).mono ?_; rintro y w2 ⟨rfl, rfl⟩))
          go_ret
          exact ⟨by rw [HR.out] <;> rfl, HK.out.trans k1⟩
    · have hie : i = l.length := by omega
      have HR : Hid (difL l = true) := Lib.hid (by rw [hno.out]; exact difG_end (by omega))
      subst hie
      clear hlt
      go_wp2_with fail
      go_ret
      exact ⟨by rw [HR.out] <;> rfl, HK.out⟩
end Go.Proofs.YtlkbgdhlbdjbiaaDoor
