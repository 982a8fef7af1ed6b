/- ctype A to D -/
import Derived.Test.YtikgkjkgdlnekaaGreatDoorCtBa
/- ctype: nothing; names that differ: the project's and the reference's. -/
set_option linter.unusedVariables false
set_option linter.unusedSimpArgs false
namespace Go.Proofs.YtikgkjkgdlnekaaGreatDoor
open Go.RowKit
open Lex Ct

set_option maxRecDepth 100000 in
set_option maxHeartbeats 4000000 in
theorem rdNone (t : Ty) (an : Option Addr) (cn : Nat) (al : Option Addr) (cl : Nat) (w : World) :
    Calls Tryz.prog 68 #[tyV t an cn al cl] w fun y w' => y = .returned (.bool (isNone t)) ∧ Kept (fun _ => False) w w' := by
  go_enter Tryz.func68, Tryz.ntmps68
  go_wp2_with fail
  all_goals go_ret
  all_goals refine ⟨?_, (Kept.refl _ w).new _⟩
  all_goals (unfold isNone; simp_all)
  all_goals (try first | rfl | (rw [Bool.eq_iff_iff]; simp; done))
set_option maxRecDepth 100000 in
set_option maxHeartbeats 4000000 in
theorem rdRefNone (t : Ty) (an : Option Addr) (cn : Nat) (al : Option Addr) (cl : Nat) (w : World) :
    Calls Tryz.prog 61 #[tyV t an cn al cl] w fun y w' => y = .returned (.bool (isNone t)) ∧ Kept (fun _ => False) w w' := by
  go_enter Tryz.func61, Tryz.ntmps61
  go_wp2_with fail
  all_goals go_ret
  all_goals refine ⟨?_, (Kept.refl _ w).new _⟩
  all_goals (unfold isNone; simp_all)
  all_goals (try first | rfl | (rw [Bool.eq_iff_iff]; simp; done))
/-- Where a text stands first, or -1. -/
def IdxOf (l : List Nm) (x : Nm) (z : Int) : Prop := -1 ≤ z ∧ z < 9223372036854775807 ∧ (decide (0 ≤ z)) = l.contains x
theorem contains_step {l : List Nm} {i : Nat} {y x : Nm} (h : l[i]? = some y) (hno : (l.take i).contains x = false) : (l.take (i + 1)).contains x = (y == x) := by
  rw [List.take_add_one, h, Option.toList_some, List.contains_eq_any_beq, List.any_append, ← List.contains_eq_any_beq, hno]
  rw [Bool.eq_iff_iff]
  simp
  exact eq_comm
theorem take_all_of {l : List Nm} {x : Nm} {i : Nat} (h : (l.take i).contains x = true) : l.contains x = true := by
  rw [List.contains_iff_mem] at h ⊢
  exact List.mem_of_mem_take h
set_option maxRecDepth 100000 in
set_option maxHeartbeats 4000000 in
theorem rdIndex (l : List Nm) (a : Option Addr) (cap : Nat) (x : Nm) (w : World) (hl : NmsAt w l a cap) (hf : ∀ b ∈ l, NmOk b) (hx : NmOk x) :
    Calls Tryz.prog 104 #[.slice a l.length cap, .string (strOfNums x)] w fun y w' => (∃ z, y = .returned (.int .i64 z) ∧ IdxOf l x z) ∧ w = w' := by
  have HL := Lib.hid hl
  have HF := Lib.hid hf
  have hbd := hl.bound
  have hlen : (l.length : Int) ≤ 9223372036854775807 := by omega
  clear hl hf hbd
  go_enter Tryz.func104, Tryz.ntmps104
  go_wp2_with fail
  go_loopw [8] (fun v wr => ∃ i : Nat, v = .int .i64 i ∧ i ≤ l.length ∧ wr = w ∧ Hid ((l.take i).contains x = false)) (fun v _ => l.length - (intOf v).toNat)
  case atStart => exact ⟨0, rfl, Nat.zero_le _, rfl, Lib.hid rfl⟩
  case round =>
    obtain ⟨i, rfl, hi, rfl, hno⟩ := hrel
    by_cases hlt : i < l.length
    · obtain ⟨s, hs⟩ : ∃ s, l[i]? = some s := ⟨_, List.getElem?_eq_getElem hlt⟩
      obtain ⟨g, o, rfl, hg, c0⟩ := HL.out.at hs
      have hsn := HF.out s (List.mem_of_getElem? hs)
      have hq := nums_same hx hsn
      have hst := contains_step hs hno.out
      have hmem := fun h => take_all_of (l := l) (x := x) (i := i + 1) h
      have HS := Lib.hid hst
      have HM := Lib.hid hmem
      have hltI : ((i : Int) < (l.length : Int)) = True := by simp; omega
      clear hs hst hmem hsn
      cases hE : (x == s)
      · rw [hE] at hq
        have HN : Hid ((l.take (i + 1)).contains x = false) := Lib.hid (by rw [HS.out]; rw [Bool.eq_false_iff] at hE ⊢; simp at hE ⊢; exact fun e => hE e.symm)
        clear hE
        go_wp2_with fail
        exact ⟨⟨i + 1, by go_num, by omega, by first | rfl | trivial, HN⟩, by simp [intOf]; omega⟩
      · rw [hE] at hq
        have HN : Hid (IdxOf l x (i : Int)) := Lib.hid ⟨by omega, by omega, by
          rw [decide_eq_true (by omega), HM.out (by rw [HS.out]; simp at hE ⊢; exact hE.symm)]⟩
        clear hE
        go_wp2_with fail
        go_ret
        exact ⟨⟨_, rfl, HN.out⟩, rfl⟩
    · have hie : i = l.length := by omega
      have HN : Hid (IdxOf l x (-1)) := Lib.hid ⟨by omega, by omega, by
        rw [hie, List.take_length] at hno; rw [hno.out]; rfl⟩
      subst hie
      clear hlt
      go_wp2_with fail
      go_ret
      exact ⟨⟨_, rfl, HN.out⟩, rfl⟩
set_option maxRecDepth 100000 in
set_option maxHeartbeats 4000000 in
theorem rdContains (l : List Nm) (a : Option Addr) (cap : Nat) (x : Nm) (w : World) (hl : NmsAt w l a cap) (hf : ∀ b ∈ l, NmOk b) (hx : NmOk x) :
    Calls Tryz.prog 87 #[.slice a l.length cap, .string (strOfNums x)] w fun y w' => y = .returned (.bool (l.contains x)) ∧ w = w' := by
  have HX := Lib.hid (rdIndex l a cap x w hl hf hx)
  clear hl hf hx
  go_enter Tryz.func87, Tryz.ntmps87
  go_wp2_with (first
    | (go_at_call 104; refine HX.out.mono ?_; rintro y w1 ⟨⟨z, rfl, hz⟩, rfl⟩))
  all_goals go_ret
  all_goals exact ⟨by rw [← hz.2.2]; first | rfl | simp_all, rfl⟩
set_option maxRecDepth 100000 in
set_option maxHeartbeats 4000000 in
theorem rdDiffer (l : List Nm) (a : Option Addr) (cap : Nat) (w : World) (hl : NmsAt w l a cap) (hf : ∀ b ∈ l, NmOk b) :
    Calls Tryz.prog 67 #[.slice a l.length cap] w fun y w' => y = .returned (.bool (difL l)) ∧ Kept (fun _ => False) w w' := by
  have HL := Lib.hid hl
  have HF := Lib.hid hf
  have hbd := hl.bound
  have hlen : (l.length : Int) ≤ 9223372036854775807 := by omega
  clear hl hf
  go_enter Tryz.func67, Tryz.ntmps67
  go_wp2_with fail
  go_loopw [7] (fun v wr => ∃ i : Nat, v = .int .i64 i ∧ i ≤ l.length ∧ Kept (fun _ => False) w wr ∧ Hid (difL l = difG (l.take i) (l.drop i))) (fun v _ => l.length - (intOf v).toNat)
  case atStart => exact ⟨0, rfl, Nat.zero_le _, Kept.refl _ _, Lib.hid rfl⟩
  case round =>
    obtain ⟨i, rfl, hi, hk, hno⟩ := hrel
    have HK := Lib.hid hk
    clear hk
    by_cases hlt : i < l.length
    · obtain ⟨s, hs⟩ : ∃ s, l[i]? = some s := ⟨_, List.getElem?_eq_getElem hlt⟩
      obtain ⟨g, o, rfl, hg, c0⟩ := (HL.out.kept HK.out).at hs
      have hsn := HF.out s (List.mem_of_getElem? hs)
      have HN := Lib.hid (rdNm s hsn)
      have HC : Hid (∀ w', Kept (fun _ => False) w w' → Calls Tryz.prog 87 #[.slice (some ⟨g, o, none⟩) i cap, .string (strOfNums s)] w' fun y w'' => y = .returned (.bool ((l.take i).contains s)) ∧ w' = w'') := Lib.hid fun w' k => by
        have := rdContains (l.take i) (some ⟨g, o, none⟩) cap s w' ((HL.out.kept k).take hi) (fun b hb => HF.out b (List.mem_of_mem_take hb)) hsn
        rw [List.length_take, Nat.min_eq_left hi] at this
        exact this
      have hst := difG_step hs
      have HS := Lib.hid hst
      have hltI : ((i : Int) < (l.length : Int)) = True := by simp; omega
      have hic : i ≤ cap := by omega
      clear hs hst hsn hbd
      revert HN HS HC
      generalize (l.take i).contains s = cb
      generalize nameL s = nb
      intro HN HC HS
      cases nb
      · have HR : Hid (difL l = false) := Lib.hid (by rw [hno.out, HS.out]; rfl)
        go_wp2_with (first
          | (go_at_call 86; refine (HN.out _).mono ?_; rintro y w1 ⟨rfl, k1⟩))
        go_ret
        exact ⟨by rw [HR.out] <;> rfl, HK.out.trans k1⟩
      · cases cb
        · have HR : Hid (difL l = difG (l.take (i + 1)) (l.drop (i + 1))) := Lib.hid (by rw [hno.out, HS.out]; rfl)
          go_wp2_with (first
            | (go_at_call 86; refine (HN.out _).mono ?_; rintro y w1 ⟨rfl, k1⟩)
            | (go_at_call 87; refine (HC.out _ (HK.out.trans k1)).mono ?_; rintro y w2 ⟨rfl, rfl⟩))
          exact ⟨⟨i + 1, by go_num, by omega, HK.out.trans k1, HR⟩, by simp [intOf]; omega⟩
        · have HR : Hid (difL l = false) := Lib.hid (by rw [hno.out, HS.out]; rfl)
          go_wp2_with (first
            | (go_at_call 86; refine (HN.out _).mono ?_; rintro y w1 ⟨rfl, k1⟩)
            | (go_at_call 87; refine (HC.out _ (HK.out.trans k1)).mono ?_; rintro y w2 ⟨rfl, rfl⟩))
          go_ret
          exact ⟨by rw [HR.out] <;> rfl, HK.out.trans k1⟩
    · have hie : i = l.length := by omega
      have HR : Hid (difL l = true) := Lib.hid (by rw [hno.out]; exact difG_end (by omega))
      subst hie
      clear hlt
      go_wp2_with fail
      go_ret
      exact ⟨by rw [HR.out] <;> rfl, HK.out⟩
end Go.Proofs.YtikgkjkgdlnekaaGreatDoor

/- ctype: a type's own fields: the project's and the reference's. -/
set_option linter.unusedVariables false
set_option linter.unusedSimpArgs false
namespace Go.Proofs.YtikgkjkgdlnekaaGreatDoor
open Go.RowKit
open Lex Ct

theorem kinds_all (k : Int) : (k = 12 ∨ k = 17 ∨ k = 14 ∨ k = 18 ∨ k = 13 ∨ k = 15 ∨ k = 16 ∨ k = 19 ∨ k = 20 ∨ k = 21) ∨ ((k == 12) = false ∧ (k == 17) = false ∧ (k == 14) = false ∧ (k == 18) = false ∧ (k == 13) = false ∧ (k == 15) = false ∧ (k == 16) = false ∧ (k == 19) = false ∧ (k == 20) = false ∧ (k == 21) = false) := by
  simp
  omega
set_option maxRecDepth 100000 in
set_option maxHeartbeats 8000000 in
theorem rdShaped (t : Ty) (an : Option Addr) (cn : Nat) (al : Option Addr) (cl : Nat) (w : World) :
    Calls Tryz.prog 66 #[tyV t an cn al cl] w fun y w' => y = .returned (.bool (shapedB t)) ∧ Kept (fun _ => False) w w' := by
  unfold shapedB tyV
  generalize t.kind = k
  generalize t.names.length = n
  generalize t.l.length = m
  generalize t.r = r
  rcases kinds_all k with hk | ⟨h1, h2, h3, h4, h5, h6, h7, h8, h9, h10⟩
  · rcases hk with rfl | rfl | rfl | rfl | rfl | rfl | rfl | rfl | rfl | rfl
    all_goals (
      go_enter Tryz.func66, Tryz.ntmps66
      go_wp2_with fail
      go_region
      all_goals (go_wp2_with fail)
      all_goals go_ret
      all_goals refine ⟨?_, by first | exact (Kept.refl _ w).new _ | exact ((Kept.refl _ w).new _).drew⟩
      all_goals (unfold okW mostR; simp_all)
      all_goals (try first | rfl | omega | (rw [Bool.eq_iff_iff]; simp; omega)))
  · have hw : okW k n m = (decide (1 ≤ k) && (decide (k ≤ 11) && (n == 0 && m == 0))) := by
      unfold okW
      simp at h1 h2 h3 h4 h5 h6 h7 h8 h9 h10
      rw [if_neg (by omega), if_neg (by omega), if_neg (by omega), if_neg (by omega), if_neg (by omega), if_neg (by omega), if_neg (by omega)]
    have hm : mostR k = 0 := by unfold mostR; rw [if_neg (by simp at h9 h10; omega)]
    rw [hw, hm]
    clear hw hm
    go_enter Tryz.func66, Tryz.ntmps66
    go_wp2_with fail
    go_region
    all_goals (go_wp2_with fail)
    all_goals go_ret
    all_goals refine ⟨?_, by first | exact (Kept.refl _ w).new _ | exact ((Kept.refl _ w).new _).drew⟩
    all_goals (clear h1 h2 h3 h4 h5 h6 h7 h8 h9 h10; simp_all)
    all_goals (try first | rfl | omega | (rw [Bool.eq_iff_iff]; simp; omega))
end Go.Proofs.YtikgkjkgdlnekaaGreatDoor

/- ctype: the reference's names. -/
set_option linter.unusedVariables false
set_option linter.unusedSimpArgs false
namespace Go.Proofs.YtikgkjkgdlnekaaGreatDoor
open Go.RowKit
open Lex Ct

set_option maxRecDepth 100000 in
set_option maxHeartbeats 4000000 in
theorem rdRefNames (l : List Nm) (a : Option Addr) (cap : Nat) (most : Int) (w : World) (hl : NmsAt w l a cap) (hf : ∀ b ∈ l, NmOk b) :
    Calls Tryz.prog 83 #[.slice a l.length cap, .int .i64 most] w fun y w' => y = .returned (.bool (difL l && (decide (1 ≤ l.length) && decide ((l.length : Int) ≤ most)))) ∧ Kept (fun _ => False) w w' := by
  have HL := Lib.hid hl
  have HF := Lib.hid hf
  have hbd := hl.bound
  have hlen : (l.length : Int) ≤ 9223372036854775807 := by omega
  clear hl hf hbd
  go_enter Tryz.func83, Tryz.ntmps83
  go_wp2_with fail
  go_loopw [5] (fun v wr => ∃ i : Nat, v = .int .i64 i ∧ i ≤ l.length ∧ Kept (fun _ => False) w wr ∧ Hid (difL l = difG (l.take i) (l.drop i))) (fun v _ => l.length - (intOf v).toNat)
  case atStart => exact ⟨0, rfl, Nat.zero_le _, Kept.refl _ _, Lib.hid rfl⟩
  case round =>
    obtain ⟨i, rfl, hi, hk, hno⟩ := hrel
    have HK := Lib.hid hk
    clear hk
    by_cases hlt : i < l.length
    · obtain ⟨s, hs⟩ : ∃ s, l[i]? = some s := ⟨_, List.getElem?_eq_getElem hlt⟩
      obtain ⟨g, o, rfl, hg, c0⟩ := (HL.out.kept HK.out).at hs
      have hsn := HF.out s (List.mem_of_getElem? hs)
      have HSN := Lib.hid hsn
      have HN := Lib.hid (rdRefNm s hsn)
      have HS := Lib.hid (difG_step hs)
      have HSI := Lib.hid hs
      have hltI : ((i : Int) < (l.length : Int)) = True := by simp; omega
      clear hs hsn
      cases hnb : nameL s
      · rw [hnb] at HN
        have HR : Hid (difL l = false) := Lib.hid (by rw [hno.out, HS.out, hnb]; rfl)
        clear hnb
        go_wp2_with (first
          | (go_at_call 101; refine (HN.out _).mono ?_; rintro y w1 ⟨rfl, rfl⟩))
        go_ret
        exact ⟨by rw [HR.out] <;> rfl, HK.out⟩
      · rw [hnb] at HN
        have HNB := Lib.hid hnb
        clear hnb
        go_wp2_with (first
          | (go_at_call 101; refine (HN.out _).mono ?_; rintro y w1 ⟨rfl, rfl⟩))
        clear c0 hg HN
        go_loopw [6] (fun v wr => ∃ k : Nat, v = .int .i64 k ∧ k ≤ i ∧ Kept (fun _ => False) w wr ∧ Hid ((l.take k).contains s = false)) (fun v _ => i - (intOf v).toNat)
        case atStart => exact ⟨0, rfl, Nat.zero_le _, HK.out, Lib.hid rfl⟩
        case round =>
          clear HK
          obtain ⟨k, rfl, hki, hk, hcn⟩ := hrel
          have HK := Lib.hid hk
          clear hk
          by_cases hlk : k < i
          · obtain ⟨y, hy⟩ : ∃ y, l[k]? = some y := ⟨_, List.getElem?_eq_getElem (by omega)⟩
            obtain ⟨g', o', e', hg', c1⟩ := (HL.out.kept HK.out).at hy
            obtain ⟨g2, o2, e2, _, c2⟩ := (HL.out.kept HK.out).at HSI.out
            cases e'
            cases e2
            have hyn := HF.out y (List.mem_of_getElem? hy)
            have hq := nums_same hyn HSN.out
            have HST := Lib.hid (contains_step hy hcn.out)
            have HM := Lib.hid (fun h => take_all_of (l := l.take i) (x := s) (i := k + 1) h)
            have hltK : ((k : Int) < (i : Int)) = True := by simp; omega
            have hkl : k < l.length := by omega
            clear hy hyn
            cases hE : (y == s)
            · rw [hE] at hq
              have HN2 : Hid ((l.take (k + 1)).contains s = false) := Lib.hid (by rw [HST.out, hE])
              clear hE
              go_wp2_with fail
              go_region
              all_goals (go_wp2_with fail)
              all_goals exact ⟨⟨k + 1, by go_num, by omega, HK.out.drew, HN2⟩, by simp [intOf]; omega⟩
            · rw [hE] at hq
              have HN2 : Hid (difL l = false) := Lib.hid (by
                rw [hno.out, HS.out, HNB.out, HM.out (by rw [List.take_take, Nat.min_eq_left (by omega), HST.out, hE])]; rfl)
              clear hE
              go_wp2_with fail
              go_region
              all_goals (go_wp2_with fail)
              all_goals go_ret
              all_goals exact ⟨by rw [HN2.out] <;> rfl, HK.out.drew⟩
          · have hie : k = i := by omega
            subst hie
            have HR : Hid (difL l = difG (l.take (k + 1)) (l.drop (k + 1))) := Lib.hid (by rw [hno.out, HS.out, HNB.out, hcn.out]; rfl)
            clear hlk
            go_wp2_with fail
            exact ⟨⟨k + 1, by go_num, by omega, HK.out, HR⟩, by simp [intOf]; omega⟩
    · have hie : i = l.length := by omega
      have HR : Hid (difL l = true) := Lib.hid (by rw [hno.out]; exact difG_end (by omega))
      subst hie
      clear hlt
      go_wp2_with fail
      all_goals go_ret
      all_goals refine ⟨?_, HK.out⟩
      all_goals (rw [HR.out])
      all_goals (try first | rfl | (simp_all; done) | (simp_all; omega))
end Go.Proofs.YtikgkjkgdlnekaaGreatDoor

/- ctype: the reference's look at a type's own fields. -/
set_option linter.unusedVariables false
set_option linter.unusedSimpArgs false
namespace Go.Proofs.YtikgkjkgdlnekaaGreatDoor
open Go.RowKit
open Lex Ct

set_option maxRecDepth 100000 in
set_option maxHeartbeats 8000000 in
theorem own_named (k r : Int) (n m : Nat) (d : Bool) (an : Option Addr) (cn : Nat) (al : Option Addr) (cl : Nat) (w : World) (hk : k = 13 ∨ k = 15 ∨ k = 16 ∨ k = 19)
    (HN : Hid (∀ (w' : World) (most : Int), Kept (fun _ => False) w w' → Calls Tryz.prog 83 #[.slice an n cn, .int .i64 most] w' fun y w'' => y = .returned (.bool (d && (decide (1 ≤ n) && decide ((n : Int) ≤ most)))) ∧ Kept (fun _ => False) w' w'')) :
    Calls Tryz.prog 60 #[.agg #[.int .i64 k, .slice an n cn, .slice al m cl, .int .i64 r]] w fun y w' => y = .returned (.bool ((okW k n m && (decide (0 ≤ r) && decide (r ≤ mostR k))) && d)) ∧ Kept (fun _ => False) w w' := by
  by_cases hr : r = 0
  · subst hr
    have B0 := BlkAt.new w #[.int .i64 k, .slice an n cn, .slice al m cl, .int .i64 0] 25
    by_cases hm : m ≤ 64
    · have hm' : decide ((m : Int) > 64) = false := by simp; omega
      rcases hk with rfl | rfl | rfl | rfl
      all_goals (
        go_enter Tryz.func60, Tryz.ntmps60
        go_wp2_with (first
          | (go_at_call 83; refine (HN.out _ _ ((Kept.refl _ w).new _)).mono ?_; rintro y w1 ⟨rfl, k1⟩; have B1 := B0.kept (F := fun _ => False) k1 id; have m1 := B1.cell 1; have m2 := B1.cell 2; simp at m1 m2; clear B0 HN))
        all_goals go_ret
        all_goals refine ⟨?_, by first | exact ((Kept.refl _ w).new _).trans k1 | exact (Kept.refl _ w).new _⟩
        all_goals (unfold okW mostR; simp_all)
        all_goals (try first | rfl | omega | (rw [Bool.eq_iff_iff]; simp; done) | (rw [Bool.eq_iff_iff]; simp; omega) | (intro a1 a2 a3; cases d with | false => rfl | true => (simp_all; done)) | (intro a1 a2 a3; cases d with | false => rfl | true => (simp_all; omega))))
    · have hm' : decide ((m : Int) > 64) = true := by simp; omega
      have hw : (okW k n m && (decide (0 ≤ (0 : Int)) && decide ((0 : Int) ≤ mostR k)) && d) = false := by
        unfold okW
        rcases hk with rfl | rfl | rfl | rfl
        all_goals (simp; omega)
      rw [hw]
      clear hw HN hm B0
      rcases hk with rfl | rfl | rfl | rfl
      all_goals (
        go_enter Tryz.func60, Tryz.ntmps60
        go_wp2_with fail
        all_goals go_ret
        all_goals exact ⟨rfl, (Kept.refl _ w).new _⟩)
  · have hr' : (r != 0) = true := by simp; exact hr
    have hw : (okW k n m && (decide (0 ≤ r) && decide (r ≤ mostR k)) && d) = false := by
      unfold mostR
      rw [if_neg (by omega)]
      simp
      omega
    rw [hw]
    clear hw HN hr
    rcases hk with rfl | rfl | rfl | rfl
    all_goals (
      go_enter Tryz.func60, Tryz.ntmps60
      go_wp2_with fail
      all_goals go_ret
      all_goals exact ⟨rfl, (Kept.refl _ w).new _⟩)
set_option maxRecDepth 100000 in
set_option maxHeartbeats 8000000 in
theorem own_plain (k r : Int) (n m : Nat) (d : Bool) (an : Option Addr) (cn : Nat) (al : Option Addr) (cl : Nat) (w : World) (hk : k = 12 ∨ k = 17 ∨ k = 14 ∨ k = 18 ∨ k = 20 ∨ k = 21) (hd : n = 0 → d = true) :
    Calls Tryz.prog 60 #[.agg #[.int .i64 k, .slice an n cn, .slice al m cl, .int .i64 r]] w fun y w' => y = .returned (.bool ((okW k n m && (decide (0 ≤ r) && decide (r ≤ mostR k))) && d)) ∧ Kept (fun _ => False) w w' := by
  by_cases hn : n = 0
  · obtain rfl := hd hn
    subst hn
    clear hd
    rcases hk with rfl | rfl | rfl | rfl | rfl | rfl
    all_goals (
      go_enter Tryz.func60, Tryz.ntmps60
      go_wp2_with fail
      all_goals go_ret
      all_goals refine ⟨?_, (Kept.refl _ w).new _⟩
      all_goals (unfold okW mostR; simp_all)
      all_goals (try first | rfl | omega | (rw [Bool.eq_iff_iff]; simp; done) | (rw [Bool.eq_iff_iff]; simp; omega)))
  · clear hd
    have hn' : ((n : Int) == 0) = false := by simp; omega
    rcases hk with rfl | rfl | rfl | rfl | rfl | rfl
    all_goals (
      go_enter Tryz.func60, Tryz.ntmps60
      go_wp2_with fail
      all_goals go_ret
      all_goals refine ⟨?_, (Kept.refl _ w).new _⟩
      all_goals (unfold okW mostR; simp_all)
      all_goals (try first | rfl | omega | (rw [Bool.eq_iff_iff]; simp; done) | (rw [Bool.eq_iff_iff]; simp; omega)))
set_option maxRecDepth 100000 in
set_option maxHeartbeats 8000000 in
theorem own_rest (k r : Int) (n m : Nat) (d : Bool) (an : Option Addr) (cn : Nat) (al : Option Addr) (cl : Nat) (w : World) (hk : (k == 12) = false ∧ (k == 17) = false ∧ (k == 14) = false ∧ (k == 18) = false ∧ (k == 13) = false ∧ (k == 15) = false ∧ (k == 16) = false ∧ (k == 19) = false ∧ (k == 20) = false ∧ (k == 21) = false) (hd : n = 0 → d = true) :
    Calls Tryz.prog 60 #[.agg #[.int .i64 k, .slice an n cn, .slice al m cl, .int .i64 r]] w fun y w' => y = .returned (.bool ((okW k n m && (decide (0 ≤ r) && decide (r ≤ mostR k))) && d)) ∧ Kept (fun _ => False) w w' := by
  obtain ⟨h1, h2, h3, h4, h5, h6, h7, h8, h9, h10⟩ := hk
  have hw : okW k n m = (decide (1 ≤ k) && (decide (k ≤ 11) && (n == 0 && m == 0))) := by
    unfold okW
    simp at h1 h2 h3 h4 h5 h6 h7 h8 h9 h10
    rw [if_neg (by omega), if_neg (by omega), if_neg (by omega), if_neg (by omega), if_neg (by omega), if_neg (by omega), if_neg (by omega)]
  have hm : mostR k = 0 := by unfold mostR; rw [if_neg (by simp at h9 h10; omega)]
  rw [hw, hm]
  clear hw hm
  by_cases hn : n = 0
  · obtain rfl := hd hn
    subst hn
    clear hd
    go_enter Tryz.func60, Tryz.ntmps60
    go_wp2_with fail
    all_goals go_ret
    all_goals refine ⟨?_, (Kept.refl _ w).new _⟩
    all_goals (clear h1 h2 h3 h4 h5 h6 h7 h8 h9 h10; simp_all)
    all_goals (try first | rfl | omega | (rw [Bool.eq_iff_iff]; simp; done) | (rw [Bool.eq_iff_iff]; simp; omega))
  · clear hd
    have hn' : ((n : Int) == 0) = false := by simp; omega
    have hn2 : decide ((n : Int) > 0) = true := by simp; omega
    go_enter Tryz.func60, Tryz.ntmps60
    go_wp2_with fail
    all_goals go_ret
    all_goals refine ⟨?_, (Kept.refl _ w).new _⟩
    all_goals (clear h1 h2 h3 h4 h5 h6 h7 h8 h9 h10; simp_all)
    all_goals (try first | rfl | omega | (rw [Bool.eq_iff_iff]; simp; done) | (rw [Bool.eq_iff_iff]; simp; omega))
theorem rdOwn (t : Ty) (an : Option Addr) (cn : Nat) (al : Option Addr) (cl : Nat) (w : World) (h : TyAt w t an cn al cl) (hf : FineT t) :
    Calls Tryz.prog 60 #[tyV t an cn al cl] w fun y w' => y = .returned (.bool (shapedB t && difL t.names)) ∧ Kept (fun _ => False) w w' := by
  have hd : t.names.length = 0 → difL t.names = true := fun e => by rw [List.length_eq_zero_iff.1 e]; rfl
  rcases kinds_all t.kind with hk | hk
  · by_cases hn : t.kind = 13 ∨ t.kind = 15 ∨ t.kind = 16 ∨ t.kind = 19
    · exact own_named t.kind t.r t.names.length t.l.length (difL t.names) an cn al cl w hn (Lib.hid fun w' most k => rdRefNames t.names an cn most w' (h.nms.kept k) hf.names)
    · exact own_plain t.kind t.r t.names.length t.l.length (difL t.names) an cn al cl w (by omega) hd
  · exact own_rest t.kind t.r t.names.length t.l.length (difL t.names) an cn al cl w hk hd
end Go.Proofs.YtikgkjkgdlnekaaGreatDoor
