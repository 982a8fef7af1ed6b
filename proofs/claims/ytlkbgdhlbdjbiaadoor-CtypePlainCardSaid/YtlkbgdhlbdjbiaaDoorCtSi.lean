/- ctype: the reference's size; Plain's facts; SameType (merged) -/
import Derived.Test.YtlkbgdhlbdjbiaaDoorCtAy
import Derived.Test.YtlkbgdhlbdjbiaaDoorCtRb
import Derived.Deep.RegionHeld3
/- ctype: the reference's next multiple, alignment and size. -/
set_option linter.unusedVariables false
set_option linter.unusedSimpArgs false
namespace Go.Proofs.YtlkbgdhlbdjbiaaDoor
open Go.RowKit
open Lex Ct

theorem nxt_at {n b m : Nat} (hb : Al b) (h1 : n ≤ m) (h2 : m ≤ nxt n b) (h3 : m % b = 0) : m = nxt n b := by
  unfold nxt at *
  rcases hb with rfl | rfl | rfl | rfl <;> omega
theorem nxt_below {n b m : Nat} (hb : Al b) (h1 : n ≤ m) (h2 : m ≤ nxt n b) (h3 : m % b ≠ 0) : m + 1 ≤ nxt n b := by
  unfold nxt at *
  rcases hb with rfl | rfl | rfl | rfl <;> omega
theorem alNe {A : Nat} (h : Al A) : ((A : Int) == 0) = false := by rw [beq_eq_false_iff_ne]; have := h.le; omega
theorem alLt {A : Nat} (h : Al A) : decide ((A : Int) < 1) = false := decide_eq_false (by have := h.le; omega)
theorem stepUp {n k : Nat} (h : k < n) : n - (intOf (Value.int .i64 ((k : Int) + 1))).toNat < n - (intOf (Value.int .i64 (k : Int))).toNat := by
  simp [intOf]
  omega
theorem tmod_cast (a b : Nat) : (a : Int).tmod (b : Int) = ((a % b : Nat) : Int) := by
  rw [Int.tmod_eq_emod_of_nonneg (by omega)]
  first | exact (Int.natCast_emod a b).symm | exact (Int.ofNat_emod a b).symm | simp
set_option maxRecDepth 100000 in
set_option maxHeartbeats 4000000 in
theorem rdRefNext (n b : Nat) (hb : Al b) (hn : n ≤ 100000) (w : World) :
    Calls Tryd.prog 30 #[.int .i64 (n : Int), .int .i64 (b : Int)] w fun y w' => y = .returned (.int .i64 (nxt n b : Nat)) ∧ Kept (fun _ => False) w w' := by
  have hA1 : 1 ≤ b := hb.le.1
  have bA0 := alNe hb
  have hnb := nxt_bound (n := n) hb
  have HB := Lib.hid hb
  have HM := Lib.hid (fun m => nxt_at (n := n) (m := m) hb)
  have HL := Lib.hid (fun m => nxt_below (n := n) (m := m) hb)
  clear hb
  go_enter Tryd.func30, Tryd.ntmps30
  go_wp2_with fail
  go_loopw [0] (fun v wr => ∃ m : Nat, v = .int .i64 m ∧ n ≤ m ∧ m ≤ nxt n b ∧ wr = w) (fun v _ => nxt n b - (intOf v).toNat)
  case atStart => exact ⟨n, rfl, Nat.le_refl _, hnb.1, rfl⟩
  case round =>
    obtain ⟨m, rfl, h1, h2, rfl⟩ := hrel
    have ht := tmod_cast m b
    by_cases h0 : m % b = 0
    · have he := HM.out m h1 h2 h0
      rw [h0] at ht
      clear h0 h1 h2 hnb
      subst he
      go_wp2_with fail
      go_ret
      exact ⟨rfl, Kept.refl _ _⟩
    · have he := HL.out m h1 h2 h0
      obtain ⟨r, hr⟩ : ∃ r : Nat, r = m % b := ⟨_, rfl⟩
      rw [← hr] at ht h0
      have bR : ((r : Int) != 0) = true := by rw [bne_iff_ne]; omega
      have bW : wrap64 ((m : Int) + 1) = (m : Int) + 1 := by unfold wrap64; omega
      clear hr h0
      go_wp2_with fail
      exact ⟨⟨m + 1, rfl, by omega, he, by first | rfl | trivial⟩, stepUp he⟩
set_option maxRecDepth 100000 in
set_option maxHeartbeats 4000000 in
theorem al_const (kd : Int) (n : List Nm) (l : List Ty) (r : Int) (an : Option Addr) (cn : Nat) (al : Option Addr) (cl : Nat) (w : World) (v : Int)
    (hk : ((kd = 0 ∨ kd = 1 ∨ kd = 2 ∨ kd = 3 ∨ kd = 16) ∧ v = 1) ∨ ((kd = 4 ∨ kd = 5) ∧ v = 2) ∨ ((kd = 8 ∨ kd = 9) ∧ v = 8) ∨ ((kd = 6 ∨ kd = 7 ∨ kd = 10 ∨ kd = 11 ∨ kd = 12 ∨ kd = 20 ∨ kd = 21) ∧ v = 4)) :
    Calls Tryd.prog 15 #[.agg #[.int .i64 kd, .slice an n.length cn, .slice al l.length cl, .int .i64 r]] w fun y w' => y = .returned (.int .i64 v) ∧ Kept (fun _ => False) w w' := by
  have k0 : Kept (fun _ => False) w (w.alloc (.cells #[.int .i64 kd, .slice an n.length cn, .slice al l.length cl, .int .i64 r] 25)) := (Kept.refl _ _).new _
  rcases hk with ⟨h, rfl⟩ | ⟨h, rfl⟩ | ⟨h, rfl⟩ | ⟨h, rfl⟩
  · rcases h with rfl | rfl | rfl | rfl | rfl
    all_goals
      go_enter Tryd.func15, Tryd.ntmps15
      go_wp2_with fail
      go_ret
      exact ⟨rfl, k0⟩
  · rcases h with rfl | rfl
    all_goals
      go_enter Tryd.func15, Tryd.ntmps15
      go_wp2_with fail
      go_ret
      exact ⟨rfl, k0⟩
  · rcases h with rfl | rfl
    all_goals
      go_enter Tryd.func15, Tryd.ntmps15
      go_wp2_with fail
      go_ret
      exact ⟨rfl, k0⟩
  · rcases h with rfl | rfl | rfl | rfl | rfl | rfl | rfl
    all_goals
      go_enter Tryd.func15, Tryd.ntmps15
      go_wp2_with fail
      go_ret
      exact ⟨rfl, k0⟩
set_option maxRecDepth 100000 in
set_option maxHeartbeats 4000000 in
theorem al_flags (n : List Nm) (l : List Ty) (r : Int) (an : Option Addr) (cn : Nat) (al : Option Addr) (cl : Nat) (w : World) :
    Calls Tryd.prog 15 #[.agg #[.int .i64 19, .slice an n.length cn, .slice al l.length cl, .int .i64 r]] w fun y w' => y = .returned (.int .i64 ((flg n.length).2 : Nat)) ∧ Kept (fun _ => False) w w' := by
  have k0 : Kept (fun _ => False) w (w.alloc (.cells #[.int .i64 19, .slice an n.length cn, .slice al l.length cl, .int .i64 r] 25)) := (Kept.refl _ _).new _
  unfold flg
  by_cases h8 : n.length ≤ 8
  · have b1 : decide ((n.length : Int) ≤ 8) = true := by simp; omega
    rw [if_pos h8]
    go_enter Tryd.func15, Tryd.ntmps15
    go_wp2_with fail
    go_ret
    exact ⟨rfl, k0⟩
  · have b1 : decide ((n.length : Int) ≤ 8) = false := by simp; omega
    rw [if_neg h8]
    by_cases h16 : n.length ≤ 16
    · have b2 : decide ((n.length : Int) ≤ 16) = true := by simp; omega
      rw [if_pos h16]
      go_enter Tryd.func15, Tryd.ntmps15
      go_wp2_with fail
      go_ret
      exact ⟨rfl, k0⟩
    · have b2 : decide ((n.length : Int) ≤ 16) = false := by simp; omega
      rw [if_neg h16]
      go_enter Tryd.func15, Tryd.ntmps15
      go_wp2_with fail
      go_ret
      exact ⟨rfl, k0⟩
def mxS (f : Ty → Nat × Nat) (l : List Ty) : Nat := (casS f l).1
def mxA (f : Ty → Nat × Nat) (l : List Ty) : Nat := (casS f l).2
theorem mxA_step {f : Ty → Nat × Nat} {l : List Ty} {i : Nat} {x : Ty} (hx : l[i]? = some x) : mxA f (l.take (i + 1)) = max (mxA f (l.take i)) (f x).2 := by
  unfold mxA
  rw [casS_snoc hx]
  rfl
theorem mxS_step {f : Ty → Nat × Nat} {l : List Ty} {i : Nat} {x : Ty} (hx : l[i]? = some x) : mxS f (l.take (i + 1)) = max (mxS f (l.take i)) (f x).1 := by
  unfold mxS
  rw [casS_snoc hx]
  rfl
theorem mxCast (a b : Nat) : max (a : Int) (b : Int) = ((max a b : Nat) : Int) := by omega
set_option maxRecDepth 100000 in
set_option maxHeartbeats 4000000 in
theorem al_loop (kd : Int) (n : List Nm) (l : List Ty) (r : Int) (an : Option Addr) (cn : Nat) (al : Option Addr) (cl : Nat) (w : World) (f : Ty → Nat × Nat) (hk : kd = 13 ∨ kd = 14 ∨ kd = 15 ∨ kd = 17 ∨ kd = 18) (hl : RowAt w l al cl) (hn : l.length ≤ 64)
    (HX : Hid (∀ x ∈ l, ∀ ax cx ay cy w', TyAt w' x ax cx ay cy → Calls Tryd.prog 15 #[tyV x ax cx ay cy] w' fun y w'' => y = .returned (.int .i64 ((f x).2 : Nat)) ∧ Kept (fun _ => False) w' w'')) :
    Calls Tryd.prog 15 #[.agg #[.int .i64 kd, .slice an n.length cn, .slice al l.length cl, .int .i64 r]] w fun y w' => y = .returned (.int .i64 (mxA f l : Nat)) ∧ Kept (fun _ => False) w w' := by
  have k0 : Kept (fun _ => False) w (w.alloc (.cells #[.int .i64 kd, .slice an n.length cn, .slice al l.length cl, .int .i64 r] 25)) := (Kept.refl _ _).new _
  have T0 := BlkAt.new w #[.int .i64 kd, .slice an n.length cn, .slice al l.length cl, .int .i64 r] 25
  have HL := Lib.hid hl
  revert k0 T0
  rcases hk with rfl | rfl | rfl | rfl | rfl
  all_goals
    intro k0 T0
    have HK := Lib.hid k0
    have HT := Lib.hid T0
    clear k0 T0 hl
    go_enter Tryd.func15, Tryd.ntmps15
    go_wp2_with fail
    go_loopw [4, 5] (fun v u wr => ∃ i : Nat, u = .int .i64 i ∧ i ≤ l.length ∧ v = .int .i64 (mxA f (l.take i) : Nat) ∧ Hid (Kept (fun _ => False) (w.alloc (.cells #[.int .i64 _, .slice an n.length cn, .slice al l.length cl, .int .i64 r] 25)) wr)) (fun _ u _ => l.length - (intOf u).toNat)
    case atStart => exact ⟨0, rfl, Nat.zero_le _, rfl, Lib.hid (Kept.refl _ _)⟩
    case round =>
      obtain ⟨i, rfl, hi, rfl, hst⟩ := hrel
      have hB := HT.out.kept (F := fun _ => False) hst.out id
      have b2 := hB.cell 2
      simp at b2
      by_cases hlt : i < l.length
      · obtain ⟨x, hx⟩ : ∃ x, l[i]? = some x := ⟨_, List.getElem?_eq_getElem hlt⟩
        obtain ⟨g, o, ax, cx, ay, cy, rfl, hgl, htx, c0, c1, c2, c3⟩ := (HL.out.kept (HK.out.trans hst.out)).at hx
        have HXI := Lib.hid (HX.out x (List.mem_of_getElem? hx) ax cx ay cy wr htx)
        have hmx := mxCast (mxA f (l.take i)) (f x).2
        rw [← mxA_step hx] at hmx
        clear htx hx hgl hB
        revert hmx HXI
        generalize (f x).2 = B
        generalize mxA f (l.take i) = M
        generalize hM1 : mxA f (l.take (i + 1)) = M1
        have HM1 := Lib.hid hM1
        intro HXI hmx
        clear hM1
        go_wp2_with (first
          | (go_at_call 15; refine HXI.out.mono ?_; rintro y w2 ⟨rfl, k2⟩; have HK2 := Lib.hid k2; clear k2))
        exact ⟨⟨i + 1, rfl, hlt, by rw [HM1.out], Lib.hid (hst.out.trans HK2.out)⟩, stepUp hlt⟩
      · have hie : i = l.length := by omega
        subst hie
        clear hlt hB
        have HE : Hid (mxA f (l.take l.length) = mxA f l) := Lib.hid (by rw [List.take_length])
        go_wp2_with fail
        go_ret
        exact ⟨by first | rfl | (rw [HE.out]; rfl), HK.out.trans hst.out⟩
end Go.Proofs.YtlkbgdhlbdjbiaaDoor

/- ctype: the reference's size. -/
set_option linter.unusedVariables false
set_option linter.unusedSimpArgs false
namespace Go.Proofs.YtlkbgdhlbdjbiaaDoor
open Go.RowKit
open Lex Ct

abbrev NumR (F : FuncId) (t : Ty) (v : Nat) : Prop := ∀ an cn al cl w, TyAt w t an cn al cl → Calls Tryd.prog F #[tyV t an cn al cl] w fun y w' => y = .returned (.int .i64 (v : Nat)) ∧ Kept (fun _ => False) w w'
set_option maxRecDepth 100000 in
set_option maxHeartbeats 4000000 in
theorem inside_loop (kd : Int) (n : List Nm) (l : List Ty) (r : Int) (an : Option Addr) (cn : Nat) (al : Option Addr) (cl : Nat) (w : World) (f : Ty → Nat × Nat) (hl : RowAt w l al cl) (hn : l.length ≤ 64) (hal : Al (mxA f l))
    (HX : Hid (∀ x ∈ l, NumR 15 x (f x).2)) :
    Calls Tryd.prog 31 #[.agg #[.int .i64 kd, .slice an n.length cn, .slice al l.length cl, .int .i64 r]] w fun y w' => y = .returned (.int .i64 (nxt 1 (mxA f l) : Nat)) ∧ Kept (fun _ => False) w w' := by
  have HK : Hid (Kept (fun _ => False) w (w.alloc (.cells #[.int .i64 kd, .slice an n.length cn, .slice al l.length cl, .int .i64 r] 25))) := Lib.hid ((Kept.refl _ _).new _)
  have HT := Lib.hid (BlkAt.new w #[.int .i64 kd, .slice an n.length cn, .slice al l.length cl, .int .i64 r] 25)
  have HL := Lib.hid hl
  have HNX := Lib.hid (rdRefNext 1 (mxA f l) hal (by omega))
  clear hl hal
  go_enter Tryd.func31, Tryd.ntmps31
  go_wp2_with fail
  go_loopw [3, 4] (fun v u wr => ∃ i : Nat, u = .int .i64 i ∧ i ≤ l.length ∧ v = .int .i64 (mxA f (l.take i) : Nat) ∧ Hid (Kept (fun _ => False) (w.alloc (.cells #[.int .i64 kd, .slice an n.length cn, .slice al l.length cl, .int .i64 r] 25)) wr)) (fun _ u _ => l.length - (intOf u).toNat)
  case atStart => exact ⟨0, rfl, Nat.zero_le _, rfl, Lib.hid (Kept.refl _ _)⟩
  case round =>
    obtain ⟨i, rfl, hi, rfl, hst⟩ := hrel
    have hB := HT.out.kept (F := fun _ => False) hst.out id
    have b2 := hB.cell 2
    simp at b2
    by_cases hlt : i < l.length
    · obtain ⟨x, hx⟩ : ∃ x, l[i]? = some x := ⟨_, List.getElem?_eq_getElem hlt⟩
      obtain ⟨g, o, ax, cx, ay, cy, rfl, hgl, htx, c0, c1, c2, c3⟩ := (HL.out.kept (HK.out.trans hst.out)).at hx
      have HXI := Lib.hid (HX.out x (List.mem_of_getElem? hx) ax cx ay cy wr htx)
      have hmx := mxCast (mxA f (l.take i)) (f x).2
      rw [← mxA_step hx] at hmx
      clear htx hx hgl hB HNX
      revert hmx HXI
      generalize (f x).2 = B
      generalize mxA f (l.take i) = M
      generalize hM1 : mxA f (l.take (i + 1)) = M1
      have HM1 := Lib.hid hM1
      intro HXI hmx
      clear hM1
      go_wp2_with (first
        | (go_at_call 15; refine HXI.out.mono ?_; rintro y w2 ⟨rfl, k2⟩; have HK2 := Lib.hid k2; clear k2))
      exact ⟨⟨i + 1, rfl, hlt, by rw [HM1.out], Lib.hid (hst.out.trans HK2.out)⟩, stepUp hlt⟩
    · have hie : i = l.length := by omega
      subst hie
      clear hlt hB
      rw [List.take_length]
      go_wp2_with (first
        | (go_at_call 30; refine (HNX.out _).mono ?_; rintro y w2 ⟨rfl, k2⟩; have HK2 := Lib.hid k2; clear k2))
      go_ret
      exact ⟨rfl, HK.out.trans (hst.out.trans HK2.out)⟩
set_option maxRecDepth 100000 in
set_option maxHeartbeats 4000000 in
/-- A size that is told at once, or is the alignment. -/
theorem sz_const (kd : Int) (n : List Nm) (l : List Ty) (r : Int) (an : Option Addr) (cn : Nat) (al : Option Addr) (cl : Nat) (w : World) (v : Nat)
    (hk : (kd = 0 ∧ v = 0) ∨ ((kd = 11 ∨ kd = 12) ∧ v = 8) ∨ ((kd = 1 ∨ kd = 2 ∨ kd = 3 ∨ kd = 4 ∨ kd = 5 ∨ kd = 6 ∨ kd = 7 ∨ kd = 8 ∨ kd = 9 ∨ kd = 10 ∨ kd = 16 ∨ kd = 19 ∨ kd = 20 ∨ kd = 21) ∧
      ∀ w', Kept (fun _ => False) w w' → Calls Tryd.prog 15 #[.agg #[.int .i64 kd, .slice an n.length cn, .slice al l.length cl, .int .i64 r]] w' fun y w'' => y = .returned (.int .i64 (v : Nat)) ∧ Kept (fun _ => False) w' w'')) :
    Calls Tryd.prog 13 #[.agg #[.int .i64 kd, .slice an n.length cn, .slice al l.length cl, .int .i64 r]] w fun y w' => y = .returned (.int .i64 (v : Nat)) ∧ Kept (fun _ => False) w w' := by
  have k0 : Hid (Kept (fun _ => False) w (w.alloc (.cells #[.int .i64 kd, .slice an n.length cn, .slice al l.length cl, .int .i64 r] 25))) := Lib.hid ((Kept.refl _ _).new _)
  rcases hk with ⟨rfl, rfl⟩ | ⟨h, rfl⟩ | ⟨h, HA⟩
  · go_enter Tryd.func13, Tryd.ntmps13
    go_wp2_with fail
    go_ret
    exact ⟨rfl, k0.out⟩
  · rcases h with rfl | rfl
    all_goals
      go_enter Tryd.func13, Tryd.ntmps13
      go_wp2_with fail
      go_ret
      exact ⟨rfl, k0.out⟩
  · have HAH := Lib.hid HA
    clear HA
    rcases h with rfl | rfl | rfl | rfl | rfl | rfl | rfl | rfl | rfl | rfl | rfl | rfl | rfl | rfl
    all_goals
      go_enter Tryd.func13, Tryd.ntmps13
      go_wp2_with (first
        | (go_at_call 15; refine (HAH.out _ k0.out).mono ?_; rintro y w2 ⟨rfl, k2⟩))
      go_ret
      exact ⟨rfl, k0.out.trans k2⟩
end Go.Proofs.YtlkbgdhlbdjbiaaDoor

/- ctype: the reference's size, of what has types within. -/
set_option linter.unusedVariables false
set_option linter.unusedSimpArgs false
namespace Go.Proofs.YtlkbgdhlbdjbiaaDoor
open Go.RowKit
open Lex Ct

def endN (f : Ty → Nat × Nat) (l : List Ty) (i : Nat) : Nat := (fldS f (l.take i)).2.1
theorem endN_step {f : Ty → Nat × Nat} {l : List Ty} {i : Nat} {x : Ty} (hx : l[i]? = some x) : endN f l (i + 1) = nxt (endN f l i) (f x).2 + (f x).1 := (fldS_at f l i x hx).2
set_option maxRecDepth 100000 in
set_option maxHeartbeats 8000000 in
theorem sz_fields (kd : Int) (n : List Nm) (l : List Ty) (r : Int) (an : Option Addr) (cn : Nat) (al : Option Addr) (cl : Nat) (w : World) (f : Ty → Nat × Nat) (A : Nat) (hk : kd = 13 ∨ kd = 14) (hl : RowAt w l al cl) (hn : l.length ≤ 64) (hA : Al A) (hal : ∀ x ∈ l, Al (f x).2)
    (hE : ∀ i, i ≤ l.length → endN f l i ≤ 20000)
    (HT0 : Hid (∀ w', Kept (fun _ => False) w w' → Calls Tryd.prog 15 #[.agg #[.int .i64 kd, .slice an n.length cn, .slice al l.length cl, .int .i64 r]] w' fun y w'' => y = .returned (.int .i64 (A : Nat)) ∧ Kept (fun _ => False) w' w''))
    (HX : Hid (∀ x ∈ l, NumR 15 x (f x).2)) (HY : Hid (∀ x ∈ l, NumR 13 x (f x).1)) :
    Calls Tryd.prog 13 #[.agg #[.int .i64 kd, .slice an n.length cn, .slice al l.length cl, .int .i64 r]] w fun y w' => y = .returned (.int .i64 (nxt (endN f l l.length) A : Nat)) ∧ Kept (fun _ => False) w w' := by
  have k0 : Kept (fun _ => False) w (w.alloc (.cells #[.int .i64 kd, .slice an n.length cn, .slice al l.length cl, .int .i64 r] 25)) := (Kept.refl _ _).new _
  have T0 := BlkAt.new w #[.int .i64 kd, .slice an n.length cn, .slice al l.length cl, .int .i64 r] 25
  have HL := Lib.hid hl
  have HE := Lib.hid hE
  have HAL := Lib.hid hal
  have HNX := Lib.hid (rdRefNext (endN f l l.length) A hA (by have := hE l.length (Nat.le_refl _); omega))
  clear hl hal hE hA
  revert k0 T0 HT0
  rcases hk with rfl | rfl
  all_goals
    intro HT0 k0 T0
    have HK := Lib.hid k0
    have HT := Lib.hid T0
    clear k0 T0
    go_enter Tryd.func13, Tryd.ntmps13
    go_wp2_with fail
    go_loopw [4, 5] (fun v u wr => ∃ i : Nat, u = .int .i64 i ∧ i ≤ l.length ∧ v = .int .i64 (endN f l i : Nat) ∧ Hid (Kept (fun _ => False) (w.alloc (.cells #[.int .i64 _, .slice an n.length cn, .slice al l.length cl, .int .i64 r] 25)) wr)) (fun _ u _ => l.length - (intOf u).toNat)
    case atStart => exact ⟨0, rfl, Nat.zero_le _, rfl, Lib.hid (Kept.refl _ _)⟩
    case round =>
      obtain ⟨i, rfl, hi, rfl, hst⟩ := hrel
      have hB := HT.out.kept (F := fun _ => False) hst.out id
      have b0 := hB.cell 0
      have b1 := hB.cell 1
      have b2 := hB.cell 2
      have b3 := hB.cell 3
      simp at b0 b1 b2 b3
      by_cases hlt : i < l.length
      · obtain ⟨x, hx⟩ : ∃ x, l[i]? = some x := ⟨_, List.getElem?_eq_getElem hlt⟩
        obtain ⟨g, o, ax, cx, ay, cy, rfl, hgl, htx, c0, c1, c2, c3⟩ := (HL.out.kept (HK.out.trans hst.out)).at hx
        have hm := List.mem_of_getElem? hx
        have HXI := Lib.hid (fun w' (k' : Kept (fun _ => False) wr w') => HX.out x hm ax cx ay cy w' (htx.kept k'))
        have HYI := Lib.hid (fun w' (k' : Kept (fun _ => False) wr w') => HY.out x hm ax cx ay cy w' (htx.kept k'))
        have hAx := HAL.out x hm
        have hst1 := endN_step (f := f) hx
        have he1 := HE.out i hi
        have he2 := HE.out (i + 1) hlt
        have HBr := Lib.hid hB
        have HRC := Lib.hid (And.intro c0 (And.intro c1 (And.intro c2 c3)))
        have HWr : Hid (∀ w', Kept (fun _ => False) wr w' → w'.cell? ⟨w.heap.size, 2, none⟩ = some (.slice (some ⟨g, o, none⟩) l.length cl) ∧ w'.cell? ⟨g, o + i * 4, none⟩ = some (.int .i64 x.kind) ∧ w'.cell? ⟨g, o + i * 4 + 1, none⟩ = some (.slice ax x.names.length cx) ∧ w'.cell? ⟨g, o + i * 4 + 2, none⟩ = some (.slice ay x.l.length cy) ∧ w'.cell? ⟨g, o + i * 4 + 3, none⟩ = some (.int .i64 x.r)) := Lib.hid (fun w' k' =>
          ⟨(HBr.out.kept (F := fun _ => False) k' id).cell 2, (k'.cell1 (World.block_lt_of_cell? wr _ HRC.out.1)).trans HRC.out.1, (k'.cell1 (World.block_lt_of_cell? wr _ HRC.out.2.1)).trans HRC.out.2.1, (k'.cell1 (World.block_lt_of_cell? wr _ HRC.out.2.2.1)).trans HRC.out.2.2.1, (k'.cell1 (World.block_lt_of_cell? wr _ HRC.out.2.2.2)).trans HRC.out.2.2.2⟩)
        clear htx hx hgl hB hm c0 c1 c2 c3
        revert hAx hst1 he1 he2 HXI HYI
        generalize (f x).2 = B
        generalize (f x).1 = Z
        generalize endN f l i = M
        generalize hM1 : endN f l (i + 1) = M1
        have HM1 := Lib.hid hM1
        intro HXI HYI hAx hst1 he1 he2
        have HNI := Lib.hid (rdRefNext M B hAx (by omega))
        have hnb := (nxt_bound (n := M) hAx).1
        generalize nxt M B = Q at hst1 hnb HNI
        have hwr : IntKind.i64.wrap ((Q : Int) + (Z : Int)) = ((M1 : Nat) : Int) := by rw [IntKind.wrap_i64]; omega
        clear hM1 hAx hst1 he1 he2 hnb
        have q0 : Kept (fun _ => False) wr wr.drew := (Kept.refl _ _).drew
        go_wp2_with fail
        go_region_held3 (fun w' => w'.cell? ⟨w.heap.size, 2, none⟩ = some (.slice (some ⟨g, o, none⟩) l.length cl) ∧ w'.cell? ⟨g, o + i * 4, none⟩ = some (.int .i64 x.kind) ∧ w'.cell? ⟨g, o + i * 4 + 1, none⟩ = some (.slice ax x.names.length cx) ∧ w'.cell? ⟨g, o + i * 4 + 2, none⟩ = some (.slice ay x.l.length cy) ∧ w'.cell? ⟨g, o + i * 4 + 3, none⟩ = some (.int .i64 x.r))
          (first | exact HWr.out _ q0)
          (first
            | (go_at_call 15; refine (HXI.out _ q0).mono ?_; rintro y w5 ⟨rfl, k5⟩; replace q0 : Kept (fun _ => False) wr w5 := q0.trans k5; clear k5)
            | (go_at_call 30; refine (HNI.out _).mono ?_; rintro y w6 ⟨rfl, k6⟩; replace q0 : Kept (fun _ => False) wr w6 := q0.trans k6; clear k6)
            | (go_at_call 13; refine (HYI.out _ q0).mono ?_; rintro y w7 ⟨rfl, k7⟩; replace q0 : Kept (fun _ => False) wr w7 := q0.trans k7; clear k7))
        all_goals (go_wp2_with fail)
        all_goals exact ⟨⟨i + 1, rfl, hlt, by rw [HM1.out], Lib.hid (hst.out.trans q0)⟩, stepUp hlt⟩
      · have hie : i = l.length := by omega
        subst hie
        clear hlt hB
        go_wp2_with (first
          | (go_at_call 30; have _h := HK2; refine (HNX.out _).mono ?_; rintro y w3 ⟨rfl, k3⟩)
          | (go_at_call 15; refine (HT0.out _ (HK.out.trans hst.out)).mono ?_; rintro y w2 ⟨rfl, k2⟩; have HK2 := Lib.hid k2; clear k2))
        go_ret
        exact ⟨rfl, HK.out.trans (hst.out.trans (HK2.out.trans k3))⟩
set_option maxRecDepth 100000 in
set_option maxHeartbeats 8000000 in
theorem sz_cases (kd : Int) (n : List Nm) (l : List Ty) (r : Int) (an : Option Addr) (cn : Nat) (al : Option Addr) (cl : Nat) (w : World) (f : Ty → Nat × Nat) (A I : Nat) (hk : kd = 15 ∨ kd = 17 ∨ kd = 18) (hl : RowAt w l al cl) (hn : l.length ≤ 64) (hA : Al A)
    (hS : I + mxS f l ≤ 20000)
    (HT0 : Hid (∀ w', Kept (fun _ => False) w w' → Calls Tryd.prog 15 #[.agg #[.int .i64 kd, .slice an n.length cn, .slice al l.length cl, .int .i64 r]] w' fun y w'' => y = .returned (.int .i64 (A : Nat)) ∧ Kept (fun _ => False) w' w''))
    (HI0 : Hid (∀ w', Kept (fun _ => False) w w' → Calls Tryd.prog 31 #[.agg #[.int .i64 kd, .slice an n.length cn, .slice al l.length cl, .int .i64 r]] w' fun y w'' => y = .returned (.int .i64 (I : Nat)) ∧ Kept (fun _ => False) w' w''))
    (HY : Hid (∀ x ∈ l, NumR 13 x (f x).1)) :
    Calls Tryd.prog 13 #[.agg #[.int .i64 kd, .slice an n.length cn, .slice al l.length cl, .int .i64 r]] w fun y w' => y = .returned (.int .i64 (nxt (I + mxS f l) A : Nat)) ∧ Kept (fun _ => False) w w' := by
  have k0 : Kept (fun _ => False) w (w.alloc (.cells #[.int .i64 kd, .slice an n.length cn, .slice al l.length cl, .int .i64 r] 25)) := (Kept.refl _ _).new _
  have T0 := BlkAt.new w #[.int .i64 kd, .slice an n.length cn, .slice al l.length cl, .int .i64 r] 25
  have HL := Lib.hid hl
  have HNX := Lib.hid (rdRefNext (I + mxS f l) A hA (by omega))
  clear hl hA
  have f0 : (kd == 0) = false := by rcases hk with rfl | rfl | rfl <;> rfl
  have f11 : (kd == 11) = false := by rcases hk with rfl | rfl | rfl <;> rfl
  have f12 : (kd == 12) = false := by rcases hk with rfl | rfl | rfl <;> rfl
  have f13 : (kd == 13) = false := by rcases hk with rfl | rfl | rfl <;> rfl
  have f14 : (kd == 14) = false := by rcases hk with rfl | rfl | rfl <;> rfl
  have f16 : (kd == 16) = false := by rcases hk with rfl | rfl | rfl <;> rfl
  have flt : decide (kd < 12) = false := by rcases hk with rfl | rfl | rfl <;> rfl
  have fge : decide (19 ≤ kd) = false := by rcases hk with rfl | rfl | rfl <;> rfl
  clear hk
  all_goals
    have HK := Lib.hid k0
    have HT := Lib.hid T0
    clear k0 T0
    go_enter Tryd.func13, Tryd.ntmps13
    go_wp2_with fail
    go_loopw [6, 7] (fun v u wr => ∃ i : Nat, u = .int .i64 i ∧ i ≤ l.length ∧ v = .int .i64 (mxS f (l.take i) : Nat) ∧ Hid (Kept (fun _ => False) (w.alloc (.cells #[.int .i64 kd, .slice an n.length cn, .slice al l.length cl, .int .i64 r] 25)) wr)) (fun _ u _ => l.length - (intOf u).toNat)
    case atStart => exact ⟨0, rfl, Nat.zero_le _, rfl, Lib.hid (Kept.refl _ _)⟩
    case round =>
      obtain ⟨i, rfl, hi, rfl, hst⟩ := hrel
      have hB := HT.out.kept (F := fun _ => False) hst.out id
      have b0 := hB.cell 0
      have b1 := hB.cell 1
      have b2 := hB.cell 2
      have b3 := hB.cell 3
      simp at b0 b1 b2 b3
      by_cases hlt : i < l.length
      · obtain ⟨x, hx⟩ : ∃ x, l[i]? = some x := ⟨_, List.getElem?_eq_getElem hlt⟩
        obtain ⟨g, o, ax, cx, ay, cy, rfl, hgl, htx, c0, c1, c2, c3⟩ := (HL.out.kept (HK.out.trans hst.out)).at hx
        have HXI := Lib.hid (HY.out x (List.mem_of_getElem? hx) ax cx ay cy wr htx)
        have hmx := mxCast (mxS f (l.take i)) (f x).1
        rw [← mxS_step hx] at hmx
        clear htx hx hgl hB HNX hS
        revert hmx HXI
        generalize (f x).1 = B
        generalize mxS f (l.take i) = M
        generalize hM1 : mxS f (l.take (i + 1)) = M1
        have HM1 := Lib.hid hM1
        intro HXI hmx
        clear hM1
        go_wp2_with (first
          | (go_at_call 13; refine HXI.out.mono ?_; rintro y w2 ⟨rfl, k2⟩; have HK2 := Lib.hid k2; clear k2))
        exact ⟨⟨i + 1, rfl, hlt, by rw [HM1.out], Lib.hid (hst.out.trans HK2.out)⟩, stepUp hlt⟩
      · have hie : i = l.length := by omega
        subst hie
        clear hlt
        rw [List.take_length]
        have HBr := Lib.hid hB
        have HWr : Hid (∀ w', Kept (fun _ => False) wr w' → w'.cell? ⟨w.heap.size, 0, none⟩ = some (.int .i64 kd) ∧ w'.cell? ⟨w.heap.size, 1, none⟩ = some (.slice an n.length cn) ∧ w'.cell? ⟨w.heap.size, 2, none⟩ = some (.slice al l.length cl) ∧ w'.cell? ⟨w.heap.size, 3, none⟩ = some (.int .i64 r)) := Lib.hid (fun w' k' =>
          ⟨(HBr.out.kept (F := fun _ => False) k' id).cell 0, (HBr.out.kept (F := fun _ => False) k' id).cell 1, (HBr.out.kept (F := fun _ => False) k' id).cell 2, (HBr.out.kept (F := fun _ => False) k' id).cell 3⟩)
        have HKr := Lib.hid (HK.out.trans hst.out)
        clear hB
        revert hS HNX
        generalize hM : mxS f l = M
        have HM := Lib.hid hM
        clear hM
        intro hS HNX
        have hwr : IntKind.i64.wrap ((I : Int) + (M : Int)) = ((I + M : Nat) : Int) := by rw [IntKind.wrap_i64]; omega
        revert hwr HNX
        generalize hQ : I + M = Q
        have HQ := Lib.hid hQ
        clear hQ
        intro HNX hwr
        have q0 : Kept (fun _ => False) wr wr.drew := (Kept.refl _ _).drew
        clear hS
        go_wp2_with fail
        go_region_held3 (fun w' => w'.cell? ⟨w.heap.size, 0, none⟩ = some (.int .i64 kd) ∧ w'.cell? ⟨w.heap.size, 1, none⟩ = some (.slice an n.length cn) ∧ w'.cell? ⟨w.heap.size, 2, none⟩ = some (.slice al l.length cl) ∧ w'.cell? ⟨w.heap.size, 3, none⟩ = some (.int .i64 r))
          (first | exact HWr.out _ q0)
          (first
            | (go_at_call 31; refine (HI0.out _ (HKr.out.trans q0)).mono ?_; rintro y w5 ⟨rfl, k5⟩; replace q0 : Kept (fun _ => False) wr w5 := q0.trans k5; clear k5)
            | (go_at_call 15; refine (HT0.out _ (HKr.out.trans q0)).mono ?_; rintro y w6 ⟨rfl, k6⟩; replace q0 : Kept (fun _ => False) wr w6 := q0.trans k6; clear k6)
            | (go_at_call 30; refine (HNX.out _).mono ?_; rintro y w7 ⟨rfl, k7⟩; replace q0 : Kept (fun _ => False) wr w7 := q0.trans k7; clear k7))
        all_goals (go_wp2_with fail)
        all_goals go_ret
        all_goals exact ⟨by rw [HM.out, HQ.out]; rfl, HKr.out.trans q0⟩
end Go.Proofs.YtlkbgdhlbdjbiaaDoor

/- ctype: the reference's alignment and size, of every type that may be. -/
set_option linter.unusedVariables false
set_option linter.unusedSimpArgs false
namespace Go.Proofs.YtlkbgdhlbdjbiaaDoor
open Go.RowKit
open Lex Ct

/-- A type of kinds that there are. -/
def gK : Nat → Ty → Prop
  | 0, t => t.kind = 0
  | k + 1, t => t.kind = 0 ∨ ((1 ≤ t.kind ∧ t.kind ≤ 21) ∧ (t.kind = 16 → t.l = []) ∧ ∀ x ∈ t.l, gK k x)
theorem gK_zero {k : Nat} {t : Ty} (h : t.kind = 0) : gK k t := by
  cases k with
  | zero => exact h
  | succ k => exact .inl h
theorem deepK_gK : ∀ {k : Nat} {t : Ty}, deepK k t = true → gK k t
  | 0, t, h => by cases h
  | k + 1, t, h => by
    refine .inr ⟨deepK_kind h, fun e => ?_, fun x hx => ?_⟩
    · have hw := deep_shape h
      rw [e] at hw
      simp [okW] at hw
      exact hw.2.2
    · rcases deep_part h hx with h2 | h2
      · exact gK_zero (isNone_kind h2)
      · exact deepK_gK h2
theorem casS_plain {f : Ty → Nat × Nat} {t : Ty} (hz : f .zero = (0, 1)) (h : t.kind = 16 → t.l = []) : casS f (plainL t) = casS f t.l := by
  unfold plainL
  by_cases h16 : t.kind = 16
  · rw [if_pos h16, h h16]
    have : ∀ (n : Nat) (o : Nat × Nat), 1 ≤ o.2 → (List.replicate n Ty.zero).foldl (fun o x => casOne o (f x)) o = o := by
      intro n
      induction n with
      | zero => intro o _; rfl
      | succ n ih =>
        intro o ho
        rw [List.replicate_succ, List.foldl_cons, hz]
        have e : casOne o (0, 1) = o := by
          unfold casOne
          obtain ⟨a, b⟩ := o
          have ho : 1 ≤ b := ho
          show (max a 0, max b 1) = (a, b)
          rw [Nat.max_eq_left (Nat.zero_le _), Nat.max_eq_left ho]
        rw [e]
        exact ih o ho
    exact this _ _ (Nat.le_refl _)
  · rw [if_neg h16]
    split
    · unfold casS
      rw [List.foldl_cons, hz]
      rfl
    · rfl
theorem fld_cas {f : Ty → Nat × Nat} (l : List Ty) : (fldS f l).2.2 = (casS f l).2 := by
  unfold fldS casS
  have : ∀ (l : List Ty) (a : List Nat × Nat × Nat) (b : Nat × Nat), a.2.2 = b.2 → (l.foldl (fun st x => fldOne st (f x)) a).2.2 = (l.foldl (fun st x => casOne st (f x)) b).2 := by
    intro l
    induction l with
    | nil => intro a b h; exact h
    | cons x r ih =>
      intro a b h
      rw [List.foldl_cons, List.foldl_cons]
      exact ih _ _ (by show max a.2.2 (f x).2 = max b.2 (f x).2; rw [h])
  exact this l _ _ rfl
/-- Of a type both numbers are told. -/
def SizAt (k : Nat) : Prop := ∀ t : Ty, Fit k t → gK k t → NumR 15 t (lieK k t).2 ∧ NumR 13 t (lieK k t).1
theorem siz_none {k : Nat} {t : Ty} (h : t.kind = 0) : NumR 15 t (lieK k t).2 ∧ NumR 13 t (lieK k t).1 := by
  rw [lieK_zero h]
  cases t with
  | mk kd n l r =>
    have e : kd = 0 := h
    subst e
    exact ⟨fun an cn al cl w _ => al_const 0 n l r an cn al cl w _ (.inl ⟨.inl rfl, rfl⟩), fun an cn al cl w _ => sz_const 0 n l r an cn al cl w _ (.inl ⟨rfl, rfl⟩)⟩
theorem fit_len {k : Nat} {t : Ty} (h : Fit (k + 1) t) (h0 : t.kind ≠ 0) : t.l.length ≤ 64 ∧ t.names.length ≤ 64 := by
  rcases h.fit with e | e
  · exact absurd e h0
  · exact ⟨e.2.1, e.1⟩
theorem siz_succ {k : Nat} (IH : SizAt k) : SizAt (k + 1) := by
  intro t hf hg
  rcases hg with h0 | ⟨⟨hk1, hk2⟩, h16, hch⟩
  · exact siz_none h0
  · have h0 : t.kind ≠ 0 := by omega
    have hlen := fit_len hf h0
    have hcnt := hf.cnt h0
    rw [cntK_succ] at hcnt
    have hgd := lieK_good k
    cases t with
    | mk kd n l r =>
      have hk1' : 1 ≤ kd := hk1
      have hk2' : kd ≤ 21 := hk2
      have hl64 : l.length ≤ 64 := hlen.1
      have hcs : 1 + csum k l ≤ 500 := hcnt
      have hchild : ∀ x ∈ l, kd ≠ 16 → Fit k x := fun x hx h => hf.child h0 (by
        show x ∈ plainL (.mk kd n l r)
        unfold plainL
        rw [if_neg (show ¬ (Ty.mk kd n l r).kind = 16 from h)]
        split
        · exact List.mem_cons_of_mem _ hx
        · exact hx)
      have hchg : ∀ x ∈ l, gK k x := hch
      by_cases c1 : kd = 13 ∨ kd = 14
      · have e : lieK (k + 1) (.mk kd n l r) = fldV (lieK k) l := by
          rcases c1 with rfl | rfl <;> rfl
        have hne : kd ≠ 16 := by omega
        have HX : Hid (∀ x ∈ l, NumR 15 x (lieK k x).2) := Lib.hid fun x hx => (IH x (hchild x hx hne) (hchg x hx)).1
        have HY : Hid (∀ x ∈ l, NumR 13 x (lieK k x).1) := Lib.hid fun x hx => (IH x (hchild x hx hne) (hchg x hx)).2
        have hA : mxA (lieK k) l = (fldS (lieK k) l).2.2 := (fld_cas l).symm
        have HA : NumR 15 (.mk kd n l r) (mxA (lieK k) l) := fun an cn al cl w ht => al_loop kd n l r an cn al cl w (lieK k) (by omega) ht.row hl64 HX
        rw [e]
        refine ⟨?_, fun an cn al cl w ht => ?_⟩
        · show NumR _ _ (fldS (lieK k) l).2.2
          rw [← hA]
          exact HA
        · have hE : ∀ i, i ≤ l.length → endN (lieK k) l i ≤ 20000 := fun i hi => by
            have h1 := (fld_good hgd (l.take i) ([], 0, 1) 0 (.inl rfl) (Nat.le_refl _)).2
            have h2 : csum k (l.take i) ≤ csum k l := by
              have e2 : csum k l = csum k (l.take i) + csum k (l.drop i) := by
                unfold csum
                rw [← List.sum_append, ← List.map_append, List.take_append_drop]
              omega
            have h3 : endN (lieK k) l i = ((l.take i).foldl (fun st x => fldOne st (lieK k x)) ([], 0, 1)).2.1 := rfl
            omega
          have := sz_fields kd n l r an cn al cl w (lieK k) (mxA (lieK k) l) c1 ht.row hl64 (casS_al k l) (fun x hx => (hgd x).al) hE (Lib.hid fun w' k' => HA an cn al cl w' (ht.kept k')) HX HY
          have e3 : endN (lieK k) l l.length = (fldS (lieK k) l).2.1 := by unfold endN; rw [List.take_length]
          rw [e3, hA] at this
          exact this
      · by_cases c2 : kd = 15 ∨ kd = 17 ∨ kd = 18
        · have hne : kd ≠ 16 := by omega
          have hcl : casB (plainL (.mk kd n l r)).length = 1 := by
            have : (plainL (.mk kd n l r)).length ≤ 65 := by
              unfold plainL
              rw [if_neg (show ¬ (Ty.mk kd n l r).kind = 16 from hne)]
              split
              · show (Ty.zero :: l).length ≤ 65; rw [List.length_cons]; omega
              · show l.length ≤ 65; omega
            unfold casB
            rw [if_neg (by omega)]
          have hcp : casS (lieK k) (plainL (.mk kd n l r)) = casS (lieK k) l := casS_plain (lieK_zero rfl k) h16
          have hal := casS_al k l
          have hmx : max (casS (lieK k) l).2 1 = (casS (lieK k) l).2 := Nat.max_eq_left hal.le.1
          have e : lieK (k + 1) (.mk kd n l r) = (nxt (nxt 1 (mxA (lieK k) l) + mxS (lieK k) l) (mxA (lieK k) l), mxA (lieK k) l) := by
            have e0 : lieK (k + 1) (.mk kd n l r) = casV (lieK k) (plainL (.mk kd n l r)) := by
              rcases c2 with rfl | rfl | rfl <;> rfl
            rw [e0]
            unfold casV casAt mxA mxS
            rw [hcl, hcp, hmx]
          have HX : Hid (∀ x ∈ l, NumR 15 x (lieK k x).2) := Lib.hid fun x hx => (IH x (hchild x hx hne) (hchg x hx)).1
          have HY : Hid (∀ x ∈ l, NumR 13 x (lieK k x).1) := Lib.hid fun x hx => (IH x (hchild x hx hne) (hchg x hx)).2
          have HA : NumR 15 (.mk kd n l r) (mxA (lieK k) l) := fun an cn al cl w ht => al_loop kd n l r an cn al cl w (lieK k) (by omega) ht.row hl64 HX
          rw [e]
          refine ⟨HA, fun an cn al cl w ht => ?_⟩
          have hb := (nxt_bound (n := 1) hal).2
          have hs : mxS (lieK k) l ≤ 7500 := by
            rcases (cas_good hgd l (0, 1) 0 (.inl rfl) (.inl rfl)).2 with q | q
            · have : mxS (lieK k) l = 0 := by show (casS (lieK k) l).1 = 0; unfold casS; rw [q]
              omega
            · have : mxS (lieK k) l + 7 ≤ 15 * (0 + csum k l) := q
              omega
          exact sz_cases kd n l r an cn al cl w (lieK k) (mxA (lieK k) l) (nxt 1 (mxA (lieK k) l)) c2 ht.row hl64 hal (by have : nxt 1 (mxA (lieK k) l) ≤ 1 + 7 := hb; omega) (Lib.hid fun w' k' => HA an cn al cl w' (ht.kept k'))
            (Lib.hid fun w' k' => inside_loop kd n l r an cn al cl w' (lieK k) (ht.kept k').row hl64 hal HX) HY
        · by_cases c3 : kd = 19
          · subst c3
            have e : lieK (k + 1) (.mk 19 n l r) = flg n.length := rfl
            have hfl : (flg n.length).1 = (flg n.length).2 := by
              unfold flg
              split
              · rfl
              · split <;> rfl
            rw [e]
            refine ⟨fun an cn al cl w ht => al_flags n l r an cn al cl w, fun an cn al cl w ht => ?_⟩
            rw [hfl]
            exact sz_const 19 n l r an cn al cl w _ (.inr (.inr ⟨by omega, fun w' _ => al_flags n l r an cn al cl w'⟩))
          · by_cases c4 : kd = 11 ∨ kd = 12
            · have e : lieK (k + 1) (.mk kd n l r) = (8, 4) := by rcases c4 with rfl | rfl <;> rfl
              rw [e]
              exact ⟨fun an cn al cl w ht => al_const kd n l r an cn al cl w _ (.inr (.inr (.inr ⟨by omega, rfl⟩))), fun an cn al cl w ht => sz_const kd n l r an cn al cl w _ (.inr (.inl ⟨c4, rfl⟩))⟩
            · have key : ∀ v : Nat, lieK (k + 1) (.mk kd n l r) = (v, v) → (((kd = 0 ∨ kd = 1 ∨ kd = 2 ∨ kd = 3 ∨ kd = 16) ∧ (v : Int) = 1) ∨ ((kd = 4 ∨ kd = 5) ∧ (v : Int) = 2) ∨ ((kd = 8 ∨ kd = 9) ∧ (v : Int) = 8) ∨ ((kd = 6 ∨ kd = 7 ∨ kd = 10 ∨ kd = 11 ∨ kd = 12 ∨ kd = 20 ∨ kd = 21) ∧ (v : Int) = 4)) →
                  NumR 15 (.mk kd n l r) (lieK (k + 1) (.mk kd n l r)).2 ∧ NumR 13 (.mk kd n l r) (lieK (k + 1) (.mk kd n l r)).1 := fun v e hv => by
                rw [e]
                exact ⟨fun an cn al cl w ht => al_const kd n l r an cn al cl w _ hv, fun an cn al cl w ht => sz_const kd n l r an cn al cl w _ (.inr (.inr ⟨by omega, fun w' _ => al_const kd n l r an cn al cl w' _ hv⟩))⟩
              by_cases d1 : kd = 1 ∨ kd = 2 ∨ kd = 3
              · exact key 1 (by rcases d1 with rfl | rfl | rfl <;> rfl) (.inl ⟨by omega, rfl⟩)
              · by_cases d2 : kd = 4 ∨ kd = 5
                · exact key 2 (by rcases d2 with rfl | rfl <;> rfl) (.inr (.inl ⟨d2, rfl⟩))
                · by_cases d3 : kd = 8 ∨ kd = 9
                  · exact key 8 (by rcases d3 with rfl | rfl <;> rfl) (.inr (.inr (.inl ⟨d3, rfl⟩)))
                  · by_cases d4 : kd = 16
                    · subst d4
                      refine key 1 ?_ (.inl ⟨by omega, rfl⟩)
                      have hcp : casS (lieK k) (plainL (.mk 16 n l r)) = (0, 1) := by
                        rw [casS_plain (lieK_zero rfl k) h16, show (Ty.mk 16 n l r).l = [] from h16 rfl]
                        rfl
                      have hcl : casB (plainL (.mk 16 n l r)).length = 1 := by
                        have : (plainL (.mk 16 n l r)).length ≤ 64 := by
                          show (List.replicate n.length Ty.zero).length ≤ 64
                          rw [List.length_replicate]
                          exact hlen.2
                        unfold casB
                        rw [if_neg (by omega)]
                      show casV (lieK k) (plainL (.mk 16 n l r)) = _
                      unfold casV casAt
                      rw [hcl, hcp]
                      rfl
                    · refine key 4 ?_ (.inr (.inr (.inr ⟨by omega, rfl⟩)))
                      have : kd = 6 ∨ kd = 7 ∨ kd = 10 ∨ kd = 20 ∨ kd = 21 := by omega
                      rcases this with rfl | rfl | rfl | rfl | rfl <;> rfl
theorem siz_all : ∀ k, SizAt k
  | 0 => fun t _ hg => siz_none hg
  | k + 1 => siz_succ (siz_all k)
end Go.Proofs.YtlkbgdhlbdjbiaaDoor

/- ctype: what is told of a type as Plain: the same numbers, the same core types. -/
set_option linter.unusedVariables false
set_option linter.unusedSimpArgs false
namespace Go.Proofs.YtlkbgdhlbdjbiaaDoor
open Go.RowKit
open Lex Ct

theorem plain_kinds {t : Ty} (ho : okT t = true) : (plainT t).kind = 13 ∧ (t.kind = 13 ∨ t.kind = 14) ∨ (plainT t).kind = 15 ∧ (t.kind = 15 ∨ t.kind = 16 ∨ t.kind = 17 ∨ t.kind = 18) ∨ plainT t = t ∧ t.kind ≠ 13 ∧ t.kind ≠ 14 ∧ t.kind ≠ 15 ∧ t.kind ≠ 16 ∧ t.kind ≠ 17 ∧ t.kind ≠ 18 := by
  have hw := deep_shape (k := 15) (okT_deep ho).1
  unfold plainT
  by_cases h14 : t.kind = 14
  · rw [if_pos h14]; exact .inl ⟨rfl, .inr h14⟩
  rw [if_neg h14]
  by_cases h16 : t.kind = 16
  · rw [if_pos h16]; exact .inr (.inl ⟨rfl, by omega⟩)
  rw [if_neg h16]
  by_cases h17 : t.kind = 17
  · have hl : t.l.length = 1 := by
      rw [h17] at hw
      simp [okW] at hw
      exact hw.2
    rw [if_pos ⟨h17, hl⟩]; exact .inr (.inl ⟨rfl, by omega⟩)
  rw [if_neg (fun q => h17 q.1)]
  by_cases h18 : t.kind = 18
  · have hl : t.l.length = 2 := by
      rw [h18] at hw
      simp [okW] at hw
      exact hw.2
    rw [if_pos ⟨h18, hl⟩]; exact .inr (.inl ⟨rfl, by omega⟩)
  rw [if_neg (fun q => h18 q.1)]
  by_cases h13 : t.kind = 13
  · exact .inl ⟨h13, .inl h13⟩
  by_cases h15 : t.kind = 15
  · exact .inr (.inl ⟨h15, .inl h15⟩)
  exact .inr (.inr ⟨rfl, h13, h14, h15, h16, h17, h18⟩)
theorem e16_of {t : Ty} (ho : okT t = true) : t.kind = 16 → t.l = [] := fun e => by
  have hw := deep_shape (k := 15) (okT_deep ho).1
  rw [e] at hw
  simp [okW] at hw
  exact hw.2.2
theorem csum_plainE {k : Nat} {t : Ty} (h : t.kind = 16 → t.l = []) : csum k (plainL t) = csum k t.l := by
  unfold plainL
  by_cases h16 : t.kind = 16
  · rw [if_pos h16, h h16]
    have : ∀ n, csum k (List.replicate n Ty.zero) = 0 := by
      intro n
      induction n with
      | zero => rfl
      | succ n ih => rw [List.replicate_succ, csum_cons, ih]; rfl
    rw [this]
    rfl
  · rw [if_neg h16]
    split
    · rw [csum_cons]
      show (if (0 : Int) = 0 then 0 else _) + _ = _
      rw [if_pos rfl, Nat.zero_add]
    · rfl
theorem plain_child {t x : Ty} (ho : okT t = true) (hx : x ∈ plainL t) : x.kind = 0 ∨ deepK 15 x = true := by
  rcases plainL_mem hx with h | h
  · exact .inl h
  · rcases deep_part (k := 15) (okT_deep ho).1 h with h2 | h2
    · exact .inl (isNone_kind h2)
    · exact .inr h2
theorem plain_names {t : Ty} (ho : okT t = true) : (plainT t).names.length ≤ 64 := by
  have h := okT_lens ho
  unfold plainT
  split
  · show ((List.range t.l.length).map digs).length ≤ 64
    rw [List.length_map, List.length_range]
    exact h.2.1
  split
  · exact h.1
  split
  · show 2 ≤ 64; decide
  split
  · show 2 ≤ 64; decide
  · exact h.1
theorem plain_fit {t : Ty} (ho : okT t = true) : Fit 16 (plainT t) := by
  refine ⟨.inr ⟨plain_names ho, by rw [plainT_l]; exact (okT_lens ho).2.2, fun x hx => ?_⟩, fun _ => ?_⟩
  · rw [plainT_l] at hx
    rcases plain_child ho hx with h | h
    · exact fit_zero h
    · exact deepK_fit h
  · have h := (okT_deep ho).2
    rw [show (16 : Nat) = 15 + 1 from rfl, cntK_succ] at h ⊢
    rw [plainT_l, csum_plainE (e16_of ho)]
    exact h
theorem e16_kind0 {k : Nat} {t : Ty} (h : t = .zero) : e16K k t := by rw [h]; exact e16_zero rfl
theorem plain_zero_or {t x : Ty} (hx : x ∈ plainL t) : x = .zero ∨ x ∈ t.l := by
  unfold plainL at hx
  split at hx
  · exact .inl (List.eq_of_mem_replicate hx)
  · split at hx
    · rcases List.mem_cons.1 hx with rfl | hx
      · exact .inl rfl
      · exact .inr hx
    · exact .inr hx
theorem plain_e16 {t : Ty} (ho : okT t = true) : e16K 16 (plainT t) := by
  refine ⟨fun e => ?_, fun x hx => ?_⟩
  · rcases plain_kinds ho with ⟨h, _⟩ | ⟨h, _⟩ | ⟨h, h2⟩
    · omega
    · omega
    · rw [h] at e; omega
  · rw [plainT_l] at hx
    rcases plain_zero_or hx with h | h
    · exact e16_kind0 h
    · exact (deepK_e16 (okT_deep ho).1).2 x h
theorem plain_gK {t : Ty} (ho : okT t = true) : gK 16 (plainT t) := by
  have hk := deepK_kind (okT_deep ho).1
  refine .inr ⟨?_, fun e => ?_, fun x hx => ?_⟩
  · rcases plain_kinds ho with ⟨h, _⟩ | ⟨h, _⟩ | ⟨h, h2⟩
    · omega
    · omega
    · rw [h]; exact hk
  · rcases plain_kinds ho with ⟨h, _⟩ | ⟨h, _⟩ | ⟨h, h2⟩
    · omega
    · omega
    · rw [h] at e; omega
  · rw [plainT_l] at hx
    rcases plain_child ho hx with h | h
    · exact gK_zero h
    · exact deepK_gK h
theorem plainL_again {t : Ty} (ho : okT t = true) : plainL (plainT t) = plainL t := by
  rcases plain_kinds ho with ⟨h, _⟩ | ⟨h, _⟩ | ⟨h, h2⟩
  · rw [← plainT_l t]
    unfold plainL
    rw [if_neg (by omega), if_neg (by omega)]
  · rw [← plainT_l t]
    conv => lhs; unfold plainL
    rw [if_neg (by omega), if_neg (by omega)]
  · rw [h]
theorem plain_lie {t : Ty} (ho : okT t = true) : lieK 16 (plainT t) = lieK 16 t := by
  rcases plain_kinds ho with ⟨h, h2⟩ | ⟨h, h2⟩ | ⟨h, h2⟩
  · rw [lie_record (.inl h), lie_record h2, plainT_l]
    unfold plainL
    rw [if_neg (by omega), if_neg (by omega)]
  · rw [lie_variant (.inl h), lie_variant h2, plainL_again ho]
  · rw [h]
theorem core_record {t : Ty} (h : t.kind = 13 ∨ t.kind = 14) : coreK 16 t = behL (coreK 15) t.l := by
  unfold coreK
  rcases h with e | e <;> rw [e] <;> simp
theorem core_variant {t : Ty} (h : t.kind = 15 ∨ t.kind = 16 ∨ t.kind = 17 ∨ t.kind = 18) : coreK 16 t = ovF (coreK 15) (plainL t) := by
  unfold coreK
  rcases h with e | e | e | e <;> rw [e] <;> simp
theorem plain_core {t : Ty} (ho : okT t = true) : coreK 16 (plainT t) = coreK 16 t := by
  rcases plain_kinds ho with ⟨h, h2⟩ | ⟨h, h2⟩ | ⟨h, h2⟩
  · rw [core_record (.inl h), core_record h2, plainT_l]
    unfold plainL
    rw [if_neg (by omega), if_neg (by omega)]
  · rw [core_variant (.inl h), core_variant h2, plainL_again ho]
  · rw [h]
end Go.Proofs.YtlkbgdhlbdjbiaaDoor

/- ctype: the reference's SameType, of two values of one type. -/
set_option linter.unusedVariables false
set_option linter.unusedSimpArgs false
namespace Go.Proofs.YtlkbgdhlbdjbiaaDoor
open Go.RowKit
open Lex Ct

set_option maxRecDepth 100000 in
set_option maxHeartbeats 4000000 in
theorem same_names (l : List Nm) (a c : Option Addr) (ca cc : Nat) (w : World) (hl : NmsAt w l a ca) (hm : NmsAt w l c cc) :
    Calls Tryd.prog 24 #[.slice a l.length ca, .slice c l.length cc] w fun y w' => y = .returned (.bool true) ∧ Kept (fun _ => False) w w' := by
  have HL := Lib.hid hl
  have HM := Lib.hid hm
  have hbd := hl.bound
  have hlen : (l.length : Int) ≤ 9223372036854775807 := by omega
  have b1 : ((l.length : Int) != (l.length : Int)) = false := by simp
  clear hl hm hbd
  go_enter Tryd.func24, Tryd.ntmps24
  go_wp2_with fail
  go_loopw [5] (fun v wr => ∃ i : Nat, v = .int .i64 i ∧ i ≤ l.length ∧ Hid (Kept (fun _ => False) w wr)) (fun v _ => l.length - (intOf v).toNat)
  case atStart => exact ⟨0, rfl, Nat.zero_le _, Lib.hid (Kept.refl _ _)⟩
  case round =>
    obtain ⟨i, rfl, hi, hk⟩ := hrel
    by_cases hlt : i < l.length
    · obtain ⟨x, hx⟩ : ∃ x, l[i]? = some x := ⟨_, List.getElem?_eq_getElem hlt⟩
      obtain ⟨g, o, rfl, hg, c0⟩ := (HL.out.kept hk.out).at hx
      obtain ⟨g2, o2, rfl, hg2, c2⟩ := (HM.out.kept hk.out).at hx
      have hq : ((strOfNums x).toList == (strOfNums x).toList) = true := by simp
      clear hx hg hg2
      go_wp2_with fail
      go_region
      all_goals (go_wp2_with fail)
      all_goals exact ⟨⟨i + 1, by go_num, hlt, Lib.hid hk.out.drew⟩, by simp [intOf]; omega⟩
    · have hie : i = l.length := by omega
      subst hie
      clear hlt
      go_wp2_with fail
      go_ret
      exact ⟨rfl, hk.out⟩
def SamT (t : Ty) : Prop := ∀ an cn al cl bn dn bl dl w, TyAt w t an cn al cl → TyAt w t bn dn bl dl → Calls Tryd.prog 8 #[tyV t an cn al cl, tyV t bn dn bl dl] w fun y w' => y = .returned (.bool true) ∧ Kept (fun _ => False) w w'
set_option maxRecDepth 100000 in
set_option maxHeartbeats 4000000 in
theorem same_types (l : List Ty) (IH : Hid (∀ x ∈ l, SamT x)) (a c : Option Addr) (ca cc : Nat) (w : World) (hl : RowAt w l a ca) (hm : RowAt w l c cc) :
    Calls Tryd.prog 25 #[.slice a l.length ca, .slice c l.length cc] w fun y w' => y = .returned (.bool true) ∧ Kept (fun _ => False) w w' := by
  have HL := Lib.hid hl
  have HM := Lib.hid hm
  have hbd := hl.bound
  have hlen : (l.length : Int) ≤ 9223372036854775807 := by omega
  have b1 : ((l.length : Int) != (l.length : Int)) = false := by simp
  clear hl hm hbd
  go_enter Tryd.func25, Tryd.ntmps25
  go_wp2_with fail
  go_loopw [5] (fun v wr => ∃ i : Nat, v = .int .i64 i ∧ i ≤ l.length ∧ Hid (Kept (fun _ => False) w wr)) (fun v _ => l.length - (intOf v).toNat)
  case atStart => exact ⟨0, rfl, Nat.zero_le _, Lib.hid (Kept.refl _ _)⟩
  case round =>
    obtain ⟨i, rfl, hi, hk⟩ := hrel
    by_cases hlt : i < l.length
    · obtain ⟨x, hx⟩ : ∃ x, l[i]? = some x := ⟨_, List.getElem?_eq_getElem hlt⟩
      obtain ⟨g, o, ax, cx, ay, cy, rfl, hg, htx, c0, c1, c2, c3⟩ := (HL.out.kept hk.out).at hx
      obtain ⟨g2, o2, bx, dx, bY, dy, rfl, hg2, hty, d0, d1, d2, d3⟩ := (HM.out.kept hk.out).at hx
      have hxm := List.mem_of_getElem? hx
      have HXI := Lib.hid (fun w' (k' : Kept (fun _ => False) wr w') => IH.out x hxm ax cx ay cy bx dx bY dy w' (htx.kept k') (hty.kept k'))
      have HRC := Lib.hid (And.intro c0 (And.intro c1 (And.intro c2 (And.intro c3 (And.intro d0 (And.intro d1 (And.intro d2 d3)))))))
      have q0 : Kept (fun _ => False) wr wr.drew := (Kept.refl _ _).drew
      have HWr : Hid (∀ w', Kept (fun _ => False) wr w' → (w'.cell? ⟨g, o + i * 4, none⟩ = some (.int .i64 x.kind) ∧ w'.cell? ⟨g, o + i * 4 + 1, none⟩ = some (.slice ax x.names.length cx) ∧ w'.cell? ⟨g, o + i * 4 + 2, none⟩ = some (.slice ay x.l.length cy) ∧ w'.cell? ⟨g, o + i * 4 + 3, none⟩ = some (.int .i64 x.r)) ∧
          (w'.cell? ⟨g2, o2 + i * 4, none⟩ = some (.int .i64 x.kind) ∧ w'.cell? ⟨g2, o2 + i * 4 + 1, none⟩ = some (.slice bx x.names.length dx) ∧ w'.cell? ⟨g2, o2 + i * 4 + 2, none⟩ = some (.slice bY x.l.length dy) ∧ w'.cell? ⟨g2, o2 + i * 4 + 3, none⟩ = some (.int .i64 x.r))) := Lib.hid (fun w' k' => by
        obtain ⟨c0, c1, c2, c3, d0, d1, d2, d3⟩ := HRC.out
        have f : ∀ (p : Addr) v, wr.cell? p = some v → w'.cell? p = some v := fun p v e => (k'.cell1 (World.block_lt_of_cell? wr _ e)).trans e
        exact ⟨⟨f _ _ c0, f _ _ c1, f _ _ c2, f _ _ c3⟩, ⟨f _ _ d0, f _ _ d1, f _ _ d2, f _ _ d3⟩⟩)
      clear hx hg hg2 htx hty hxm
      go_wp2_with fail
      go_region_held3 (fun w' => (w'.cell? ⟨g, o + i * 4, none⟩ = some (.int .i64 x.kind) ∧ w'.cell? ⟨g, o + i * 4 + 1, none⟩ = some (.slice ax x.names.length cx) ∧ w'.cell? ⟨g, o + i * 4 + 2, none⟩ = some (.slice ay x.l.length cy) ∧ w'.cell? ⟨g, o + i * 4 + 3, none⟩ = some (.int .i64 x.r)) ∧
          (w'.cell? ⟨g2, o2 + i * 4, none⟩ = some (.int .i64 x.kind) ∧ w'.cell? ⟨g2, o2 + i * 4 + 1, none⟩ = some (.slice bx x.names.length dx) ∧ w'.cell? ⟨g2, o2 + i * 4 + 2, none⟩ = some (.slice bY x.l.length dy) ∧ w'.cell? ⟨g2, o2 + i * 4 + 3, none⟩ = some (.int .i64 x.r)))
        (first | exact HWr.out _ q0)
        (first
          | (go_at_call 8; refine (HXI.out _ q0).mono ?_; rintro y w5 ⟨rfl, k5⟩; replace q0 : Kept (fun _ => False) wr w5 := q0.trans k5; clear k5))
      all_goals (go_wp2_with fail)
      all_goals exact ⟨⟨i + 1, by go_num, hlt, Lib.hid (hk.out.trans q0)⟩, by simp [intOf]; omega⟩
    · have hie : i = l.length := by omega
      subst hie
      clear hlt
      go_wp2_with fail
      go_ret
      exact ⟨rfl, hk.out⟩
set_option maxRecDepth 100000 in
set_option maxHeartbeats 4000000 in
theorem same_step (t : Ty) (IH : Hid (∀ x ∈ t.l, SamT x)) : SamT t := by
  intro an cn al cl bn dn bl dl w ha hb
  have HN := Lib.hid (fun w' (k : Kept (fun _ => False) w w') => same_names t.names an bn cn dn w' ((ha.kept k).nms) ((hb.kept k).nms))
  have HTS := Lib.hid (fun w' (k : Kept (fun _ => False) w w') => same_types t.l IH al bl cl dl w' ((ha.kept k).row) ((hb.kept k).row))
  have k0 : Kept (fun _ => False) w ((w.alloc (.cells #[.int .i64 t.kind, .slice an t.names.length cn, .slice al t.l.length cl, .int .i64 t.r] 25)).alloc (.cells #[.int .i64 t.kind, .slice bn t.names.length dn, .slice bl t.l.length dl, .int .i64 t.r] 25)) := ((Kept.refl _ _).new _).new _
  have T1 := (BlkAt.new w #[.int .i64 t.kind, .slice an t.names.length cn, .slice al t.l.length cl, .int .i64 t.r] 25).kept (F := fun _ => False) ((Kept.refl _ _).new (.cells #[.int .i64 t.kind, .slice bn t.names.length dn, .slice bl t.l.length dl, .int .i64 t.r] 25)) id
  have T2 := BlkAt.new (w.alloc (.cells #[.int .i64 t.kind, .slice an t.names.length cn, .slice al t.l.length cl, .int .i64 t.r] 25)) #[.int .i64 t.kind, .slice bn t.names.length dn, .slice bl t.l.length dl, .int .i64 t.r] 25
  rw [World.size_alloc] at T2
  have HK := Lib.hid k0
  have H1 := Lib.hid T1
  have H2 := Lib.hid T2
  have bk : (t.kind == t.kind) = true := by simp
  have br : (t.r == t.r) = true := by simp
  clear ha hb k0 T1 T2 IH
  go_enter Tryd.func8, Tryd.ntmps8
  go_wp2_with (first
    | (go_at_call 25; have _h := HK1; refine (HTS.out _ HK1.out).mono ?_; rintro y w2 ⟨rfl, k2⟩)
    | (go_at_call 24; refine (HN.out _ HK.out).mono ?_; rintro y w1 ⟨rfl, k1⟩; have HK1 := Lib.hid (HK.out.trans k1); obtain ⟨x0, x1, x2, x3⟩ := boxT_cells (H1.out.kept (F := fun _ => False) k1 id); obtain ⟨y0, y1, y2, y3⟩ := boxT_cells (H2.out.kept (F := fun _ => False) k1 id); clear k1))
  go_ret
  exact ⟨rfl, HK1.out.trans k2⟩
theorem same_all : ∀ (N : Nat) (t : Ty), SizeOf.sizeOf t < N → SamT t
  | 0, t, h => by omega
  | N + 1, t, h => same_step t (Lib.hid fun x hx => same_all N x (by
      cases t with
      | mk k n l r =>
        have h1 := List.sizeOf_lt_of_mem (show x ∈ l from hx)
        simp only [Ty.mk.sizeOf_spec] at h
        omega))
theorem rdSameTy (t : Ty) : SamT t := same_all (SizeOf.sizeOf t + 1) t (Nat.lt_succ_self _)
end Go.Proofs.YtlkbgdhlbdjbiaaDoor
