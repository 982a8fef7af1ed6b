/- value: how much a value is (the law's weigh, Light). -/
import Derived.Test.YtikgkjkgdlnekaaGreatDoorVaE
set_option linter.unusedVariables false
set_option linter.unusedSimpArgs false
namespace Go.Proofs.YtikgkjkgdlnekaaGreatDoor
open Go.RowKit
open Ct

namespace Ct
def wghL (f : Vl → Nat) : Nat → List Vl → Nat
  | n, [] => n
  | n, x :: r => if n ≤ 20000 then wghL f (n + f x) r else n
def wghK : Nat → Vl → Nat
  | 0, _ => 1073741824
  | k + 1, v => if 20000 < v.s.length ∨ 20000 < v.l.length then 1073741824 else wghL (wghK k) (1 + v.s.length) v.l
def lightV (v : Vl) : Bool := decide (wghK 21 v ≤ 20000)
theorem wghL_past {f : Vl → Nat} {n : Nat} {l : List Vl} (h : 20000 < n) : wghL f n l = n := by
  cases l with
  | nil => rfl
  | cons x r => exact if_neg (by omega)
theorem wghL_le {f : Vl → Nat} {B : Nat} (hB : ∀ x, f x ≤ B) : ∀ (l : List Vl) (n : Nat), wghL f n l ≤ max n (20000 + B)
  | [], n => Nat.le_max_left _ _
  | x :: r, n => by
    unfold wghL
    split
    · have := wghL_le hB r (n + f x)
      have := hB x
      omega
    · omega
theorem wghK_le : ∀ (k : Nat) (v : Vl), wghK k v ≤ 1073741824 + k * 20001
  | 0, v => Nat.le_refl _
  | k + 1, v => by
    unfold wghK
    split
    · omega
    · have := wghL_le (wghK_le k) v.l (1 + v.s.length)
      omega
theorem wghL_ge {f : Vl → Nat} : ∀ (l : List Vl) (n : Nat), n ≤ wghL f n l
  | [], n => Nat.le_refl _
  | x :: r, n => by
    unfold wghL
    split
    · have := wghL_ge (f := f) r (n + f x)
      omega
    · omega
/-- Of what is light, all within is. -/
theorem wghL_mem {f : Vl → Nat} : ∀ (l : List Vl) (n : Nat), wghL f n l ≤ 20000 → ∀ x ∈ l, n + f x ≤ wghL f n l
  | [], n, _, x, hx => by cases hx
  | y :: r, n, h, x, hx => by
    unfold wghL at h ⊢
    split at h
    · rename_i hn
      rw [if_pos hn]
      rcases List.mem_cons.1 hx with rfl | hx
      · exact wghL_ge r _
      · have := wghL_mem r _ h x hx
        omega
    · omega
theorem wgh_parts {k : Nat} {v : Vl} (h : wghK k v ≤ 20000) : ∃ j, k = j + 1 ∧ v.s.length ≤ 20000 ∧ v.l.length ≤ 20000 ∧ 1 + v.s.length ≤ wghK k v ∧ ∀ x ∈ v.l, wghK j x ≤ 20000 ∧ 1 + v.s.length + wghK j x ≤ wghK k v := by
  cases k with
  | zero => exact absurd h (by show ¬ (1073741824 : Nat) ≤ 20000; omega)
  | succ j =>
    have e : wghK (j + 1) v = if 20000 < v.s.length ∨ 20000 < v.l.length then 1073741824 else wghL (wghK j) (1 + v.s.length) v.l := rfl
    rw [e] at h ⊢
    split at h
    · omega
    · rename_i hq
      rw [if_neg hq]
      refine ⟨j, rfl, by omega, by omega, wghL_ge _ _, fun x hx => ?_⟩
      have := wghL_mem v.l _ h x hx
      exact ⟨by omega, this⟩
end Ct
/-- The law's weigh: how much a value is, so deep. -/
def WghAt (k : Nat) : Prop := ∀ (v : Vl) (sa : Option Addr) (sc : Nat) (al : Option Addr) (cl : Nat) (w : World), VlAt w v sa sc al cl →
  Calls Tryz.prog 16 #[vlV v sa sc al cl, .int .i64 (21 - k : Int)] w fun y w' => y = .returned (.int .i64 (wghK k v : Nat)) ∧ Kept (fun _ => False) w w'
set_option maxRecDepth 100000 in
set_option maxHeartbeats 8000000 in
theorem wgh_zero : WghAt 0 := by
  intro v sa sc al cl w h
  have k0 : Kept (fun _ => False) w (w.alloc (.cells #[.int .i64 v.n, .slice sa v.s.length sc, .slice al v.l.length cl] 29)) := (Kept.refl _ _).new _
  go_enter Tryz.func16, Tryz.ntmps16
  go_wp2_with fail
  go_ret
  exact ⟨rfl, k0⟩
set_option maxRecDepth 100000 in
set_option maxHeartbeats 8000000 in
theorem wgh_step (v : Vl) (d : Int) (f : Vl → Nat) (B : Nat) (hf : ∀ x, f x ≤ B) (hB : B ≤ 2147483647) (hd : d ≤ 20) (hd0 : -1000 ≤ d) (sa : Option Addr) (sc : Nat) (al : Option Addr) (cl : Nat) (w : World) (h : VlAt w v sa sc al cl)
    (IH : Hid (∀ x ∈ v.l, ∀ sa sc al cl w', VlAt w' x sa sc al cl → Calls Tryz.prog 16 #[vlV x sa sc al cl, .int .i64 (d + 1)] w' fun y w'' => y = .returned (.int .i64 (f x : Nat)) ∧ Kept (fun _ => False) w' w'')) :
    Calls Tryz.prog 16 #[vlV v sa sc al cl, .int .i64 d] w fun y w' => y = .returned (.int .i64 ((if 20000 < v.s.length ∨ 20000 < v.l.length then 1073741824 else wghL f (1 + v.s.length) v.l : Nat) : Int)) ∧ Kept (fun _ => False) w w' := by
  have k0 : Kept (fun _ => False) w (w.alloc (.cells #[.int .i64 v.n, .slice sa v.s.length sc, .slice al v.l.length cl] 29)) := (Kept.refl _ _).new _
  have T0 := BlkAt.new w #[.int .i64 v.n, .slice sa v.s.length sc, .slice al v.l.length cl] 29
  have HK := Lib.hid k0
  have HT := Lib.hid T0
  have HL := Lib.hid h.row
  have b0 : decide ((20 : Int) < d) = false := by simp; omega
  have hw : IntKind.i64.wrap (d + 1) = d + 1 := by rw [IntKind.wrap_i64]; omega
  have HW := Lib.hid hw
  have HF := Lib.hid (And.intro hf hB)
  clear h k0 T0 hd hd0 hf hB hw
  by_cases h1 : 20000 < v.s.length
  · have b1 : decide ((20000 : Int) < (v.s.length : Int)) = true := by simp; omega
    rw [if_pos (.inl h1)]
    clear h1
    go_enter Tryz.func16, Tryz.ntmps16
    go_wp2_with fail
    go_ret
    exact ⟨rfl, HK.out⟩
  by_cases h2 : 20000 < v.l.length
  · have b1 : decide ((20000 : Int) < (v.s.length : Int)) = false := by simp; omega
    have b2 : decide ((20000 : Int) < (v.l.length : Int)) = true := by simp; omega
    rw [if_pos (.inr h2)]
    clear h1 h2
    go_enter Tryz.func16, Tryz.ntmps16
    go_wp2_with fail
    go_ret
    exact ⟨rfl, HK.out⟩
  rw [if_neg (by omega)]
  have b1 : decide ((20000 : Int) < (v.s.length : Int)) = false := by simp; omega
  have b2 : decide ((20000 : Int) < (v.l.length : Int)) = false := by simp; omega
  have hw1 : IntKind.i64.wrap (1 + (v.s.length : Int)) = ((1 + v.s.length : Nat) : Int) := by rw [IntKind.wrap_i64]; omega
  go_enter Tryz.func16, Tryz.ntmps16
  go_wp2_with fail
  go_loopw [5, 6] (fun m u wr => ∃ (i n : Nat), u = .int .i64 i ∧ m = .int .i64 (n : Nat) ∧ i ≤ v.l.length ∧ n ≤ 20000 + B + 20001 ∧ Hid (wghL f n (v.l.drop i) = wghL f (1 + v.s.length) v.l ∧ Kept (fun _ => False) (w.alloc (.cells #[.int .i64 v.n, .slice sa v.s.length sc, .slice al v.l.length cl] 29)) wr)) (fun _ u _ => v.l.length - (intOf u).toNat)
  case atStart => exact ⟨0, 1 + v.s.length, rfl, by first | rw [hw1] | rfl, Nat.zero_le _, by omega, Lib.hid ⟨rfl, Kept.refl _ _⟩⟩
  case round =>
    obtain ⟨i, n, rfl, rfl, hi, hn, hst⟩ := hrel
    have hB := HT.out.kept (F := fun _ => False) hst.out.2 id
    obtain ⟨c0, c1, c2⟩ := boxV_cells hB
    have hlen : v.l.length ≤ 20000 := by omega
    clear h1 h2 hw1 b1 b2
    by_cases hlt : i < v.l.length
    · by_cases hsm : n ≤ 20000
      · obtain ⟨x, hx⟩ : ∃ x, v.l[i]? = some x := ⟨_, List.getElem?_eq_getElem hlt⟩
        obtain ⟨g, o, ax, cx, ay, cy, rfl, hgl, htx, d0, d1, d2⟩ := (HL.out.kept (HK.out.trans hst.out.2)).at hx
        have hxm := List.mem_of_getElem? hx
        have e1 : v.l.drop i = x :: v.l.drop (i + 1) := by
          obtain ⟨hi', e⟩ := List.getElem?_eq_some_iff.1 hx
          rw [← e]
          exact List.drop_eq_getElem_cons hi'
        have e2 : wghL f n (v.l.drop i) = wghL f (n + f x) (v.l.drop (i + 1)) := by rw [e1]; exact if_pos hsm
        have hfx := HF.out.1 x
        have hBB := HF.out.2
        have hwn : IntKind.i64.wrap ((n : Int) + (f x : Nat)) = ((n + f x : Nat) : Int) := by rw [IntKind.wrap_i64]; omega
        have hnx : n + f x ≤ 20000 + B + 20001 := by omega
        have HE := Lib.hid (And.intro e2 (And.intro hwn hnx))
        have HXI := Lib.hid (fun w' (k' : Kept (fun _ => False) wr w') => IH.out x hxm ax cx ay cy w' (htx.kept k'))
        have hdw := HW.out
        have bs : decide ((n : Int) ≤ 20000) = true := by simp; omega
        clear hx hgl htx hxm e1 e2 hfx hBB hnx hB hn hsm
        go_wp2_with (first
          | (go_at_call 16; refine (HXI.out _ (Kept.refl _ _)).mono ?_; rintro y w5 ⟨rfl, k5⟩; have HK5 := Lib.hid k5; clear k5))
        exact ⟨⟨i + 1, n + f x, by go_num, by first | rw [hwn] | rfl, hlt, HE.out.2.2, Lib.hid ⟨HE.out.1.symm.trans hst.out.1, hst.out.2.trans HK5.out⟩⟩, by simp [intOf]; omega⟩
      · have e1 : wghL f n (v.l.drop i) = n := wghL_past (by omega)
        have HE := Lib.hid (e1.symm.trans hst.out.1)
        have bs : decide ((n : Int) ≤ 20000) = false := by simp; omega
        clear e1 hsm hn hB
        go_wp2_with fail
        go_ret
        exact ⟨by rw [← HE.out]; rfl, HK.out.trans hst.out.2⟩
    · have he : i = v.l.length := by omega
      subst he
      have e1 := hst.out.1
      rw [List.drop_length] at e1
      have HE := Lib.hid e1
      clear e1 hn hB hlt
      go_wp2_with fail
      go_ret
      exact ⟨by rw [← HE.out]; rfl, HK.out.trans hst.out.2⟩
theorem wgh_all : ∀ k, k ≤ 21 → WghAt k
  | 0, _ => wgh_zero
  | k + 1, hk => by
    intro v sa sc al cl w h
    have IH := wgh_all k (by omega)
    have e : (21 - ((k + 1 : Nat) : Int)) + 1 = 21 - (k : Int) := by omega
    exact wgh_step v (21 - ((k + 1 : Nat) : Int)) (wghK k) (1073741824 + k * 20001) (wghK_le k) (by omega) (by omega) (by omega) sa sc al cl w h (Lib.hid fun x _ sa sc al cl w' hx => by rw [e]; exact IH x sa sc al cl w' hx)
set_option maxRecDepth 100000 in
set_option maxHeartbeats 8000000 in
/-- LIGHT, of any value. -/
theorem rdLight (v : Vl) (sa : Option Addr) (sc : Nat) (al : Option Addr) (cl : Nat) (w : World) (h : VlAt w v sa sc al cl) :
    Calls Tryz.prog 5 #[vlV v sa sc al cl] w fun y w' => y = .returned (.bool (lightV v)) ∧ Kept (fun _ => False) w w' := by
  have k0 : Kept (fun _ => False) w (w.alloc (.cells #[.int .i64 v.n, .slice sa v.s.length sc, .slice al v.l.length cl] 29)) := (Kept.refl _ _).new _
  have T0 := BlkAt.new w #[.int .i64 v.n, .slice sa v.s.length sc, .slice al v.l.length cl] 29
  have HK := Lib.hid k0
  have HW := Lib.hid (fun w' (k : Kept (fun _ => False) w w') => wgh_all 21 (Nat.le_refl _) v sa sc al cl w' (h.kept k))
  have e0 : ((21 : Int) - ((21 : Nat) : Int)) = 0 := by omega
  have hb : decide (((wghK 21 v : Nat) : Int) ≤ 20000) = lightV v := by unfold lightV; exact decide_eq_decide.2 (by omega)
  rw [e0] at HW
  clear h k0 e0 T0
  revert HW hb
  generalize wghK 21 v = m
  intro HW hb
  go_enter Tryz.func5, Tryz.ntmps5
  go_wp2_with (first
    | (go_at_call 16; refine (HW.out _ HK.out).mono ?_; rintro y w1 ⟨rfl, k1⟩))
  go_ret
  exact ⟨rfl, HK.out.trans k1⟩
end Go.Proofs.YtikgkjkgdlnekaaGreatDoor
