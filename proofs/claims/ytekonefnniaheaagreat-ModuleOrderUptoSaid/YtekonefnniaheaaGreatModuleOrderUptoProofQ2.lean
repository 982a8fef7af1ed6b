/- Texts of the proof of ModuleOrderUptoProof, part 2. -/
import Derived.Deep.Slices
import Derived.ChangeSame
import Derived.ChangeArms
import Derived.Deep.RegionHeld3
import Derived.Test.YtekonefnniaheaaGreatModuleOrderUptoProofQ1
namespace Go.Proofs.YtekonefnniaheaaGreat
open Go.RowKit Go.Deep

inductive Ins where
  | mk (op a b m : Int) (n : List Int) (l e : List Ins)
namespace Ins
def op : Ins → Int | mk x _ _ _ _ _ _ => x
def a : Ins → Int | mk _ x _ _ _ _ _ => x
def b : Ins → Int | mk _ _ x _ _ _ _ => x
def m : Ins → Int | mk _ _ _ x _ _ _ => x
def n : Ins → List Int | mk _ _ _ _ x _ _ => x
def l : Ins → List Ins | mk _ _ _ _ _ x _ => x
def e : Ins → List Ins | mk _ _ _ _ _ _ x => x
end Ins
mutual
/-- An instruction, as it lies in block b from off on. -/
def LiesI (w : World) (b off : Nat) : Ins → Prop
  | .mk op a b' m n l e => w.cell? ⟨b, off, none⟩ = some (.int .i64 op) ∧ w.cell? ⟨b, off + 1, none⟩ = some (.int .i64 a) ∧ w.cell? ⟨b, off + 2, none⟩ = some (.int .i64 b') ∧ w.cell? ⟨b, off + 3, none⟩ = some (.int .i64 m) ∧
      (∃ x c, w.cell? ⟨b, off + 4, none⟩ = some (.slice x n.length c) ∧ View w x n.length n ∧ n.length ≤ c ∧ c ≤ 9223372036854775807) ∧
      (∃ x c, w.cell? ⟨b, off + 5, none⟩ = some (.slice x l.length c) ∧ LiesL w x l ∧ l.length ≤ c ∧ c ≤ 9223372036854775807) ∧
      (∃ x c, w.cell? ⟨b, off + 6, none⟩ = some (.slice x e.length c) ∧ LiesL w x e ∧ e.length ≤ c ∧ c ≤ 9223372036854775807)
/-- Instructions, as they lie one behind the other. -/
def LiesL (w : World) (x : Option Addr) : List Ins → Prop
  | [] => True
  | i :: r => ∃ b off, x = some ⟨b, off, none⟩ ∧ LiesI w b off i ∧ LiesL w (some ⟨b, off + 7, none⟩) r
end
mutual
theorem LiesI.below {w w' : World} {b off : Nat} (h : Below w.heap.size w w') : ∀ {i : Ins}, LiesI w b off i → LiesI w' b off i
  | .mk op a b' m n l e, hi => by
    have key : ∀ o v, w.cell? ⟨b, o, none⟩ = some v → w'.cell? ⟨b, o, none⟩ = some v := fun o v hc => (h.cell (World.block_lt_of_cell? w _ hc)).trans hc
    unfold LiesI at hi ⊢
    obtain ⟨h0, h1, h2, h3, ⟨x4, c4, h4, v4, k4⟩, ⟨x5, c5, h5, v5, k5⟩, ⟨x6, c6, h6, v6, k6⟩⟩ := hi
    exact ⟨key _ _ h0, key _ _ h1, key _ _ h2, key _ _ h3, ⟨x4, c4, key _ _ h4, v4.below h, k4⟩, ⟨x5, c5, key _ _ h5, LiesL.below h v5, k5⟩, ⟨x6, c6, key _ _ h6, LiesL.below h v6, k6⟩⟩
theorem LiesL.below {w w' : World} {x : Option Addr} (h : Below w.heap.size w w') : ∀ {l : List Ins}, LiesL w x l → LiesL w' x l
  | [], _ => by unfold LiesL; trivial
  | i :: r, hl => by
    unfold LiesL at hl ⊢
    obtain ⟨b, off, hx, h1, h2⟩ := hl
    exact ⟨b, off, hx, LiesI.below h h1, LiesL.below h h2⟩
end
instance : Inhabited Ins := ⟨.mk 0 0 0 0 [] [] []⟩
theorem LiesL.at {w : World} {b off : Nat} {l : List Ins} (h : LiesL w (some ⟨b, off, none⟩) l) (i : Nat) (hi : i < l.length) : LiesI w b (off + i * 7) (l.getD i default) := by
  induction l generalizing off i with
  | nil => exact absurd hi (by simp)
  | cons j r ih =>
    unfold LiesL at h
    obtain ⟨b2, off2, hx, h1, h2⟩ := h
    cases hx
    cases i with
    | zero => simpa using h1
    | succ k =>
      have := ih h2 k (by rw [List.length_cons] at hi; omega)
      rw [show off + (k + 1) * 7 = off + 7 + k * 7 by omega]
      simpa using this
theorem LiesL.addr {w : World} {x : Option Addr} {l : List Ins} (h : LiesL w x l) (hl : 0 < l.length) : ∃ b off, x = some ⟨b, off, none⟩ := by
  cases l with
  | nil => exact absurd hl (by simp)
  | cons j r =>
    unfold LiesL at h
    obtain ⟨b, off, hx, _⟩ := h
    exact ⟨b, off, hx⟩
theorem LiesL.of {w : World} {b off : Nat} {l : List Ins} (h : ∀ i, i < l.length → LiesI w b (off + i * 7) (l.getD i default)) : LiesL w (some ⟨b, off, none⟩) l := by
  induction l generalizing off with
  | nil => unfold LiesL; trivial
  | cons j r ih =>
    unfold LiesL
    refine ⟨b, off, rfl, by simpa using h 0 (by simp), ih fun i hi => ?_⟩
    have := h (i + 1) (by rw [List.length_cons]; omega)
    rw [show off + (i + 1) * 7 = off + 7 + i * 7 by omega] at this
    simpa using this
/-- What is read of instructions that came in. -/
structure InsIn (w : World) (x : Option Addr) (len cap : Nat) (l : List Ins) : Prop where
  eq : len = l.length
  le : len ≤ cap
  top : cap ≤ 9223372036854775807
  lies : LiesL w x l
theorem ins_one_of {cs : List Value} {j : Nat} {v : Value} (h : (cs.drop j).take 1 = [v]) : cs[j]? = some v := by
  have h1 : ((cs.drop j).take 1)[0]? = some v := by rw [h]; rfl
  rw [List.getElem?_take, if_pos (by decide), List.getElem?_drop, Nat.add_zero] at h1
  exact h1
theorem cells_ins : Tryz.prog.cellsOf 50 = 7 := by kernel_rfl
theorem cells_ins_int : Tryz.prog.cellsOf 3 = 1 := by kernel_rfl
theorem cells_ins_ints : Tryz.prog.cellsOf 24 = 1 := by kernel_rfl
theorem cells_ins_l : Tryz.prog.cellsOf 48 = 1 := by kernel_rfl
section
variable {H : Type} {enc : TypeId × Value → H} {w : World} {base : Nat} {spare : Nat → Bool} {held : Bool}
theorem ints_of {fuel : Nat} {a : Option Addr} {len cap : Nat} {x : DataW H × List MemPlace} (h : DataW.trod enc Tryz.prog w base spare held fuel 24 [.slice a len cap] = some x) : ∃ n : List Int, len = n.length ∧ View w a len n ∧ len ≤ cap ∧ cap ≤ 9223372036854775807 := by
  rcases open_slice Tryz.underlying24 h with ⟨hcs, _⟩ | ⟨ad, l, c, m, n, D, Pl, hcs, _, hl, hm, hmm, _, hi⟩
  · simp only [List.cons.injEq, Value.slice.injEq, and_true] at hcs
    obtain ⟨rfl, rfl, rfl⟩ := hcs
    exact ⟨[], rfl, .inl rfl, Nat.le_refl _, by omega⟩
  · simp only [List.cons.injEq, Value.slice.injEq, and_true] at hcs
    obtain ⟨rfl, rfl, rfl⟩ := hcs
    have hlm : len ≤ m := by rw [hmm]; split <;> omega
    unfold maxLen at hm
    have key : ∀ i, i < len → ∃ z : Int, w.cell? (ad.add i) = some (.int .i64 z) := fun i hil => by
      obtain ⟨cs', h1, h2⟩ := hi i (by omega)
      rw [cells_ins_int, Nat.mul_one] at h1
      obtain ⟨z, hz, _, _⟩ := DataW.trod_int Tryz.underlying3 h2
      obtain ⟨_, _, hc⟩ := World.cells?_some h1
      refine ⟨z, ?_⟩
      have := hc 0 (by decide)
      rw [hz, add_add, Nat.add_zero] at this
      exact this
    obtain ⟨f, hf⟩ := choose_lt key
    refine ⟨(List.range len).map f, by simp, ?_, hl, by omega⟩
    by_cases h0 : len = 0
    · exact .inl h0
    · obtain ⟨b, off, spot⟩ := ad
      have hc0 := hf 0 (by omega)
      have hspot : spot = none := by simpa [Addr.add] using World.cell?_spot hc0
      subst hspot
      have hadd : ∀ i, (⟨b, off, none⟩ : Addr).add i = ⟨b, off + i, none⟩ := fun i => by unfold Addr.add; split <;> simp_all
      refine .inr ⟨b, off, rfl, fun i hi2 => ?_⟩
      have := hf i hi2
      rw [hadd] at this
      rw [this]
      congr 2
      rw [List.getD_eq_getElem?_getD, List.getElem?_map, List.getElem?_range hi2]
      rfl
theorem slice_of {t e : TypeId} {fuel : Nat} {cs : List Value} {x : DataW H × List MemPlace} (ht : Tryz.prog.underlying t = some (.slice e)) (h : DataW.trod enc Tryz.prog w base spare held fuel t cs = some x) : ∃ a len cap, cs = [.slice a len cap] := by
  rcases open_slice ht h with ⟨hcs, _⟩ | ⟨ad, l, c, m, n, D, Pl, hcs, _⟩
  · exact ⟨_, _, _, hcs⟩
  · exact ⟨_, _, _, hcs⟩
end
end Go.Proofs.YtekonefnniaheaaGreat
namespace Go.Proofs.YtekonefnniaheaaGreat
open Go.RowKit

def idxB (n : Int) : Bool := decide (0 ≤ n ∧ n ≤ 4294967295)
/-- An instruction's cells in a block. -/
def InsAt (w : World) (bd : Nat) (op a b m : Int) (xn xl xe : Option Addr) (nl ll el nc lc ec : Nat) : Prop :=
  w.cell? ⟨bd, 0, none⟩ = some (.int .i64 op) ∧ w.cell? ⟨bd, 1, none⟩ = some (.int .i64 a) ∧ w.cell? ⟨bd, 2, none⟩ = some (.int .i64 b) ∧ w.cell? ⟨bd, 3, none⟩ = some (.int .i64 m) ∧
  w.cell? ⟨bd, 4, none⟩ = some (.slice xn nl nc) ∧ w.cell? ⟨bd, 5, none⟩ = some (.slice xl ll lc) ∧ w.cell? ⟨bd, 6, none⟩ = some (.slice xe el ec)
theorem InsAt.below {w w' : World} {bd : Nat} {op a b m : Int} {xn xl xe : Option Addr} {nl ll el nc lc ec : Nat} (h : InsAt w bd op a b m xn xl xe nl ll el nc lc ec) (hb : Below w.heap.size w w') : InsAt w' bd op a b m xn xl xe nl ll el nc lc ec := by
  have key : ∀ o v, w.cell? ⟨bd, o, none⟩ = some v → w'.cell? ⟨bd, o, none⟩ = some v := fun o v hc => (hb.cell (World.block_lt_of_cell? w _ hc)).trans hc
  obtain ⟨h0, h1, h2, h3, h4, h5, h6⟩ := h
  exact ⟨key _ _ h0, key _ _ h1, key _ _ h2, key _ _ h3, key _ _ h4, key _ _ h5, key _ _ h6⟩
/-- May these be an instruction's numbers? -/
def mayV (sh er op a b m : Int) (n : List Int) (ll el : Nat) : Bool :=
  decide (er = 0) && (decide (sh = 2) || decide (ll = 0)) && (decide (op = 4) || decide (el = 0)) && (decide (sh = 4) || decide (n.length = 0)) && (decide (sh = 7) || decide (b = 0)) &&
  (decide (sh ∈ [5, 7, 8, 9]) || decide (m = 0)) && idxB m &&
  (if sh ∈ [1, 8, 11] then decide (a = 0) else if sh = 2 then idxB a || decide (a ∈ [-64, -1, -2, -16]) else if sh = 6 then decide ((typeV a).2 = 0)
   else if sh = 10 then decide (op = 66) || (decide (-2147483648 ≤ a) && decide (a ≤ 2147483647))
   else n.all idxB && idxB a && decide (0 ≤ b) && decide (b < 64) && decide (n.length ≤ 1000))
end Go.Proofs.YtekonefnniaheaaGreat
namespace Go.Proofs.YtekonefnniaheaaGreat
open Go.RowKit

theorem all_upto {n : List Int} {f : Int → Bool} (h : ∀ j, j < n.length → f (n.getD j 0) = true) : n.all f = true := by
  rw [List.all_eq_true]
  intro z hz
  obtain ⟨k, hk, rfl⟩ := List.getElem_of_mem hz
  have := h k hk
  rwa [List.getD_eq_getElem?_getD, List.getElem?_eq_getElem hk] at this
theorem all_not {n : List Int} {f : Int → Bool} {j : Nat} (hj : j < n.length) (h : f (n.getD j 0) = false) : n.all f = false := by
  rw [← Bool.not_eq_true, List.all_eq_true]
  intro ha
  have := ha (n.getD j 0) (by rw [List.getD_eq_getElem?_getD, List.getElem?_eq_getElem hj]; exact List.getElem_mem _)
  rw [h] at this
  exact absurd this (by decide)
theorem shapeV_in (op : Int) (h : (shapeV op).2 = 0) : shapeV op = (1, 0) ∨ shapeV op = (2, 0) ∨ shapeV op = (3, 0) ∨ shapeV op = (4, 0) ∨ shapeV op = (5, 0) ∨ shapeV op = (6, 0) ∨ shapeV op = (7, 0) ∨ shapeV op = (8, 0) ∨ shapeV op = (9, 0) ∨ shapeV op = (10, 0) ∨ shapeV op = (11, 0) := by
  unfold shapeV at h ⊢
  by_cases c0 : 0 < (Num.sig op).1 ∨ op ∈ [0, 1, 15, 26, 27, 209]
  · rw [if_pos c0] at h ⊢
    simp
  rw [if_neg c0] at h ⊢
  by_cases c1 : op ∈ [2, 3, 4]
  · rw [if_pos c1] at h ⊢
    simp
  rw [if_neg c1] at h ⊢
  by_cases c2 : op ∈ [12, 13, 16, 32, 33, 34, 35, 36, 210]
  · rw [if_pos c2] at h ⊢
    simp
  rw [if_neg c2] at h ⊢
  by_cases c3 : op = 14
  · rw [if_pos c3] at h ⊢
    simp
  rw [if_neg c3] at h ⊢
  by_cases c4 : op = 17
  · rw [if_pos c4] at h ⊢
    simp
  rw [if_neg c4] at h ⊢
  by_cases c5 : op = 28
  · rw [if_pos c5] at h ⊢
    simp
  rw [if_neg c5] at h ⊢
  by_cases c6 : 0 < (Mem.width op).1
  · rw [if_pos c6] at h ⊢
    simp
  rw [if_neg c6] at h ⊢
  by_cases c7 : op ∈ [37, 38, 63, 64, 64523, 64527, 64528, 64529]
  · rw [if_pos c7] at h ⊢
    simp
  rw [if_neg c7] at h ⊢
  by_cases c8 : op = 64522 ∨ op = 64526
  · rw [if_pos c8] at h ⊢
    simp
  rw [if_neg c8] at h ⊢
  by_cases c9 : op = 65 ∨ op = 66
  · rw [if_pos c9] at h ⊢
    simp
  rw [if_neg c9] at h ⊢
  by_cases c10 : op = 208
  · rw [if_pos c10] at h ⊢
    simp
  rw [if_neg c10] at h ⊢
  by_cases c11 : isFloat op = true
  · rw [if_pos c11] at h ⊢
    exact absurd h (by decide)
  rw [if_neg c11] at h ⊢
  by_cases c12 : op = 253
  · rw [if_pos c12] at h ⊢
    exact absurd h (by decide)
  rw [if_neg c12] at h ⊢
  exact absurd h (by decide)
end Go.Proofs.YtekonefnniaheaaGreat
namespace Go.Proofs.YtekonefnniaheaaGreat
open Go.RowKit

theorem index_any (n : Int) (w : World) :
    Calls Tryz.prog 213 #[.int .i64 n] w fun e w' => e = .returned (.bool (idxB n)) ∧ w = w' := by
  have HW := Lib.hid (insWithin_any n 0 4294967295)
  have e1 : idxB n = (decide (0 ≤ n) && decide (n ≤ 4294967295)) := by unfold idxB; rw [Bool.eq_iff_iff]; simp
  rw [e1]
  clear e1
  go_enter Tryz.func213, Tryz.ntmps213
  go_wp2_with (go_at_call 206; refine (HW.out _).mono ?_; rintro e w1 ⟨rfl, rfl⟩)
  go_ret
  exact ⟨rfl, rfl⟩
/-- May it be a block's type? -/
def blkB (a : Int) : Bool := idxB a || decide (a ∈ [-64, -1, -2, -16])
set_option maxRecDepth 100000 in
theorem blockType_any (n : Int) (w : World) :
    Calls Tryz.prog 212 #[.int .i64 n] w fun e w' => e = .returned (.bool (blkB n)) ∧ w = w' := by
  have HI := Lib.hid (index_any n)
  by_cases h : n ∈ [-64, -1, -2, -16]
  · have e1 : blkB n = true := by unfold blkB; rw [decide_eq_true h, Bool.or_true]
    rw [e1]
    have hc : n = -64 ∨ n = -1 ∨ n = -2 ∨ n = -16 := by simpa using h
    clear e1 h HI
    rcases hc with rfl | rfl | rfl | rfl
    all_goals
      go_enter Tryz.func212, Tryz.ntmps212
      go_wp2_with fail
      go_ret
      exact ⟨rfl, rfl⟩
  · have e1 : blkB n = idxB n := by unfold blkB; rw [decide_eq_false h, Bool.or_false]
    rw [e1]
    have hc : ¬ n = -64 ∧ ¬ n = -1 ∧ ¬ n = -2 ∧ ¬ n = -16 := by simpa using h
    obtain ⟨h1, h2, h3, h4⟩ := hc
    clear e1 h
    go_enter Tryz.func212, Tryz.ntmps212
    go_wp2_with (go_at_call 213; refine (HI.out _).mono ?_; rintro e w1 ⟨rfl, rfl⟩)
    go_ret
    exact ⟨rfl, rfl⟩
def mayBV (sh b : Int) : Bool := if sh = 7 then decide (0 ≤ b) && decide (b ≤ 63) else decide (b = 0)
set_option maxRecDepth 100000 in
theorem mayB_any (sh b : Int) (w : World) :
    Calls Tryz.prog 202 #[.int .i64 b, .int .i64 sh] w fun e w' => e = .returned (.bool (mayBV sh b)) ∧ w = w' := by
  have HW := Lib.hid (insWithin_any b 0 63)
  unfold mayBV
  by_cases h : sh = 7
  · rw [if_pos h]
    subst h
    go_enter Tryz.func202, Tryz.ntmps202
    go_wp2_with (go_at_call 206; refine (HW.out _).mono ?_; rintro e w1 ⟨rfl, rfl⟩)
    go_ret
    exact ⟨rfl, rfl⟩
  · rw [if_neg h]
    have h2 := eq_no h
    clear h
    go_enter Tryz.func202, Tryz.ntmps202
    go_wp2_with fail
    go_ret
    exact ⟨rfl, rfl⟩
def mayMV (sh m : Int) : Bool := if sh ∈ [5, 7, 8, 9] then idxB m else decide (m = 0)
set_option maxRecDepth 100000 in
theorem mayM_any (sh m : Int) (w : World) :
    Calls Tryz.prog 203 #[.int .i64 m, .int .i64 sh] w fun e w' => e = .returned (.bool (mayMV sh m)) ∧ w = w' := by
  have HI := Lib.hid (index_any m)
  unfold mayMV
  by_cases h : sh ∈ [5, 7, 8, 9]
  · rw [if_pos h]
    have hc : sh = 5 ∨ sh = 7 ∨ sh = 8 ∨ sh = 9 := by simpa using h
    clear h
    rcases hc with rfl | rfl | rfl | rfl
    all_goals
      go_enter Tryz.func203, Tryz.ntmps203
      go_wp2_with (go_at_call 213; refine (HI.out _).mono ?_; rintro e w1 ⟨rfl, rfl⟩)
      go_ret
      exact ⟨rfl, rfl⟩
  · rw [if_neg h]
    have hc : ¬ sh = 5 ∧ ¬ sh = 7 ∧ ¬ sh = 8 ∧ ¬ sh = 9 := by simpa using h
    obtain ⟨h1, h2, h3, h4⟩ := hc
    clear h
    go_enter Tryz.func203, Tryz.ntmps203
    go_wp2_with fail
    go_ret
    exact ⟨rfl, rfl⟩
def mayNV (sh : Int) (n : List Int) : Bool := if sh = 4 then decide (n.length ≤ 1000) && n.all idxB else decide (n.length = 0)
set_option maxRecDepth 100000 in
set_option maxHeartbeats 1000000 in
theorem mayN_any (sh : Int) (n : List Int) (x : Option Addr) (nl nc : Nat) (w : World) (hn : nl = n.length) (hv : View w x nl n) :
    Calls Tryz.prog 204 #[.slice x nl nc, .int .i64 sh] w fun e w' => e = .returned (.bool (mayNV sh n)) ∧ w = w' := by
  have HI := Lib.hid index_any
  have HV := Lib.hid hv
  have HN := Lib.hid hn
  unfold mayNV
  rw [← hn]
  clear hv hn
  by_cases h : sh = 4
  · rw [if_pos h]
    subst h
    by_cases h1 : nl ≤ 1000
    · rw [decide_eq_true h1, Bool.true_and]
      have h2 : (nl : Int) ≤ 1000 := by omega
      clear h1
      go_enter Tryz.func204, Tryz.ntmps204
      go_wp2_with fail
      go_loopw [17] (fun iv wr => ∃ i : Nat, iv = .int .i64 i ∧ i ≤ nl ∧ (∀ j, j < i → idxB (n.getD j 0) = true) ∧ w = wr) (fun iv _ => nl - (intOf iv).toNat)
      case atStart => exact ⟨0, rfl, by omega, fun j hj => by omega, rfl⟩
      case round =>
        obtain ⟨i, rfl, hi, hall, rfl⟩ := hrel
        have HALL := Lib.hid hall
        clear hall
        by_cases hlt : i < nl
        · obtain ⟨b2, off2, rfl, hc⟩ := HV.out.resolve_left (by omega)
          have hci := hc i hlt
          have HZ : Hid (∀ z, n.getD i 0 = z → idxB z = false → n.all idxB = false) := Lib.hid fun z hz hf => all_not (by rw [← HN.out]; exact hlt) (by rw [hz]; exact hf)
          have HZ2 : Hid (∀ z, n.getD i 0 = z → idxB z = true → ∀ j, j < i + 1 → idxB (n.getD j 0) = true) := Lib.hid fun z hz ht j hj => by
            by_cases hji : j = i
            · rw [hji, hz]; exact ht
            · exact HALL.out j (by omega)
          obtain ⟨z, hz⟩ : ∃ z, n.getD i 0 = z := ⟨_, rfl⟩
          rw [hz] at hci
          have HZE := Lib.hid hz
          clear hc hz
          by_cases hzi : idxB z = true
          · have HIZ := Lib.hid (hzi ▸ index_any z)
            have HT := Lib.hid hzi
            clear hzi
            go_wp2_with (go_at_call 213; refine (HIZ.out _).mono ?_; rintro e w2 ⟨rfl, rfl⟩)
            exact ⟨⟨i + 1, by go_num, by omega, HZ2.out z HZE.out HT.out, trivial⟩, by simp [intOf]; omega⟩
          · have HIZ := Lib.hid (not_true hzi ▸ index_any z)
            have HA := Lib.hid (HZ.out z HZE.out (not_true hzi))
            clear hzi
            go_wp2_with (go_at_call 213; refine (HIZ.out _).mono ?_; rintro e w2 ⟨rfl, rfl⟩)
            go_ret
            rw [HA.out]
            exact ⟨rfl, rfl⟩
        · have hin : i = nl := by omega
          have HA : Hid (n.all idxB = true) := Lib.hid (all_upto fun j hj => HALL.out j (by rw [hin, HN.out]; exact hj))
          subst hin
          go_wp2_with fail
          go_ret
          rw [HA.out]
          exact ⟨rfl, rfl⟩
    · rw [decide_eq_false h1, Bool.false_and]
      have h2 : ¬ (nl : Int) ≤ 1000 := by omega
      clear h1
      go_enter Tryz.func204, Tryz.ntmps204
      go_wp2_with fail
      go_ret
      exact ⟨rfl, rfl⟩
  · rw [if_neg h]
    have h2 := eq_no h
    clear h
    by_cases h1 : nl = 0
    · subst h1
      go_enter Tryz.func204, Tryz.ntmps204
      go_wp2_with fail
      go_ret
      exact ⟨rfl, rfl⟩
    · rw [decide_eq_false h1]
      have h3 : ((nl : Int) == 0) = false := eq_no (by omega)
      clear h1
      go_enter Tryz.func204, Tryz.ntmps204
      go_wp2_with fail
      go_ret
      exact ⟨rfl, rfl⟩
end Go.Proofs.YtekonefnniaheaaGreat
namespace Go.Proofs.YtekonefnniaheaaGreat
open Go.RowKit

def mayAV (sh op a : Int) : Bool := if sh = 2 then blkB a else if sh ∈ [3, 4, 5, 7, 9] then idxB a else if sh = 6 then decide ((typeV a).2 = 0) else if sh = 10 then decide (op = 66) || (decide (-2147483648 ≤ a) && decide (a ≤ 2147483647)) else decide (a = 0)
set_option maxRecDepth 100000 in
set_option maxHeartbeats 1000000 in
theorem mayA_any (sh op a b m : Int) (xn xl xe : Option Addr) (nl ll el nc lc ec : Nat) (w : World) :
    Calls Tryz.prog 201 #[.agg #[.int .i64 op, .int .i64 a, .int .i64 b, .int .i64 m, .slice xn nl nc, .slice xl ll lc, .slice xe el ec], .int .i64 sh] w fun e w' => e = .returned (.bool (mayAV sh op a)) ∧ Below w.heap.size w w' := by
  have HI := Lib.hid (index_any a)
  have HB := Lib.hid (blockType_any a)
  have HT := Lib.hid (type_any a)
  have HW := Lib.hid (insWithin_any a (-2147483648) 2147483647)
  have hb := Lib.hid ((Below.refl w.heap.size w).alloc (Nat.le_refl _) (.cells #[.int .i64 op, .int .i64 a, .int .i64 b, .int .i64 m, .slice xn nl nc, .slice xl ll lc, .slice xe el ec] 50))
  have d0 := World.cell?_alloc_mark w #[.int .i64 op, .int .i64 a, .int .i64 b, .int .i64 m, .slice xn nl nc, .slice xl ll lc, .slice xe el ec] 50 (0, 0) 0
  have d1 := World.cell?_alloc_mark w #[.int .i64 op, .int .i64 a, .int .i64 b, .int .i64 m, .slice xn nl nc, .slice xl ll lc, .slice xe el ec] 50 (0, 0) 1
  unfold mayAV
  by_cases h2 : sh = 2
  · rw [if_pos h2]
    subst h2
    go_enter Tryz.func201, Tryz.ntmps201
    go_wp2_with (go_at_call 212; refine (HB.out _).mono ?_; rintro e w1 ⟨rfl, rfl⟩)
    go_ret
    exact ⟨rfl, hb.out⟩
  rw [if_neg h2]
  by_cases h3 : sh ∈ [3, 4, 5, 7, 9]
  · rw [if_pos h3]
    have hc : sh = 3 ∨ sh = 4 ∨ sh = 5 ∨ sh = 7 ∨ sh = 9 := by simpa using h3
    clear h2 h3
    rcases hc with rfl | rfl | rfl | rfl | rfl
    all_goals
      go_enter Tryz.func201, Tryz.ntmps201
      go_wp2_with (go_at_call 213; refine (HI.out _).mono ?_; rintro e w1 ⟨rfl, rfl⟩)
      go_ret
      exact ⟨rfl, hb.out⟩
  rw [if_neg h3]
  have hc : ¬ sh = 3 ∧ ¬ sh = 4 ∧ ¬ sh = 5 ∧ ¬ sh = 7 ∧ ¬ sh = 9 := by simpa using h3
  obtain ⟨k1, k2, k3, k4, k5⟩ := hc
  clear h3
  by_cases h6 : sh = 6
  · rw [if_pos h6]
    subst h6
    clear h2 k1 k2 k3 k4 k5
    revert HT
    generalize (typeV a).1 = t
    generalize (typeV a).2 = f
    intro HT
    go_enter Tryz.func201, Tryz.ntmps201
    go_wp2_with (go_at_call 123; refine (HT.out _).mono ?_; rintro e w1 ⟨rfl, rfl⟩)
    go_ret
    exact ⟨rfl, hb.out⟩
  rw [if_neg h6]
  by_cases h10 : sh = 10
  · rw [if_pos h10]
    subst h10
    clear h2 k1 k2 k3 k4 k5 h6
    by_cases h66 : op = 66
    · rw [decide_eq_true h66, Bool.true_or]
      subst h66
      go_enter Tryz.func201, Tryz.ntmps201
      go_wp2_with fail
      go_ret
      exact ⟨rfl, hb.out⟩
    · rw [decide_eq_false h66, Bool.false_or]
      have h67 := eq_no h66
      clear h66
      go_enter Tryz.func201, Tryz.ntmps201
      go_wp2_with (go_at_call 206; refine (HW.out _).mono ?_; rintro e w1 ⟨rfl, rfl⟩)
      go_ret
      exact ⟨rfl, hb.out⟩
  rw [if_neg h10]
  go_enter Tryz.func201, Tryz.ntmps201
  go_wp2_with fail
  go_ret
  exact ⟨rfl, hb.out⟩
/-- May these be an instruction's numbers? -/
def mayPV (sh op a b m : Int) (n : List Int) (ll el : Nat) : Bool :=
  mayAV sh op a && mayBV sh b && mayMV sh m && mayNV sh n && (decide (sh = 2) || decide (ll = 0)) && (decide (op = 4) || decide (el = 0))
set_option maxRecDepth 100000 in
set_option maxHeartbeats 1000000 in
theorem may_any (sh op a b m : Int) (n : List Int) (xn xl xe : Option Addr) (nl ll el nc lc ec : Nat) (w : World) (hn : nl = n.length) (hv : View w xn nl n) :
    Calls Tryz.prog 189 #[.agg #[.int .i64 op, .int .i64 a, .int .i64 b, .int .i64 m, .slice xn nl nc, .slice xl ll lc, .slice xe el ec], .int .i64 sh] w fun e w' => e = .returned (.bool (mayPV sh op a b m n ll el)) ∧ Below w.heap.size w w' := by
  have HA := Lib.hid (mayA_any sh op a b m xn xl xe nl ll el nc lc ec)
  have HB := Lib.hid (mayB_any sh b)
  have HM := Lib.hid (mayM_any sh m)
  have HV := Lib.hid hv
  have HN := Lib.hid hn
  have hb0 : Below w.heap.size w (w.alloc (.cells #[.int .i64 op, .int .i64 a, .int .i64 b, .int .i64 m, .slice xn nl nc, .slice xl ll lc, .slice xe el ec] 50)) := (Below.refl _ _).alloc (Nat.le_refl _) _
  have D0 : Hid (InsAt (w.alloc (.cells #[.int .i64 op, .int .i64 a, .int .i64 b, .int .i64 m, .slice xn nl nc, .slice xl ll lc, .slice xe el ec] 50)) w.heap.size op a b m xn xl xe nl ll el nc lc ec) := Lib.hid ⟨World.cell?_alloc_mark w _ _ _ 0, World.cell?_alloc_mark w _ _ _ 1, World.cell?_alloc_mark w _ _ _ 2, World.cell?_alloc_mark w _ _ _ 3, World.cell?_alloc_mark w _ _ _ 4, World.cell?_alloc_mark w _ _ _ 5, World.cell?_alloc_mark w _ _ _ 6⟩
  obtain ⟨d0, d1, d2, d3, d4, d5, d6⟩ := D0.out
  have HB0 := Lib.hid hb0
  unfold mayPV
  clear hb0 hv hn
  revert HA HB HM
  obtain ⟨vn, hvn⟩ : ∃ vn, mayNV sh n = vn := ⟨_, rfl⟩
  rw [hvn]
  have HNV := Lib.hid hvn
  clear hvn
  generalize mayAV sh op a = va
  generalize mayBV sh b = vb
  generalize mayMV sh m = vm
  intro HA HB HM
  cases va
  · go_enter Tryz.func189, Tryz.ntmps189
    go_wp2_with (first
      | (go_at_call 201; refine (HA.out _).mono ?_; rintro e w1 ⟨rfl, hb⟩; have D := D0.out.below hb; obtain ⟨d0, d1, d2, d3, d4, d5, d6⟩ := D; have hbw := HB0.out.trans (hb.mono (by simp)); have HN2 := Lib.hid (fun sh => mayN_any sh n xn nl nc w1 HN.out (HV.out.below hbw)))
      | (go_at_call 202; refine (HB.out _).mono ?_; rintro e w1 ⟨rfl, rfl⟩)
      | (go_at_call 203; refine (HM.out _).mono ?_; rintro e w1 ⟨rfl, rfl⟩)
      | (go_at_call 204; refine (HN2.out _).mono ?_; rintro e w1 ⟨rfl, rfl⟩; try rw [HNV.out]))
    go_ret
    exact ⟨by first | rfl | simp [*], hbw⟩
  cases vb
  · go_enter Tryz.func189, Tryz.ntmps189
    go_wp2_with (first
      | (go_at_call 201; refine (HA.out _).mono ?_; rintro e w1 ⟨rfl, hb⟩; have D := D0.out.below hb; obtain ⟨d0, d1, d2, d3, d4, d5, d6⟩ := D; have hbw := HB0.out.trans (hb.mono (by simp)); have HN2 := Lib.hid (fun sh => mayN_any sh n xn nl nc w1 HN.out (HV.out.below hbw)))
      | (go_at_call 202; refine (HB.out _).mono ?_; rintro e w1 ⟨rfl, rfl⟩)
      | (go_at_call 203; refine (HM.out _).mono ?_; rintro e w1 ⟨rfl, rfl⟩)
      | (go_at_call 204; refine (HN2.out _).mono ?_; rintro e w1 ⟨rfl, rfl⟩; try rw [HNV.out]))
    go_ret
    exact ⟨by first | rfl | simp [*], hbw⟩
  cases vm
  · go_enter Tryz.func189, Tryz.ntmps189
    go_wp2_with (first
      | (go_at_call 201; refine (HA.out _).mono ?_; rintro e w1 ⟨rfl, hb⟩; have D := D0.out.below hb; obtain ⟨d0, d1, d2, d3, d4, d5, d6⟩ := D; have hbw := HB0.out.trans (hb.mono (by simp)); have HN2 := Lib.hid (fun sh => mayN_any sh n xn nl nc w1 HN.out (HV.out.below hbw)))
      | (go_at_call 202; refine (HB.out _).mono ?_; rintro e w1 ⟨rfl, rfl⟩)
      | (go_at_call 203; refine (HM.out _).mono ?_; rintro e w1 ⟨rfl, rfl⟩)
      | (go_at_call 204; refine (HN2.out _).mono ?_; rintro e w1 ⟨rfl, rfl⟩; try rw [HNV.out]))
    go_ret
    exact ⟨by first | rfl | simp [*], hbw⟩
  cases vn
  · go_enter Tryz.func189, Tryz.ntmps189
    go_wp2_with (first
      | (go_at_call 201; refine (HA.out _).mono ?_; rintro e w1 ⟨rfl, hb⟩; have D := D0.out.below hb; obtain ⟨d0, d1, d2, d3, d4, d5, d6⟩ := D; have hbw := HB0.out.trans (hb.mono (by simp)); have HN2 := Lib.hid (fun sh => mayN_any sh n xn nl nc w1 HN.out (HV.out.below hbw)))
      | (go_at_call 202; refine (HB.out _).mono ?_; rintro e w1 ⟨rfl, rfl⟩)
      | (go_at_call 203; refine (HM.out _).mono ?_; rintro e w1 ⟨rfl, rfl⟩)
      | (go_at_call 204; refine (HN2.out _).mono ?_; rintro e w1 ⟨rfl, rfl⟩; try rw [HNV.out]))
    go_ret
    exact ⟨by first | rfl | simp [*], hbw⟩
  by_cases h2 : sh = 2
  · rw [decide_eq_true h2]
    by_cases h4 : op = 4
    · rw [decide_eq_true h4]
      subst h4 h2
      go_enter Tryz.func189, Tryz.ntmps189
      go_wp2_with (first
        | (go_at_call 201; refine (HA.out _).mono ?_; rintro e w1 ⟨rfl, hb⟩; have D := D0.out.below hb; obtain ⟨d0, d1, d2, d3, d4, d5, d6⟩ := D; have hbw := HB0.out.trans (hb.mono (by simp)); have HN2 := Lib.hid (fun sh => mayN_any sh n xn nl nc w1 HN.out (HV.out.below hbw)))
        | (go_at_call 202; refine (HB.out _).mono ?_; rintro e w1 ⟨rfl, rfl⟩)
        | (go_at_call 203; refine (HM.out _).mono ?_; rintro e w1 ⟨rfl, rfl⟩)
        | (go_at_call 204; refine (HN2.out _).mono ?_; rintro e w1 ⟨rfl, rfl⟩; try rw [HNV.out]))
      go_ret
      exact ⟨by first | rfl | simp [*], hbw⟩
    · rw [decide_eq_false h4]
      have h4' := eq_no h4
      by_cases h5 : el = 0
      · subst h5 h2
        clear h4
        go_enter Tryz.func189, Tryz.ntmps189
        go_wp2_with (first
          | (go_at_call 201; refine (HA.out _).mono ?_; rintro e w1 ⟨rfl, hb⟩; have D := D0.out.below hb; obtain ⟨d0, d1, d2, d3, d4, d5, d6⟩ := D; have hbw := HB0.out.trans (hb.mono (by simp)); have HN2 := Lib.hid (fun sh => mayN_any sh n xn nl nc w1 HN.out (HV.out.below hbw)))
          | (go_at_call 202; refine (HB.out _).mono ?_; rintro e w1 ⟨rfl, rfl⟩)
          | (go_at_call 203; refine (HM.out _).mono ?_; rintro e w1 ⟨rfl, rfl⟩)
          | (go_at_call 204; refine (HN2.out _).mono ?_; rintro e w1 ⟨rfl, rfl⟩; try rw [HNV.out]))
        go_ret
        exact ⟨by first | rfl | simp [*], hbw⟩
      · rw [decide_eq_false h5]
        have h5' : ((el : Int) == 0) = false := eq_no (by omega)
        subst h2
        clear h4 h5
        go_enter Tryz.func189, Tryz.ntmps189
        go_wp2_with (first
          | (go_at_call 201; refine (HA.out _).mono ?_; rintro e w1 ⟨rfl, hb⟩; have D := D0.out.below hb; obtain ⟨d0, d1, d2, d3, d4, d5, d6⟩ := D; have hbw := HB0.out.trans (hb.mono (by simp)); have HN2 := Lib.hid (fun sh => mayN_any sh n xn nl nc w1 HN.out (HV.out.below hbw)))
          | (go_at_call 202; refine (HB.out _).mono ?_; rintro e w1 ⟨rfl, rfl⟩)
          | (go_at_call 203; refine (HM.out _).mono ?_; rintro e w1 ⟨rfl, rfl⟩)
          | (go_at_call 204; refine (HN2.out _).mono ?_; rintro e w1 ⟨rfl, rfl⟩; try rw [HNV.out]))
        go_ret
        exact ⟨by first | rfl | simp [*], hbw⟩
  · rw [decide_eq_false h2]
    have h2' := eq_no h2
    clear h2
    by_cases h3 : ll = 0
    · rw [decide_eq_true h3]
      subst h3
      by_cases h4 : op = 4
      · rw [decide_eq_true h4]
        subst h4
        go_enter Tryz.func189, Tryz.ntmps189
        go_wp2_with (first
          | (go_at_call 201; refine (HA.out _).mono ?_; rintro e w1 ⟨rfl, hb⟩; have D := D0.out.below hb; obtain ⟨d0, d1, d2, d3, d4, d5, d6⟩ := D; have hbw := HB0.out.trans (hb.mono (by simp)); have HN2 := Lib.hid (fun sh => mayN_any sh n xn nl nc w1 HN.out (HV.out.below hbw)))
          | (go_at_call 202; refine (HB.out _).mono ?_; rintro e w1 ⟨rfl, rfl⟩)
          | (go_at_call 203; refine (HM.out _).mono ?_; rintro e w1 ⟨rfl, rfl⟩)
          | (go_at_call 204; refine (HN2.out _).mono ?_; rintro e w1 ⟨rfl, rfl⟩; try rw [HNV.out]))
        go_ret
        exact ⟨by first | rfl | simp [*], hbw⟩
      · rw [decide_eq_false h4]
        have h4' := eq_no h4
        clear h4
        by_cases h5 : el = 0
        · subst h5
          go_enter Tryz.func189, Tryz.ntmps189
          go_wp2_with (first
            | (go_at_call 201; refine (HA.out _).mono ?_; rintro e w1 ⟨rfl, hb⟩; have D := D0.out.below hb; obtain ⟨d0, d1, d2, d3, d4, d5, d6⟩ := D; have hbw := HB0.out.trans (hb.mono (by simp)); have HN2 := Lib.hid (fun sh => mayN_any sh n xn nl nc w1 HN.out (HV.out.below hbw)))
            | (go_at_call 202; refine (HB.out _).mono ?_; rintro e w1 ⟨rfl, rfl⟩)
            | (go_at_call 203; refine (HM.out _).mono ?_; rintro e w1 ⟨rfl, rfl⟩)
            | (go_at_call 204; refine (HN2.out _).mono ?_; rintro e w1 ⟨rfl, rfl⟩; try rw [HNV.out]))
          go_ret
          exact ⟨by first | rfl | simp [*], hbw⟩
        · rw [decide_eq_false h5]
          have h5' : ((el : Int) == 0) = false := eq_no (by omega)
          clear h5
          go_enter Tryz.func189, Tryz.ntmps189
          go_wp2_with (first
            | (go_at_call 201; refine (HA.out _).mono ?_; rintro e w1 ⟨rfl, hb⟩; have D := D0.out.below hb; obtain ⟨d0, d1, d2, d3, d4, d5, d6⟩ := D; have hbw := HB0.out.trans (hb.mono (by simp)); have HN2 := Lib.hid (fun sh => mayN_any sh n xn nl nc w1 HN.out (HV.out.below hbw)))
            | (go_at_call 202; refine (HB.out _).mono ?_; rintro e w1 ⟨rfl, rfl⟩)
            | (go_at_call 203; refine (HM.out _).mono ?_; rintro e w1 ⟨rfl, rfl⟩)
            | (go_at_call 204; refine (HN2.out _).mono ?_; rintro e w1 ⟨rfl, rfl⟩; try rw [HNV.out]))
          go_ret
          exact ⟨by first | rfl | simp [*], hbw⟩
    · rw [decide_eq_false h3]
      have h3' : ((ll : Int) == 0) = false := eq_no (by omega)
      clear h3
      go_enter Tryz.func189, Tryz.ntmps189
      go_wp2_with (first
        | (go_at_call 201; refine (HA.out _).mono ?_; rintro e w1 ⟨rfl, hb⟩; have D := D0.out.below hb; obtain ⟨d0, d1, d2, d3, d4, d5, d6⟩ := D; have hbw := HB0.out.trans (hb.mono (by simp)); have HN2 := Lib.hid (fun sh => mayN_any sh n xn nl nc w1 HN.out (HV.out.below hbw)))
        | (go_at_call 202; refine (HB.out _).mono ?_; rintro e w1 ⟨rfl, rfl⟩)
        | (go_at_call 203; refine (HM.out _).mono ?_; rintro e w1 ⟨rfl, rfl⟩)
        | (go_at_call 204; refine (HN2.out _).mono ?_; rintro e w1 ⟨rfl, rfl⟩; try rw [HNV.out]))
      go_ret
      exact ⟨by first | rfl | simp [*], hbw⟩
end Go.Proofs.YtekonefnniaheaaGreat
namespace Go.Proofs.YtekonefnniaheaaGreat
open Go.RowKit

/-- May its own numbers be? -/
def mayI (i : Ins) : Bool := mayV (shapeV i.op).1 (shapeV i.op).2 i.op i.a i.b i.m i.n i.l.length i.e.length
theorem LiesI.may {w : World} {b off : Nat} {i : Ins} (h : LiesI w b off i) : ∃ xn nc xl lc xe ec, w.cell? ⟨b, off, none⟩ = some (.int .i64 i.op) ∧ w.cell? ⟨b, off + 1, none⟩ = some (.int .i64 i.a) ∧ w.cell? ⟨b, off + 2, none⟩ = some (.int .i64 i.b) ∧ w.cell? ⟨b, off + 3, none⟩ = some (.int .i64 i.m) ∧
    w.cell? ⟨b, off + 4, none⟩ = some (.slice xn i.n.length nc) ∧ w.cell? ⟨b, off + 5, none⟩ = some (.slice xl i.l.length lc) ∧ w.cell? ⟨b, off + 6, none⟩ = some (.slice xe i.e.length ec) ∧
    View w xn i.n.length i.n ∧ i.n.length ≤ nc ∧ nc ≤ 9223372036854775807 ∧ InsIn w xl i.l.length lc i.l ∧ InsIn w xe i.e.length ec i.e := by
  cases i with
  | mk op a b' m n l e =>
    unfold LiesI at h
    obtain ⟨h0, h1, h2, h3, ⟨x4, c4, h4, v4, k4, t4⟩, ⟨x5, c5, h5, v5, k5, t5⟩, ⟨x6, c6, h6, v6, k6, t6⟩⟩ := h
    exact ⟨x4, c4, x5, c5, x6, c6, h0, h1, h2, h3, h4, h5, h6, v4, k4, t4, ⟨rfl, k5, t5, v5⟩, ⟨rfl, k6, t6, v6⟩⟩
theorem InsIn.below {w w' : World} {x : Option Addr} {len cap : Nat} {l : List Ins} (h : InsIn w x len cap l) (hb : Below w.heap.size w w') : InsIn w' x len cap l := ⟨h.eq, h.le, h.top, LiesL.below hb h.lies⟩
end Go.Proofs.YtekonefnniaheaaGreat
namespace Go.Proofs.YtekonefnniaheaaGreat
open Go.RowKit

mutual
/-- May an instruction be, within so many blocks? -/
def okI : Nat → Ins → Bool
  | d, .mk op a b m n l e => mayI (.mk op a b m n l e) && (if 2 ≤ op ∧ op ≤ 4 then decide (d ≠ 32) && (okL (d + 1) l && okL (d + 1) e) else true)
def okL : Nat → List Ins → Bool
  | _, [] => true
  | d, i :: r => okI d i && okL d r
end
mutual
/-- How many instructions there are, those within others, too. -/
def sizI : Ins → Nat
  | .mk _ _ _ _ _ l e => 1 + sizL l + sizL e
def sizL : List Ins → Nat
  | [] => 0
  | i :: r => sizI i + sizL r
end
/-- What counting comes to, with n ahead. -/
def cP (d n : Nat) (l : List Ins) : Int × Bool := if okL d l = true ∧ n + sizL l ≤ 8192 then (((n + sizL l : Nat) : Int), true) else (0, false)
theorem okI_eq (d : Nat) (c : Ins) : okI d c = (mayI c && (if 2 ≤ c.op ∧ c.op ≤ 4 then decide (d ≠ 32) && (okL (d + 1) c.l && okL (d + 1) c.e) else true)) := by
  cases c with
  | mk op a b m n l e =>
    rw [okI]
    rfl
theorem sizI_eq (c : Ins) : sizI c = 1 + sizL c.l + sizL c.e := by
  cases c with
  | mk op a b m n l e =>
    rw [sizI]
    rfl
theorem mayI_parts {c : Ins} (h : mayI c = true) : (shapeV c.op).2 = 0 ∧ ((shapeV c.op).1 = 2 ∨ c.l = []) ∧ (c.op = 4 ∨ c.e = []) := by
  unfold mayI mayV at h
  simp only [Bool.and_eq_true, Bool.or_eq_true, decide_eq_true_eq, List.length_eq_zero_iff] at h
  exact ⟨h.1.1.1.1.1.1.1, h.1.1.1.1.1.1.2, h.1.1.1.1.1.2⟩
theorem shapeV_block {op : Int} (h : 2 ≤ op ∧ op ≤ 4) : shapeV op = (2, 0) := by
  have hc : op = 2 ∨ op = 3 ∨ op = 4 := by omega
  rcases hc with rfl | rfl | rfl <;> decide
theorem shapeV_two {op : Int} (h : (shapeV op).1 = 2) : 2 ≤ op ∧ op ≤ 4 := by
  by_cases hm : op ∈ nameOps
  · have key : ∀ op ∈ nameOps, (shapeV op).1 = 2 → 2 ≤ op ∧ op ≤ 4 := by decide
    exact key op hm h
  · rw [shapeV_other hm] at h
    split at h
    · cases h
    split at h
    · cases h
    split at h
    · cases h
    split at h
    · cases h
    · cases h
theorem cP_nil (d n : Nat) (h : n ≤ 8192) : cP d n [] = ((n : Int), true) := by
  unfold cP
  rw [okL, sizL, if_pos ⟨rfl, by omega⟩, Nat.add_zero]
theorem cP_big (d n : Nat) (c : Ins) (r : List Ins) (h : 8192 < n + 1) : cP d n (c :: r) = (0, false) := by
  unfold cP
  rw [sizL, sizI_eq, if_neg (by omega)]
theorem cP_bad (d n : Nat) (c : Ins) (r : List Ins) (h : mayI c = false) : cP d n (c :: r) = (0, false) := by
  unfold cP
  rw [okL, okI_eq, h, Bool.false_and, Bool.false_and, if_neg (by simp)]
theorem cP_plain (d n : Nat) (c : Ins) (r : List Ins) (h : mayI c = true) (hs : ¬ (shapeV c.op).1 = 2) : cP d n (c :: r) = cP d (n + 1) r := by
  obtain ⟨h1, h2, h3⟩ := mayI_parts h
  have hb : ¬ (2 ≤ c.op ∧ c.op ≤ 4) := fun q => hs (by rw [shapeV_block q])
  have hl := h2.resolve_left hs
  have he := h3.resolve_left (fun q => hb (by omega))
  unfold cP
  rw [okL, okI_eq, h, if_neg hb, sizL, sizI_eq, hl, he, sizL, Bool.true_and, Bool.true_and, show n + (1 + 0 + 0 + sizL r) = n + 1 + sizL r by omega]
theorem cP_deep (n : Nat) (c : Ins) (r : List Ins) (hs : (shapeV c.op).1 = 2) : cP 32 n (c :: r) = (0, false) := by
  unfold cP
  rw [okL, okI_eq, if_pos (shapeV_two hs), if_neg (by simp)]
theorem cP_l (d n : Nat) (c : Ins) (r : List Ins) (hs : (shapeV c.op).1 = 2) (h1 : (cP (d + 1) (n + 1) c.l).2 = false) : cP d n (c :: r) = (0, false) := by
  unfold cP at h1 ⊢
  split at h1
  · cases h1
  rename_i h2
  rw [okL, okI_eq, if_pos (shapeV_two hs), sizL, sizI_eq, if_neg]
  intro q
  simp only [Bool.and_eq_true] at q
  exact h2 ⟨q.1.1.2.2.1, by omega⟩
theorem cP_e (d n k : Nat) (c : Ins) (r : List Ins) (hs : (shapeV c.op).1 = 2) (h0 : cP (d + 1) (n + 1) c.l = ((k : Int), true)) (h1 : (cP (d + 1) k c.e).2 = false) : cP d n (c :: r) = (0, false) := by
  unfold cP at h0 h1 ⊢
  split at h0
  · rename_i hq
    simp only [Prod.mk.injEq, Int.natCast_inj, and_true] at h0
    subst h0
    split at h1
    · cases h1
    rename_i h2
    rw [okL, okI_eq, if_pos (shapeV_two hs), sizL, sizI_eq, if_neg]
    intro q
    simp only [Bool.and_eq_true] at q
    exact h2 ⟨q.1.1.2.2.2, by omega⟩
  · simp at h0
theorem cP_block (d n k j : Nat) (c : Ins) (r : List Ins) (h : mayI c = true) (hd : d ≠ 32) (hs : (shapeV c.op).1 = 2) (h0 : cP (d + 1) (n + 1) c.l = ((k : Int), true)) (h1 : cP (d + 1) k c.e = ((j : Int), true)) : cP d n (c :: r) = cP d j r := by
  unfold cP at h0 h1 ⊢
  split at h0
  · rename_i hq
    simp only [Prod.mk.injEq, Int.natCast_inj, and_true] at h0
    subst h0
    split at h1
    · rename_i hr
      simp only [Prod.mk.injEq, Int.natCast_inj, and_true] at h1
      subst h1
      rw [okL, okI_eq, if_pos (shapeV_two hs), sizL, sizI_eq, h, hq.1, hr.1, decide_eq_true hd, Bool.true_and, Bool.true_and, Bool.true_and, Bool.true_and, show n + (1 + sizL c.l + sizL c.e + sizL r) = n + 1 + sizL c.l + sizL c.e + sizL r by omega]
    · simp at h1
  · simp at h0
theorem cP_cases (d n : Nat) (l : List Ins) : (∃ k : Nat, k ≤ 8192 ∧ cP d n l = ((k : Int), true)) ∨ cP d n l = (0, false) := by
  unfold cP
  split
  · rename_i h
    exact .inl ⟨_, h.2, rfl⟩
  · exact .inr rfl
/-- The two questions are one. -/
theorem may_same (c : Ins) (h : (shapeV c.op).2 = 0) : mayPV (shapeV c.op).1 c.op c.a c.b c.m c.n c.l.length c.e.length = mayI c := by
  unfold mayI
  have h4 : c.op = 4 → shapeV c.op = (2, 0) := fun q => shapeV_block (by omega)
  rcases shapeV_in c.op h with s | s | s | s | s | s | s | s | s | s | s
  all_goals
    rw [s]
    unfold mayPV mayV mayAV mayBV mayMV mayNV blkB
    rw [Bool.eq_iff_iff]
    simp [idxB]
    try (constructor <;> intro h <;> simp_all <;> omega)
set_option maxRecDepth 100000 in
set_option maxHeartbeats 4000000 in
theorem count_all (N : Nat) : ∀ (d n : Nat) (ls : List Ins) (x : Option Addr) (len cap : Nat) (w : World), SizeOf.sizeOf ls < N → d ≤ 32 → n ≤ 8192 → InsIn w x len cap ls →
    Calls Tryz.prog 178 #[.slice x len cap, .int .i64 n, .int .i64 d] w fun e w' => e = .returned (.tuple #[.int .i64 (cP d n ls).1, .bool (cP d n ls).2]) ∧ Below w.heap.size w w' := by
  induction N with
  | zero => exact fun _ _ _ _ _ _ _ h => absurd h (by omega)
  | succ N ih =>
    intro d n ls x len cap w hN hd hn hin
    obtain ⟨hlen, hle, htop, hlies⟩ := hin
    have HLEN := Lib.hid hlen
    have HLIES := Lib.hid hlies
    have HIH := Lib.hid ih
    have HNN := Lib.hid hN
    clear ih hlies hN hlen
    go_enter Tryz.func178, Tryz.ntmps178
    go_wp2_with fail
    go_loopw [1, 15] (fun nv iv wr => ∃ (i k : Nat), iv = .int .i64 i ∧ i ≤ len ∧ nv = .int .i64 k ∧ k ≤ 8192 ∧ cP d n ls = cP d k (ls.drop i) ∧ Below w.heap.size w wr) (fun _ iv _ => len - (intOf iv).toNat)
    case atStart => exact ⟨0, n, rfl, by omega, rfl, hn, by rw [List.drop_zero], Below.refl _ _⟩
    case round =>
      obtain ⟨i, k, rfl, hi, rfl, hk, heq, hb⟩ := hrel
      have HEQ := Lib.hid heq
      clear heq
      by_cases hlt : i < len
      · have hil : i < ls.length := by rw [← HLEN.out]; exact hlt
        obtain ⟨b, off, rfl⟩ := LiesL.addr HLIES.out (by omega)
        have hli := (LiesL.at HLIES.out i hil).below hb
        have hsz : SizeOf.sizeOf (ls.getD i default) < SizeOf.sizeOf ls := by
          rw [List.getD_eq_getElem?_getD, List.getElem?_eq_getElem hil]
          exact List.sizeOf_lt_of_mem (List.getElem_mem hil)
        have hdr : ls.drop i = ls.getD i default :: ls.drop (i + 1) := by
          rw [List.drop_eq_getElem_cons hil, List.getD_eq_getElem?_getD, List.getElem?_eq_getElem hil]
          rfl
        have HDR := Lib.hid (HEQ.out.trans (congrArg (cP d k) hdr))
        clear hdr
        revert HDR hli hsz
        generalize ls.getD i default = c
        intro hli hsz HDR
        obtain ⟨xn, nc, xl, lc, xe, ec, c0, c1, c2, c3, c4, c5, c6, hvn, hnc, hncm, hl, he⟩ := hli.may
        have HS := Lib.hid (shape_any c.op)
        have D0 : Hid (InsAt (wr.alloc (.cells #[.int .i64 c.op, .int .i64 c.a, .int .i64 c.b, .int .i64 c.m, .slice xn c.n.length nc, .slice xl c.l.length lc, .slice xe c.e.length ec] 50)) wr.heap.size c.op c.a c.b c.m xn xl xe c.n.length c.l.length c.e.length nc lc ec) := Lib.hid ⟨World.cell?_alloc_mark wr _ _ _ 0, World.cell?_alloc_mark wr _ _ _ 1, World.cell?_alloc_mark wr _ _ _ 2, World.cell?_alloc_mark wr _ _ _ 3, World.cell?_alloc_mark wr _ _ _ 4, World.cell?_alloc_mark wr _ _ _ 5, World.cell?_alloc_mark wr _ _ _ 6⟩
        have HB0 : Hid (Below wr.heap.size wr (wr.alloc (.cells #[.int .i64 c.op, .int .i64 c.a, .int .i64 c.b, .int .i64 c.m, .slice xn c.n.length nc, .slice xl c.l.length lc, .slice xe c.e.length ec] 50))) := Lib.hid ((Below.refl _ _).alloc (Nat.le_refl _) _)
        have hz0 : wr.heap.size ≤ (wr.alloc (.cells #[.int .i64 c.op, .int .i64 c.a, .int .i64 c.b, .int .i64 c.m, .slice xn c.n.length nc, .slice xl c.l.length lc, .slice xe c.e.length ec] 50)).heap.size := HB0.out.size
        obtain ⟨d0, d1, d2, d3, d4, d5, d6⟩ := D0.out
        by_cases hbig : 8192 < k + 1
        · have HE := Lib.hid (HDR.out.trans (cP_big d k c _ hbig))
          have hbig2 : (8192 : Int) < (k : Int) + 1 := by omega
          clear hbig
          go_wp2_with (go_at_call 179; refine (HS.out _).mono ?_; rintro e w1 ⟨rfl, rfl⟩)
          go_ret2
          rw [HE.out]
          exact ⟨rfl, hb.trans (HB0.out.mono hb.size)⟩
        by_cases her : (shapeV c.op).2 = 0
        case neg =>
          have hmf : mayI c = false := by
            cases hm : mayI c with
            | false => rfl
            | true => exact absurd (mayI_parts hm).1 her
          have HE := Lib.hid (HDR.out.trans (cP_bad d k c _ hmf))
          have hbig2 : ¬ (8192 : Int) < (k : Int) + 1 := by omega
          have her2 : ((shapeV c.op).2 != 0) = true := by simpa using her
          clear hbig her hmf
          go_wp2_with (go_at_call 179; refine (HS.out _).mono ?_; rintro e w1 ⟨rfl, rfl⟩)
          go_ret2
          rw [HE.out]
          exact ⟨rfl, hb.trans (HB0.out.mono hb.size)⟩
        have hms := may_same c her
        have hbl : (shapeV c.op).1 = 2 → 2 ≤ c.op ∧ c.op ≤ 4 := shapeV_two
        have HM := Lib.hid (may_any (shapeV c.op).1 c.op c.a c.b c.m c.n xn xl xe c.n.length c.l.length c.e.length nc lc ec (wr.alloc (.cells #[.int .i64 c.op, .int .i64 c.a, .int .i64 c.b, .int .i64 c.m, .slice xn c.n.length nc, .slice xl c.l.length lc, .slice xe c.e.length ec] 50)) rfl (hvn.below HB0.out))
        rw [hms] at HM
        obtain ⟨mb, hmb⟩ : ∃ mb, mayI c = mb := ⟨_, rfl⟩
        rw [hmb] at HM
        have HMB := Lib.hid hmb
        have hbig2 : ¬ (8192 : Int) < (k : Int) + 1 := by omega
        rw [her] at HS
        have HSL : Hid (SizeOf.sizeOf c.l < N ∧ SizeOf.sizeOf c.e < N) := Lib.hid (by
          have := HNN.out
          cases c with
          | mk op a b m n' l' e' =>
            simp only [Ins.mk.sizeOf_spec] at hsz
            simp only [Ins.l, Ins.e]
            omega)
        have HLI := Lib.hid hl
        have HEI := Lib.hid he
        have hk1 : k + 1 ≤ 8192 := by omega
        clear hbig her hms hmb hli hsz hvn hnc hncm hl he
        cases mb
        · have HE := Lib.hid (HDR.out.trans (cP_bad d k c _ HMB.out))
          clear hbl
          go_wp2_with (first | (go_at_call 179; refine (HS.out _).mono ?_; rintro e w1 ⟨rfl, rfl⟩) | (go_at_call 189; refine HM.out.mono ?_; rintro e w2 ⟨rfl, hb2⟩; have D := D0.out.below hb2; obtain ⟨d0, d1, d2, d3, d4, d5, d6⟩ := D; have hbw := HB0.out.trans (hb2.mono hz0); clear HM))
          go_ret2
          rw [HE.out]
          exact ⟨rfl, hb.trans (hbw.mono hb.size)⟩
        obtain ⟨sh, hsh⟩ : ∃ sh, (shapeV c.op).1 = sh := ⟨_, rfl⟩
        rw [hsh] at HS HM hbl
        have HSH := Lib.hid hsh
        clear hsh
        by_cases h2 : sh = 2
        · subst h2
          by_cases h32 : d = 32
          · subst h32
            have HE := Lib.hid (HDR.out.trans (cP_deep k c _ HSH.out))
            clear hbl
            go_wp2_with (first | (go_at_call 179; refine (HS.out _).mono ?_; rintro e w1 ⟨rfl, rfl⟩) | (go_at_call 189; refine HM.out.mono ?_; rintro e w2 ⟨rfl, hb2⟩; have D := D0.out.below hb2; obtain ⟨d0, d1, d2, d3, d4, d5, d6⟩ := D; have hbw := HB0.out.trans (hb2.mono hz0); clear HM))
            go_ret2
            rw [HE.out]
            exact ⟨rfl, hb.trans (hbw.mono hb.size)⟩
          have HL : Hid (∀ w', Below wr.heap.size wr w' → Calls Tryz.prog 178 #[.slice xl c.l.length lc, .int .i64 ((k : Int) + 1), .int .i64 ((d : Int) + 1)] w' fun e w2 => e = .returned (.tuple #[.int .i64 (cP (d + 1) (k + 1) c.l).1, .bool (cP (d + 1) (k + 1) c.l).2]) ∧ Below w'.heap.size w' w2) := Lib.hid fun w' hb' => by
            have := HIH.out (d + 1) (k + 1) c.l xl c.l.length lc w' HSL.out.1 (by omega) hk1 (HLI.out.below hb')
            rwa [Int.natCast_add, Int.natCast_add] at this
          have hd2 : ((d : Int) == 32) = false := eq_no (by omega)
          have D1 : Hid (∀ w2, Below (wr.alloc (.cells #[.int .i64 c.op, .int .i64 c.a, .int .i64 c.b, .int .i64 c.m, .slice xn c.n.length nc, .slice xl c.l.length lc, .slice xe c.e.length ec] 50)).heap.size (wr.alloc (.cells #[.int .i64 c.op, .int .i64 c.a, .int .i64 c.b, .int .i64 c.m, .slice xn c.n.length nc, .slice xl c.l.length lc, .slice xe c.e.length ec] 50)) w2 → InsAt w2 wr.heap.size c.op c.a c.b c.m xn xl xe c.n.length c.l.length c.e.length nc lc ec) := Lib.hid fun w2 h => D0.out.below h
          have wd : IntKind.i64.wrap ((d : Int) + 1) = (d : Int) + 1 := by rw [IntKind.wrap_i64]; omega
          rcases cP_cases (d + 1) (k + 1) c.l with ⟨k2, hk2, hc⟩ | hc
          · have HCL := Lib.hid hc
            rw [hc] at HL
            have HE : Hid (∀ w', Below wr.heap.size wr w' → Calls Tryz.prog 178 #[.slice xe c.e.length ec, .int .i64 (k2 : Int), .int .i64 ((d : Int) + 1)] w' fun e w2 => e = .returned (.tuple #[.int .i64 (cP (d + 1) k2 c.e).1, .bool (cP (d + 1) k2 c.e).2]) ∧ Below w'.heap.size w' w2) := Lib.hid fun w' hb' => by
              have := HIH.out (d + 1) k2 c.e xe c.e.length ec w' HSL.out.2 (by omega) hk2 (HEI.out.below hb')
              rwa [Int.natCast_add] at this
            clear hc
            rcases cP_cases (d + 1) k2 c.e with ⟨k3, hk3, hc⟩ | hc
            · rw [hc] at HE
              have HQ := Lib.hid (HDR.out.trans (cP_block d k k2 k3 c _ HMB.out h32 HSH.out HCL.out hc))
              clear hc h32 hbl hd
              go_wp2_with (first | (go_at_call 179; refine (HS.out _).mono ?_; rintro e w1 ⟨rfl, rfl⟩) | (go_at_call 189; refine HM.out.mono ?_; rintro e w2 ⟨rfl, hb2⟩; have D := D0.out.below hb2; obtain ⟨d0, d1, d2, d3, d4, d5, d6⟩ := D; have hbw := HB0.out.trans (hb2.mono hz0); clear HM) | (go_at_call 178; refine (HL.out _ hbw).mono ?_; rintro e w3 ⟨rfl, hb3⟩; obtain ⟨g0, g1, g2, g3, g4, g5, g6⟩ := (D0.out.below hb2).below hb3; have hbx := hbw.trans (hb3.mono hbw.size); clear HL) | (go_at_call 178; refine (HE.out _ hbx).mono ?_; rintro e w4 ⟨rfl, hb4⟩; have hby := hbx.trans (hb4.mono hbx.size); clear HE))
              exact ⟨⟨i + 1, k3, by go_num, by omega, rfl, hk3, HQ.out, hb.trans (hby.mono hb.size)⟩, by simp [intOf]; omega⟩
            · rw [hc] at HE
              have HQ := Lib.hid (HDR.out.trans (cP_e d k k2 c _ HSH.out HCL.out (by rw [hc])))
              clear hc h32 hbl hd
              go_wp2_with (first | (go_at_call 179; refine (HS.out _).mono ?_; rintro e w1 ⟨rfl, rfl⟩) | (go_at_call 189; refine HM.out.mono ?_; rintro e w2 ⟨rfl, hb2⟩; have D := D0.out.below hb2; obtain ⟨d0, d1, d2, d3, d4, d5, d6⟩ := D; have hbw := HB0.out.trans (hb2.mono hz0); clear HM) | (go_at_call 178; refine (HL.out _ hbw).mono ?_; rintro e w3 ⟨rfl, hb3⟩; obtain ⟨g0, g1, g2, g3, g4, g5, g6⟩ := (D0.out.below hb2).below hb3; have hbx := hbw.trans (hb3.mono hbw.size); clear HL) | (go_at_call 178; refine (HE.out _ hbx).mono ?_; rintro e w4 ⟨rfl, hb4⟩; have hby := hbx.trans (hb4.mono hbx.size); clear HE))
              go_ret2
              rw [HQ.out]
              exact ⟨rfl, hb.trans (hby.mono hb.size)⟩
          · have HQ := Lib.hid (HDR.out.trans (cP_l d k c _ HSH.out (by rw [hc])))
            rw [hc] at HL
            clear hc h32 hbl hd
            go_wp2_with (first | (go_at_call 179; refine (HS.out _).mono ?_; rintro e w1 ⟨rfl, rfl⟩) | (go_at_call 189; refine HM.out.mono ?_; rintro e w2 ⟨rfl, hb2⟩; have D := D0.out.below hb2; obtain ⟨d0, d1, d2, d3, d4, d5, d6⟩ := D; have hbw := HB0.out.trans (hb2.mono hz0); clear HM) | (go_at_call 178; refine (HL.out _ hbw).mono ?_; rintro e w3 ⟨rfl, hb3⟩; have hbx := hbw.trans (hb3.mono hbw.size); clear HL))
            go_ret2
            rw [HQ.out]
            exact ⟨rfl, hb.trans (hbx.mono hb.size)⟩
        · have HQ := Lib.hid (HDR.out.trans (cP_plain d k c _ HMB.out (by rw [HSH.out]; exact h2)))
          have h2' : (sh != 2) = true := by simpa using h2
          clear hbl h2
          go_wp2_with (first | (go_at_call 179; refine (HS.out _).mono ?_; rintro e w1 ⟨rfl, rfl⟩) | (go_at_call 189; refine HM.out.mono ?_; rintro e w2 ⟨rfl, hb2⟩; have D := D0.out.below hb2; obtain ⟨d0, d1, d2, d3, d4, d5, d6⟩ := D; have hbw := HB0.out.trans (hb2.mono hz0); clear HM))
          exact ⟨⟨i + 1, k + 1, by go_num, by omega, by rw [Int.natCast_add]; rfl, hk1, HQ.out, hb.trans (hbw.mono hb.size)⟩, by simp [intOf]; omega⟩
      · have hie : i = len := by omega
        subst hie
        have HE : Hid (cP d n ls = ((k : Int), true)) := Lib.hid (by rw [HEQ.out, HLEN.out, List.drop_length]; exact cP_nil d k hk)
        go_wp2_with fail
        go_ret2
        rw [HE.out]
        exact ⟨rfl, hb⟩
theorem Count_any (ls : List Ins) (x : Option Addr) (len cap : Nat) (w : World) (h : InsIn w x len cap ls) :
    Calls Tryz.prog 156 #[.slice x len cap] w fun e w' => e = .returned (.tuple #[.int .i64 (cP 0 0 ls).1, .bool (cP 0 0 ls).2]) ∧ Below w.heap.size w w' := by
  have HC := Lib.hid (count_all _ 0 0 ls x len cap w (Nat.lt_succ_self _) (by decide) (by decide) h)
  clear h
  revert HC
  generalize (cP 0 0 ls).1 = a
  generalize (cP 0 0 ls).2 = b
  intro HC
  go_enter Tryz.func156, Tryz.ntmps156
  go_wp2_with (go_at_call 178; refine HC.out.mono ?_; rintro e w1 ⟨rfl, hb⟩)
  go_ret2
  exact ⟨rfl, hb⟩
end Go.Proofs.YtekonefnniaheaaGreat
