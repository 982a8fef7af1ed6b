/- Texts of the proof of ModulePutsUptoProof, part 1. -/
import Derived.WalkKit
import Derived.WalkSpells
import Derived.WalkLawsBesides
import Derived.Lib.Hide
import Derived.Below
import Derived.WalkSmall
import Derived.WalkMore
import Derived.ScopeJumps
import Derived.BigQuiet
import Derived.Deep.QuietTactic
import Derived.Laws.BytesArg
import Derived.Laws.IdiomStrings
import Derived.Laws.Bits128
import Derived.KernelRfl
import Derived.Test.YtekonefnniaheaaGreatProg
import Derived.IntWalk
import Derived.RowKit
import Derived.Laws.BitsAllLaws
import Derived.Deep.RegionLaw
namespace Go.Proofs.YtekonefnniaheaaGreat
open Go.RowKit

theorem not_true {b : Bool} (h : ¬ b = true) : b = false := by cases b <;> simp_all

theorem i64_of_wf {x : Int} (h : (Lit.int .i64 x).wf = true) : -9223372036854775808 ≤ x ∧ x ≤ 9223372036854775807 := by
  simp [Lit.wf, IntKind.min, IntKind.max, IntKind.signed, IntKind.bits] at h
  omega

theorem one_u8 (k : Int) : ∀ u ∈ [Value.int .u8 k], u.oneCell' = true := by
  intro u hu
  simp at hu
  subst hu
  rfl
theorem le_alloc {base : Nat} {w : World} {o : Obj} (h : base ≤ w.heap.size) : base ≤ (w.alloc o).heap.size := by
  simp
  omega
theorem one_i64 (k : Int) : ∀ u ∈ [Value.int .i64 k], u.oneCell' = true := by
  intro u hu
  simp at hu
  subst hu
  rfl
theorem strOfNums_cons (d : Int) (l : List Int) : strOfNums [d] ++ strOfNums l = strOfNums (d :: l) := by
  unfold strOfNums
  rw [ByteArray.mk_append_mk]
  rfl

theorem strOfNums_app (x y : List Int) : strOfNums x ++ strOfNums y = strOfNums (x ++ y) := by
  unfold strOfNums
  rw [ByteArray.mk_append_mk, List.map_append]

/-- A scope that is entered at a label: what holds at every jump holds there, too. -/
theorem wp_scope_label {P : Program} {a : Act} {w : World} {Q : Exit → Act → World → Prop} {c rest : Code} (l : Nat) (J : Act → World → Prop) (μ : Act → World → Nat) (hf : findLabel c l = some (.seq .skip rest))
    (pass : ∀ a w, J a w → rest.wp P (Exit.jump l (fun a' w' => J a' w' ∧ μ a' w' < μ a w) Q) a w)
    (first : Hid (∀ a w, J a w → rest.wp P (Exit.jump l J Q) a w) → c.wp P (Exit.jump l J Q) a w) : (Code.scope c).wp P Q a w :=
  wp_scope_jumps l J μ hf (first (Lib.hid fun a w h => wp_mono (pass a w h) (fun e a' w' hq => by
    cases e
    case goto => exact ⟨hq.1, hq.2.1⟩
    all_goals exact hq))) (fun a w h => wp_seq (wp_skip (pass a w h)))

/-- What is read of a slice of numbers that came in: nothing, or its cells. -/
def View (w : World) (a : Option Addr) (len : Nat) (zs : List Int) : Prop :=
  len = 0 ∨ ∃ b off, a = some ⟨b, off, none⟩ ∧ ∀ i, i < len → w.cell? ⟨b, off + i, none⟩ = some (.int .i64 (zs.getD i 0))
theorem View.below {w w' : World} {a : Option Addr} {len : Nat} {zs : List Int} (h : View w a len zs) (hb : Below w.heap.size w w') : View w' a len zs := by
  rcases h with h | ⟨b, off, ha, hc⟩
  · exact .inl h
  · refine .inr ⟨b, off, ha, fun i hi => ?_⟩
    have := hc i hi
    rw [hb.cell (World.block_lt_of_cell? w _ this)]
    exact this

/-- A slice of numbers that came in, as the frame tells it. -/
def RowIn (k : IntKind) (w : World) (a : Option Addr) (len cap : Nat) (zs : List Int) : Prop :=
  (a = none ∧ len = 0 ∧ cap = 0 ∧ zs = []) ∨
  ∃ x, a = some x ∧ len ≤ cap ∧ cap ≤ maxLen ∧ zs.length = cap ∧ (∀ i, i < zs.length → w.cell? (x.add i) = some (.int k (zs.getD i 0))) ∧ ∀ n ∈ zs, (Lit.int k n).wf = true
theorem RowIn.view {w : World} {a : Option Addr} {len cap : Nat} {zs : List Int} (h : RowIn .i64 w a len cap zs) :
    View w a len zs ∧ len ≤ zs.length ∧ len ≤ maxLen ∧ ∀ i, i < len → zs.getD i 0 ≤ 9223372036854775807 := by
  rcases h with ⟨rfl, rfl, rfl, rfl⟩ | ⟨x, rfl, h1, h2, h3, hc, hw⟩
  · exact ⟨.inl rfl, by simp, by simp, fun i hi => absurd hi (by omega)⟩
  · refine ⟨?_, by omega, by omega, fun i hi => ?_⟩
    · by_cases h0 : len = 0
      · exact .inl h0
      · obtain ⟨b, off, spot⟩ := x
        have hc0 := hc 0 (by omega)
        have hspot : spot = none := by simpa [Addr.add] using World.cell?_spot hc0
        subst hspot
        refine .inr ⟨b, off, rfl, fun i hi => ?_⟩
        have hci := hc i (by omega)
        have hadd : (⟨b, off, none⟩ : Addr).add i = ⟨b, off + i, none⟩ := by unfold Addr.add; split <;> simp_all
        rw [hadd] at hci
        exact hci
    · have hm : zs.getD i 0 ∈ zs := by
        rw [List.getD_eq_getElem?_getD, List.getElem?_eq_getElem (show i < zs.length by omega)]
        exact List.getElem_mem _
      exact (i64_of_wf (hw _ hm)).2

end Go.Proofs.YtekonefnniaheaaGreat
namespace Go.Proofs.YtekonefnniaheaaGreat
open Go.RowKit

/-- A slice that owns these numbers. -/
def Ints (base : Nat) (v : Value) (xs : List Int) (w : World) : Prop := w.ownsRow base 3 1 v xs.length (xs.map (Value.int .i64))
theorem Ints.snoc {base : Nat} {v : Value} {xs : List Int} {w : World} {d : Int} (h : w.ownsRow base 3 1 v (xs.length + 1) (xs.map (Value.int .i64) ++ [.int .i64 d])) : Ints base v (xs ++ [d]) w := by
  unfold Ints
  simpa using h
theorem Ints.below {base : Nat} {v : Value} {xs : List Int} {w w' : World} (h : Ints base v xs w) (hb : Below w.heap.size w w') : Ints base v xs w' := by
  refine ⟨h.1, ?_⟩
  rcases h.2 with hn | ⟨g, cap, cur, rfl, hg, hgg, rest⟩
  · exact .inl hn
  · exact .inr ⟨g, cap, cur, rfl, hg, (hb.block g (Array.getElem?_eq_some_iff.1 hgg).1).trans hgg, rest⟩
theorem info_int : (Tryz.prog.info? 3).map (fun i => (i.zero, i.size, i.bytes)) = some (some (.int .i64 0), 1, 8) := by kernel_rfl
theorem grown_below' {base : Nat} {w wr w1 : World} {v : Value} {ys : List Int} {o : Obj} (hby : Ints base v ys wr) (hbel : Below base w wr) (hbase : base ≤ w.heap.size) (hg : (wr.alloc o).grownBy w1 v.ownBlock) : Below base w w1 :=
  (hbel.alloc (Nat.le_trans hbase hbel.size) o).grown hg (by simp; have := hbel.size; omega) (fun k hk => (World.ownsRow.lt hby k hk).1)

theorem Ints.view {base : Nat} {v : Value} {xs : List Int} {w : World} (h : Ints base v xs w) : ∃ a cap, v = .slice a xs.length cap ∧ View w a xs.length xs := by
  rcases h.2 with ⟨hn, h0⟩ | ⟨g, cap, cur, hn, hb, hg, _⟩
  · exact ⟨none, 0, by rw [hn, h0], .inl h0⟩
  · subst hn
    refine ⟨_, cap, rfl, .inr ⟨g, 0, rfl, fun i hi => ?_⟩⟩
    have hc := World.ownsRow.cells h (g := g) rfl i (.int .i64 (xs.getD i 0)) (by simp [List.getElem?_eq_getElem hi])
    have hadd : (⟨g, 0, none⟩ : Addr).add i = ⟨g, 0 + i, none⟩ := by unfold Addr.add; split <;> simp_all
    rw [hadd] at hc
    exact hc

end Go.Proofs.YtekonefnniaheaaGreat
namespace Go.Proofs.YtekonefnniaheaaGreat
open Go.RowKit

namespace Mem
def wOps : List Int := [40, 41, 44, 45, 46, 47, 48, 49, 50, 51, 52, 53, 54, 55, 58, 59, 60, 61, 62]
def wBytes : List Int := [4, 8, 1, 1, 2, 2, 1, 1, 2, 2, 4, 4, 4, 8, 1, 2, 1, 2, 4]
def wTypes : List Int := [127, 126, 127, 127, 127, 127, 126, 126, 126, 126, 126, 126, 127, 126, 127, 127, 126, 126, 126]
/-- How many bytes, of which type, whether it stores. -/
def width (op : Int) : Int × Int × Bool :=
  if op ∈ wOps then (wBytes.getD (wOps.idxOf op) 0, wTypes.getD (wOps.idxOf op) 0, decide (54 ≤ op)) else (0, 0, false)
def widthTup (op : Int) : Value := .tuple #[.int .i64 (width op).1, .int .i64 (width op).2.1, .bool (width op).2.2]
theorem width_at {op : Int} {k : Nat} (hk : k < 19) (h : wOps.getD k 0 = op) : width op = (wBytes.getD k 0, wTypes.getD k 0, decide (54 ≤ op)) := by
  have hc : k = 0 ∨ k = 1 ∨ k = 2 ∨ k = 3 ∨ k = 4 ∨ k = 5 ∨ k = 6 ∨ k = 7 ∨ k = 8 ∨ k = 9 ∨ k = 10 ∨ k = 11 ∨ k = 12 ∨ k = 13 ∨ k = 14 ∨ k = 15 ∨ k = 16 ∨ k = 17 ∨ k = 18 := by omega
  subst h
  rcases hc with rfl | rfl | rfl | rfl | rfl | rfl | rfl | rfl | rfl | rfl | rfl | rfl | rfl | rfl | rfl | rfl | rfl | rfl | rfl <;> decide
theorem width_none {op : Int} (h : ∀ j, j < 19 → wOps.getD j 0 ≠ op) : width op = (0, 0, false) := by
  unfold width
  rw [if_neg]
  intro hm
  obtain ⟨i, hi, he⟩ := List.getElem_of_mem hm
  exact h i hi (by rw [List.getD_eq_getElem?_getD, List.getElem?_eq_getElem hi]; exact he)
end Mem
theorem view_laid (zs : List Int) (T : TypeId) (w : World) : View (w.alloc (.cells (zs.map (Value.int .i64)).toArray T)) (some ⟨w.heap.size, 0, none⟩) zs.length zs := by
  refine .inr ⟨w.heap.size, 0, rfl, fun i hi => ?_⟩
  rw [World.cell?_alloc_mark]
  simp [List.getElem?_eq_getElem hi]
theorem view_alloc {w : World} {a : Option Addr} {n : Nat} {zs : List Int} (h : View w a n zs) (o : Obj) : View (w.alloc o) a n zs :=
  h.below ((Below.refl _ _).alloc (Nat.le_refl _) o)

set_option maxRecDepth 100000 in
set_option maxHeartbeats 400000 in
theorem refWidth_any (op : Int) (w : World) :
    Calls Tryz.prog 182 #[.int .i64 op] w fun e w' => e = .returned (Mem.widthTup op) ∧ Below w.heap.size w w' := by
  obtain ⟨R, hR⟩ : ∃ R, R = Mem.widthTup op := ⟨_, rfl⟩
  rw [← hR]
  have HR := Lib.hid hR
  clear hR
  have e1 : (w.alloc (.cells #[Value.int .i64 40, Value.int .i64 41, Value.int .i64 44, Value.int .i64 45, Value.int .i64 46, Value.int .i64 47, Value.int .i64 48, Value.int .i64 49, Value.int .i64 50, Value.int .i64 51, Value.int .i64 52, Value.int .i64 53, Value.int .i64 54, Value.int .i64 55, Value.int .i64 58, Value.int .i64 59, Value.int .i64 60, Value.int .i64 61, Value.int .i64 62] 3)).heap.size = w.heap.size + 1 := by simp
  have e2 : ((w.alloc (.cells #[Value.int .i64 40, Value.int .i64 41, Value.int .i64 44, Value.int .i64 45, Value.int .i64 46, Value.int .i64 47, Value.int .i64 48, Value.int .i64 49, Value.int .i64 50, Value.int .i64 51, Value.int .i64 52, Value.int .i64 53, Value.int .i64 54, Value.int .i64 55, Value.int .i64 58, Value.int .i64 59, Value.int .i64 60, Value.int .i64 61, Value.int .i64 62] 3)).alloc (.cells #[Value.int .i64 4, Value.int .i64 8, Value.int .i64 1, Value.int .i64 1, Value.int .i64 2, Value.int .i64 2, Value.int .i64 1, Value.int .i64 1, Value.int .i64 2, Value.int .i64 2, Value.int .i64 4, Value.int .i64 4, Value.int .i64 4, Value.int .i64 8, Value.int .i64 1, Value.int .i64 2, Value.int .i64 1, Value.int .i64 2, Value.int .i64 4] 3)).heap.size = w.heap.size + 1 + 1 := by simp
  have V1 : Hid (View (((w.alloc (.cells #[Value.int .i64 40, Value.int .i64 41, Value.int .i64 44, Value.int .i64 45, Value.int .i64 46, Value.int .i64 47, Value.int .i64 48, Value.int .i64 49, Value.int .i64 50, Value.int .i64 51, Value.int .i64 52, Value.int .i64 53, Value.int .i64 54, Value.int .i64 55, Value.int .i64 58, Value.int .i64 59, Value.int .i64 60, Value.int .i64 61, Value.int .i64 62] 3)).alloc (.cells #[Value.int .i64 4, Value.int .i64 8, Value.int .i64 1, Value.int .i64 1, Value.int .i64 2, Value.int .i64 2, Value.int .i64 1, Value.int .i64 1, Value.int .i64 2, Value.int .i64 2, Value.int .i64 4, Value.int .i64 4, Value.int .i64 4, Value.int .i64 8, Value.int .i64 1, Value.int .i64 2, Value.int .i64 1, Value.int .i64 2, Value.int .i64 4] 3)).alloc (.cells #[Value.int .i64 127, Value.int .i64 126, Value.int .i64 127, Value.int .i64 127, Value.int .i64 127, Value.int .i64 127, Value.int .i64 126, Value.int .i64 126, Value.int .i64 126, Value.int .i64 126, Value.int .i64 126, Value.int .i64 126, Value.int .i64 127, Value.int .i64 126, Value.int .i64 127, Value.int .i64 127, Value.int .i64 126, Value.int .i64 126, Value.int .i64 126] 3)) (some ⟨w.heap.size, 0, none⟩) 19 Mem.wOps) := Lib.hid (view_alloc (view_alloc (view_laid Mem.wOps _ w) _) _)
  have V2 : Hid (View (((w.alloc (.cells #[Value.int .i64 40, Value.int .i64 41, Value.int .i64 44, Value.int .i64 45, Value.int .i64 46, Value.int .i64 47, Value.int .i64 48, Value.int .i64 49, Value.int .i64 50, Value.int .i64 51, Value.int .i64 52, Value.int .i64 53, Value.int .i64 54, Value.int .i64 55, Value.int .i64 58, Value.int .i64 59, Value.int .i64 60, Value.int .i64 61, Value.int .i64 62] 3)).alloc (.cells #[Value.int .i64 4, Value.int .i64 8, Value.int .i64 1, Value.int .i64 1, Value.int .i64 2, Value.int .i64 2, Value.int .i64 1, Value.int .i64 1, Value.int .i64 2, Value.int .i64 2, Value.int .i64 4, Value.int .i64 4, Value.int .i64 4, Value.int .i64 8, Value.int .i64 1, Value.int .i64 2, Value.int .i64 1, Value.int .i64 2, Value.int .i64 4] 3)).alloc (.cells #[Value.int .i64 127, Value.int .i64 126, Value.int .i64 127, Value.int .i64 127, Value.int .i64 127, Value.int .i64 127, Value.int .i64 126, Value.int .i64 126, Value.int .i64 126, Value.int .i64 126, Value.int .i64 126, Value.int .i64 126, Value.int .i64 127, Value.int .i64 126, Value.int .i64 127, Value.int .i64 127, Value.int .i64 126, Value.int .i64 126, Value.int .i64 126] 3)) (some ⟨w.heap.size + 1, 0, none⟩) 19 Mem.wBytes) := Lib.hid (view_alloc (e1 ▸ view_laid Mem.wBytes _ (w.alloc (.cells #[Value.int .i64 40, Value.int .i64 41, Value.int .i64 44, Value.int .i64 45, Value.int .i64 46, Value.int .i64 47, Value.int .i64 48, Value.int .i64 49, Value.int .i64 50, Value.int .i64 51, Value.int .i64 52, Value.int .i64 53, Value.int .i64 54, Value.int .i64 55, Value.int .i64 58, Value.int .i64 59, Value.int .i64 60, Value.int .i64 61, Value.int .i64 62] 3))) _)
  have V3 : Hid (View (((w.alloc (.cells #[Value.int .i64 40, Value.int .i64 41, Value.int .i64 44, Value.int .i64 45, Value.int .i64 46, Value.int .i64 47, Value.int .i64 48, Value.int .i64 49, Value.int .i64 50, Value.int .i64 51, Value.int .i64 52, Value.int .i64 53, Value.int .i64 54, Value.int .i64 55, Value.int .i64 58, Value.int .i64 59, Value.int .i64 60, Value.int .i64 61, Value.int .i64 62] 3)).alloc (.cells #[Value.int .i64 4, Value.int .i64 8, Value.int .i64 1, Value.int .i64 1, Value.int .i64 2, Value.int .i64 2, Value.int .i64 1, Value.int .i64 1, Value.int .i64 2, Value.int .i64 2, Value.int .i64 4, Value.int .i64 4, Value.int .i64 4, Value.int .i64 8, Value.int .i64 1, Value.int .i64 2, Value.int .i64 1, Value.int .i64 2, Value.int .i64 4] 3)).alloc (.cells #[Value.int .i64 127, Value.int .i64 126, Value.int .i64 127, Value.int .i64 127, Value.int .i64 127, Value.int .i64 127, Value.int .i64 126, Value.int .i64 126, Value.int .i64 126, Value.int .i64 126, Value.int .i64 126, Value.int .i64 126, Value.int .i64 127, Value.int .i64 126, Value.int .i64 127, Value.int .i64 127, Value.int .i64 126, Value.int .i64 126, Value.int .i64 126] 3)) (some ⟨w.heap.size + 1 + 1, 0, none⟩) 19 Mem.wTypes) := Lib.hid (e2 ▸ view_laid Mem.wTypes _ ((w.alloc (.cells #[Value.int .i64 40, Value.int .i64 41, Value.int .i64 44, Value.int .i64 45, Value.int .i64 46, Value.int .i64 47, Value.int .i64 48, Value.int .i64 49, Value.int .i64 50, Value.int .i64 51, Value.int .i64 52, Value.int .i64 53, Value.int .i64 54, Value.int .i64 55, Value.int .i64 58, Value.int .i64 59, Value.int .i64 60, Value.int .i64 61, Value.int .i64 62] 3)).alloc (.cells #[Value.int .i64 4, Value.int .i64 8, Value.int .i64 1, Value.int .i64 1, Value.int .i64 2, Value.int .i64 2, Value.int .i64 1, Value.int .i64 1, Value.int .i64 2, Value.int .i64 2, Value.int .i64 4, Value.int .i64 4, Value.int .i64 4, Value.int .i64 8, Value.int .i64 1, Value.int .i64 2, Value.int .i64 1, Value.int .i64 2, Value.int .i64 4] 3)))
  have HB : Hid (Below w.heap.size w (((w.alloc (.cells #[Value.int .i64 40, Value.int .i64 41, Value.int .i64 44, Value.int .i64 45, Value.int .i64 46, Value.int .i64 47, Value.int .i64 48, Value.int .i64 49, Value.int .i64 50, Value.int .i64 51, Value.int .i64 52, Value.int .i64 53, Value.int .i64 54, Value.int .i64 55, Value.int .i64 58, Value.int .i64 59, Value.int .i64 60, Value.int .i64 61, Value.int .i64 62] 3)).alloc (.cells #[Value.int .i64 4, Value.int .i64 8, Value.int .i64 1, Value.int .i64 1, Value.int .i64 2, Value.int .i64 2, Value.int .i64 1, Value.int .i64 1, Value.int .i64 2, Value.int .i64 2, Value.int .i64 4, Value.int .i64 4, Value.int .i64 4, Value.int .i64 8, Value.int .i64 1, Value.int .i64 2, Value.int .i64 1, Value.int .i64 2, Value.int .i64 4] 3)).alloc (.cells #[Value.int .i64 127, Value.int .i64 126, Value.int .i64 127, Value.int .i64 127, Value.int .i64 127, Value.int .i64 127, Value.int .i64 126, Value.int .i64 126, Value.int .i64 126, Value.int .i64 126, Value.int .i64 126, Value.int .i64 126, Value.int .i64 127, Value.int .i64 126, Value.int .i64 127, Value.int .i64 127, Value.int .i64 126, Value.int .i64 126, Value.int .i64 126] 3))) := Lib.hid ((((Below.refl _ _).alloc (Nat.le_refl _) _).alloc (le_alloc (Nat.le_refl _)) _).alloc (le_alloc (le_alloc (Nat.le_refl _))) _)
  clear e1 e2
  go_enter Tryz.func182, Tryz.ntmps182
  go_wp2_with fail
  revert V1 V2 V3 HB
  generalize (((w.alloc (.cells #[Value.int .i64 40, Value.int .i64 41, Value.int .i64 44, Value.int .i64 45, Value.int .i64 46, Value.int .i64 47, Value.int .i64 48, Value.int .i64 49, Value.int .i64 50, Value.int .i64 51, Value.int .i64 52, Value.int .i64 53, Value.int .i64 54, Value.int .i64 55, Value.int .i64 58, Value.int .i64 59, Value.int .i64 60, Value.int .i64 61, Value.int .i64 62] 3)).alloc (.cells #[Value.int .i64 4, Value.int .i64 8, Value.int .i64 1, Value.int .i64 1, Value.int .i64 2, Value.int .i64 2, Value.int .i64 1, Value.int .i64 1, Value.int .i64 2, Value.int .i64 2, Value.int .i64 4, Value.int .i64 4, Value.int .i64 4, Value.int .i64 8, Value.int .i64 1, Value.int .i64 2, Value.int .i64 1, Value.int .i64 2, Value.int .i64 4] 3)).alloc (.cells #[Value.int .i64 127, Value.int .i64 126, Value.int .i64 127, Value.int .i64 127, Value.int .i64 127, Value.int .i64 127, Value.int .i64 126, Value.int .i64 126, Value.int .i64 126, Value.int .i64 126, Value.int .i64 126, Value.int .i64 126, Value.int .i64 127, Value.int .i64 126, Value.int .i64 127, Value.int .i64 127, Value.int .i64 126, Value.int .i64 126, Value.int .i64 126] 3)) = W
  intro V1 V2 V3 HB
  go_loop [8] (fun i => ∃ k : Nat, i = .int .i64 k ∧ k ≤ 19 ∧ ∀ j, j < k → Mem.wOps.getD j 0 ≠ op) (fun i => 19 - (intOf i).toNat)
  case atStart => exact ⟨0, rfl, by decide, fun j hj => by omega⟩
  case round =>
    obtain ⟨k, rfl, hk, hno⟩ := hrel
    have HNO := Lib.hid hno
    clear hno
    by_cases hlt : k < 19
    · obtain ⟨b1, o1, q1, c1⟩ := V1.out.resolve_left (by decide)
      obtain ⟨b2, o2, q2, c2⟩ := V2.out.resolve_left (by decide)
      obtain ⟨b3, o3, q3, c3⟩ := V3.out.resolve_left (by decide)
      cases q1
      cases q2
      cases q3
      have h1 := c1 k hlt
      have h2 := c2 k hlt
      have h3 := c3 k hlt
      rw [Nat.zero_add] at h1 h2 h3
      have hw := Mem.width_at (op := op) hlt
      obtain ⟨z, hz⟩ : ∃ z, z = Mem.wOps.getD k 0 := ⟨_, rfl⟩
      rw [← hz] at h1 hw
      have HW := Lib.hid hw
      have HZ := Lib.hid hz
      clear c1 c2 c3 hw hz V1 V2 V3
      revert h2 h3 HW
      generalize Mem.wBytes.getD k 0 = x
      generalize Mem.wTypes.getD k 0 = y
      intro h2 h3 HW
      by_cases hzo : z = op
      · have hw := HW.out hzo
        subst hzo
        go_wp2_with fail
        go_quiet (fail)
        go_wp2
        go_ret3
        rw [HR.out]
        unfold Mem.widthTup
        rw [hw]
        exact ⟨rfl, below_drewN HB.out _⟩
      · have hzo' : (z == op) = false := by simpa using hzo
        go_wp2_with fail
        refine ⟨⟨k + 1, by go_num, by omega, fun j hj => ?_⟩, by simp [intOf]; omega⟩
        by_cases hjk : j = k
        · rw [hjk, ← HZ.out]
          exact hzo
        · exact HNO.out j (by omega)
    · have hke : k = 19 := by omega
      subst hke
      go_wp2_with fail
      go_ret3
      rw [HR.out]
      unfold Mem.widthTup
      rw [Mem.width_none HNO.out]
      exact ⟨rfl, HB.out⟩
end Go.Proofs.YtekonefnniaheaaGreat
namespace Go.Proofs.YtekonefnniaheaaGreat
namespace Leb
open Go.RowKit (wrap64)

/-- Byte i of a string, 0 behind its end. -/
def byt (s : ByteArray) (i : Nat) : Nat := (s.data.toList.getD i 0).toNat
theorem byt_lt (s : ByteArray) (i : Nat) : byt s i < 256 := UInt8.toNat_lt _
theorem byt_get (s : ByteArray) (i : Nat) (h : i < s.size) : s[i].toNat = byt s i := by
  have h' : i < s.data.size := h
  unfold byt
  rw [List.getD_eq_getElem?_getD, List.getElem?_eq_getElem (by simpa using h')]
  rfl

/-- From place i on, at most f bytes, and below the bound: how many bytes there are up to the first below 128; 0: none. -/
def lenF (s : ByteArray) (most : Nat) : Nat → Nat → Nat
  | 0, _ => 0
  | f + 1, i => if i < s.size ∧ i < most then (if byt s i < 128 then i + 1 else lenF s most f (i + 1)) else 0
def len7 (s : ByteArray) (most : Nat) : Nat := lenF s most most 0

theorem lenF_next (s : ByteArray) (most f i : Nat) (h : i < s.size) (h2 : i < most) (hb : 128 ≤ byt s i) : lenF s most (f + 1) i = lenF s most f (i + 1) := by
  rw [lenF, if_pos ⟨h, h2⟩, if_neg (by omega)]
theorem lenF_here (s : ByteArray) (most f i : Nat) (h : i < s.size) (h2 : i < most) (hb : byt s i < 128) : lenF s most (f + 1) i = i + 1 := by
  rw [lenF, if_pos ⟨h, h2⟩, if_pos hb]
theorem lenF_end (s : ByteArray) (most f i : Nat) (h : s.size ≤ i ∨ most ≤ i) : lenF s most f i = 0 := by
  cases f with
  | zero => rfl
  | succ f => rw [lenF, if_neg (by omega)]

theorem lenF_prop (s : ByteArray) (most : Nat) : ∀ f i, lenF s most f i = 0 ∨
    (i < lenF s most f i ∧ lenF s most f i ≤ most ∧ lenF s most f i ≤ s.size ∧ byt s (lenF s most f i - 1) < 128 ∧ ∀ j, i ≤ j → j < lenF s most f i - 1 → 128 ≤ byt s j) := by
  intro f
  induction f with
  | zero => intro i; exact .inl rfl
  | succ f ih =>
    intro i
    by_cases h : i < s.size ∧ i < most
    · by_cases hb : byt s i < 128
      · rw [lenF_here s most f i h.1 h.2 hb]
        refine .inr ⟨by omega, by omega, by omega, by simpa using hb, ?_⟩
        intro j h1 h2
        omega
      · rw [lenF_next s most f i h.1 h.2 (by omega)]
        rcases ih (i + 1) with h0 | ⟨h1, h2, h3, h4, h5⟩
        · exact .inl h0
        · refine .inr ⟨by omega, h2, h3, h4, ?_⟩
          intro j hj1 hj2
          by_cases e : j = i
          · subst e; omega
          · exact h5 j (by omega) hj2
    · rw [lenF_end s most _ i (by omega)]
      exact .inl rfl

theorem lenF_of (s : ByteArray) (most n : Nat) (h2 : n ≤ most) (h3 : n ≤ s.size) (h4 : byt s (n - 1) < 128) :
    ∀ f i, i < n → n ≤ i + f → (∀ j, i ≤ j → j < n - 1 → 128 ≤ byt s j) → lenF s most f i = n := by
  intro f
  induction f with
  | zero => intro i h1 h; omega
  | succ f ih =>
    intro i h1 h hb
    by_cases e : i + 1 = n
    · have e2 : n - 1 = i := by omega
      rw [lenF_here s most f i (by omega) (by omega) (by rw [← e2]; exact h4)]
      exact e
    · rw [lenF_next s most f i (by omega) (by omega) (hb i (Nat.le_refl _) (by omega))]
      exact ih (i + 1) (by omega) (by omega) (fun j k1 k2 => hb j (by omega) k2)

theorem len7_prop (s : ByteArray) (most : Nat) : len7 s most = 0 ∨
    (0 < len7 s most ∧ len7 s most ≤ most ∧ len7 s most ≤ s.size ∧ byt s (len7 s most - 1) < 128 ∧ ∀ j, j < len7 s most - 1 → 128 ≤ byt s j) := by
  rcases lenF_prop s most most 0 with h | ⟨h1, h2, h3, h4, h5⟩
  · exact .inl h
  · exact .inr ⟨h1, h2, h3, h4, fun j hj => h5 j (Nat.zero_le _) hj⟩
theorem len7_of (s : ByteArray) (most n : Nat) (h1 : 0 < n) (h2 : n ≤ most) (h3 : n ≤ s.size) (h4 : byt s (n - 1) < 128) (h5 : ∀ j, j < n - 1 → 128 ≤ byt s j) : len7 s most = n :=
  lenF_of s most n h2 h3 h4 most 0 h1 (by omega) (fun j _ hj => h5 j hj)
theorem len7_le (s : ByteArray) (most : Nat) : len7 s most ≤ most ∧ len7 s most ≤ s.size := by
  rcases len7_prop s most with h | ⟨_, h2, h3, _⟩
  · omega
  · exact ⟨h2, h3⟩

/-- The sum of the first k bytes' seven bits. -/
def sum7 (s : ByteArray) : Nat → Nat
  | 0 => 0
  | k + 1 => sum7 s k + byt s k % 128 * 128 ^ k
theorem sum7_succ (s : ByteArray) (k : Nat) : sum7 s (k + 1) = sum7 s k + byt s k % 128 * 128 ^ k := rfl
theorem sum7_lt (s : ByteArray) : ∀ k, sum7 s k < 128 ^ k := by
  intro k
  induction k with
  | zero => simp [sum7]
  | succ k ih =>
    have h : byt s k % 128 * 128 ^ k ≤ 127 * 128 ^ k := Nat.mul_le_mul_right _ (by omega)
    rw [sum7, Nat.pow_succ]
    omega

theorem wrap_mod (X : Nat) : ((wrap64 (X : Int)) % (18446744073709551616 : Int)).toNat = X % 18446744073709551616 := by
  unfold wrap64
  omega
theorem wrap_add (a X : Nat) : (((X % 18446744073709551616 + a : Nat) : Int) + 9223372036854775808) % 18446744073709551616 - 9223372036854775808 = wrap64 ((a + X : Nat) : Int) := by
  unfold wrap64
  omega
theorem p63 : (2 : Nat) ^ 63 = 9223372036854775808 := by simp
theorem p64 : (2 : Nat) ^ 64 = 18446744073709551616 := by simp
theorem toNat_ofInt64 (i : Int) : (BitVec.ofInt 64 i).toNat = (i % 18446744073709551616).toNat := by
  rw [BitVec.toNat_ofInt, p64]
  rfl
theorem low_bits (c k : Nat) (hk : k ≤ 63) : (c * 2 ^ k) % 18446744073709551616 = 2 ^ k * (c % 2 ^ (64 - k)) := by
  have h : k + (64 - k) = 64 := by omega
  have e : (18446744073709551616 : Nat) = 2 ^ k * 2 ^ (64 - k) := by
    rw [← Nat.pow_add, h, p64]
  rw [e, Nat.mul_comm c, Nat.mul_mod_mul_left]
theorem below63 (a k : Nat) (hk : k ≤ 63) (ha : a < 2 ^ k) : a < 9223372036854775808 := by
  have hp : (2 : Nat) ^ k ≤ 2 ^ 63 := Nat.pow_le_pow_right (by decide) hk
  rw [p63] at hp
  exact Nat.lt_of_lt_of_le ha hp

/-- x | y, x below 2^k, y a multiple of 2^k, whatever is lost of it above bit 63. -/
theorem or_shift (a c k : Nat) (hk : k ≤ 63) (ha : a < 2 ^ k) : bits .or .i64 (a : Int) (wrap64 ((c : Int) * 2 ^ k)) = wrap64 ((a + c * 2 ^ k : Nat) : Int) := by
  have hp := below63 a k hk ha
  have e1 : (BitVec.ofInt 64 (a : Int)).toNat = a := by
    rw [toNat_ofInt64]
    omega
  have e2 : (BitVec.ofInt 64 (wrap64 ((c : Int) * 2 ^ k))).toNat = (c * 2 ^ k) % 18446744073709551616 := by
    have e : ((c : Int) * 2 ^ k) = ((c * 2 ^ k : Nat) : Int) := by simp
    rw [toNat_ofInt64, e, wrap_mod]
  show IntKind.i64.wrap ((BitVec.ofInt 64 (a : Int) ||| BitVec.ofInt 64 (wrap64 ((c : Int) * 2 ^ k))).toNat : Nat) = _
  rw [BitVec.toNat_or, e1, e2, low_bits c k hk, Nat.or_comm, ← Nat.two_pow_add_eq_or_of_lt ha, ← low_bits c k hk, IntKind.wrap_i64]
  exact wrap_add a _

theorem pow7 (m : Nat) : (128 : Nat) ^ m = 2 ^ (7 * m) := by rw [Nat.pow_mul]

theorem or_sum (s : ByteArray) (m : Nat) (hm : m ≤ 9) : bits .or .i64 (wrap64 (sum7 s m)) (wrap64 (((byt s m % 128 : Nat) : Int) * 2 ^ (7 * m))) = wrap64 (sum7 s (m + 1)) := by
  have h := sum7_lt s m
  rw [pow7] at h
  have h63 := below63 _ _ (by omega) h
  have e : wrap64 (sum7 s m) = (sum7 s m : Int) := IntWalk.wrap64_in _ (by omega)
  rw [e, or_shift _ _ _ (by omega) h, sum7, pow7]

/-- With the bits behind the last byte's bit 6 as that. -/
def sg7 (s : ByteArray) (u : Nat) : Int := if 64 ≤ byt s (u - 1) % 128 then (sum7 s u : Int) - 128 ^ u else sum7 s u
end Leb
end Go.Proofs.YtekonefnniaheaaGreat
namespace Go.Proofs.YtekonefnniaheaaGreat
open Go.RowKit

theorem i64_mask (n m : Int) (k : Nat) (hk : k ≤ 62) (hm : (BitVec.ofInt 64 m).toNat = 2 ^ k - 1) : bits .and .i64 n m = n % 2 ^ k := by
  have key : (BitVec.ofInt 64 n &&& BitVec.ofInt 64 m).toNat = (n % ((2 ^ 64 : Nat) : Int)).toNat % 2 ^ k := by
    rw [BitVec.toNat_and, BitVec.toNat_ofInt, hm, Nat.and_two_pow_sub_one_eq_mod]
  show IntKind.i64.wrap ((BitVec.ofInt 64 n &&& BitVec.ofInt 64 m).toNat : Nat) = n % 2 ^ k
  rw [key, IntKind.wrap_i64]
  have h2 : (2 : Nat) ^ k ∣ 2 ^ 64 := Nat.pow_dvd_pow 2 (by omega)
  have hlt : (n % ((2 ^ 64 : Nat) : Int)).toNat % 2 ^ k < 2 ^ 62 := Nat.lt_of_lt_of_le (Nat.mod_lt _ (Nat.two_pow_pos k)) (Nat.pow_le_pow_right (by omega) hk)
  have e : (((n % ((2 ^ 64 : Nat) : Int)).toNat % 2 ^ k : Nat) : Int) = n % 2 ^ k := by
    rw [Int.natCast_emod, Int.toNat_of_nonneg (Int.emod_nonneg _ (by decide))]
    have := Int.emod_emod_of_dvd n (m := ((2 ^ k : Nat) : Int)) (k := ((2 ^ 64 : Nat) : Int)) (Int.natCast_dvd_natCast.2 h2)
    rw [this]
    simp
  omega
theorem i64_and31 (n : Int) : bits .and .i64 n 31 = n % 32 := i64_mask n 31 5 (by decide) (by decide)
theorem i64_and15 (n : Int) : bits .and .i64 n 15 = n % 16 := i64_mask n 15 4 (by decide) (by decide)
theorem i64_and7 (n : Int) : bits .and .i64 n 7 = n % 8 := i64_mask n 7 3 (by decide) (by decide)
theorem wraps_i64 (n : Int) (h₀ : 0 ≤ n) (h₁ : n < 2 ^ 62) : IntKind.i64.wrap n = n := by rw [IntKind.wrap_i64]; omega
/-- 'x ¦ y', the lower bits of x none, y these alone. -/
theorem i64_join (i : Nat) (x y : Int) (hi : i ≤ 62) (hx₀ : 0 ≤ x) (hx : x % 2 ^ i = 0) (hx₁ : x < 2 ^ 62) (h₀ : 0 ≤ y) (h₁ : y < 2 ^ i) : bits .or .i64 x y = x + y := by
  have hp : (2 : Int) ^ i ≤ 2 ^ 62 := by
    have := Nat.pow_le_pow_right (n := 2) (by omega) hi
    exact_mod_cast this
  exact bits_join .i64 62 (by decide) wraps_i64 i x y hx₀ hx hx₁ h₀ h₁ (by omega)
set_option maxRecDepth 100000 in
theorem u8_and192 (n : Nat) (h : n < 256) : bits .and .u8 (n : Int) 192 = ((n / 64 * 64 : Nat) : Int) := by
  have := u8_and_nat n 192 h (by decide)
  rw [show ((192 : Nat) : Int) = 192 from rfl] at this
  rw [this]
  have e : ∀ m : Fin 256, m.val &&& 192 = m.val / 64 * 64 := by decide
  exact congrArg Int.ofNat (e ⟨n, h⟩)

section
variable {P : Program}
theorem step_append_own {ops : Array Oper} {o : Oper} {a : Act} {w : World} {K : Act → World → Prop} {Q : Exit → Act → World → Prop} {E : Prop} (hg : o.guard = none) (s x : Operand) (t : TypeId)
    (ho : o.op = .call { callee := .builtin .append, args := #[s, x], argTypes := #[t, t] })
    (base : Nat) (e : TypeId) (i : TypeInfo) (z : Value) (size bytes : Nat) (ht : P.underlying t = some (.slice e)) (hi : P.info? e = some i) (hz : i.zero = some z)
    (hsize : i.size = size) (hby : i.bytes = bytes) (hzs : z.cells.size = size) (hsz : 0 < size)
    (v : Value) (n : Nat) (xs : List Value) (hs : a.eval s = v) (hown : w.ownsRow base e size v n xs)
    (ad : Addr) (m c : Nat) (news : List Value) (hx : a.eval x = .slice (some ad) m c) (hl : news.length = m * size) (hnews : ∀ j u, news[j]? = some u → w.cell? (ad.add j) = some u) (h1 : ∀ u ∈ news, u.oneCell' = true)
    (h63 : n + m ≤ maxLen) (hbytes : (n + m) * bytes ≤ 140737488355328) (hbase : base ≤ w.heap.size)
    (h : ∀ v' w', w'.ownsRow base e size v' (n + m) (xs ++ news) → w.grownBy w' v.ownBlock → K (a.put o.dst v') w') :
    if Region.wanted o (yielded ops a.tmps) = true then Oper.wp P o a w K Q else E := by
  have hw : Region.wanted o (yielded ops a.tmps) = true := by simp [Region.wanted, hg]
  rw [if_pos hw]
  exact wp_append_own w s x t ho base e i z size bytes ht hi hz hsize hby hzs hsz v n xs hs hown ad m c news hx hl hnews h1 h63 hbytes hbase fun v' w' h2 h3 _ => h v' w' h2 h3
end
end Go.Proofs.YtekonefnniaheaaGreat
namespace Go.Proofs.YtekonefnniaheaaGreat
open Go.RowKit
namespace Num

def Bits (l : List Int) : Prop := ∀ b ∈ l, b = 0 ∨ b = 1
theorem Bits.take {l : List Int} (h : Bits l) (k : Nat) : Bits (l.take k) := fun b hb => h b (List.mem_of_mem_take hb)
end Num
end Go.Proofs.YtekonefnniaheaaGreat
namespace Go.Proofs.YtekonefnniaheaaGreat
open Go.RowKit
namespace Num

def leadN (f : Nat → Int) : Nat → Nat → Nat
  | 0, k => k
  | g + 1, k => if f k = 1 then k else leadN f g (k + 1)
def lead (f : Nat → Int) (w : Nat) : Nat := leadN f w 0
/-- The bits of a number from the greatest, from the lowest on. -/
def hi (n : Int) (w j : Nat) : Int := n / 2 ^ (w - 1 - j) % 2
def lo (n : Int) (j : Nat) : Int := n / 2 ^ j % 2
def u32 (n : Int) : Int := n % 4294967296
/-- How many numbers an instruction takes, of which type, and which it leaves. -/
def sig (op : Int) : Int × Int × Int :=
  if op = 69 ∨ (103 ≤ op ∧ op ≤ 105) ∨ op = 192 ∨ op = 193 then (1, 127, 127)
  else if op = 80 ∨ op = 167 then (1, 126, 127)
  else if (121 ≤ op ∧ op ≤ 123) ∨ (194 ≤ op ∧ op ≤ 196) then (1, 126, 126)
  else if op = 172 ∨ op = 173 then (1, 127, 126)
  else if (70 ≤ op ∧ op ≤ 79) ∨ (106 ≤ op ∧ op ≤ 120) then (2, 127, 127)
  else if 81 ≤ op ∧ op ≤ 90 then (2, 126, 127)
  else if 124 ≤ op ∧ op ≤ 138 then (2, 126, 126)
  else (0, 0, 0)
def sigTup (op : Int) : Value := .tuple #[.int .i64 (sig op).1, .int .i64 (sig op).2.1, .int .i64 (sig op).2.2]
def tup3 (a b c : Int) : Value := .tuple #[.int .i64 a, .int .i64 b, .int .i64 c]
theorem sig_cases (op : Int) :
    (op = 69 ∧ sigTup op = tup3 1 127 127) ∨ (103 ≤ op ∧ op ≤ 105 ∧ sigTup op = tup3 1 127 127) ∨ (op = 192 ∧ sigTup op = tup3 1 127 127) ∨ (op = 193 ∧ sigTup op = tup3 1 127 127) ∨
    (op = 80 ∧ sigTup op = tup3 1 126 127) ∨ (op = 167 ∧ sigTup op = tup3 1 126 127) ∨
    (121 ≤ op ∧ op ≤ 123 ∧ sigTup op = tup3 1 126 126) ∨ (194 ≤ op ∧ op ≤ 196 ∧ sigTup op = tup3 1 126 126) ∨
    (op = 172 ∧ sigTup op = tup3 1 127 126) ∨ (op = 173 ∧ sigTup op = tup3 1 127 126) ∨
    (70 ≤ op ∧ op ≤ 79 ∧ sigTup op = tup3 2 127 127) ∨ (106 ≤ op ∧ op ≤ 120 ∧ sigTup op = tup3 2 127 127) ∨
    (81 ≤ op ∧ op ≤ 90 ∧ sigTup op = tup3 2 126 127) ∨ (124 ≤ op ∧ op ≤ 138 ∧ sigTup op = tup3 2 126 126) ∨
    ((op < 69 ∨ (91 ≤ op ∧ op ≤ 102) ∨ (139 ≤ op ∧ op ≤ 166) ∨ (168 ≤ op ∧ op ≤ 171) ∨ (174 ≤ op ∧ op ≤ 191) ∨ 197 ≤ op) ∧ sigTup op = tup3 0 0 0) := by
  have key : ∀ t : Int × Int × Int, sig op = t → sigTup op = tup3 t.1 t.2.1 t.2.2 := fun t h => by unfold sigTup tup3; rw [h]
  unfold sig at key
  by_cases h1 : op = 69 ∨ (103 ≤ op ∧ op ≤ 105) ∨ op = 192 ∨ op = 193
  · have := key _ (if_pos h1)
    rcases h1 with h | ⟨h, h'⟩ | h | h
    · exact .inl ⟨h, this⟩
    · exact .inr (.inl ⟨h, h', this⟩)
    · exact .inr (.inr (.inl ⟨h, this⟩))
    · exact .inr (.inr (.inr (.inl ⟨h, this⟩)))
  rw [if_neg h1] at key
  by_cases h2 : op = 80 ∨ op = 167
  · have := key _ (if_pos h2)
    rcases h2 with h | h
    · exact .inr (.inr (.inr (.inr (.inl ⟨h, this⟩))))
    · exact .inr (.inr (.inr (.inr (.inr (.inl ⟨h, this⟩)))))
  rw [if_neg h2] at key
  by_cases h3 : (121 ≤ op ∧ op ≤ 123) ∨ (194 ≤ op ∧ op ≤ 196)
  · have := key _ (if_pos h3)
    rcases h3 with ⟨h, h'⟩ | ⟨h, h'⟩
    · exact .inr (.inr (.inr (.inr (.inr (.inr (.inl ⟨h, h', this⟩))))))
    · exact .inr (.inr (.inr (.inr (.inr (.inr (.inr (.inl ⟨h, h', this⟩)))))))
  rw [if_neg h3] at key
  by_cases h4 : op = 172 ∨ op = 173
  · have := key _ (if_pos h4)
    rcases h4 with h | h
    · exact .inr (.inr (.inr (.inr (.inr (.inr (.inr (.inr (.inl ⟨h, this⟩))))))))
    · exact .inr (.inr (.inr (.inr (.inr (.inr (.inr (.inr (.inr (.inl ⟨h, this⟩)))))))))
  rw [if_neg h4] at key
  by_cases h5 : (70 ≤ op ∧ op ≤ 79) ∨ (106 ≤ op ∧ op ≤ 120)
  · have := key _ (if_pos h5)
    rcases h5 with ⟨h, h'⟩ | ⟨h, h'⟩
    · exact .inr (.inr (.inr (.inr (.inr (.inr (.inr (.inr (.inr (.inr (.inl ⟨h, h', this⟩))))))))))
    · exact .inr (.inr (.inr (.inr (.inr (.inr (.inr (.inr (.inr (.inr (.inr (.inl ⟨h, h', this⟩)))))))))))
  rw [if_neg h5] at key
  by_cases h6 : 81 ≤ op ∧ op ≤ 90
  · exact .inr (.inr (.inr (.inr (.inr (.inr (.inr (.inr (.inr (.inr (.inr (.inr (.inl ⟨h6.1, h6.2, key _ (if_pos h6)⟩))))))))))))
  rw [if_neg h6] at key
  by_cases h7 : 124 ≤ op ∧ op ≤ 138
  · exact .inr (.inr (.inr (.inr (.inr (.inr (.inr (.inr (.inr (.inr (.inr (.inr (.inr (.inl ⟨h7.1, h7.2, key _ (if_pos h7)⟩)))))))))))))
  · exact .inr (.inr (.inr (.inr (.inr (.inr (.inr (.inr (.inr (.inr (.inr (.inr (.inr (.inr ⟨by omega, key _ (if_neg h7)⟩)))))))))))))
end Num
end Go.Proofs.YtekonefnniaheaaGreat
namespace Go.Proofs.YtekonefnniaheaaGreat
open Go.RowKit

set_option maxRecDepth 100000 in
set_option maxHeartbeats 1000000 in
theorem refSig_any (op : Int) (w : World) :
    Calls Tryz.prog 183 #[.int .i64 op] w fun e w' => e = .returned (Num.sigTup op) ∧ w = w' := by
  by_cases he : op = 69 ∨ op = 80 ∨ op = 167 ∨ op = 172 ∨ op = 173 ∨ op = 192 ∨ op = 193
  · rcases he with rfl | rfl | rfl | rfl | rfl | rfl | rfl
    all_goals
      go_enter Tryz.func183, Tryz.ntmps183
      go_wp2_with fail
      go_ret3
      exact ⟨rfl, rfl⟩
  · have e (c : Int) (h : op ≠ c) : (op == c) = false := by simpa using h
    have e1 := e 69 (by omega)
    have e2 := e 80 (by omega)
    have e3 := e 167 (by omega)
    have e4 := e 172 (by omega)
    have e5 := e 173 (by omega)
    have e6 := e 192 (by omega)
    have e7 := e 193 (by omega)
    clear e
    rcases Num.sig_cases op with ⟨h, k⟩ | ⟨h, h', k⟩ | ⟨h, k⟩ | ⟨h, k⟩ | ⟨h, k⟩ | ⟨h, k⟩ | ⟨h, h', k⟩ | ⟨h, h', k⟩ | ⟨h, k⟩ | ⟨h, k⟩ | ⟨h, h', k⟩ | ⟨h, h', k⟩ | ⟨h, h', k⟩ | ⟨h, h', k⟩ | ⟨h | ⟨h, h'⟩ | ⟨h, h'⟩ | ⟨h, h'⟩ | ⟨h, h'⟩ | h, k⟩
    all_goals first
      | (exfalso; omega)
      | (rw [k]
         unfold Num.tup3
         clear k he
         go_enter Tryz.func183, Tryz.ntmps183
         go_wp2_with fail
         go_ret3
         exact ⟨rfl, rfl⟩)
end Go.Proofs.YtekonefnniaheaaGreat
namespace Go.Proofs.YtekonefnniaheaaGreat
open Go.RowKit

set_option maxRecDepth 100000 in
/-- Is a number one of these, which lie in a row? -/
theorem refOneOf_any (n : Int) (l : List Int) (a : Option Addr) (len cap : Nat) (w : World) (hv : View w a len l) (hl : len = l.length) (hlen : len ≤ 1000000) :
    Calls Tryz.prog 128 #[.int .i64 n, .slice a len cap] w fun e w' => e = .returned (.bool (decide (n ∈ l))) ∧ w = w' := by
  have HL := Lib.hid hl
  have HV := Lib.hid hv
  obtain ⟨r, hr⟩ : ∃ r, r = decide (n ∈ l) := ⟨_, rfl⟩
  rw [← hr]
  have HR := Lib.hid hr
  clear hl hv hr
  go_enter Tryz.func128, Tryz.ntmps128
  go_wp2_with fail
  go_loop [5] (fun iv => ∃ i : Nat, iv = .int .i64 i ∧ i ≤ len ∧ ∀ j, j < i → l.getD j 0 ≠ n) (fun iv => len - (intOf iv).toNat)
  case atStart => exact ⟨0, rfl, by omega, fun j hj => by omega⟩
  case round =>
    obtain ⟨i, rfl, hi, hno⟩ := hrel
    have HNO := Lib.hid hno
    clear hno
    by_cases hlt : i < len
    · obtain ⟨b, off, rfl, hc⟩ := HV.out.resolve_left (by omega)
      have hci := hc i hlt
      have hmem : l.getD i 0 ∈ l := by
        rw [List.getD_eq_getElem?_getD, List.getElem?_eq_getElem (by rw [← HL.out]; exact hlt)]
        exact List.getElem_mem _
      obtain ⟨z, hz⟩ : ∃ z, z = l.getD i 0 := ⟨_, rfl⟩
      rw [← hz] at hci hmem
      have HZ := Lib.hid hz
      have HMEM := Lib.hid hmem
      clear hc hz hmem
      by_cases hzn : z = n
      · have HT : Hid (r = true) := Lib.hid (by rw [HR.out]; exact decide_eq_true (hzn ▸ HMEM.out))
        subst hzn
        go_wp2_with fail
        go_ret
        rw [HT.out]
        exact ⟨rfl, rfl⟩
      · have hzn' : (z == n) = false := by simpa using hzn
        go_wp2_with fail
        refine ⟨⟨i + 1, by go_num, by omega, fun j hj => ?_⟩, by simp [intOf]; omega⟩
        by_cases hji : j = i
        · rw [hji, ← HZ.out]
          exact hzn
        · exact HNO.out j (by omega)
    · have hil : i = len := by omega
      have HF : Hid (r = false) := Lib.hid (by
        rw [HR.out]
        refine decide_eq_false fun hm => ?_
        obtain ⟨k, hk, he⟩ := List.getElem_of_mem hm
        exact HNO.out k (by rw [hil, HL.out]; exact hk) (by rw [List.getD_eq_getElem?_getD, List.getElem?_eq_getElem hk]; exact he))
      subst hil
      go_wp2_with fail
      go_ret
      rw [HF.out]
      exact ⟨rfl, rfl⟩
set_option maxRecDepth 100000 in
theorem refIdx_any (n : Int) (w : World) :
    Calls Tryz.prog 159 #[.int .i64 n] w fun e w' => e = .returned (.bool (decide (0 ≤ n ∧ n ≤ 4294967295))) ∧ w = w' := by
  by_cases h1 : 0 ≤ n
  · by_cases h2 : n ≤ 4294967295
    · rw [show decide (0 ≤ n ∧ n ≤ 4294967295) = true from decide_eq_true ⟨h1, h2⟩]
      have e2 : decide (n ≤ (4294967295 : Int)) = true := decide_eq_true h2
      have e1 : decide ((0 : Int) ≤ n) = true := decide_eq_true h1
      clear h1 h2
      go_enter Tryz.func159, Tryz.ntmps159
      go_wp2_with fail
      go_ret
      exact ⟨by first | rfl | simp [e1, e2], rfl⟩
    · rw [show decide (0 ≤ n ∧ n ≤ 4294967295) = false from decide_eq_false (by omega)]
      have e2 : decide (n ≤ (4294967295 : Int)) = false := decide_eq_false h2
      have e1 : decide ((0 : Int) ≤ n) = true := decide_eq_true h1
      clear h2
      go_enter Tryz.func159, Tryz.ntmps159
      go_wp2_with fail
      go_ret
      exact ⟨by first | rfl | simp [e1, e2], rfl⟩
  · rw [show decide (0 ≤ n ∧ n ≤ 4294967295) = false from decide_eq_false (by omega)]
    have e1 : decide ((0 : Int) ≤ n) = false := decide_eq_false h1
    go_enter Tryz.func159, Tryz.ntmps159
    go_wp2_with fail
    go_ret
    exact ⟨by first | rfl | simp [e1], rfl⟩
/-- Whose byte it is. -/
def typeV (c : Int) : Int × Int := if c ∈ [127, 126, 112] then (c, 0) else if c = 125 ∨ c = 124 then (0, 3) else if c = 123 then (0, 4) else (0, 2)
end Go.Proofs.YtekonefnniaheaaGreat
namespace Go.Proofs.YtekonefnniaheaaGreat
open Go.RowKit

theorem numWithin_any (op a b : Int) (w : World) :
    Calls Tryz.prog 205 #[.int .i64 op, .int .i64 a, .int .i64 b] w fun e w' => e = .returned (.bool (decide (a ≤ op) && decide (op ≤ b))) ∧ w = w' := by
  by_cases h : a ≤ op
  · have e1 : decide (a ≤ op) = true := decide_eq_true h
    rw [e1]
    clear h
    go_enter Tryz.func205, Tryz.ntmps205
    go_wp2_with fail
    go_ret
    exact ⟨rfl, rfl⟩
  · have e1 : decide (a ≤ op) = false := decide_eq_false h
    rw [e1]
    clear h
    go_enter Tryz.func205, Tryz.ntmps205
    go_wp2_with fail
    go_ret
    exact ⟨rfl, rfl⟩
theorem insWithin_any (op a b : Int) (w : World) :
    Calls Tryz.prog 206 #[.int .i64 op, .int .i64 a, .int .i64 b] w fun e w' => e = .returned (.bool (decide (a ≤ op) && decide (op ≤ b))) ∧ w = w' := by
  by_cases h : a ≤ op
  · have e1 : decide (a ≤ op) = true := decide_eq_true h
    rw [e1]
    clear h
    go_enter Tryz.func206, Tryz.ntmps206
    go_wp2_with fail
    go_ret
    exact ⟨rfl, rfl⟩
  · have e1 : decide (a ≤ op) = false := decide_eq_false h
    rw [e1]
    clear h
    go_enter Tryz.func206, Tryz.ntmps206
    go_wp2_with fail
    go_ret
    exact ⟨rfl, rfl⟩
theorem inB_yes {op a b : Int} (h : a ≤ op ∧ op ≤ b) : (decide (a ≤ op) && decide (op ≤ b)) = true := by simp [h.1, h.2]
theorem inB_no {op a b : Int} (h : op < a ∨ b < op) : (decide (a ≤ op) && decide (op ≤ b)) = false := by
  rcases h with h | h
  · rw [decide_eq_false (by omega), Bool.false_and]
  · rw [Bool.and_comm, decide_eq_false (by omega), Bool.false_and]
/-- A question whose answer is known. -/
theorem numW_yes {op a b : Int} (h : a ≤ op ∧ op ≤ b) (w : World) : Calls Tryz.prog 205 #[.int .i64 op, .int .i64 a, .int .i64 b] w fun e w' => e = .returned (.bool true) ∧ w = w' := inB_yes h ▸ numWithin_any op a b w
theorem numW_no {op a b : Int} (h : op < a ∨ b < op) (w : World) : Calls Tryz.prog 205 #[.int .i64 op, .int .i64 a, .int .i64 b] w fun e w' => e = .returned (.bool false) ∧ w = w' := inB_no h ▸ numWithin_any op a b w
theorem insW_yes {op a b : Int} (h : a ≤ op ∧ op ≤ b) (w : World) : Calls Tryz.prog 206 #[.int .i64 op, .int .i64 a, .int .i64 b] w fun e w' => e = .returned (.bool true) ∧ w = w' := inB_yes h ▸ insWithin_any op a b w
theorem insW_no {op a b : Int} (h : op < a ∨ b < op) (w : World) : Calls Tryz.prog 206 #[.int .i64 op, .int .i64 a, .int .i64 b] w fun e w' => e = .returned (.bool false) ∧ w = w' := inB_no h ▸ insWithin_any op a b w
/-- The opcodes of one number. -/
def sigOps : List Int := [69, 103, 104, 105, 192, 193, 121, 122, 123, 194, 195, 196, 80, 167, 172, 173]
theorem sigOps_of {op : Int} (h : op ∈ sigOps) : op = 69 ∨ op = 103 ∨ op = 104 ∨ op = 105 ∨ op = 192 ∨ op = 193 ∨ op = 121 ∨ op = 122 ∨ op = 123 ∨ op = 194 ∨ op = 195 ∨ op = 196 ∨ op = 80 ∨ op = 167 ∨ op = 172 ∨ op = 173 := by
  simpa [sigOps] using h
theorem sigOps_not {op : Int} (h : ¬ op ∈ sigOps) : ¬ op = 69 ∧ ¬ op = 103 ∧ ¬ op = 104 ∧ ¬ op = 105 ∧ ¬ op = 192 ∧ ¬ op = 193 ∧ ¬ op = 121 ∧ ¬ op = 122 ∧ ¬ op = 123 ∧ ¬ op = 194 ∧ ¬ op = 195 ∧ ¬ op = 196 ∧ ¬ op = 80 ∧ ¬ op = 167 ∧ ¬ op = 172 ∧ ¬ op = 173 := by
  simpa [sigOps] using h
set_option maxRecDepth 100000 in
set_option maxHeartbeats 2000000 in
theorem sig_any (op : Int) (w : World) :
    Calls Tryz.prog 191 #[.int .i64 op] w fun e w' => e = .returned (Num.sigTup op) ∧ w = w' := by
  by_cases hm : op ∈ sigOps
  · rcases sigOps_of hm with rfl | rfl | rfl | rfl | rfl | rfl | rfl | rfl | rfl | rfl | rfl | rfl | rfl | rfl | rfl | rfl
    all_goals
      clear hm
      go_enter Tryz.func191, Tryz.ntmps191
      go_wp2_with fail
      go_ret3
      exact ⟨rfl, rfl⟩
  · obtain ⟨k1, k2, k3, k4, k5, k6, k7, k8, k9, k10, k11, k12, k13, k14, k15, k16⟩ := sigOps_not hm
    clear hm
    have hc : (∃ q : (70 ≤ op ∧ op ≤ 79), Num.sigTup op = Num.tup3 2 127 127) ∨ (∃ q : (106 ≤ op ∧ op ≤ 120), Num.sigTup op = Num.tup3 2 127 127) ∨ (∃ q : (81 ≤ op ∧ op ≤ 90), Num.sigTup op = Num.tup3 2 126 127) ∨ (∃ q : (124 ≤ op ∧ op ≤ 138), Num.sigTup op = Num.tup3 2 126 126) ∨
        ((op < 70 ∨ 79 < op) ∧ (op < 106 ∨ 120 < op) ∧ (op < 81 ∨ 90 < op) ∧ (op < 124 ∨ 138 < op) ∧ Num.sigTup op = Num.tup3 0 0 0) := by
      rcases Num.sig_cases op with ⟨h, k⟩ | ⟨h, h', k⟩ | ⟨h, k⟩ | ⟨h, k⟩ | ⟨h, k⟩ | ⟨h, k⟩ | ⟨h, h', k⟩ | ⟨h, h', k⟩ | ⟨h, k⟩ | ⟨h, k⟩ | ⟨h, h', k⟩ | ⟨h, h', k⟩ | ⟨h, h', k⟩ | ⟨h, h', k⟩ | ⟨h, k⟩
      all_goals first
        | (exfalso; omega)
        | exact .inl ⟨⟨h, h'⟩, k⟩
        | exact .inr (.inl ⟨⟨h, h'⟩, k⟩)
        | exact .inr (.inr (.inl ⟨⟨h, h'⟩, k⟩))
        | exact .inr (.inr (.inr (.inl ⟨⟨h, h'⟩, k⟩)))
        | exact .inr (.inr (.inr (.inr ⟨by omega, by omega, by omega, by omega, k⟩)))
    rcases hc with ⟨q, k⟩ | ⟨q, k⟩ | ⟨q, k⟩ | ⟨q, k⟩ | ⟨q1, q2, q3, q4, k⟩
    · have H1 := Lib.hid (numW_yes q)
      rw [k]; unfold Num.tup3; clear k q
      go_enter Tryz.func191, Tryz.ntmps191
      go_wp2_with (go_at_call 205; refine (H1.out _).mono ?_; rintro e w1 ⟨rfl, rfl⟩)
      go_ret3
      exact ⟨rfl, rfl⟩
    · have H1 := Lib.hid (numW_no (op := op) (a := 70) (b := 79) (by omega))
      have H2 := Lib.hid (numW_yes q)
      rw [k]; unfold Num.tup3; clear k q
      go_enter Tryz.func191, Tryz.ntmps191
      go_wp2_with (first | (go_at_call 205; refine (H1.out _).mono ?_; rintro e w1 ⟨rfl, rfl⟩; clear H1) | (go_at_call 205; refine (H2.out _).mono ?_; rintro e w1 ⟨rfl, rfl⟩; clear H2))
      go_ret3
      exact ⟨rfl, rfl⟩
    · have H1 := Lib.hid (numW_no (op := op) (a := 70) (b := 79) (by omega))
      have H2 := Lib.hid (numW_no (op := op) (a := 106) (b := 120) (by omega))
      have H3 := Lib.hid (numW_yes q)
      rw [k]; unfold Num.tup3; clear k q
      go_enter Tryz.func191, Tryz.ntmps191
      go_wp2_with (first | (go_at_call 205; refine (H1.out _).mono ?_; rintro e w1 ⟨rfl, rfl⟩; clear H1) | (go_at_call 205; refine (H2.out _).mono ?_; rintro e w1 ⟨rfl, rfl⟩; clear H2) | (go_at_call 205; refine (H3.out _).mono ?_; rintro e w1 ⟨rfl, rfl⟩; clear H3))
      go_ret3
      exact ⟨rfl, rfl⟩
    · have H1 := Lib.hid (numW_no (op := op) (a := 70) (b := 79) (by omega))
      have H2 := Lib.hid (numW_no (op := op) (a := 106) (b := 120) (by omega))
      have H3 := Lib.hid (numW_no (op := op) (a := 81) (b := 90) (by omega))
      have H4 := Lib.hid (numW_yes q)
      rw [k]; unfold Num.tup3; clear k q
      go_enter Tryz.func191, Tryz.ntmps191
      go_wp2_with (first | (go_at_call 205; refine (H1.out _).mono ?_; rintro e w1 ⟨rfl, rfl⟩; clear H1) | (go_at_call 205; refine (H2.out _).mono ?_; rintro e w1 ⟨rfl, rfl⟩; clear H2) | (go_at_call 205; refine (H3.out _).mono ?_; rintro e w1 ⟨rfl, rfl⟩; clear H3) | (go_at_call 205; refine (H4.out _).mono ?_; rintro e w1 ⟨rfl, rfl⟩; clear H4))
      go_ret3
      exact ⟨rfl, rfl⟩
    · have H1 := Lib.hid (numW_no q1)
      have H2 := Lib.hid (numW_no q2)
      have H3 := Lib.hid (numW_no q3)
      have H4 := Lib.hid (numW_no q4)
      rw [k]; unfold Num.tup3; clear k q1 q2 q3 q4
      go_enter Tryz.func191, Tryz.ntmps191
      go_wp2_with (first | (go_at_call 205; refine (H1.out _).mono ?_; rintro e w1 ⟨rfl, rfl⟩; clear H1) | (go_at_call 205; refine (H2.out _).mono ?_; rintro e w1 ⟨rfl, rfl⟩; clear H2) | (go_at_call 205; refine (H3.out _).mono ?_; rintro e w1 ⟨rfl, rfl⟩; clear H3) | (go_at_call 205; refine (H4.out _).mono ?_; rintro e w1 ⟨rfl, rfl⟩; clear H4))
      go_ret3
      exact ⟨rfl, rfl⟩
theorem ops_of {op : Int} (h : op ∈ Mem.wOps) : op = 40 ∨ op = 41 ∨ op = 44 ∨ op = 45 ∨ op = 46 ∨ op = 47 ∨ op = 48 ∨ op = 49 ∨ op = 50 ∨ op = 51 ∨ op = 52 ∨ op = 53 ∨ op = 54 ∨ op = 55 ∨ op = 58 ∨ op = 59 ∨ op = 60 ∨ op = 61 ∨ op = 62 := by
  simpa [Mem.wOps] using h
theorem ops_not {op : Int} (h : ¬ op ∈ Mem.wOps) : ¬ op = 40 ∧ ¬ op = 41 ∧ ¬ op = 44 ∧ ¬ op = 45 ∧ ¬ op = 46 ∧ ¬ op = 47 ∧ ¬ op = 48 ∧ ¬ op = 49 ∧ ¬ op = 50 ∧ ¬ op = 51 ∧ ¬ op = 52 ∧ ¬ op = 53 ∧ ¬ op = 54 ∧ ¬ op = 55 ∧ ¬ op = 58 ∧ ¬ op = 59 ∧ ¬ op = 60 ∧ ¬ op = 61 ∧ ¬ op = 62 := by
  simpa [Mem.wOps] using h
set_option maxRecDepth 100000 in
set_option maxHeartbeats 1000000 in
theorem width_any (op : Int) (w : World) :
    Calls Tryz.prog 192 #[.int .i64 op] w fun e w' => e = .returned (Mem.widthTup op) ∧ w = w' := by
  by_cases hm : op ∈ Mem.wOps
  · rcases ops_of hm with rfl | rfl | rfl | rfl | rfl | rfl | rfl | rfl | rfl | rfl | rfl | rfl | rfl | rfl | rfl | rfl | rfl | rfl | rfl
    all_goals
      clear hm
      go_enter Tryz.func192, Tryz.ntmps192
      go_wp2_with fail
      go_ret3
      exact ⟨rfl, rfl⟩
  · have hno : Mem.widthTup op = .tuple #[.int .i64 0, .int .i64 0, .bool false] := by
      unfold Mem.widthTup Mem.width
      rw [if_neg hm]
    obtain ⟨h1, h2, h3, h4, h5, h6, h7, h8, h9, h10, h11, h12, h13, h14, h15, h16, h17, h18, h19⟩ := ops_not hm
    rw [hno]
    clear hm hno
    go_enter Tryz.func192, Tryz.ntmps192
    go_wp2_with fail
    go_ret3
    exact ⟨rfl, rfl⟩
end Go.Proofs.YtekonefnniaheaaGreat
