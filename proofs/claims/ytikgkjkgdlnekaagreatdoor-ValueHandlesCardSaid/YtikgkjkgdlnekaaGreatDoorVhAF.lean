/- handles A to F -/
import Derived.Test.YtikgkjkgdlnekaaGreatDoorVbI
import Derived.Test.YtikgkjkgdlnekaaGreatDoorCtWC
import Derived.Lib.OwnKind
import Derived.Test.YtikgkjkgdlnekaaGreatDoorVbH
import Derived.Deep.RegionHeld3
import Derived.Test.YtikgkjkgdlnekaaGreatDoorVbN
import Derived.Test.YtikgkjkgdlnekaaGreatDoorCtGG
import Derived.Deep.AppendLies
import Derived.Test.YtikgkjkgdlnekaaGreatDoorVbM
/- value: handles, as plain functions: the two ways to find them are one. -/
set_option linter.unusedVariables false
set_option linter.unusedSimpArgs false
namespace Go.Proofs.YtikgkjkgdlnekaaGreatDoor
open Go.RowKit
open Lex Ct

namespace Ct
/-- What a value has within, told in both ways. -/
theorem wit_ins {k : Nat} {t : Ty} {v : Vl} (h : deepK (k + 1) t = true) (hcp : 12 ≤ t.kind ∧ t.kind ≤ 18) (hs : v.s.length = 0) : (shapedV (plK (k + 1 + 1) t) v = true ∧ ∃ ts, insO t v = some ts ∧ ts.length = v.l.length ∧ ∀ j u x, ts[j]? = some u → v.l[j]? = some x → deepK k u = true ∧ witO (plK (k + 1 + 1) t) v.n j = some (plK (k + 1) u)) ∨ (shapedV (plK (k + 1 + 1) t) v = false ∧ insO t v = none) := by
  have hk := plP_kind h
  have hkind := deepK_kind h
  have hw := deep_shape h
  have hK : (plK (k + 1 + 1) t).kind = if t.kind = 16 ∨ t.kind = 17 ∨ t.kind = 18 then 15 else t.kind := hk
  have hK11 : (plK (k + 1 + 1) t).kind ≠ 11 := by rw [hK]; split <;> omega
  by_cases h12 : t.kind = 12
  · have hl1 : t.l.length = 1 := by rw [h12] at hw; simp [okW] at hw; exact hw.2
    obtain ⟨u, hu⟩ := List.length_eq_one_iff.1 hl1
    have hK12 : (plK (k + 1 + 1) t).kind = 12 := by rw [hK, if_neg (by omega)]; exact h12
    have hsh : shapedV (plK (k + 1 + 1) t) v = (v.n == 0 && decide (v.l.length ≤ 1000)) := by
      unfold shapedV
      rw [if_neg hK11, if_neg (by omega), if_pos hK12]
    have hi : insO t v = if v.n = 0 ∧ v.l.length ≤ 1000 then some (List.replicate v.l.length (t.l.getD 0 .zero)) else none := by unfold insO; rw [if_pos h12]
    by_cases hq : v.n = 0 ∧ v.l.length ≤ 1000
    · refine .inl ⟨by rw [hsh]; simp [hq.1, hq.2], _, by rw [hi, if_pos hq], by simp, fun j y x hy hx => ?_⟩
      have hy2 := List.mem_of_getElem? hy
      rw [List.eq_of_mem_replicate hy2, hu]
      refine ⟨?_, ?_⟩
      · rcases deep_kids h (show u ∈ t.l by rw [hu]; exact List.mem_cons_self) with h2 | h2
        · omega
        · exact h2
      · unfold witO
        rw [if_pos hK12, plK_l, plP_l, if_neg (by omega), hu]
        rfl
    · refine .inr ⟨?_, by rw [hi, if_neg hq]⟩
      rw [hsh, Bool.eq_false_iff]
      intro q
      simp only [Bool.and_eq_true, beq_iff_eq, decide_eq_true_eq] at q
      exact hq q
  · by_cases h13 : t.kind = 13 ∨ t.kind = 14
    · have hKe : (plK (k + 1 + 1) t).kind = t.kind := by rw [hK, if_neg (by omega)]
      have hle : (plK (k + 1 + 1) t).l = t.l.map (plK (k + 1)) := by rw [plK_l, plP_l, if_neg (by omega)]
      have hsh : shapedV (plK (k + 1 + 1) t) v = (v.n == 0 && v.l.length == t.l.length) := by
        unfold shapedV
        rw [if_neg hK11, if_neg (by omega), if_neg (by omega), if_pos (by omega), hle, List.length_map]
      have hi : insO t v = if v.n = 0 ∧ v.l.length = t.l.length then some t.l else none := by unfold insO; rw [if_neg h12, if_pos h13]
      by_cases hq : v.n = 0 ∧ v.l.length = t.l.length
      · refine .inl ⟨by rw [hsh]; simp [hq.1, hq.2], _, by rw [hi, if_pos hq], hq.2.symm, fun j y x hy hx => ?_⟩
        refine ⟨?_, ?_⟩
        · rcases deep_kids h (List.mem_of_getElem? hy) with h2 | h2
          · omega
          · exact h2
        · unfold witO
          rw [if_neg (by omega), if_neg (by omega), hle, List.getElem?_map, hy]
          rfl
      · refine .inr ⟨?_, by rw [hi, if_neg hq]⟩
        rw [hsh, Bool.eq_false_iff]
        intro q
        simp only [Bool.and_eq_true, beq_iff_eq] at q
        exact hq q
    · have h15 : t.kind = 15 ∨ t.kind = 16 ∨ t.kind = 17 ∨ t.kind = 18 := by omega
      have hK15 : (plK (k + 1 + 1) t).kind = 15 := by rw [hK]; split <;> omega
      have hle : (plK (k + 1 + 1) t).l = (plainL t).map (plK (k + 1)) := by rw [plK_l, variant_l h15]
      have hll : (plK (k + 1 + 1) t).l.length = (plainL t).length := by rw [hle, List.length_map]
      have hi : insO t v = if 0 ≤ v.n ∧ v.n < (plainL t).length then (if v.l.length = heldK ((plainL t).getD v.n.toNat .zero) then some (if heldK ((plainL t).getD v.n.toNat .zero) = 0 then [] else [(plainL t).getD v.n.toNat .zero]) else none) else none := by
        unfold insO
        rw [if_neg h12, if_neg h13, if_pos h15]
      have hsh : shapedV (plK (k + 1 + 1) t) v = (decide (0 ≤ v.n ∧ v.n < (plainL t).length) && (v.l.length == heldK ((plK (k + 1 + 1) t).l.getD v.n.toNat .zero))) := by
        unfold shapedV
        rw [if_neg hK11, if_neg (by omega), if_neg (by omega), if_neg (by omega), if_pos hK15, hll]
      by_cases hq : 0 ≤ v.n ∧ v.n < (plainL t).length
      · have hlt : v.n.toNat < (plainL t).length := by omega
        have hg : goodT k (plainL t)[v.n.toNat] := good_kid h (List.getElem_mem hlt)
        have hh : heldK ((plK (k + 1 + 1) t).l.getD v.n.toNat .zero) = heldK (plainL t)[v.n.toNat] := by
          rw [getD_at (by rw [hll]; exact hlt)]
          have : (plK (k + 1 + 1) t).l[v.n.toNat]'(by rw [hll]; exact hlt) = plK (k + 1) (plainL t)[v.n.toNat] := by
            simp only [hle, List.getElem_map]
          rw [this, held_pl hg]
        rw [hh, decide_eq_true hq, Bool.true_and] at hsh
        rw [if_pos hq, getD_at hlt] at hi
        by_cases hv : v.l.length = heldK (plainL t)[v.n.toNat]
        · refine .inl ⟨by rw [hsh]; simp [hv], _, by rw [hi, if_pos hv], ?_, fun j y x hy hx => ?_⟩
          · split
            · rename_i e; rw [hv, e]; rfl
            · rename_i e
              unfold heldK at hv e
              split at e
              · exact absurd rfl e
              · rename_i e3
                rw [if_neg e3] at hv
                rw [hv]; rfl
          · split at hy
            · cases hy
            · rename_i e
              have hj : j = 0 := by
                have := (List.getElem?_eq_some_iff.1 hy).1
                simp at this
                exact this
              subst hj
              have hy : some (plainL t)[v.n.toNat] = some y := hy
              have hy := Option.some.inj hy
              subst hy
              refine ⟨?_, ?_⟩
              · rcases hg with hg | hg
                · exfalso
                  apply e
                  unfold heldK
                  rw [if_pos (isNone_kind hg)]
                · exact hg
              · unfold witO
                rw [if_neg (by omega), if_pos hK15, if_pos hq.1, hle, List.getElem?_map, List.getElem?_eq_getElem hlt]
                rfl
        · exact .inr ⟨by rw [hsh]; simp [hv], by rw [hi, if_neg hv]⟩
      · exact .inr ⟨by rw [hsh, decide_eq_false hq, Bool.false_and], by rw [hi, if_neg hq]⟩
def catL {α : Type} (f : Ty → Vl → List α) : List Ty → List Vl → List α
  | t :: ts, v :: vs => f t v ++ catL f ts vs
  | _, _ => []
def catI {α : Type} (f : Nat → Vl → List α) : Nat → List Vl → List α
  | _, [] => []
  | i, x :: r => f i x ++ catI f (i + 1) r
/-- As the document tells it. -/
def hdsR : Nat → Ty → Vl → List (Int × Int × Int)
  | 0, _, _ => []
  | k + 1, t, v => if 20 ≤ t.kind then [(t.kind, t.r, v.n)] else match insO t v with
    | none => []
    | some ts => catL (hdsR k) ts v.l
/-- As the program walks, over a plain type. -/
def hdsP : Nat → Ty → Vl → List (Int × Int × Int)
  | 0, _, _ => []
  | k + 1, t, v => (if t.kind = 20 ∨ t.kind = 21 then [(t.kind, t.r, v.n)] else []) ++ catI (fun i x => match witO t v.n i with
    | none => []
    | some u => hdsP k u x) 0 v.l
theorem catL_nil {α : Type} (f : Ty → Vl → List α) : ∀ ts : List Ty, catL f ts [] = []
  | [] => rfl
  | _ :: _ => rfl
theorem catI_catL {α : Type} {f : Ty → Vl → List α} {F : Nat → Vl → List α} : ∀ (ts : List Ty) (vs : List Vl) (i : Nat), ts.length = vs.length →
    (∀ (j : Nat) (t : Ty) (x : Vl), ts[j]? = some t → vs[j]? = some x → F (i + j) x = f t x) → catI F i vs = catL f ts vs
  | [], [], i, hl, hF => rfl
  | [], v :: vs, i, hl, hF => by cases hl
  | t :: ts, [], i, hl, hF => by cases hl
  | t :: ts, v :: vs, i, hl, hF => by
    unfold catI catL
    have h0 := hF 0 t v rfl rfl
    rw [Nat.add_zero] at h0
    rw [h0, catI_catL ts vs (i + 1) (by simpa using hl) (fun j t x ht hx => by
      have := hF (j + 1) t x ht hx
      rw [show i + 1 + j = i + (j + 1) by omega]
      exact this)]
theorem sumL_all {g : Ty → Vl → Nat} : ∀ (ts : List Ty) (vs : List Vl) (n : Nat), sumL g ts vs n ≠ 0 → ∀ (j : Nat) (t : Ty) (x : Vl), ts[j]? = some t → vs[j]? = some x → g t x ≠ 0
  | [], _, n, h, j, t, x, ht, hx => by simp at ht
  | _ :: _, [], n, h, j, t, x, ht, hx => by simp at hx
  | t' :: ts, v :: vs, n, h, j, t, x, ht, hx => by
    unfold sumL at h
    split at h
    · exact absurd rfl h
    · rename_i q
      cases j with
      | zero =>
        have e1 : t' = t := Option.some.inj ht
        have e2 : v = x := Option.some.inj hx
        subst e1 e2
        exact fun e => q (.inl e)
      | succ j => exact sumL_all ts vs _ h j t x ht hx
/-- THE HANDLES: the two ways are one, for a value of its type. -/
theorem hds_rel : ∀ (k : Nat) (t : Ty) (v : Vl), deepK k t = true → partsK k t v ≠ 0 → hdsP k (plK (k + 1) t) v = hdsR k t v
  | 0, t, v, h, hp => by cases h
  | k + 1, t, v, h, hp => by
    have hkind := deepK_kind h
    have hwh := whole_num t v.n
    have hk := plP_kind h
    unfold hdsP hdsR
    by_cases hcp : 12 ≤ t.kind ∧ t.kind ≤ 18
    · have hK : (plK (k + 1 + 1) t).kind = if t.kind = 16 ∨ t.kind = 17 ∨ t.kind = 18 then 15 else t.kind := hk
      have hK20 : ¬ ((plK (k + 1 + 1) t).kind = 20 ∨ (plK (k + 1 + 1) t).kind = 21) := by rw [hK]; split <;> omega
      have hz : ¬ (wholeK t.kind v.n ≠ 0) := by rw [hwh.1]; omega
      unfold partsK at hp
      rw [if_neg hz, if_neg (by omega), if_neg (by omega)] at hp
      split at hp
      · exact absurd rfl hp
      · rename_i hs
        rw [if_neg (by omega)] at hp
        rcases wit_ins (v := v) h hcp (by omega) with ⟨hsh, ts, hi, hlen, hin⟩ | ⟨hsh, hi⟩
        · rw [hi] at hp ⊢
          have hp : sumL (partsK k) ts v.l 1 ≠ 0 := hp
          rw [if_neg hK20, if_neg (by omega), List.nil_append]
          refine catI_catL ts v.l 0 hlen fun j u x hu hx => ?_
          obtain ⟨h1, h2⟩ := hin j u x hu hx
          rw [Nat.zero_add, h2]
          exact hds_rel k u x h1 (sumL_all ts v.l 1 hp j u x hu hx)
        · rw [hi] at hp
          exact absurd rfl hp
    · have e : plP t = t := if_neg (by omega)
      have eK : (plK (k + 1 + 1) t).kind = t.kind := by rw [plK_kind, e]
      have eR : (plK (k + 1 + 1) t).r = t.r := by show (plP t).r = t.r; rw [e]
      have hl : v.l = [] := by
        unfold partsK at hp
        by_cases hz : wholeK t.kind v.n ≠ 0
        · rw [if_pos hz] at hp
          split at hp
          · exact absurd rfl hp
          · rename_i q
            exact List.length_eq_zero_iff.1 (by omega)
        · rw [if_neg hz] at hp
          by_cases h10 : t.kind = 10
          · rw [if_pos h10] at hp
            split at hp
            · exact absurd rfl hp
            · rename_i q
              exact List.length_eq_zero_iff.1 (by rcases Nat.eq_zero_or_pos v.l.length with q2 | q2; exact q2; exact absurd (.inr (.inr (by omega))) q)
          · rw [if_neg h10] at hp
            by_cases h11 : t.kind = 11
            · rw [if_pos h11] at hp
              split at hp
              · rename_i q
                exact List.length_eq_zero_iff.1 q.2.2.1
              · exact absurd rfl hp
            · rw [if_neg h11] at hp
              have h19 : t.kind = 19 := by rw [hwh.1] at hz; omega
              split at hp
              · exact absurd rfl hp
              · split at hp
                · rename_i q
                  exact List.length_eq_zero_iff.1 q.2
                · exact absurd rfl hp
      rw [hl, eK, eR]
      by_cases h20 : 20 ≤ t.kind
      · rw [if_pos (by omega), if_pos h20]
        rfl
      · rw [if_neg (by omega), if_neg h20]
        split
        · rfl
        · exact (catL_nil _ _).symm
end Ct
end Go.Proofs.YtikgkjkgdlnekaaGreatDoor

/- value: handles: an append of nothing. -/
set_option linter.unusedVariables false
set_option linter.unusedSimpArgs false
namespace Go.Proofs.YtikgkjkgdlnekaaGreatDoor
open Go.RowKit
open Lex Ct

/-- An append of no type: what was there. -/
theorem append_no_type (a b : Option Addr) (n cap cb : Nat) (w : World) (ty : TypeId) (hn : n ≤ cap) :
    (Builtin.append_ #[23, 23] ty #[.slice a n cap, .slice b 0 cb]).run Tryz.prog w = .ok (.slice a n cap) w := by
  obtain ⟨ti, hi0, hz0, hz1, hz2⟩ := info_ty
  have h2 : ¬ cap < n := by omega
  have h3 : ¬ (cap : Int) < (n : Int) := by omega
  have hl := fun x => run_loadCells_list (P := Tryz.prog) w x [] (fun j v hj => by simp at hj)
  simp only [List.length_nil] at hl
  cases a <;> cases b <;> simp [Builtin.append_, run_underlying Tryz.underlying23, sizeOf, typeInfo, hi0, hz1, Builtin.lenOf, Builtin.firstCells, storeCells, hl, h2, h3]
theorem append_no_int (a b : Option Addr) (n cap cb : Nat) (w : World) (ty : TypeId) (hn : n ≤ cap) :
    (Builtin.append_ #[26, 26] ty #[.slice a n cap, .slice b 0 cb]).run Tryz.prog w = .ok (.slice a n cap) w := by
  obtain ⟨ti, hi0, hz0, hz1, hz2⟩ := info_int2
  have h2 : ¬ cap < n := by omega
  have h3 : ¬ (cap : Int) < (n : Int) := by omega
  have hl := fun x => run_loadCells_list (P := Tryz.prog) w x [] (fun j v hj => by simp at hj)
  simp only [List.length_nil] at hl
  cases a <;> cases b <;> simp [Builtin.append_, run_underlying Tryz.underlying26, sizeOf, typeInfo, hi0, hz1, Builtin.lenOf, Builtin.firstCells, storeCells, hl, h2, h3]
end Go.Proofs.YtikgkjkgdlnekaaGreatDoor

/- value: handles: rows of types of which kind and number are known; the reference's Handles of a handle. -/
set_option linter.unusedVariables false
set_option linter.unusedSimpArgs false
namespace Go.Proofs.YtikgkjkgdlnekaaGreatDoor
open Go.RowKit
open Lex Ct

/-- A type's four cells, whatever its two rows are. -/
structure Qd where
  k : Int
  an : Option Addr
  nn : Nat
  cn : Nat
  al : Option Addr
  nl : Nat
  cl : Nat
  r : Int
def Qd.cs (q : Qd) : List Value := [.int .i64 q.k, .slice q.an q.nn q.cn, .slice q.al q.nl q.cl, .int .i64 q.r]
/-- A row of such, read out of the heap. -/
def CellRow (w : World) (B : Nat) (vs : List Value) (m : Nat) (a : Option Addr) (n cap : Nat) : Prop :=
  vs.length = n * m ∧ n ≤ cap ∧ (n = 0 ∨ ∃ g o, a = some ⟨g, o, none⟩ ∧ B ≤ g ∧ g < w.heap.size ∧ ∀ j u, vs[j]? = some u → w.cell? ((⟨g, o, none⟩ : Addr).add j) = some u)
def HdsR (hs : List (Int × Int × Int)) (w : World) (y : Ending) (w' : World) : Prop :=
  ∃ (qs : List Qd) (a : Option Addr) (ca : Nat) (b : Option Addr) (cb : Nat), y = .returned (.tuple #[.slice a qs.length ca, .slice b hs.length cb]) ∧ qs.map (fun q => (q.k, q.r)) = hs.map (fun h => (h.1, h.2.1)) ∧
    CellRow w' w.heap.size (qs.flatMap Qd.cs) 4 a qs.length ca ∧ CellRow w' w.heap.size (hs.map fun h => .int .i64 h.2.2) 1 b hs.length cb ∧ Kept (fun _ => False) w w'
theorem cellRow_blk {w : World} {g : Nat} {vs : List Value} {T : TypeId} {m n B : Nat} (h : BlkAt w g vs.toArray T) (hl : vs.length = n * m) (hB : B ≤ g) : CellRow w B vs m (some ⟨g, 0, none⟩) n n :=
  ⟨hl, Nat.le_refl _, .inr ⟨g, 0, rfl, hB, h.lt, World.news_of_block h⟩⟩
theorem CellRow.kept {F : Nat → Prop} {w w' : World} {B : Nat} {vs : List Value} {m : Nat} {a : Option Addr} {n cap : Nat} (h : CellRow w B vs m a n cap) (k : Kept F w w') (hf : ∀ g, B ≤ g → g < w.heap.size → ¬ F g) : CellRow w' B vs m a n cap :=
  ⟨h.1, h.2.1, h.2.2.imp id fun ⟨g, o, e, hB, hg, hc⟩ => ⟨g, o, e, hB, Nat.lt_of_lt_of_le hg k.size, fun j u hj => by
    have := hc j u hj
    rw [Go.WideShapes.add_plain] at this ⊢
    exact (World.cell?_of_block (w := w) (k.block g hg (hf g hB hg))).trans this⟩⟩
theorem two_new (w0 w2 : World) (x y : Array Value) (T U : TypeId) (k : Kept (fun _ => False) w0 w2) : BlkAt ((w2.alloc (.cells x T)).alloc (.cells y U)).drew w2.heap.size x T ∧ BlkAt ((w2.alloc (.cells x T)).alloc (.cells y U)).drew (w2.heap.size + 1) y U ∧ Kept (fun _ => False) w0 ((w2.alloc (.cells x T)).alloc (.cells y U)).drew := by
  have V := BlkAt.new (w2.alloc (.cells x T)) y U
  rw [World.size_alloc] at V
  exact ⟨(BlkAt.new w2 x T).kept (F := fun _ => False) ((Kept.refl _ _).new _).drew id, V.kept (F := fun _ => False) (Kept.refl _ _).drew id, ((k.new _).new _).drew⟩
set_option maxRecDepth 100000 in
set_option maxHeartbeats 8000000 in
/-- THE REFERENCE's HANDLES of a handle. -/
theorem rdRHands20 (t : Ty) (an : Option Addr) (cn : Nat) (al : Option Addr) (cl : Nat) (v : Vl) (sa : Option Addr) (sc : Nat) (av : Option Addr) (cv : Nat) (w : World) (ht : 20 ≤ t.kind) :
    Calls Tryz.prog 9 #[tyV t an cn al cl, vlV v sa sc av cv] w (HdsR [(t.kind, t.r, v.n)] w) := by
  have k0 : Kept (fun _ => False) w ((w.alloc (.cells #[.int .i64 t.kind, .slice an t.names.length cn, .slice al t.l.length cl, .int .i64 t.r] 25)).alloc (.cells #[.int .i64 v.n, .slice sa v.s.length sc, .slice av v.l.length cv] 29)) := ((Kept.refl _ _).new _).new _
  have T0 := (BlkAt.new w #[.int .i64 t.kind, .slice an t.names.length cn, .slice al t.l.length cl, .int .i64 t.r] 25).kept (F := fun _ => False) ((Kept.refl _ _).new (.cells #[.int .i64 v.n, .slice sa v.s.length sc, .slice av v.l.length cv] 29)) id
  have V0 := BlkAt.new (w.alloc (.cells #[.int .i64 t.kind, .slice an t.names.length cn, .slice al t.l.length cl, .int .i64 t.r] 25)) #[.int .i64 v.n, .slice sa v.s.length sc, .slice av v.l.length cv] 29
  rw [World.size_alloc] at V0
  have q0 : Kept (fun _ => False) ((w.alloc (.cells #[.int .i64 t.kind, .slice an t.names.length cn, .slice al t.l.length cl, .int .i64 t.r] 25)).alloc (.cells #[.int .i64 v.n, .slice sa v.s.length sc, .slice av v.l.length cv] 29)) ((w.alloc (.cells #[.int .i64 t.kind, .slice an t.names.length cn, .slice al t.l.length cl, .int .i64 t.r] 25)).alloc (.cells #[.int .i64 v.n, .slice sa v.s.length sc, .slice av v.l.length cv] 29)).drew := (Kept.refl _ _).drew
  have hge : decide (t.kind ≥ 20) = true := by simp; omega
  obtain ⟨t0, t1, t2, t3⟩ := box4_cells' (T0.kept (F := fun _ => False) q0 id)
  have HT := Lib.hid T0
  have HV := Lib.hid V0
  have HA := Lib.hid (two_new w _ #[.int .i64 t.kind, .slice an t.names.length cn, .slice al t.l.length cl, .int .i64 t.r] #[.int .i64 v.n] 25 3 k0)
  have HB := Lib.hid (two_new w _ #[.int .i64 v.n] #[.int .i64 t.kind, .slice an t.names.length cn, .slice al t.l.length cl, .int .i64 t.r] 3 25 k0)
  rw [World.size_alloc, World.size_alloc] at HA HB
  obtain ⟨v0, v1, v2⟩ := box3_cells (V0.kept (F := fun _ => False) q0 id)
  clear T0 V0 k0 q0 ht
  go_enter Tryz.func9, Tryz.ntmps9
  go_wp2_with fail
  go_region
  all_goals go_wp2_with fail
  · exact bodyPost_ret (v := .tuple #[.slice (some ⟨w.heap.size + 1 + 1, 0, none⟩) 1 1, .slice (some ⟨w.heap.size + 1 + 1 + 1, 0, none⟩) 1 1]) (by simp [results, Tryz.results9, go_sem]) rfl
      ⟨[⟨t.kind, an, t.names.length, cn, al, t.l.length, cl, t.r⟩], some ⟨w.heap.size + 1 + 1, 0, none⟩, 1, some ⟨w.heap.size + 1 + 1 + 1, 0, none⟩, 1, rfl, rfl, cellRow_blk HA.out.1 rfl (by omega), cellRow_blk HA.out.2.1 rfl (by omega), HA.out.2.2⟩
  · exact bodyPost_ret (v := .tuple #[.slice (some ⟨w.heap.size + 1 + 1 + 1, 0, none⟩) 1 1, .slice (some ⟨w.heap.size + 1 + 1, 0, none⟩) 1 1]) (by simp [results, Tryz.results9, go_sem]) rfl
      ⟨[⟨t.kind, an, t.names.length, cn, al, t.l.length, cl, t.r⟩], some ⟨w.heap.size + 1 + 1 + 1, 0, none⟩, 1, some ⟨w.heap.size + 1 + 1, 0, none⟩, 1, rfl, rfl, cellRow_blk HB.out.2.1 rfl (by omega), cellRow_blk HB.out.1 rfl (by omega), HB.out.2.2⟩
end Go.Proofs.YtikgkjkgdlnekaaGreatDoor

/- value: handles, plain: how many; what a value of its type has within. -/
set_option linter.unusedVariables false
set_option linter.unusedSimpArgs false
namespace Go.Proofs.YtikgkjkgdlnekaaGreatDoor
open Go.RowKit
open Lex Ct

namespace Ct
theorem catL_len {α : Type} {g : Ty → Vl → Nat} {f : Ty → Vl → List α} : ∀ (ts : List Ty) (vs : List Vl) (n : Nat), (∀ (j : Nat) (t : Ty) (x : Vl), ts[j]? = some t → vs[j]? = some x → (f t x).length ≤ g t x) → sumL g ts vs n ≠ 0 → (catL f ts vs).length + n ≤ sumL g ts vs n
  | [], [], n, hf, h => by unfold sumL catL; simp
  | [], _ :: _, n, hf, h => by unfold sumL at h; exact absurd rfl h
  | _ :: _, [], n, hf, h => by unfold sumL catL; simp
  | t :: ts, v :: vs, n, hf, h => by
    unfold sumL at h ⊢
    unfold catL
    split at h
    · exact absurd rfl h
    · rename_i q
      rw [if_neg q, List.length_append]
      have h0 := hf 0 t v rfl rfl
      have h1 := catL_len ts vs (n + g t v) (fun j t x ht hx => hf (j + 1) t x ht hx) h
      omega
theorem catL_take {α : Type} {f : Ty → Vl → List α} : ∀ (ts : List Ty) (vs : List Vl) (i : Nat) (t : Ty) (x : Vl), ts[i]? = some t → vs[i]? = some x → catL f (ts.take (i + 1)) (vs.take (i + 1)) = catL f (ts.take i) (vs.take i) ++ f t x
  | [], _, i, t, x, ht, hx => by simp at ht
  | _ :: _, [], i, t, x, ht, hx => by simp at hx
  | t' :: ts, v :: vs, 0, t, x, ht, hx => by
    have e1 : t' = t := Option.some.inj ht
    have e2 : v = x := Option.some.inj hx
    subst e1 e2
    rw [List.take_succ_cons, List.take_succ_cons, List.take_zero, List.take_zero, List.take_zero, List.take_zero]
    unfold catL
    rw [catL_nil]
    simp [catL]
  | t' :: ts, v :: vs, i + 1, t, x, ht, hx => by
    rw [List.take_succ_cons, List.take_succ_cons, List.take_succ_cons, List.take_succ_cons]
    unfold catL
    rw [catL_take ts vs i t x ht hx, List.append_assoc]
/-- What a value of its type has within, and that each is of its type. -/
theorem ins_parts {k : Nat} {t : Ty} {v : Vl} (h : deepK (k + 1) t = true) (hp : partsK (k + 1) t v ≠ 0) (h20 : ¬ 20 ≤ t.kind) :
    ∃ ts, insO t v = some ts ∧ ts.length = v.l.length ∧ ∀ (j : Nat) (u : Ty) (x : Vl), ts[j]? = some u → v.l[j]? = some x → deepK k u = true ∧ partsK k u x ≠ 0 := by
  have hkind := deepK_kind h
  have hwh := whole_num t v.n
  by_cases hcp : 12 ≤ t.kind ∧ t.kind ≤ 18
  · have hz : ¬ (wholeK t.kind v.n ≠ 0) := by rw [hwh.1]; omega
    unfold partsK at hp
    rw [if_neg hz, if_neg (by omega), if_neg (by omega)] at hp
    split at hp
    · exact absurd rfl hp
    · rename_i hs
      rw [if_neg (by omega)] at hp
      rcases wit_ins (v := v) h hcp (by omega) with ⟨hsh, ts, hi, hlen, hin⟩ | ⟨hsh, hi⟩
      · rw [hi] at hp
        have hp : sumL (partsK k) ts v.l 1 ≠ 0 := hp
        exact ⟨ts, hi, hlen, fun j u x hu hx => ⟨(hin j u x hu hx).1, sumL_all ts v.l 1 hp j u x hu hx⟩⟩
      · rw [hi] at hp
        exact absurd rfl hp
  · have hl : v.l.length = 0 := by
      unfold partsK at hp
      by_cases hz : wholeK t.kind v.n ≠ 0
      · rw [if_pos hz] at hp
        split at hp
        · exact absurd rfl hp
        · rename_i q
          omega
      · rw [if_neg hz] at hp
        by_cases h10 : t.kind = 10
        · rw [if_pos h10] at hp
          split at hp
          · exact absurd rfl hp
          · rename_i q
            rcases Nat.eq_zero_or_pos v.l.length with q2 | q2
            · exact q2
            · exact absurd (.inr (.inr (by omega))) q
        · rw [if_neg h10] at hp
          by_cases h11 : t.kind = 11
          · rw [if_pos h11] at hp
            split at hp
            · rename_i q
              exact q.2.2.1
            · exact absurd rfl hp
          · rw [if_neg h11] at hp
            have h19 : t.kind = 19 := by rw [hwh.1] at hz; omega
            split at hp
            · exact absurd rfl hp
            · split at hp
              · rename_i q
                exact q.2
              · exact absurd rfl hp
    refine ⟨[], ?_, by rw [hl]; rfl, fun j u x hu hx => by simp at hu⟩
    unfold insO
    rw [if_neg (by omega), if_neg (by omega), if_neg (by omega), if_pos hl]
theorem hdsR_len : ∀ (k : Nat) (t : Ty) (v : Vl), deepK k t = true → partsK k t v ≠ 0 → (hdsR k t v).length ≤ partsK k t v
  | 0, t, v, h, hp => by cases h
  | k + 1, t, v, h, hp => by
    unfold hdsR
    by_cases h20 : 20 ≤ t.kind
    · rw [if_pos h20]
      show 1 ≤ _
      omega
    · rw [if_neg h20]
      obtain ⟨ts, hi, hlen, hin⟩ := ins_parts h hp h20
      rw [hi]
      show (catL (hdsR k) ts v.l).length ≤ _
      by_cases h0 : v.l = []
      · rw [h0, catL_nil]
        exact Nat.zero_le _
      · have hkind := deepK_kind h
        have hwh := whole_num t v.n
        have hl0 : v.l.length ≠ 0 := fun e => h0 (List.length_eq_zero_iff.1 e)
        have hcp : 12 ≤ t.kind ∧ t.kind ≤ 18 := by
          rcases Classical.em (12 ≤ t.kind ∧ t.kind ≤ 18) with q | q
          · exact q
          · exfalso
            unfold insO at hi
            rw [if_neg (by omega), if_neg (by omega), if_neg (by omega), if_neg hl0] at hi
            cases hi
        have hz : ¬ (wholeK t.kind v.n ≠ 0) := by rw [hwh.1]; omega
        unfold partsK at hp ⊢
        rw [if_neg hz, if_neg (by omega), if_neg (by omega)] at hp ⊢
        split at hp
        · exact absurd rfl hp
        · rename_i hs
          rw [if_neg hs]
          rw [if_neg (by omega)] at hp ⊢
          rw [hi] at hp ⊢
          have := catL_len (g := partsK k) (f := hdsR k) ts v.l 1 (fun j u x hu hx => hdsR_len k u x (hin j u x hu hx).1 (hin j u x hu hx).2) hp
          show (catL (hdsR k) ts v.l).length ≤ sumL (partsK k) ts v.l 1
          omega
end Ct
end Go.Proofs.YtikgkjkgdlnekaaGreatDoor

/- value: handles: an append of a row, be it empty or not. -/
set_option linter.unusedVariables false
set_option linter.unusedSimpArgs false
namespace Go.Proofs.YtikgkjkgdlnekaaGreatDoor
open Go.RowKit
open Lex Ct

/-- An append of a row to an owned row, be it empty or not. -/
theorem app_types {ops : Array Oper} {rest : List Oper} {o : Oper} {a : Act} {Q : Exit → Act → World → Prop} {w : World} (hgd : o.guard = none) (s x : Operand)
    (ho : o.op = .call { callee := .builtin .append, args := #[s, x], argTypes := #[23, 23] }) (B : Nat) (v : Value) (n : Nat) (vs : List Value) (hs : a.eval s = v) (hown : w.ownsRow B 25 4 v n vs)
    (b : Option Addr) (k c : Nat) (news : List Value) (hx : a.eval x = .slice b k c) (B' : Nat) (hc : CellRow w B' news 4 b k c) (h1 : ∀ u ∈ news, u.oneCell' = true) (hn : n + k ≤ 100000) (hbase : B ≤ w.heap.size)
    (h : ∀ a' cap' w', w'.ownsRow B 25 4 (.slice a' (n + k) cap') (n + k) (vs ++ news) → Kept (fun b => some b = v.ownBlock) w w' → wpList Tryz.prog ops Q rest (a.put o.dst (.slice a' (n + k) cap')) w') : wpList Tryz.prog ops Q (o :: rest) a w := by
  obtain ⟨i0, hi, hz0, hz1, hz2⟩ := info_ty
  rcases Nat.eq_zero_or_pos k with hk | hk
  · subst hk
    have hnews : news = [] := List.length_eq_zero_iff.1 (by rw [hc.1, Nat.zero_mul])
    subst hnews
    obtain ⟨a', cap', rfl⟩ := own_slice hown
    have hcap : n ≤ cap' := by
      rcases hown.2 with ⟨e, e0⟩ | ⟨g, cap, cur, e, hh⟩
      · omega
      · injection e with _ _ e3
        subst e3
        first | exact hh.2.2.2.1 | exact hh.2.2.2.2.1 | exact hh.2.2.1 | omega
    refine wpList_append_run hgd s x _ _ ho (.slice a' n cap') w ?_ ?_
    · rw [hs, hx]
      exact append_no_type a' b n cap' c w o.type hcap
    · exact h a' cap' w (by rw [List.append_nil]; exact hown) (Kept.refl _ _)
  · rcases hc.2.2 with e | ⟨g, o', e, _, hg, hcl⟩
    · omega
    · subst e
      exact wpList_append_lies w hgd s x 23 ho B 25 i0 (.agg #[.int .i64 0, .slice none 0 0, .slice none 0 0, .int .i64 0]) 4 64 Tryz.underlying23 hi hz0 hz1 hz2 rfl (by decide) v n vs hs hown ⟨g, o', none⟩ k c news hx hc.1 hcl h1 hk (by unfold maxLen; omega) (by omega) hbase _ rfl (fun g' cap' w' ho' hg' _ _ => h _ cap' w' ho' ((Kept.grow hg').mono fun b e => e))

/-- An append of a row to an owned row, be it empty or not. -/
theorem app_ints {ops : Array Oper} {rest : List Oper} {o : Oper} {a : Act} {Q : Exit → Act → World → Prop} {w : World} (hgd : o.guard = none) (s x : Operand)
    (ho : o.op = .call { callee := .builtin .append, args := #[s, x], argTypes := #[26, 26] }) (B : Nat) (v : Value) (n : Nat) (vs : List Value) (hs : a.eval s = v) (hown : w.ownsRow B 3 1 v n vs)
    (b : Option Addr) (k c : Nat) (news : List Value) (hx : a.eval x = .slice b k c) (B' : Nat) (hc : CellRow w B' news 1 b k c) (h1 : ∀ u ∈ news, u.oneCell' = true) (hn : n + k ≤ 100000) (hbase : B ≤ w.heap.size)
    (h : ∀ a' cap' w', w'.ownsRow B 3 1 (.slice a' (n + k) cap') (n + k) (vs ++ news) → Kept (fun b => some b = v.ownBlock) w w' → wpList Tryz.prog ops Q rest (a.put o.dst (.slice a' (n + k) cap')) w') : wpList Tryz.prog ops Q (o :: rest) a w := by
  obtain ⟨i0, hi, hz0, hz1, hz2⟩ := info_int2
  rcases Nat.eq_zero_or_pos k with hk | hk
  · subst hk
    have hnews : news = [] := List.length_eq_zero_iff.1 (by rw [hc.1, Nat.zero_mul])
    subst hnews
    obtain ⟨a', cap', rfl⟩ := own_slice hown
    have hcap : n ≤ cap' := by
      rcases hown.2 with ⟨e, e0⟩ | ⟨g, cap, cur, e, hh⟩
      · omega
      · injection e with _ _ e3
        subst e3
        first | exact hh.2.2.2.1 | exact hh.2.2.2.2.1 | exact hh.2.2.1 | omega
    refine wpList_append_run hgd s x _ _ ho (.slice a' n cap') w ?_ ?_
    · rw [hs, hx]
      exact append_no_int a' b n cap' c w o.type hcap
    · exact h a' cap' w (by rw [List.append_nil]; exact hown) (Kept.refl _ _)
  · rcases hc.2.2 with e | ⟨g, o', e, _, hg, hcl⟩
    · omega
    · subst e
      exact wpList_append_lies w hgd s x 26 ho B 3 i0 (.int .i64 0) 1 8 Tryz.underlying26 hi hz0 hz1 hz2 rfl (by decide) v n vs hs hown ⟨g, o', none⟩ k c news hx hc.1 hcl h1 hk (by unfold maxLen; omega) (by omega) hbase _ rfl (fun g' cap' w' ho' hg' _ _ => h _ cap' w' ho' ((Kept.grow hg').mono fun b e => e))

end Go.Proofs.YtikgkjkgdlnekaaGreatDoor

/- value: the reference's Handles of any value of its type. -/
set_option linter.unusedVariables false
set_option linter.unusedSimpArgs false
namespace Go.Proofs.YtikgkjkgdlnekaaGreatDoor
open Go.RowKit
open Lex Ct

def HdsAt (k : Nat) : Prop := ∀ (t : Ty) (v : Vl), deepK k t = true → partsK k t v ≠ 0 → LtV v → ∀ (an : Option Addr) (cn : Nat) (al : Option Addr) (cl : Nat) (sa : Option Addr) (sc : Nat) (av : Option Addr) (cv : Nat) (w : World), TyAt w t an cn al cl → VlAt w v sa sc av cv →
  Calls Tryz.prog 9 #[tyV t an cn al cl, vlV v sa sc av cv] w (HdsR (hdsR k t v) w)
theorem catL_mono {α : Type} {f : Ty → Vl → List α} : ∀ (ts : List Ty) (vs : List Vl) (i : Nat), ts.length = vs.length → (catL f (ts.take i) (vs.take i)).length ≤ (catL f ts vs).length
  | [], vs, i, h => by simp [catL]
  | _ :: _, [], i, h => by cases h
  | t :: ts, v :: vs, 0, h => by simp [catL]
  | t :: ts, v :: vs, i + 1, h => by
    rw [List.take_succ_cons, List.take_succ_cons]
    unfold catL
    rw [List.length_append, List.length_append]
    have := catL_mono (f := f) ts vs i (by simpa using h)
    omega
theorem qd_one (qs : List Qd) : ∀ u ∈ qs.flatMap Qd.cs, u.oneCell' = true := by
  intro u hu
  obtain ⟨q, _, hq⟩ := List.mem_flatMap.1 hu
  simp only [Qd.cs, List.mem_cons, List.not_mem_nil, or_false] at hq
  rcases hq with rfl | rfl | rfl | rfl <;> rfl
theorem int_one (l : List (Int × Int × Int)) : ∀ u ∈ l.map (fun h => Value.int .i64 h.2.2), u.oneCell' = true := by
  intro u hu
  obtain ⟨h, _, rfl⟩ := List.mem_map.1 hu
  rfl
theorem own_apart {w : World} {B : Nat} {a b : Value} {n m : Nat} {xs ys : List Value} (h : w.ownsRow B 25 4 a n xs) (h' : w.ownsRow B 3 1 b m ys) : ∀ k, a.ownBlock = some k → b.ownBlock ≠ some k := by
  intro k hk hk'
  obtain ⟨c, f, e⟩ := Lib.ownsRow_kind h k hk
  obtain ⟨c', f', e'⟩ := Lib.ownsRow_kind h' k hk'
  rw [e] at e'
  injection e' with e'
  injection e' with _ e2 _
  exact absurd e2 (by decide)
theorem own_cell {w : World} {B B' : Nat} {T : TypeId} {m : Nat} {a : Option Addr} {n cap : Nat} {vs : List Value} (h : w.ownsRow B T m (.slice a n cap) n vs) (hB : B' ≤ B) : CellRow w B' vs m a n cap := by
  rcases h.2 with ⟨e, e0⟩ | ⟨g, cap', cur, e, hb, hg, hc, _⟩
  · injection e with e1 e2 e3
    exact ⟨h.1, by omega, .inl e0⟩
  · injection e with e1 e2 e3
    subst e1 e3
    exact ⟨h.1, hc, .inr ⟨g, 0, rfl, Nat.le_trans hB hb, (Array.getElem?_eq_some_iff.1 hg).1, World.ownsRow.cells h rfl⟩⟩
set_option maxRecDepth 100000 in
set_option maxHeartbeats 8000000 in
theorem rdRHands_go {k : Nat} (IH : HdsAt k) (t : Ty) (v : Vl) (hd : deepK (k + 1) t = true) (hp : partsK (k + 1) t v ≠ 0) (hlt : LtV v) (h20 : ¬ 20 ≤ t.kind) (an : Option Addr) (cn : Nat) (al : Option Addr) (cl : Nat) (sa : Option Addr) (sc : Nat) (av : Option Addr) (cv : Nat) (w : World) (h : TyAt w t an cn al cl) (hv : VlAt w v sa sc av cv) :
    Calls Tryz.prog 9 #[tyV t an cn al cl, vlV v sa sc av cv] w (HdsR (hdsR (k + 1) t v) w) := by
  obtain ⟨ts, hi, hlen, hin⟩ := ins_parts hd hp h20
  have hres : hdsR (k + 1) t v = catL (hdsR k) ts v.l := by
    conv => lhs; unfold hdsR
    rw [if_neg h20, hi]
  have hall : ∀ i, i ≤ v.l.length → (catL (hdsR k) (ts.take i) (v.l.take i)).length ≤ 4000 := fun i hi => by
    have h1 := catL_mono (f := hdsR k) ts v.l i hlen
    have h2 := hdsR_len (k + 1) t v hd hp
    have h3 := partsK_le (k + 1) t v
    rw [hres] at h2
    omega
  have k0 : Kept (fun _ => False) w ((w.alloc (.cells #[.int .i64 t.kind, .slice an t.names.length cn, .slice al t.l.length cl, .int .i64 t.r] 25)).alloc (.cells #[.int .i64 v.n, .slice sa v.s.length sc, .slice av v.l.length cv] 29)) := ((Kept.refl _ _).new _).new _
  have T0 := (BlkAt.new w #[.int .i64 t.kind, .slice an t.names.length cn, .slice al t.l.length cl, .int .i64 t.r] 25).kept (F := fun _ => False) ((Kept.refl _ _).new (.cells #[.int .i64 v.n, .slice sa v.s.length sc, .slice av v.l.length cv] 29)) id
  have V0 := BlkAt.new (w.alloc (.cells #[.int .i64 t.kind, .slice an t.names.length cn, .slice al t.l.length cl, .int .i64 t.r] 25)) #[.int .i64 v.n, .slice sa v.s.length sc, .slice av v.l.length cv] 29
  rw [World.size_alloc] at V0
  have HV := Lib.hid V0
  have HK := Lib.hid k0
  have HI := Lib.hid (fun w' (k' : Kept (fun _ => False) w w') => rdInside k t an cn al cl v sa sc av cv w' (h.kept k') hd hlt.parts.2.1)
  rw [hi] at HI
  unfold InsR at HI
  have hge : decide (t.kind ≥ 20) = false := by simp; omega
  have HAV : Hid (VRowAt w v.l av cv) := Lib.hid ⟨hv.l⟩
  have HIN := Lib.hid hin
  have HLT := Lib.hid hlt.parts.2.2
  have HAL := Lib.hid hall
  have HLN := Lib.hid hlen
  have HIH := Lib.hid IH
  have h2000 : v.l.length ≤ 20000 := hlt.parts.2.1
  rw [hres]
  clear h hv hd hp hlt h20 hi hin hres hall hlen k0 T0 V0 IH
  go_enter Tryz.func9, Tryz.ntmps9
  go_wp2_with (first
    | (go_at_call 21
       refine (HI.out _ HK.out).mono ?_
       rintro y w1 ⟨ts', a5, c5, b5, rfl, hrow, _, hyes, k1⟩
       obtain ⟨rfl, e⟩ := hyes ts rfl
       have e2 := e.symm
       subst e2
       have HRW := Lib.hid hrow
       have HV1 := Lib.hid (HV.out.kept (F := fun _ => False) k1 id)
       have HK1 := Lib.hid (HK.out.trans k1)
       clear hrow hyes k1 e))
  go_loopw [6, 7, 10] (fun a b u wr => ∃ (i : Nat) (qs : List Qd) (ns : List Int), u = .int .i64 i ∧ i ≤ v.l.length ∧ Hid (Kept (fun _ => False) w1 wr ∧ wr.ownsRow w1.heap.size 25 4 a qs.length (qs.flatMap Qd.cs) ∧ wr.ownsRow w1.heap.size 3 1 b ns.length (ns.map (Value.int .i64)) ∧ qs.map (fun q => (q.k, q.r)) = (catL (hdsR k) (ts.take (i)) (v.l.take (i))).map (fun h => (h.1, h.2.1)) ∧ ns = (catL (hdsR k) (ts.take (i)) (v.l.take (i))).map (fun h => h.2.2))) (fun _ _ u _ => v.l.length - (intOf u).toNat)
  case atStart => exact ⟨0, [], [], rfl, Nat.zero_le _, Lib.hid ⟨Kept.refl _ _, World.ownsRow_nil _ _ _ _, World.ownsRow_nil _ _ _ _, rfl, rfl⟩⟩
  case round =>
    obtain ⟨i, qs, ns, rfl, hi', hst⟩ := hrel
    obtain ⟨aa, ac, rfl⟩ := own_slice hst.out.2.1
    obtain ⟨ba, bc, rfl⟩ := own_slice hst.out.2.2.1
    have HVR := Lib.hid (HV1.out.kept (F := fun _ => False) hst.out.1 id)
    have hlq : qs.length = (catL (hdsR k) (ts.take (i)) (v.l.take (i))).length := by have := congrArg List.length hst.out.2.2.2.1; simpa using this
    have hln : ns.length = (catL (hdsR k) (ts.take (i)) (v.l.take (i))).length := by have := congrArg List.length hst.out.2.2.2.2; simpa using this
    by_cases hlt : i < v.l.length
    · obtain ⟨x, hx⟩ : ∃ x, v.l[i]? = some x := ⟨_, List.getElem?_eq_getElem hlt⟩
      obtain ⟨u, hu⟩ : ∃ u, ts[i]? = some u := ⟨_, List.getElem?_eq_getElem (by have := HLN.out; omega)⟩
      obtain ⟨ga, oa, bn, dn, bl, dl, rfl, hga, htx, d0, d1, d2, d3⟩ := (HRW.out.kept hst.out.1).at hu
      obtain ⟨gb, ob, ax, cx, ay, cy, rfl, hgb, hvx, c0, c1, c2⟩ := (HAV.out.kept (HK1.out.trans hst.out.1)).at hx
      have htake := catL_take (f := hdsR k) ts v.l i u x hu hx
      have hsz := HAL.out (i + 1) hlt
      rw [htake, List.length_append] at hsz
      have hix := HIN.out i u x hu hx
      have HX : Hid (∀ w', Kept (fun _ => False) wr w' → Calls Tryz.prog 9 #[tyV u bn dn bl dl, vlV x ax cx ay cy] w' (HdsR (hdsR k u x) w')) := Lib.hid (fun w' k' => HIH.out u x hix.1 hix.2 (HLT.out x (List.mem_of_getElem? hx)) bn dn bl dl ax cx ay cy w' (htx.kept k') (hvx.kept k'))
      unfold HdsR at HX
      generalize hD : hdsR k u x = D at HX htake hsz
      have HTK := Lib.hid htake
      have hia : i < ts.length := (List.getElem?_eq_some_iff.1 hu).1
      have HW : Hid (∀ w', Kept (fun _ => False) wr w' → w'.cell? ⟨w.heap.size + 1, 2, none⟩ = some (.slice (some ⟨gb, ob, none⟩) v.l.length cv) ∧ w'.cell? ⟨ga, oa + i * 4, none⟩ = some (.int .i64 u.kind) ∧ w'.cell? ⟨ga, oa + i * 4 + 1, none⟩ = some (.slice bn u.names.length dn) ∧ w'.cell? ⟨ga, oa + i * 4 + 2, none⟩ = some (.slice bl u.l.length dl) ∧ w'.cell? ⟨ga, oa + i * 4 + 3, none⟩ = some (.int .i64 u.r) ∧ w'.cell? ⟨gb, ob + i * 3, none⟩ = some (.int .i64 x.n) ∧ w'.cell? ⟨gb, ob + i * 3 + 1, none⟩ = some (.slice ax x.s.length cx) ∧ w'.cell? ⟨gb, ob + i * 3 + 2, none⟩ = some (.slice ay x.l.length cy)) := Lib.hid (fun w' k' => ⟨(HVR.out.kept (F := fun _ => False) k' id).cell 2, (k'.cell1 hga).trans d0, (k'.cell1 hga).trans d1, (k'.cell1 hga).trans d2, (k'.cell1 hga).trans d3, (k'.cell1 hgb).trans c0, (k'.cell1 hgb).trans c1, (k'.cell1 hgb).trans c2⟩)
      have q0 : Kept (fun _ => False) wr wr.drew := (Kept.refl _ _).drew
      have E0 := Lib.hid (HW.out _ q0)
      have v2 := HVR.out.cell 2
      simp at v2
      have HLTI : Hid (i + 1 ≤ v.l.length) := Lib.hid hlt
      have hltI : decide (i < v.l.length) = true := decide_eq_true hlt
      have hltT : decide (i < ts.length) = true := decide_eq_true hia
      have hwi : IntKind.i64.wrap ((i : Int) + 1) = ((i + 1 : Nat) : Int) := by rw [IntKind.wrap_i64]; omega
      have HSZ := Lib.hid (And.intro hsz (And.intro hlq hln))
      clear hx hu hga htx d0 d1 d2 d3 hgb hvx c0 c1 c2 htake hsz hix hD hlq hln
      go_wp2_with fail
      go_region_held3 (fun w' => w'.cell? ⟨w.heap.size + 1, 2, none⟩ = some (.slice (some ⟨gb, ob, none⟩) v.l.length cv) ∧ w'.cell? ⟨ga, oa + i * 4, none⟩ = some (.int .i64 u.kind) ∧ w'.cell? ⟨ga, oa + i * 4 + 1, none⟩ = some (.slice bn u.names.length dn) ∧ w'.cell? ⟨ga, oa + i * 4 + 2, none⟩ = some (.slice bl u.l.length dl) ∧ w'.cell? ⟨ga, oa + i * 4 + 3, none⟩ = some (.int .i64 u.r) ∧ w'.cell? ⟨gb, ob + i * 3, none⟩ = some (.int .i64 x.n) ∧ w'.cell? ⟨gb, ob + i * 3 + 1, none⟩ = some (.slice ax x.s.length cx) ∧ w'.cell? ⟨gb, ob + i * 3 + 2, none⟩ = some (.slice ay x.l.length cy))
        (first | exact E0.out | exact HW.out _ q0)
        (first
          | (go_at_call 9
             refine (HX.out _ q0).mono ?_
             rintro y w3 ⟨qs3, a3, ca3, b3, cb3, rfl, hm3, hr3, hn3, k3⟩
             have hq3 : qs3.length = D.length := by have := congrArg List.length hm3; simpa using this
             have HR3 := Lib.hid (And.intro hm3 (And.intro hr3 (And.intro hn3 (And.intro hq3 q0.size))))
             replace q0 := q0.trans k3
             clear hm3 hr3 hn3 hq3 k3 E0))
      all_goals go_wp2_with (first
        | (at_builtin
           refine app_types rfl _ _ rfl w1.heap.size _ qs.length (qs.flatMap Qd.cs) rfl (ownsRow_kept hst.out.2.1 q0 (fun _ _ e => e)) _ qs3.length _ (qs3.flatMap Qd.cs) rfl _ HR3.out.2.1 (qd_one qs3) (by have := HSZ.out; have := HR3.out.2.2.2.1; omega) (Nat.le_trans hst.out.1.size q0.size) ?_
           intro a6 c6 w6 ho6 k6
           have HA6 := Lib.hid (And.intro ho6 k6)
           clear ho6 k6)
        | (at_builtin
           have hb6 := ownsRow_kept (ownsRow_kept hst.out.2.2.1 q0 (fun _ _ e => e)) HA6.out.2 (fun b hb e => own_apart hst.out.2.1 hst.out.2.2.1 b e.symm hb)
           refine app_ints rfl _ _ rfl w1.heap.size _ ns.length (ns.map (Value.int .i64)) rfl hb6 _ D.length _ (D.map fun h => .int .i64 h.2.2) rfl _ (HR3.out.2.2.1.kept HA6.out.2 (fun g hg _ e => by have := own_lt hst.out.2.1 g e.symm; have := HR3.out.2.2.2.2; omega)) (int_one D) (by have := HSZ.out; omega) (Nat.le_trans (Nat.le_trans hst.out.1.size q0.size) HA6.out.2.size) ?_
           intro a7 c7 w7 ho7 k7
           have HA7 := Lib.hid (And.intro ho7 (And.intro k7 (ownsRow_kept HA6.out.1 k7 (fun b hb e => own_apart HA6.out.1 hb6 b hb e.symm))))
           clear ho7 k7 hb6))
      all_goals exact ⟨⟨i + 1, qs ++ qs3, ns ++ D.map (fun h => h.2.2), by first | rw [hwi] | rfl, HLTI.out, Lib.hid ⟨((((hst.out.1.trans q0).any (F := (w1.heap.size ≤ ·))).trans (HA6.out.2.mono (fun b e => (own_lt hst.out.2.1 b e.symm).1))).trans (HA7.out.2.1.mono (fun b e => (own_lt hst.out.2.2.1 b e.symm).1))).clear (fun j hj e => by have e : w1.heap.size ≤ j := e; omega), by rw [List.length_append, List.flatMap_append]; exact HA7.out.2.2, by rw [List.length_append, List.length_map, List.map_append, List.map_map]; exact HA7.out.1, by rw [HTK.out, List.map_append, List.map_append, hst.out.2.2.2.1, HR3.out.1], by rw [HTK.out, List.map_append, ← hst.out.2.2.2.2]⟩⟩, by have hlt := HLTI.out; simp [intOf]; omega⟩
    · have hie : i = v.l.length := by omega
      subst hie
      have hltI : decide (v.l.length < v.l.length) = false := decide_eq_false hlt
      have hfull : (catL (hdsR k) (ts.take (v.l.length)) (v.l.take (v.l.length))) = catL (hdsR k) ts v.l := by rw [List.take_of_length_le (by have := HLN.out; omega), List.take_of_length_le (Nat.le_refl _)]
      have HF := Lib.hid hfull
      have HLQ := Lib.hid (And.intro hlq hln)
      have v2 := HVR.out.cell 2
      simp at v2
      clear hfull hlt hlq hln
      go_wp2_with fail
      refine bodyPost_ret (v := .tuple #[.slice aa qs.length ac, .slice ba ns.length bc]) (by simp [results, Tryz.results9, go_sem]) rfl ?_
      have hst := hst.out
      rw [HF.out] at hst
      have hl := HLQ.out.2
      rw [HF.out] at hl
      refine ⟨qs, aa, ac, ba, bc, by rw [hl], hst.2.2.2.1, own_cell hst.2.1 HK1.out.size, ?_, HK1.out.trans hst.1⟩
      have hb := own_cell (B' := w.heap.size) hst.2.2.1 HK1.out.size
      rw [hst.2.2.2.2, List.map_map, List.length_map] at hb
      exact hb
/-- THE REFERENCE's HANDLES, of any value of its type. -/
theorem rdRHands : ∀ k, HdsAt k
  | 0 => by
    intro t v hd
    cases hd
  | k + 1 => by
    intro t v hd hp hlt an cn al cl sa sc av cv w h hv
    by_cases h20 : 20 ≤ t.kind
    · have e : hdsR (k + 1) t v = [(t.kind, t.r, v.n)] := by
        conv => lhs; unfold hdsR
        rw [if_pos h20]
      rw [e]
      exact rdRHands20 t an cn al cl v sa sc av cv w h20
    · exact rdRHands_go (rdRHands k) t v hd hp hlt h20 an cn al cl sa sc av cv w h hv
end Go.Proofs.YtikgkjkgdlnekaaGreatDoor
