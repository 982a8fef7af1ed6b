/- value: handles: the closure that is told them. -/
import Derived.Test.YtikgkjkgdlnekaaGreatDoorCtLV
import Derived.Test.YtikgkjkgdlnekaaGreatDoorCtWC
import Derived.Deep.AppendLies
import Derived.Deep.RegionHeld3
import Derived.Deep.RegionLaw
import Derived.Lib.OwnKind
import Derived.Deep.Cut
import Derived.Deep.CutRange
import Derived.Deep.DeepCutAuto
set_option linter.unusedVariables false
set_option linter.unusedSimpArgs false
namespace Go.Proofs.YtikgkjkgdlnekaaGreatDoor
open Go.RowKit
open Lex Ct

theorem box4H {w : World} {b : Nat} {c0 c1 c2 c3 : Value} {T : TypeId} (h : BlkAt w b #[c0, c1, c2, c3] T) : w.cell? ⟨b, 0, none⟩ = some c0 ∧ w.cell? ⟨b, 1, none⟩ = some c1 ∧ w.cell? ⟨b, 2, none⟩ = some c2 ∧ w.cell? ⟨b, 3, none⟩ = some c3 := ⟨h.cell 0, h.cell 1, h.cell 2, h.cell 3⟩
/-- What a call leaves of a state that stands in blocks of F. -/
def TelR (St : (Nat → Prop) → List (Int × Int × Int) → World → Prop) (F : Nat → Prop) (hs : List (Int × Int × Int)) (w : World) (y : Ending) (w' : World) : Prop :=
  y = .returned (.tuple #[]) ∧ ∃ F' : Nat → Prop, St F' hs w' ∧ Kept F w w' ∧ ∀ g, F' g → F g ∨ w.heap.size ≤ g
/-- A closure that is told handles. -/
structure TelAt (fid : Nat) (lb : Array Value) (St : (Nat → Prop) → List (Int × Int × Int) → World → Prop) : Prop where
  eg : ∀ args w, (callFunc fid args).run Tryz.prog w = .ok (.enter fid args) w
  kept : ∀ F hs w w', St F hs w → Kept (fun _ => False) w w' → St F hs w'
  lt : ∀ F hs w, St F hs w → ∀ g, F g → g < w.heap.size
  call : ∀ (F : Nat → Prop) (hs : List (Int × Int × Int)) (w : World) (t : Ty) (an : Option Addr) (cn : Nat) (al : Option Addr) (cl : Nat) (g o : Nat) (n : Int), St F hs w → ¬ F g → g < w.heap.size → w.cell? ⟨g, o, none⟩ = some (.int .i64 n) → hs.length < 4000 →
    Calls Tryz.prog fid (#[tyV t an cn al cl, .pointer (some ⟨g, o, none⟩)] ++ lb) w (TelR St F (hs ++ [(t.kind, t.r, n)]) w)
def tyCs (hs : List (Int × Int × Int)) : List Value := hs.flatMap fun h => [.int .i64 h.1, .slice none 0 0, .slice none 0 0, .int .i64 h.2.1]
def nuCs (hs : List (Int × Int × Int)) : List Value := hs.map fun h => .int .i64 h.2.2
structure HoldAt (B bt bn : Nat) (a : Option Addr) (ca : Nat) (b : Option Addr) (cb : Nat) (hs : List (Int × Int × Int)) (w : World) : Prop where
  t : BlkAt w bt #[.slice a hs.length ca] 23
  n : BlkAt w bn #[.slice b hs.length cb] 26
  ty : w.ownsRow B 25 4 (.slice a hs.length ca) hs.length (tyCs hs)
  nu : w.ownsRow B 3 1 (.slice b hs.length cb) hs.length (nuCs hs)
  B : B ≤ w.heap.size
theorem HoldAt.kept {B bt bn : Nat} {a : Option Addr} {ca : Nat} {b : Option Addr} {cb : Nat} {hs : List (Int × Int × Int)} {w w' : World} (h : HoldAt B bt bn a ca b cb hs w) (k : Kept (fun _ => False) w w') : HoldAt B bt bn a ca b cb hs w' :=
  ⟨h.t.kept k id, h.n.kept k id, ownsRow_kept h.ty k (fun _ _ e => e), ownsRow_kept h.nu k (fun _ _ e => e), Nat.le_trans h.B k.size⟩
def StH (B bt bn : Nat) (F : Nat → Prop) (hs : List (Int × Int × Int)) (w : World) : Prop := ∃ a ca b cb, HoldAt B bt bn a ca b cb hs w ∧ ∀ g, F g ↔ (g = bt ∨ g = bn ∨ (Value.slice a hs.length ca).ownBlock = some g ∨ (Value.slice b hs.length cb).ownBlock = some g)
theorem handles1_func : ∀ args w, (callFunc 33 args).run Tryz.prog w = .ok (.enter 33 args) w := enters_of Tryz.func33 (by kernel_rfl) rfl
theorem own_last {B bt bn : Nat} {a : Option Addr} {ca : Nat} {b : Option Addr} {cb : Nat} {hs : List (Int × Int × Int)} {w w1 w5 : World} {g5 cap5 : Nat} {zs : List Value} (h5 : w5.ownsRow B 25 4 (.slice (some ⟨g5, 0, none⟩) (hs.length + 1) cap5) (hs.length + 1) (tyCs hs ++ zs)) (hg : w1.grownBy w5 (Value.slice a hs.length ca).ownBlock) (hat : (Value.slice a hs.length ca).ownBlock = some g5 ∨ g5 = w1.heap.size)
    (h : HoldAt B bt bn a ca b cb hs w) (k : Kept (fun _ => False) w w1) (hB : bt < B ∧ bn < B ∧ bt ≠ bn) :
    ∃ cur, BlkAt w5 g5 cur 25 ∧ w5.cell? ⟨g5, hs.length * 4, none⟩ = zs[0]? ∧ w5.cell? ⟨g5, hs.length * 4 + 1, none⟩ = zs[1]? ∧ w5.cell? ⟨g5, hs.length * 4 + 2, none⟩ = zs[2]? ∧ w5.cell? ⟨g5, hs.length * 4 + 3, none⟩ = zs[3]? ∧ BlkAt w5 bt #[.slice a hs.length ca] 23 ∧ BlkAt w5 bn #[.slice b hs.length cb] 26 ∧ B ≤ g5 := by
  have hl := h.ty.1
  have hb : ∀ x, x < B → (Value.slice a hs.length ca).ownBlock ≠ some x := fun x hx e => by
    have := (World.ownsRow.lt h.ty x e).1
    omega
  have hc := World.ownsRow.cells h5 rfl
  have hcell : ∀ j u, zs[j]? = some u → w5.cell? ⟨g5, hs.length * 4 + j, none⟩ = some u := fun j u hj => by
    have := hc (hs.length * 4 + j) u (by rw [List.getElem?_append_right (by omega), hl, Nat.add_sub_cancel_left]; exact hj)
    rw [Go.WideShapes.add_plain, Nat.zero_add] at this
    exact this
  have hz : zs.length = 4 := by
    have := h5.1
    rw [List.length_append, hl] at this
    omega
  rcases h5.2 with ⟨e, e0⟩ | ⟨g, cap', cur, e, hb', hgg, _⟩
  · omega
  · injection e with e1 e2 e3
    injection e1 with e1
    injection e1 with e1
    subst e1
    refine ⟨cur, hgg, ?_, ?_, ?_, ?_, (h.t.kept k id).kept (Kept.grow hg) (fun e => hb bt hB.1 e.symm), (h.n.kept k id).kept (Kept.grow hg) (fun e => hb bn hB.2.1 e.symm), hb'⟩
    · rw [List.getElem?_eq_getElem (by omega)]; exact hcell 0 _ (List.getElem?_eq_getElem _)
    · rw [List.getElem?_eq_getElem (by omega)]; exact hcell 1 _ (List.getElem?_eq_getElem _)
    · rw [List.getElem?_eq_getElem (by omega)]; exact hcell 2 _ (List.getElem?_eq_getElem _)
    · rw [List.getElem?_eq_getElem (by omega)]; exact hcell 3 _ (List.getElem?_eq_getElem _)
theorem take_set4 {L xs zs : List Value} {m : Nat} (hx : xs.length = m) (hz : zs.length = 4) (h : L.take (m + 4) = xs ++ zs) (a b c d : Value) : ((((L.set m a).set (m + 1) b).set (m + 2) c).set (m + 3) d).take (m + 4) = xs ++ [a, b, c, d] := by
  obtain ⟨z0, z1, z2, z3, rfl⟩ : ∃ z0 z1 z2 z3, zs = [z0, z1, z2, z3] := by
    match zs, hz with
    | [z0, z1, z2, z3], _ => exact ⟨z0, z1, z2, z3, rfl⟩
  have e : L = xs ++ ([z0, z1, z2, z3] ++ L.drop (m + 4)) := by
    rw [← List.append_assoc, ← h, List.take_append_drop]
  rw [e]
  generalize L.drop (m + 4) = R
  subst hx
  have key : ((((xs ++ ([z0, z1, z2, z3] ++ R)).set xs.length a).set (xs.length + 1) b).set (xs.length + 2) c).set (xs.length + 3) d = (xs ++ [a, b, c, d]) ++ R := by
    simp [List.set_append]
  rw [key, List.take_append_of_le_length (by simp), List.take_of_length_le (by simp)]
theorem own_set4 {W : World} {B g n cap : Nat} {T : TypeId} {xs zs : List Value} (h : W.ownsRow B T 4 (.slice (some ⟨g, 0, none⟩) (n + 1) cap) (n + 1) (xs ++ zs)) (hx : xs.length = n * 4) (hz : zs.length = 4) (a b c d : Value) :
    ((((W.setCell ⟨g, n * 4, none⟩ a).setCell ⟨g, n * 4 + 1, none⟩ b).setCell ⟨g, n * 4 + 2, none⟩ c).setCell ⟨g, n * 4 + 3, none⟩ d).ownsRow B T 4 (.slice (some ⟨g, 0, none⟩) (n + 1) cap) (n + 1) (xs ++ [a, b, c, d]) := by
  rcases h.2 with ⟨e, e0⟩ | ⟨g', cap', cur, e, hb, hg, hc1, hc2, hsz, htk⟩
  · omega
  · injection e with e1 e2 e3
    injection e1 with e1
    injection e1 with e1
    subst e1 e3
    have B0 : BlkAt W g cur T := hg
    refine ⟨by simp [hx]; omega, .inr ⟨g, cap, _, rfl, hb, (((B0.put (n * 4) a).put (n * 4 + 1) b).put (n * 4 + 2) c).put (n * 4 + 3) d, hc1, hc2, by simp [hsz], ?_⟩⟩
    simp only [Array.toList_setIfInBounds]
    rw [show (n + 1) * 4 = n * 4 + 4 by omega] at htk ⊢
    exact take_set4 hx hz htk a b c d
/-- What stands behind the first append. -/
structure MidAt (w : World) (B bt bn : Nat) (a : Option Addr) (ca : Nat) (b : Option Addr) (cb : Nat) (hs : List (Int × Int × Int)) (kd r : Int) (g1 c1 : Nat) (wc : World) : Prop where
  t : BlkAt wc bt #[.slice (some ⟨g1, 0, none⟩) (hs.length + 1) c1] 23
  n : BlkAt wc bn #[.slice b hs.length cb] 26
  ty : wc.ownsRow B 25 4 (.slice (some ⟨g1, 0, none⟩) (hs.length + 1) c1) (hs.length + 1) (tyCs hs ++ [.int .i64 kd, .slice none 0 0, .slice none 0 0, .int .i64 r])
  nu : wc.ownsRow B 3 1 (.slice b hs.length cb) hs.length (nuCs hs)
  k : Kept (fun q => q = bt ∨ (Value.slice a hs.length ca).ownBlock = some q) w wc
  at' : (Value.slice a hs.length ca).ownBlock = some g1 ∨ w.heap.size ≤ g1
  bs : B ≤ wc.heap.size
  lt : B ≤ g1
theorem own_apart2 {w : World} {B : Nat} {a b : Value} {n m : Nat} {xs ys : List Value} (h : w.ownsRow B 25 4 a n xs) (h' : w.ownsRow B 3 1 b m ys) : ∀ k, a.ownBlock = some k → b.ownBlock ≠ some k := by
  intro k hk hk'
  obtain ⟨c, f, e⟩ := Lib.ownsRow_kind h k hk
  obtain ⟨c', f', e'⟩ := Lib.ownsRow_kind h' k hk'
  rw [e] at e'
  injection e' with e'
  injection e' with _ e2 _
  exact absurd e2 (by decide)
theorem mid_of {B bt bn : Nat} {a : Option Addr} {ca : Nat} {b : Option Addr} {cb : Nat} {hs : List (Int × Int × Int)} {w w1 w5 : World} {g5 cap5 : Nat} {zs : List Value} {kd r : Int} (h5 : w5.ownsRow B 25 4 (.slice (some ⟨g5, 0, none⟩) (hs.length + 1) cap5) (hs.length + 1) (tyCs hs ++ zs)) (hg : w1.grownBy w5 (Value.slice a hs.length ca).ownBlock) (hat : (Value.slice a hs.length ca).ownBlock = some g5 ∨ w.heap.size ≤ g5)
    (h : HoldAt B bt bn a ca b cb hs w) (k : Kept (fun _ => False) w w1) (hB : bt < B ∧ bn < B ∧ bt ≠ bn) (hlt : B ≤ g5) :
    MidAt w B bt bn a ca b cb hs kd r g5 cap5 (((((w5.setCell ⟨g5, hs.length * 4, none⟩ (.int .i64 kd)).setCell ⟨g5, hs.length * 4 + 1, none⟩ (.slice none 0 0)).setCell ⟨g5, hs.length * 4 + 2, none⟩ (.slice none 0 0)).setCell ⟨g5, hs.length * 4 + 3, none⟩ (.int .i64 r)).setCell ⟨bt, 0, none⟩ (.slice (some ⟨g5, 0, none⟩) (hs.length + 1) cap5)) ∧
    MidAt w B bt bn a ca b cb hs kd r g5 cap5 (((((w5.setCell ⟨bt, 0, none⟩ (.slice (some ⟨g5, 0, none⟩) (hs.length + 1) cap5)).setCell ⟨g5, hs.length * 4, none⟩ (.int .i64 kd)).setCell ⟨g5, hs.length * 4 + 1, none⟩ (.slice none 0 0)).setCell ⟨g5, hs.length * 4 + 2, none⟩ (.slice none 0 0)).setCell ⟨g5, hs.length * 4 + 3, none⟩ (.int .i64 r)) := by
  have hl : (tyCs hs).length = hs.length * 4 := h.ty.1
  have hz : zs.length = 4 := by
    have := h5.1
    rw [List.length_append, hl] at this
    omega
  have hb : ∀ x, x < B → (Value.slice a hs.length ca).ownBlock ≠ some x := fun x hx e => by
    have := (World.ownsRow.lt h.ty x e).1
    omega
  have T5 := (h.t.kept k id).kept (Kept.grow hg) (fun e => hb bt hB.1 e.symm)
  have N5 := (h.n.kept k id).kept (Kept.grow hg) (fun e => hb bn hB.2.1 e.symm)
  have hap := own_apart2 h.ty h.nu
  have U5 := ownsRow_kept (ownsRow_kept h.nu k (fun _ _ e => e)) (Kept.grow hg) (fun q hq e => hap q e.symm hq)
  have hbg : (Value.slice b hs.length cb).ownBlock ≠ some g5 := fun e => by
    rcases hat with q | q
    · exact hap g5 q e
    · have := (World.ownsRow.lt h.nu g5 e).2
      omega
  have hbt : (Value.slice b hs.length cb).ownBlock ≠ some bt := fun e => by have := (World.ownsRow.lt h.nu bt e).1; omega
  have k5 : Kept (fun q => q = bt ∨ (Value.slice a hs.length ca).ownBlock = some q) w w5 := k.any.then (Kept.grow hg) (fun i _ e => .inr e.symm)
  have kz : w.heap.size ≤ w5.heap.size := k5.size
  have ks : ∀ (W W' : World) (i : Nat) (v : Value), Kept (fun q => q = bt ∨ (Value.slice a hs.length ca).ownBlock = some q) W W' → W.heap.size = w.heap.size → Kept (fun q => q = bt ∨ (Value.slice a hs.length ca).ownBlock = some q) W (W'.setCell ⟨g5, i, none⟩ v) := fun W W' i v q e => q.then ((Kept.refl (· = g5) W').set (p := ⟨g5, i, none⟩) rfl v) (fun j hj ej => by
    have ej : j = g5 := ej
    subst ej
    rcases hat with x | x
    · exact .inr x
    · omega)
  have kt : ∀ (W' : World) (v : Value), Kept (fun q => q = bt ∨ (Value.slice a hs.length ca).ownBlock = some q) w W' → Kept (fun q => q = bt ∨ (Value.slice a hs.length ca).ownBlock = some q) w (W'.setCell ⟨bt, 0, none⟩ v) := fun W' v q => q.set (p := ⟨bt, 0, none⟩) (.inl rfl) v
  refine ⟨⟨?_, ?_, ?_, ?_, ?_, hat, ?_, hlt⟩, ⟨?_, ?_, ?_, ?_, ?_, hat, ?_, hlt⟩⟩
  · exact (((((T5.other (b' := g5) (by omega) _ _).other (b' := g5) (by omega) _ _).other (b' := g5) (by omega) _ _).other (b' := g5) (by omega) _ _).put 0 _)
  · exact (((((N5.other (b' := g5) (by omega) _ _).other (b' := g5) (by omega) _ _).other (b' := g5) (by omega) _ _).other (b' := g5) (by omega) _ _).other (b' := bt) (by omega) _ _)
  · exact ownsRow_setCell_other (own_set4 h5 hl hz _ _ _ _) (a := ⟨bt, 0, none⟩) (fun e => by injection e with e; have e : g5 = bt := e; omega) _
  · exact ownsRow_setCell_other (ownsRow_setCell_other (ownsRow_setCell_other (ownsRow_setCell_other (ownsRow_setCell_other U5 (a := ⟨g5, _, none⟩) hbg _) (a := ⟨g5, _, none⟩) hbg _) (a := ⟨g5, _, none⟩) hbg _) (a := ⟨g5, _, none⟩) hbg _) (a := ⟨bt, 0, none⟩) hbt _
  · exact kt _ _ (ks _ _ _ _ (ks _ _ _ _ (ks _ _ _ _ (ks _ _ _ _ k5 rfl) rfl) rfl) rfl)
  · have := h.B
    simp
    omega
  · exact (((((T5.put 0 _).other (b' := g5) (by omega) _ _).other (b' := g5) (by omega) _ _).other (b' := g5) (by omega) _ _).other (b' := g5) (by omega) _ _)
  · exact (((((N5.other (b' := bt) (by omega) _ _).other (b' := g5) (by omega) _ _).other (b' := g5) (by omega) _ _).other (b' := g5) (by omega) _ _).other (b' := g5) (by omega) _ _)
  · exact own_set4 (ownsRow_setCell_other h5 (a := ⟨bt, 0, none⟩) (fun e => by injection e with e; have e : g5 = bt := e; omega) _) hl hz _ _ _ _
  · exact ownsRow_setCell_other (ownsRow_setCell_other (ownsRow_setCell_other (ownsRow_setCell_other (ownsRow_setCell_other U5 (a := ⟨bt, 0, none⟩) hbt _) (a := ⟨g5, _, none⟩) hbg _) (a := ⟨g5, _, none⟩) hbg _) (a := ⟨g5, _, none⟩) hbg _) (a := ⟨g5, _, none⟩) hbg _
  · exact ks _ _ _ _ (ks _ _ _ _ (ks _ _ _ _ (ks _ _ _ _ (kt _ _ k5) rfl) rfl) rfl) rfl
  · have := h.B
    simp
    omega
theorem tell_end {B bt bn : Nat} {a : Option Addr} {ca : Nat} {b : Option Addr} {cb : Nat} {hs : List (Int × Int × Int)} {F : Nat → Prop} {w wc w1 w7 : World} {g1 c1 g7 cap7 : Nat} {kd r n : Int} (M : MidAt w B bt bn a ca b cb hs kd r g1 c1 wc) (h : HoldAt B bt bn a ca b cb hs w)
    (hF : ∀ g, F g ↔ (g = bt ∨ g = bn ∨ (Value.slice a hs.length ca).ownBlock = some g ∨ (Value.slice b hs.length cb).ownBlock = some g)) (hB : bt < B ∧ bn < B ∧ bt ≠ bn) (k : Kept (fun _ => False) wc w1)
    (h7 : w7.ownsRow B 3 1 (.slice (some ⟨g7, 0, none⟩) (hs.length + 1) cap7) (hs.length + 1) (nuCs hs ++ [.int .i64 n])) (hg : w1.grownBy w7 (Value.slice b hs.length cb).ownBlock) (hat : (Value.slice b hs.length cb).ownBlock = some g7 ∨ wc.heap.size ≤ g7) :
    TelR (StH B bt bn) F (hs ++ [(kd, r, n)]) w (.returned (.tuple #[])) (w7.setCell ⟨bn, 0, none⟩ (.slice (some ⟨g7, 0, none⟩) (hs.length + 1) cap7)) := by
  have hb : ∀ x, x < B → (Value.slice b hs.length cb).ownBlock ≠ some x := fun x hx e => by
    have := (World.ownsRow.lt h.nu x e).1
    omega
  have hlt7 : B ≤ g7 := by
    rcases hat with e | e
    · exact (World.ownsRow.lt h.nu g7 e).1
    · exact Nat.le_trans M.bs e
  have hap := own_apart2 M.ty M.nu
  have hbg : (Value.slice b hs.length cb).ownBlock ≠ some g1 := hap g1 rfl
  have T7 := (M.t.kept k id).kept (Kept.grow hg) (fun e => hb bt hB.1 e.symm)
  have N7 := (M.n.kept k id).kept (Kept.grow hg) (fun e => hb bn hB.2.1 e.symm)
  have Y7 := ownsRow_kept (ownsRow_kept M.ty k (fun _ _ e => e)) (Kept.grow hg) (fun q hq e => hap q hq e.symm)
  have hn1 : bn ≠ g1 := by have := M.lt; omega
  have hn7 : bn ≠ g7 := by omega
  have e1 : tyCs (hs ++ [(kd, r, n)]) = tyCs hs ++ [.int .i64 kd, .slice none 0 0, .slice none 0 0, .int .i64 r] := by simp [tyCs]
  have e2 : nuCs (hs ++ [(kd, r, n)]) = nuCs hs ++ [.int .i64 n] := by simp [nuCs]
  have e3 : (hs ++ [(kd, r, n)]).length = hs.length + 1 := by simp
  refine ⟨rfl, fun q => q = bt ∨ q = bn ∨ (Value.slice (some ⟨g1, 0, none⟩) (hs ++ [(kd, r, n)]).length c1).ownBlock = some q ∨ (Value.slice (some ⟨g7, 0, none⟩) (hs ++ [(kd, r, n)]).length cap7).ownBlock = some q, ⟨some ⟨g1, 0, none⟩, c1, some ⟨g7, 0, none⟩, cap7, ⟨?_, ?_, ?_, ?_, ?_⟩, fun q => Iff.rfl⟩, ?_, fun q hq => ?_⟩
  · rw [e3]
    exact T7.other (b' := bn) hB.2.2 _ _
  · rw [e3]
    exact N7.put 0 _
  · rw [e1, e3]
    exact ownsRow_setCell_other Y7 (a := ⟨bn, 0, none⟩) (fun e => by injection e with e; have e : g1 = bn := e; omega) _
  · rw [e2, e3]
    exact ownsRow_setCell_other h7 (a := ⟨bn, 0, none⟩) (fun e => by injection e with e; have e : g7 = bn := e; omega) _
  · have h1 := k.size
    have h2 := (Kept.grow hg).size
    have h3 := M.bs
    simp
    omega
  · have K : Kept F w wc := M.k.mono fun q e => (hF q).2 (e.elim .inl fun x => .inr (.inr (.inl x)))
    have K2 : Kept F w w7 := (K.trans k.any).then (Kept.grow hg) (fun i _ e => (hF i).2 (.inr (.inr (.inr e.symm))))
    exact K2.set (p := ⟨bn, 0, none⟩) ((hF bn).2 (.inr (.inl rfl))) _
  · rcases hq with rfl | rfl | e | e
    · exact .inl ((hF q).2 (.inl rfl))
    · exact .inl ((hF q).2 (.inr (.inl rfl)))
    · injection e with e
      have e : g1 = q := e
      subst e
      exact M.at'.imp (fun x => (hF g1).2 (.inr (.inr (.inl x)))) id
    · injection e with e
      have e : g7 = q := e
      subst e
      exact hat.imp (fun x => (hF g7).2 (.inr (.inr (.inr x)))) fun x => Nat.le_trans M.k.size x
set_option maxRecDepth 100000 in
set_option maxHeartbeats 40000000 in
theorem rdTell (B bt bn : Nat) (hbt : bt < B) (hbn : bn < B) (hne : bt ≠ bn) (F : Nat → Prop) (hs : List (Int × Int × Int)) (w : World) (kd : Int) (names : List Nm) (l : List Ty) (r : Int) (an : Option Addr) (cn : Nat) (al : Option Addr) (cl : Nat) (g o : Nat) (n : Int) (h : StH B bt bn F hs w) (hg : ¬ F g) (hgl : g < w.heap.size) (hc : w.cell? ⟨g, o, none⟩ = some (.int .i64 n)) (hl : hs.length < 4000) :
    Calls Tryz.prog 33 (#[.agg #[.int .i64 kd, .slice an names.length cn, .slice al l.length cl, .int .i64 r], .pointer (some ⟨g, o, none⟩)] ++ #[.pointer (some ⟨bt, 0, none⟩), .pointer (some ⟨bn, 0, none⟩)]) w (TelR (StH B bt bn) F (hs ++ [(kd, r, n)]) w) := by
  obtain ⟨a, ca, b, cb, h, hF⟩ := h
  obtain ⟨i1, hi1, hz1, hy1, hb1⟩ := info_ty
  obtain ⟨i0, hi0, hz0, hy0, hb0⟩ := info_int2
  have k0 : Kept (fun _ => False) w (w.alloc (.cells #[.int .i64 kd, .slice an names.length cn, .slice al l.length cl, .int .i64 r] 25)) := (Kept.refl _ _).new _
  have T0 := BlkAt.new w #[.int .i64 kd, .slice an names.length cn, .slice al l.length cl, .int .i64 r] 25
  have HH0 := Lib.hid (h.kept k0)
  have HH := Lib.hid h
  have HK := Lib.hid k0
  obtain ⟨t0, t1, t2, t3⟩ := box4H T0
  obtain ⟨Z, hZ⟩ : ∃ Z, Z = (Obj.cells #[.int .i64 0, .slice none 0 0, .slice none 0 0, .int .i64 0] 25 (0, 0)) := ⟨_, rfl⟩
  have m0 := HH0.out.t.cell 0
  simp at m0
  have t0' := cell_box t0 (.cells #[.int .i64 0, .slice none 0 0, .slice none 0 0, .int .i64 0] 25)
  have t3' := cell_box t3 (.cells #[.int .i64 0, .slice none 0 0, .slice none 0 0, .int .i64 0] 25)
  have m0' := cell_box m0 (.cells #[.int .i64 0, .slice none 0 0, .slice none 0 0, .int .i64 0] 25)
  have HZ := BlkAt.new (w.alloc (.cells #[.int .i64 kd, .slice an names.length cn, .slice al l.length cl, .int .i64 r] 25)) #[.int .i64 0, .slice none 0 0, .slice none 0 0, .int .i64 0] 25
  rw [World.size_alloc] at HZ
  have HZ := Lib.hid HZ
  have HN := Lib.hid (And.intro hg (And.intro hgl (And.intro hc hF)))
  have HB := Lib.hid (And.intro hbt (And.intro hbn hne))
  have hli : ((hs.length : Int) < (hs.length : Int) + 1) = True := by simp; omega
  have HQ : Hid (hs.length + 1 ≤ maxLen ∧ (hs.length + 1) * 64 ≤ 140737488355328 ∧ (hs.length + 1) * 8 ≤ 140737488355328) := Lib.hid ⟨by unfold maxLen; omega, by omega, by omega⟩
  have HI1 := Lib.hid (And.intro hi1 (And.intro hz1 (And.intro hy1 hb1)))
  have HI0 := Lib.hid (And.intro hi0 (And.intro hz0 (And.intro hy0 hb0)))
  clear hg hgl hc hF hbt hbn hne T0 k0 h hi1 hz1 hy1 hb1 hi0 hz0 hy0 hb0 hZ Z
  show Calls _ _ #[_, _, _, _] _ _
  go_enter Tryz.func33, Tryz.ntmps33
  go_wp2_with fail
  go_cut [1, 3] (fun s1 s3 wc => s1 = .pointer (some ⟨g, o, none⟩) ∧ s3 = .pointer (some ⟨bn, 0, none⟩) ∧ Hid (∃ g1 c1, MidAt w B bt bn a ca b cb hs kd r g1 c1 wc))
  case first =>
    go_region_law (refine step_append_lies _ (by rfl) _ _ 23 (by rfl) B 25 i1 (.agg #[.int .i64 0, .slice none 0 0, .slice none 0 0, .int .i64 0]) 4 64 Tryz.underlying23 HI1.out.1 HI1.out.2.1 HI1.out.2.2.1 HI1.out.2.2.2 rfl (by decide) (.slice a hs.length ca) hs.length (tyCs hs) (by rfl) (ownsRow_kept HH0.out.ty (by first | exact ((Kept.refl (fun _ => False) (w.alloc (.cells #[.int .i64 kd, .slice an names.length cn, .slice al l.length cl, .int .i64 r] 25))).new _).drew | exact ((Kept.refl (fun _ => False) (w.alloc (.cells #[.int .i64 kd, .slice an names.length cn, .slice al l.length cl, .int .i64 r] 25))).drew).new _) (fun _ _ e => e)) ⟨w.heap.size + 1, 0, none⟩ 1 1 [.int .i64 0, .slice none 0 0, .slice none 0 0, .int .i64 0] (by rfl) (by rfl) (World.news_of_block (cs := #[.int .i64 0, .slice none 0 0, .slice none 0 0, .int .i64 0]) HZ.out) (by simp [Value.oneCell']) (by decide) HQ.out.1 HQ.out.2.1 (le_alloc HH0.out.B) (w.heap.size + 1 + 1) (by show (World.alloc (World.alloc w _) _).heap.size = _; rw [World.size_alloc, World.size_alloc]) ?_
                   intro g5 cap5 w5 hown5 hg5 hat5 hlt5
                   have O5 := own_last hown5 hg5 (hat5.imp id fun e => e.trans (by show _ = (World.alloc (World.alloc w _) _).heap.size; rw [World.size_alloc, World.size_alloc])) HH0.out (by first | exact ((Kept.refl (fun _ => False) (w.alloc (.cells #[.int .i64 kd, .slice an names.length cn, .slice al l.length cl, .int .i64 r] 25))).new _).drew | exact ((Kept.refl (fun _ => False) (w.alloc (.cells #[.int .i64 kd, .slice an names.length cn, .slice al l.length cl, .int .i64 r] 25))).drew).new _) HB.out
                   obtain ⟨cur, hcur, f0, f1, f2, f3, hb5, hn5, hB5⟩ := O5
                   simp at f0 f1 f2 f3
                   have z0 := hcur.frozen (hs.length * 4)
                   have z1 := hcur.frozen (hs.length * 4 + 1)
                   have z2 := hcur.frozen (hs.length * 4 + 2)
                   have z3 := hcur.frozen (hs.length * 4 + 3)
                   have mb := hb5.cell 0
                   have zb := hb5.frozen 0
                   simp at mb
                   have mb' := (hb5.other (b' := g5) (by have := HB.out.1; omega) (hs.length * 4) (.int .i64 kd)).cell 0
                   have zb' := (hb5.other (b' := g5) (by have := HB.out.1; omega) (hs.length * 4) (.int .i64 kd)).frozen 0
                   simp at mb'
                   have hx5 := hcur.other (b' := bt) (by have := HB.out.1; omega) 0 (.slice (some ⟨g5, 0, none⟩) (hs.length + 1) cap5)
                   have f0' := (hx5.cell (hs.length * 4)).trans ((hcur.cell (hs.length * 4)).symm.trans f0)
                   have f1' := (hx5.cell (hs.length * 4 + 1)).trans ((hcur.cell (hs.length * 4 + 1)).symm.trans f1)
                   have f2' := (hx5.cell (hs.length * 4 + 2)).trans ((hcur.cell (hs.length * 4 + 2)).symm.trans f2)
                   have f3' := (hx5.cell (hs.length * 4 + 3)).trans ((hcur.cell (hs.length * 4 + 3)).symm.trans f3)
                   have z0' := hx5.frozen (hs.length * 4)
                   have z1' := hx5.frozen (hs.length * 4 + 1)
                   have z2' := hx5.frozen (hs.length * 4 + 2)
                   have z3' := hx5.frozen (hs.length * 4 + 3)
                   have HM5 := Lib.hid (mid_of (kd := kd) (r := r) hown5 hg5 (hat5.imp id fun e => by omega) HH.out (by first | exact (((Kept.refl (fun _ => False) w).new _).new _).drew | exact (((Kept.refl (fun _ => False) w).new _).drew).new _) HB.out hB5)
                   clear hown5 hg5 hat5 hlt5 hcur hb5 hn5 hB5 hx5 t0 t0' t1 t2 t3 t3' m0 m0')
    all_goals
      go_wp2_with fail
      go_meet
      case rel =>
        exact ⟨rfl, rfl, Lib.hid ⟨g5, cap5, by first | with_reducible exact HM5.out.1 | with_reducible exact HM5.out.2⟩⟩
  case rest =>
    obtain ⟨rfl, rfl, HCUT⟩ := hcut
    obtain ⟨g1, c1, HM⟩ := HCUT.out
    have HM := Lib.hid HM
    have mb := HM.out.n.cell 0
    simp at mb
    have cg : wc.cell? ⟨g, o, none⟩ = some (.int .i64 n) := (cell_of (HM.out.k.block g HN.out.2.1 (fun e => HN.out.1 ((HN.out.2.2.2 g).2 (e.elim .inl fun q => .inr (.inr (.inl q))))))).trans HN.out.2.2.1
    have mb' := cell_box mb (.cells #[.int .i64 n] 3)
    have cg' := cell_box cg (.cells #[.int .i64 n] 3)
    have HZ2 := Lib.hid (BlkAt.new wc #[.int .i64 n] 3)
    clear t0 t1 t2 t3 t0' t3' m0 m0' hli HCUT HZ HH0 HI1
    go_wp2_with fail
    go_region_law (refine step_append_lies _ (by rfl) _ _ 26 (by rfl) B 3 i0 (.int .i64 0) 1 8 Tryz.underlying26 HI0.out.1 HI0.out.2.1 HI0.out.2.2.1 HI0.out.2.2.2 rfl (by decide) (.slice b hs.length cb) hs.length (nuCs hs) (by rfl) (ownsRow_kept HM.out.nu (by first | exact ((Kept.refl (fun _ => False) wc).new _).drew | exact ((Kept.refl (fun _ => False) wc).drew).new _) (fun _ _ e => e)) ⟨wc.heap.size, 0, none⟩ 1 1 [.int .i64 n] (by rfl) (by rfl) (World.news_of_block (cs := #[.int .i64 n]) HZ2.out) (by simp [Value.oneCell']) (by decide) HQ.out.1 HQ.out.2.2 (le_alloc HM.out.bs) (wc.heap.size + 1) (World.size_alloc _ _) ?_
                   intro g7 cap7 w7 hown7 hg7 hat7 hlt7
                   have hb7 := (HM.out.n.kept (F := fun _ => False) (by first | exact ((Kept.refl (fun _ => False) wc).new _).drew | exact ((Kept.refl (fun _ => False) wc).drew).new _) id).kept (Kept.grow hg7) (fun e => by have := (World.ownsRow.lt HH.out.nu bn e.symm).1; have := HB.out.2.1; omega)
                   have nb := hb7.cell 0
                   have yb := hb7.frozen 0
                   simp at nb
                   have H7 := Lib.hid (And.intro hown7 (And.intro hg7 hat7))
                   clear hown7 hg7 hat7 hlt7 hb7 mb mb' cg cg')
    all_goals go_wp2_with fail
    all_goals exact bodyPost_void rfl rfl (tell_end HM.out HH.out HN.out.2.2.2 HB.out (by first | exact ((Kept.refl (fun _ => False) wc).new _).drew | exact ((Kept.refl (fun _ => False) wc).drew).new _) H7.out.1 H7.out.2.1 (H7.out.2.2.imp id fun e => by omega))
end Go.Proofs.YtikgkjkgdlnekaaGreatDoor
