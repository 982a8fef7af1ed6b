/- ctype: the chapter's examples. -/
import Derived.Test.YtlkbgdhlbdjbiaaDoorCtZ
set_option linter.unusedVariables false
set_option linter.unusedSimpArgs false
namespace Go.Proofs.YtlkbgdhlbdjbiaaDoor
open Go.RowKit
open Lex Ct

namespace Ct
def tU8 : Ty := .mk 3 [] [] 0
def tU16 : Ty := .mk 5 [] [] 0
def tU32 : Ty := .mk 7 [] [] 0
def tU64 : Ty := .mk 9 [] [] 0
def tStr : Ty := .mk 11 [] [] 0
def exA : Ty := .mk 13 [[97], [98], [99]] [tU8, tU32, tU16] 0
def exB : Ty := .mk 17 [] [tU64] 0
def exC : Ty := .mk 15 [[97], [98]] [tStr, tU64] 0
theorem okA : okT exA = true := by decide +kernel
theorem okB : okT exB = true := by decide +kernel
theorem okC : okT exC = true := by decide +kernel
theorem lieA : lieK 16 exA = (12, 4) := by decide +kernel
theorem lieB : lieK 16 exB = (16, 8) := by decide +kernel
theorem plcA : placesL exA = [0, 4, 8] := by decide +kernel
theorem corB : coreK 16 exB = [127, 126] := by decide +kernel
theorem corC : coreK 16 exC = [127, 126, 127] := by decide +kernel
theorem fine_mk {k r : Int} {n : List Nm} {l : List Ty} (hn : ∀ b ∈ n, NmOk b) (hl : ∀ x ∈ l, FineT x) : FineT (.mk k n l r) := by
  have h1 : FineL (n.map U.s) := by
    rw [← flat_strs]
    clear hl
    induction n with
    | nil => exact trivial
    | cons b r ih =>
      rw [List.flatMap_cons]
      exact ⟨hn b List.mem_cons_self, ih fun x hx => hn x (List.mem_cons_of_mem _ hx)⟩
  have h2 : FineL (encTys l) := by
    clear h1 hn
    induction l with
    | nil => exact trivial
    | cons x r ih =>
      show FineL (encTy x ++ encTys r)
      exact FineL_append.2 ⟨hl x List.mem_cons_self, ih fun y hy => hl y (List.mem_cons_of_mem _ hy)⟩
  exact ⟨trivial, h1, h2, trivial, trivial⟩
theorem fine_leaf (k : Int) : FineT (.mk k [] [] 0) := fine_mk (fun b hb => by cases hb) (fun b hb => by cases hb)
theorem nm_one (c : Int) (h : 0 ≤ c ∧ c < 256) : NmOk [c] := ⟨fun z hz => by rw [List.mem_singleton.1 hz]; exact h, by simp [maxLen]⟩
theorem fineA : FineT exA := fine_mk (fun b hb => by simp at hb; rcases hb with rfl | rfl | rfl <;> exact nm_one _ (by decide)) (fun x hx => by simp at hx; rcases hx with rfl | rfl | rfl <;> exact fine_leaf _)
theorem fineB : FineT exB := fine_mk (fun b hb => by cases hb) (fun x hx => by simp at hx; rcases hx with rfl; exact fine_leaf _)
theorem fineC : FineT exC := fine_mk (fun b hb => by simp at hb; rcases hb with rfl | rfl <;> exact nm_one _ (by decide)) (fun x hx => by simp at hx; rcases hx with rfl | rfl <;> exact fine_leaf _)
end Ct
theorem BlkAt.up {w : World} {b : Nat} {cs : Array Value} {T : TypeId} (h : BlkAt w b cs T) (o : Obj) : BlkAt (w.alloc o) b cs T := h.kept (F := fun _ => False) ((Kept.refl _ _).new o) id
abbrev leafO (k : Int) : Obj := .cells #[.int .i64 k, .slice none 0 0, .slice none 0 0, .int .i64 0] 25
abbrev awA (w : World) : World := (((((((((w.alloc (leafO 3)).alloc (leafO 5)).alloc (leafO 7)).alloc (leafO 9)).alloc (leafO 11)).alloc (leafO 3)).alloc (leafO 5)).alloc (leafO 7)).alloc (leafO 9)).alloc (leafO 11)
abbrev awNA : Array Value := #[.string ⟨#[97]⟩, .string ⟨#[98]⟩, .string ⟨#[99]⟩]
abbrev awLA : Array Value := #[.int .i64 3, .slice none 0 0, .slice none 0 0, .int .i64 0, .int .i64 7, .slice none 0 0, .slice none 0 0, .int .i64 0, .int .i64 5, .slice none 0 0, .slice none 0 0, .int .i64 0]
abbrev awTA (b : Nat) : Array Value := #[.int .i64 13, .slice (some ⟨b, 0, none⟩) 3 3, .slice (some ⟨b + 1, 0, none⟩) 3 3, .int .i64 0]
abbrev awB (w : World) : World := (((awA w).alloc (.cells awNA 9)).alloc (.cells awLA 25)).alloc (.cells (awTA (w.heap.size + 1 + 1 + 1 + 1 + 1 + 1 + 1 + 1 + 1 + 1)) 25)
abbrev awLB : Array Value := #[.int .i64 9, .slice none 0 0, .slice none 0 0, .int .i64 0]
abbrev awTB (b : Nat) : Array Value := #[.int .i64 17, .slice none 0 0, .slice (some ⟨b, 0, none⟩) 1 1, .int .i64 0]
abbrev awC (w : World) : World := (((awB w).alloc (.cells awLB 25)).alloc (.cells (awTB (w.heap.size + 1 + 1 + 1 + 1 + 1 + 1 + 1 + 1 + 1 + 1 + 1 + 1 + 1)) 25)).alloc (.cells (awTB (w.heap.size + 1 + 1 + 1 + 1 + 1 + 1 + 1 + 1 + 1 + 1 + 1 + 1 + 1)) 25)
abbrev awNC : Array Value := #[.string ⟨#[97]⟩, .string ⟨#[98]⟩]
abbrev awLC : Array Value := #[.int .i64 11, .slice none 0 0, .slice none 0 0, .int .i64 0, .int .i64 9, .slice none 0 0, .slice none 0 0, .int .i64 0]
abbrev awTC (b : Nat) : Array Value := #[.int .i64 15, .slice (some ⟨b, 0, none⟩) 2 2, .slice (some ⟨b + 1, 0, none⟩) 2 2, .int .i64 0]
abbrev awD (w : World) : World := (((awC w).alloc (.cells awNC 9)).alloc (.cells awLC 25)).alloc (.cells (awTC (w.heap.size + 1 + 1 + 1 + 1 + 1 + 1 + 1 + 1 + 1 + 1 + 1 + 1 + 1 + 1 + 1 + 1)) 25)
/-- What the examples' blocks are. -/
structure AwkAt (n0 : Nat) (w : World) : Prop where
  a : BlkAt w (n0 + 1 + 1) (awTA n0) 25
  na : BlkAt w n0 awNA 9
  la : BlkAt w (n0 + 1) awLA 25
  b : BlkAt w (n0 + 1 + 1 + 1 + 1 + 1) (awTB (n0 + 1 + 1 + 1)) 25
  lb : BlkAt w (n0 + 1 + 1 + 1) awLB 25
  c : BlkAt w (n0 + 1 + 1 + 1 + 1 + 1 + 1 + 1 + 1) (awTC (n0 + 1 + 1 + 1 + 1 + 1 + 1)) 25
  nc : BlkAt w (n0 + 1 + 1 + 1 + 1 + 1 + 1) awNC 9
  lc : BlkAt w (n0 + 1 + 1 + 1 + 1 + 1 + 1 + 1) awLC 25
theorem AwkAt.kept {b : Nat} {w w' : World} (h : AwkAt b w) (k : Kept (fun _ => False) w w') : AwkAt b w' := ⟨h.a.kept k id, h.na.kept k id, h.la.kept k id, h.b.kept k id, h.lb.kept k id, h.c.kept k id, h.nc.kept k id, h.lc.kept k id⟩
theorem leaf_lies (k : Int) (w : World) : LiesL AnyB w (encTy (.mk k [] [] 0)) [.int .i64 k, .slice none 0 0, .slice none 0 0, .int .i64 0] := ty_lies (t := .mk k [] [] 0) (liesU_nil _ _) (liesU_nil _ _)
theorem AwkAt.tyA {b : Nat} {w : World} (h : AwkAt b w) : TyAt w exA (some ⟨b, 0, none⟩) 3 (some ⟨b + 1, 0, none⟩) 3 :=
  ⟨liesU_blk (us := [U.s [97], U.s [98], U.s [99]]) h.na (Nat.le_refl _) (by omega) rfl (.cons (liesU_s [97]) (.cons (liesU_s [98]) (.cons (liesU_s [99]) .nil))),
   liesU_blk (us := encTy tU8 ++ (encTy tU32 ++ (encTy tU16 ++ []))) h.la (Nat.le_refl _) (by omega) rfl ((leaf_lies 3 w).append ((leaf_lies 7 w).append ((leaf_lies 5 w).append .nil)))⟩
theorem AwkAt.tyB {b : Nat} {w : World} (h : AwkAt b w) : TyAt w exB none 0 (some ⟨b + 1 + 1 + 1, 0, none⟩) 1 :=
  ⟨liesU_nil _ _, liesU_blk (us := encTy tU64 ++ []) h.lb (Nat.le_refl _) (by omega) rfl ((leaf_lies 9 w).append .nil)⟩
theorem AwkAt.tyC {b : Nat} {w : World} (h : AwkAt b w) : TyAt w exC (some ⟨b + 1 + 1 + 1 + 1 + 1 + 1, 0, none⟩) 2 (some ⟨b + 1 + 1 + 1 + 1 + 1 + 1 + 1, 0, none⟩) 2 :=
  ⟨liesU_blk (us := [U.s [97], U.s [98]]) h.nc (Nat.le_refl _) (by omega) rfl (.cons (liesU_s [97]) (.cons (liesU_s [98]) .nil)),
   liesU_blk (us := encTy tStr ++ (encTy tU64 ++ [])) h.lc (Nat.le_refl _) (by omega) rfl ((leaf_lies 11 w).append ((leaf_lies 9 w).append .nil))⟩
theorem awA_size (w : World) : (awA w).heap.size = w.heap.size + 1 + 1 + 1 + 1 + 1 + 1 + 1 + 1 + 1 + 1 := by simp only [World.size_alloc]
theorem awB_size (w : World) : (awB w).heap.size = w.heap.size + 1 + 1 + 1 + 1 + 1 + 1 + 1 + 1 + 1 + 1 + 1 + 1 + 1 := by simp only [World.size_alloc]
theorem awC_size (w : World) : (awC w).heap.size = w.heap.size + 1 + 1 + 1 + 1 + 1 + 1 + 1 + 1 + 1 + 1 + 1 + 1 + 1 + 1 + 1 + 1 := by simp only [World.size_alloc]
theorem awk_at (w : World) : AwkAt (w.heap.size + 1 + 1 + 1 + 1 + 1 + 1 + 1 + 1 + 1 + 1) (awD w) := by
  have a1 := BlkAt.new (awA w) awNA 9
  have a2 := BlkAt.new ((awA w).alloc (.cells awNA 9)) awLA 25
  have a3 := BlkAt.new (((awA w).alloc (.cells awNA 9)).alloc (.cells awLA 25)) (awTA (w.heap.size + 1 + 1 + 1 + 1 + 1 + 1 + 1 + 1 + 1 + 1)) 25
  have b1 := BlkAt.new (awB w) awLB 25
  have b3 := BlkAt.new (((awB w).alloc (.cells awLB 25)).alloc (.cells (awTB (w.heap.size + 1 + 1 + 1 + 1 + 1 + 1 + 1 + 1 + 1 + 1 + 1 + 1 + 1)) 25)) (awTB (w.heap.size + 1 + 1 + 1 + 1 + 1 + 1 + 1 + 1 + 1 + 1 + 1 + 1 + 1)) 25
  have c1 := BlkAt.new (awC w) awNC 9
  have c2 := BlkAt.new ((awC w).alloc (.cells awNC 9)) awLC 25
  have c3 := BlkAt.new (((awC w).alloc (.cells awNC 9)).alloc (.cells awLC 25)) (awTC (w.heap.size + 1 + 1 + 1 + 1 + 1 + 1 + 1 + 1 + 1 + 1 + 1 + 1 + 1 + 1 + 1 + 1)) 25
  simp only [World.size_alloc] at a1 a2 a3 b1 b3 c1 c2 c3
  exact ⟨(((((a3.up _).up _).up _).up _).up _).up _, (((((((a1.up _).up _).up _).up _).up _).up _).up _).up _, ((((((a2.up _).up _).up _).up _).up _).up _).up _, ((b3.up _).up _).up _, ((((b1.up _).up _).up _).up _).up _, c3, (c1.up _).up _, c2.up _⟩
theorem awD_kept (w : World) : Kept (fun _ => False) w (awD w) := ((((((((((((((((((((Kept.refl _ w).new _).new _).new _).new _).new _).new _).new _).new _).new _).new _).new _).new _).new _).new _).new _).new _).new _).new _).new _)
set_option maxRecDepth 100000 in
set_option maxHeartbeats 8000000 in
theorem awake_any (w : World) : Calls Tryd.prog 6 #[] w fun y w' => y = .returned (.bool true) ∧ Kept (fun _ => False) w w' := by
  have HO := Lib.hid (fun kd a n c w => rdOf kd a n c w)
  have HA : Hid (AwkAt (w.heap.size + 1 + 1 + 1 + 1 + 1 + 1 + 1 + 1 + 1 + 1) (awD w)) := Lib.hid (awk_at w)
  have HK : Hid (Kept (fun _ => False) w (awD w)) := Lib.hid (awD_kept w)
  obtain ⟨b, hb⟩ : ∃ b, b = w.heap.size + 1 + 1 + 1 + 1 + 1 + 1 + 1 + 1 + 1 + 1 := ⟨_, rfl⟩
  have H1 : Hid (∀ w', AwkAt (w.heap.size + 1 + 1 + 1 + 1 + 1 + 1 + 1 + 1 + 1 + 1) w' → Calls Tryd.prog 14 #[.agg (awTA (w.heap.size + 1 + 1 + 1 + 1 + 1 + 1 + 1 + 1 + 1 + 1))] w' fun y w'' => y = .returned (.int .i64 12) ∧ Kept (fun _ => False) w' w'') := Lib.hid fun w' h => by
    have := rdSize exA _ _ _ _ w' h.tyA fineA
    rw [okA, lieA] at this
    exact this
  have H2 : Hid (∀ w', AwkAt (w.heap.size + 1 + 1 + 1 + 1 + 1 + 1 + 1 + 1 + 1 + 1) w' → Calls Tryd.prog 16 #[.agg (awTA (w.heap.size + 1 + 1 + 1 + 1 + 1 + 1 + 1 + 1 + 1 + 1))] w' fun y w'' => y = .returned (.int .i64 4) ∧ Kept (fun _ => False) w' w'') := Lib.hid fun w' h => by
    have := rdAlign exA _ _ _ _ w' h.tyA fineA
    rw [okA, lieA] at this
    exact this
  have H3 : Hid (∀ w', AwkAt (w.heap.size + 1 + 1 + 1 + 1 + 1 + 1 + 1 + 1 + 1 + 1) w' → Calls Tryd.prog 17 #[.agg (awTA (w.heap.size + 1 + 1 + 1 + 1 + 1 + 1 + 1 + 1 + 1 + 1))] w' (IntR [0, 4, 8] w')) := Lib.hid fun w' h => by
    have := rdPlaces exA _ _ _ _ w' h.tyA fineA (fun _ w'' k => rdPlain exA _ _ _ _ w'' (h.tyA.kept k) (by decide) (by decide))
    rw [plcA] at this
    exact this
  have H4 : Hid (∀ w', AwkAt (w.heap.size + 1 + 1 + 1 + 1 + 1 + 1 + 1 + 1 + 1 + 1) w' → Calls Tryd.prog 14 #[.agg (awTB (w.heap.size + 1 + 1 + 1 + 1 + 1 + 1 + 1 + 1 + 1 + 1 + 1 + 1 + 1))] w' fun y w'' => y = .returned (.int .i64 16) ∧ Kept (fun _ => False) w' w'') := Lib.hid fun w' h => by
    have := rdSize exB _ _ _ _ w' h.tyB fineB
    rw [okB, lieB] at this
    exact this
  have H5 : Hid (∀ w', AwkAt (w.heap.size + 1 + 1 + 1 + 1 + 1 + 1 + 1 + 1 + 1 + 1) w' → Calls Tryd.prog 16 #[.agg (awTB (w.heap.size + 1 + 1 + 1 + 1 + 1 + 1 + 1 + 1 + 1 + 1 + 1 + 1 + 1))] w' fun y w'' => y = .returned (.int .i64 8) ∧ Kept (fun _ => False) w' w'') := Lib.hid fun w' h => by
    have := rdAlign exB _ _ _ _ w' h.tyB fineB
    rw [okB, lieB] at this
    exact this
  have H6 : Hid (∀ w', AwkAt (w.heap.size + 1 + 1 + 1 + 1 + 1 + 1 + 1 + 1 + 1 + 1) w' → Calls Tryd.prog 12 #[.agg (awTB (w.heap.size + 1 + 1 + 1 + 1 + 1 + 1 + 1 + 1 + 1 + 1 + 1 + 1 + 1))] w' (IntR [127, 126] w')) := Lib.hid fun w' h => by
    have := rdFlat exB _ _ _ _ w' h.tyB fineB
    rw [okB, corB, if_pos rfl] at this
    exact this.mono fun y w'' hr => hr.int
  have H7 : Hid (∀ w', AwkAt (w.heap.size + 1 + 1 + 1 + 1 + 1 + 1 + 1 + 1 + 1 + 1) w' → Calls Tryd.prog 12 #[.agg (awTC (w.heap.size + 1 + 1 + 1 + 1 + 1 + 1 + 1 + 1 + 1 + 1 + 1 + 1 + 1 + 1 + 1 + 1))] w' (IntR [127, 126, 127] w')) := Lib.hid fun w' h => by
    have := rdFlat exC _ _ _ _ w' h.tyC fineC
    rw [okC, corC, if_pos rfl] at this
    exact this.mono fun y w'' hr => hr.int
  have HS : Hid (∀ (xs : List Int) (b1 : Nat) (v : Value) (w' : World), Ints b1 v xs w' → xs.length ≤ 3000 → ∀ cs : Array Value, cs.toList = xs.map (Value.int .i64) → Calls Tryd.prog 10 #[v, .slice (some ⟨w'.heap.size, 0, none⟩) xs.length xs.length] (w'.alloc (.cells cs 3)) fun y w'' => y = .returned (.bool true) ∧ Kept (fun _ => False) w' w'') := Lib.hid fun xs b1 v w' h hl cs hcs => by
    have h2 : Ints w'.heap.size (.slice (some ⟨w'.heap.size, 0, none⟩) xs.length xs.length) xs (w'.alloc (.cells cs 3)) := by
      have h1 := World.ownsRow_lit (base := w'.heap.size) (e := 3) (size := 1) w' cs xs.length (Nat.le_refl _) (by unfold maxLen; omega) (by rw [← Array.length_toList, hcs, List.length_map, Nat.mul_one])
      rw [hcs] at h1
      exact h1
    refine (Same_any (World.ownsRow.alloc h _) h2 hl).mono ?_
    rintro y w'' ⟨e, k⟩
    exact ⟨e, ((Kept.refl _ _).new _).trans (Kept.of_below k)⟩
  clear hb
  go_enter Tryd.func6, Tryd.ntmps6
  go_wp2_with (first
    | (go_at_call 10; refine (HS.out _ _ _ _ HR.out (by decide) _ rfl).mono ?_; rintro y w2 ⟨rfl, k2⟩; clear HR; replace HA := Lib.hid (HA.out.kept k2); replace HK := Lib.hid (HK.out.trans k2); clear k2; first
        | (have e3 := H6; clear e3; obtain ⟨t0, t1, t2, t3⟩ : _ ∧ _ ∧ _ ∧ _ := ⟨HA.out.b.cell 0, HA.out.b.cell 1, HA.out.b.cell 2, HA.out.b.cell 3⟩; simp at t0 t1 t2 t3)
        | (obtain ⟨t0, t1, t2, t3⟩ : _ ∧ _ ∧ _ ∧ _ := ⟨HA.out.c.cell 0, HA.out.c.cell 1, HA.out.c.cell 2, HA.out.c.cell 3⟩; simp at t0 t1 t2 t3))
    | (go_at_call 17; refine (H3.out _ HA.out).mono ?_; rintro y w1 ⟨av, cp, rfl, h1, k1⟩; have HR := Lib.hid h1; clear H3; replace HA := Lib.hid (HA.out.kept k1); replace HK := Lib.hid (HK.out.trans k1); clear k1 t0 t1 t2 t3 h1)
    | (go_at_call 12; refine (H6.out _ HA.out).mono ?_; rintro y w1 ⟨av, cp, rfl, h1, k1⟩; have HR := Lib.hid h1; clear H6; replace HA := Lib.hid (HA.out.kept k1); replace HK := Lib.hid (HK.out.trans k1); clear k1 t0 t1 t2 t3 h1)
    | (go_at_call 12; refine (H7.out _ HA.out).mono ?_; rintro y w1 ⟨av, cp, rfl, h1, k1⟩; have HR := Lib.hid h1; clear H7; replace HA := Lib.hid (HA.out.kept k1); replace HK := Lib.hid (HK.out.trans k1); clear k1 t0 t1 t2 t3 h1)
    | (go_at_call 16; refine (H2.out _ HA.out).mono ?_; rintro y w1 ⟨rfl, k1⟩; clear H2; replace HA := Lib.hid (HA.out.kept k1); replace HK := Lib.hid (HK.out.trans k1); clear k1 t0 t1 t2 t3; obtain ⟨t0, t1, t2, t3⟩ : _ ∧ _ ∧ _ ∧ _ := ⟨HA.out.a.cell 0, HA.out.a.cell 1, HA.out.a.cell 2, HA.out.a.cell 3⟩; simp at t0 t1 t2 t3)
    | (go_at_call 16; refine (H5.out _ HA.out).mono ?_; rintro y w1 ⟨rfl, k1⟩; clear H5; replace HA := Lib.hid (HA.out.kept k1); replace HK := Lib.hid (HK.out.trans k1); clear k1 t0 t1 t2 t3; obtain ⟨t0, t1, t2, t3⟩ : _ ∧ _ ∧ _ ∧ _ := ⟨HA.out.b.cell 0, HA.out.b.cell 1, HA.out.b.cell 2, HA.out.b.cell 3⟩; simp at t0 t1 t2 t3)
    | (go_at_call 14; refine (H1.out _ HA.out).mono ?_; rintro y w1 ⟨rfl, k1⟩; clear H1 HO; replace HA := Lib.hid (HA.out.kept k1); replace HK := Lib.hid (HK.out.trans k1); clear k1; obtain ⟨t0, t1, t2, t3⟩ : _ ∧ _ ∧ _ ∧ _ := ⟨HA.out.a.cell 0, HA.out.a.cell 1, HA.out.a.cell 2, HA.out.a.cell 3⟩; simp at t0 t1 t2 t3)
    | (go_at_call 14; refine (H4.out _ HA.out).mono ?_; rintro y w1 ⟨rfl, k1⟩; clear H4; replace HA := Lib.hid (HA.out.kept k1); replace HK := Lib.hid (HK.out.trans k1); clear k1 t0 t1 t2 t3; obtain ⟨t0, t1, t2, t3⟩ : _ ∧ _ ∧ _ ∧ _ := ⟨HA.out.b.cell 0, HA.out.b.cell 1, HA.out.b.cell 2, HA.out.b.cell 3⟩; simp at t0 t1 t2 t3)
    | (go_at_call 21; refine (HO.out _ _ _ _ _).mono ?_; rintro y w1 ⟨rfl, rfl⟩))
  go_ret
  exact ⟨rfl, HK.out⟩
end Go.Proofs.YtlkbgdhlbdjbiaaDoor
