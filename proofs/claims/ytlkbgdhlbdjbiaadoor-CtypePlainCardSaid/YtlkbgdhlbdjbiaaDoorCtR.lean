/- ctype: fields, cases, lies. -/
import Derived.Test.YtlkbgdhlbdjbiaaDoorCtQ
set_option linter.unusedVariables false
set_option linter.unusedSimpArgs false
namespace Go.Proofs.YtlkbgdhlbdjbiaaDoor
open Go.RowKit
open Lex Ct

/-- What cases has been told. -/
structure CasAt (R M : Nat) (w : World) (st : Nat × Nat) : Prop where
  r : BlkAt w R #[.int .i64 ((st.1 : Nat) : Int)] 3
  m : BlkAt w M #[.int .i64 ((st.2 : Nat) : Int)] 3
theorem CasAt.kept {R M : Nat} {w w' : World} {st : Nat × Nat} (h : CasAt R M w st) (k : Kept (fun _ => False) w w') : CasAt R M w' st := ⟨h.r.kept k id, h.m.kept k id⟩
theorem cases1_func : ∀ args w, (callFunc 49 args).run Tryd.prog w = .ok (.enter 49 args) w := enters_of Tryd.func49 (by kernel_rfl) rfl
theorem fields1_func : ∀ args w, (callFunc 46 args).run Tryd.prog w = .ok (.enter 46 args) w := enters_of Tryd.func46 (by kernel_rfl) rfl
theorem casS_take0 (f : Ty → Nat × Nat) (l : List Ty) : casS f (l.take 0) = (0, 1) := rfl
set_option maxRecDepth 100000 in
set_option maxHeartbeats 4000000 in
theorem rdCases (k : Nat) (HLie : LieAt k) (l : List Ty) (a : Option Addr) (cap : Nat) (w : World) (h : RowAt w l a cap) (hfit : ∀ x ∈ l, Fit k x) (hal : Al (casS (lieK k) l).2) (hsm : (casS (lieK k) l).1 ≤ 9000) :
    Calls Tryd.prog 34 #[.slice a l.length cap] w fun y w' => y = .returned (.tuple #[.int .i64 (casAt (lieK k) l : Nat), cV (casV (lieK k) l)]) ∧ Kept (fun _ => False) w w' := by
  have hlz : LiesU (· < w.heap.size) w (tysU l) (.slice a l.length cap) := h.lies.now
  have HE : Hid (∀ w1, Kept (fun _ => False) w w1 → CasAt w.heap.size (w.heap.size + 1) w1 (0, 1) → Calls Tryd.prog 45 #[.slice a l.length cap, .func (.func 49) #[] #[.pointer (some ⟨w.heap.size, 0, none⟩), .pointer (some ⟨w.heap.size + 1, 0, none⟩)]] w1 fun y w' => y = .returned (.tuple #[]) ∧ Kept (w.heap.size ≤ ·) w1 w' ∧ CasAt w.heap.size (w.heap.size + 1) w' (casS (lieK k) l)) := Lib.hid fun w1 k1 hc => by
    refine (rdEach k HLie l a cap 49 w.heap.size _ (fun i w' => CasAt w.heap.size (w.heap.size + 1) w' (casS (lieK k) (l.take i))) w1 cases1_func (hlz.past k1 (fun _ e => e.elim)) hfit ?_ (fun i w1 w2 h1 h2 => h1.kept h2) hc).mono ?_
    · intro i x hx w2 k2 h2
      refine (rdCases1 _ _ _ _ _ _ w2 h2.r h2.m (by omega)).mono ?_
      rintro y w3 ⟨e, k3, b1, b2⟩
      refine ⟨e, k3.mono (fun q hq => by rcases hq with rfl | rfl <;> omega), ?_⟩
      rw [casS_snoc hx]
      exact ⟨b1, b2⟩
    · rintro y w3 ⟨e, k3, h3⟩
      rw [List.take_length] at h3
      exact ⟨e, k3, h3⟩
  have HB := Lib.hid (rdCaseBytes l.length)
  have hcb := casB_al l.length
  have HN := Lib.hid (fun w => rdNext (casB l.length) (casS (lieK k) l).2 (by have := hcb.le; omega) hal w)
  have h8 : casAt (lieK k) l ≤ 8 := nxt_small hal (by have := casB_or l.length; omega)
  have HW := Lib.hid (fun w => rdWhole (casAt (lieK k) l + (casS (lieK k) l).1) (max (casS (lieK k) l).2 (casB l.length)) (by omega) (hal.max hcb) w)
  have hV : casV (lieK k) l = (nxt (casAt (lieK k) l + (casS (lieK k) l).1) (max (casS (lieK k) l).2 (casB l.length)), max (casS (lieK k) l).2 (casB l.length)) := rfl
  have hA : nxt (casB l.length) (casS (lieK k) l).2 = casAt (lieK k) l := rfl
  rw [hA] at HN
  rw [← hV] at HW
  have hb2 := hcb.le
  have ha2 := hal.le
  clear hfit hlz hV hA hcb hal HLie h
  have e2 := max_cast (casS (lieK k) l).2 (casB l.length)
  have HE2 := HE
  clear HE
  revert HE2 HB HN HW hsm h8 hb2 ha2 e2
  generalize casV (lieK k) l = V
  generalize casAt (lieK k) l = A
  generalize casS (lieK k) l = S
  generalize casB l.length = C
  obtain ⟨s1, s2⟩ := S
  intro hsm HB HN h8 HW hb2 ha2 e2 HE2
  simp only at hsm HN HW ha2 e2
  have hA0 := BlkAt.new w #[.int .i64 0] 3
  have hA1 := hA0.kept (F := fun _ => False) ((Kept.refl _ _).new (.cells #[.int .i64 1] 3)) id
  have hB1 := BlkAt.new (w.alloc (.cells #[.int .i64 0] 3)) #[.int .i64 1] 3
  rw [World.size_alloc] at hB1
  have HC0 : Hid (CasAt w.heap.size (w.heap.size + 1) ((w.alloc (.cells #[.int .i64 0] 3)).alloc (.cells #[.int .i64 1] 3)) (0, 1)) := Lib.hid ⟨hA1, hB1⟩
  have HK0 : Hid (Kept (fun _ => False) w ((w.alloc (.cells #[.int .i64 0] 3)).alloc (.cells #[.int .i64 1] 3))) := Lib.hid (((Kept.refl _ _).new _).new _)
  clear hA0 hA1 hB1
  go_enter Tryd.func34, Tryd.ntmps34
  go_wp2_with (first
    | (go_at_call 48; refine (HW.out _).mono ?_; rintro y w4 ⟨rfl, rfl⟩)
    | (go_at_call 47; refine (HN.out _).mono ?_; rintro y w3 ⟨rfl, rfl⟩)
    | (go_at_call 35; refine (HB.out _).mono ?_; rintro y w2 ⟨rfl, rfl⟩)
    | (go_at_call 45; refine (HE2.out _ HK0.out HC0.out).mono ?_; rintro y w1 ⟨rfl, k1, hc1⟩; have m1 := hc1.r.cell 0; have m2 := hc1.m.cell 0; simp at m1 m2; have HK1 := Lib.hid k1; clear k1 hc1))
  all_goals go_ret2
  all_goals exact ⟨rfl, (HK0.out.any.trans HK1.out).clear (fun i hi e => by omega)⟩
theorem fldS_len (f : Ty → Nat × Nat) : ∀ (l : List Ty) (st : List Nat × Nat × Nat), (l.foldl (fun st x => fldOne st (f x)) st).1.length = st.1.length + l.length
  | [], st => rfl
  | x :: r, st => by
    rw [List.foldl_cons, fldS_len f r, List.length_cons]
    show (st.1 ++ [_]).length + _ = _
    rw [List.length_append, List.length_singleton]
    omega
theorem make_ints (n : Nat) (hn : n ≤ 64) (w : World) : (Instr.makeSlice 31 (.int .i64 0) (.int .i64 (n : Int))).run Tryd.prog w = .ok (.slice (some ⟨w.heap.size, 0, none⟩) 0 n) (w.alloc (.cells (madeCells #[.int .i64 0] (n * 1)) 3)) := by
  obtain ⟨i, hi, hz, hs, hb⟩ := info_int2
  have := run_make (P := Tryd.prog) w 31 3 i _ Tryd.underlying31 hi hz .i64 .i64 0 n (by omega) (by omega) (by rw [hb]; omega) (by omega)
  rw [hs] at this
  simp only [Int.toNat_natCast] at this
  exact this
def FieldsR (pl : List Nat) (V : Nat × Nat) (w : World) (y : Ending) (w' : World) : Prop := ∃ v, y = .returned (.tuple #[v, cV V]) ∧ w'.ownsRow w.heap.size 3 1 v pl.length (pl.map fun n => Value.int .i64 (n : Nat)) ∧ Kept (fun _ => False) w w'
set_option maxRecDepth 100000 in
set_option maxHeartbeats 4000000 in
theorem rdFields (k : Nat) (HLie : LieAt k) (l : List Ty) (a : Option Addr) (cap : Nat) (w : World) (h : RowAt w l a cap) (hfit : ∀ x ∈ l, Fit k x) (hal : Al (fldS (lieK k) l).2.2) (hl64 : l.length ≤ 64) (hsm : ∀ i, (fldS (lieK k) (l.take i)).2.1 ≤ 90000) :
    Calls Tryd.prog 33 #[.slice a l.length cap] w (FieldsR (fldS (lieK k) l).1 (fldV (lieK k) l) w) := by
  have hlz : LiesU (· < w.heap.size) w (tysU l) (.slice a l.length cap) := h.lies.now
  have HE : Hid (∀ w1, Kept (fun _ => False) w w1 → w.heap.size ≤ w1.heap.size → FldAt w.heap.size (w.heap.size + 1 + 1) (w.heap.size + 1) (w.heap.size + 1 + 1 + 1) w1 ([], 0, 1) → Calls Tryd.prog 45 #[.slice a l.length cap, .func (.func 46) #[] #[.pointer (some ⟨w.heap.size + 1 + 1, 0, none⟩), .pointer (some ⟨w.heap.size + 1, 0, none⟩), .pointer (some ⟨w.heap.size + 1 + 1 + 1, 0, none⟩)]] w1 fun y w' => y = .returned (.tuple #[]) ∧ Kept (w.heap.size ≤ ·) w1 w' ∧ FldAt w.heap.size (w.heap.size + 1 + 1) (w.heap.size + 1) (w.heap.size + 1 + 1 + 1) w' (fldS (lieK k) l)) := Lib.hid fun w1 k1 hw1 hc => by
    refine (rdEach k HLie l a cap 46 w.heap.size _ (fun i w' => FldAt w.heap.size (w.heap.size + 1 + 1) (w.heap.size + 1) (w.heap.size + 1 + 1 + 1) w' (fldS (lieK k) (l.take i))) w1 fields1_func (hlz.past k1 (fun _ e => e.elim)) hfit ?_ (fun i w1 w2 h1 h2 => h1.kept h2) hc).mono ?_
    · intro i x hx w2 k2 h2
      have hxf := hfit x (List.mem_of_getElem? hx)
      have hi := (List.getElem?_eq_some_iff.1 hx).1
      have hln := fldS_len (lieK k) (l.take i) ([], 0, 1)
      have hln2 : (fldS (lieK k) (l.take i)).1.length ≤ 64 := by
        show ((l.take i).foldl (fun st x => fldOne st (lieK k x)) ([], 0, 1)).1.length ≤ 64
        rw [hln, List.length_take]
        show 0 + _ ≤ _
        omega
      refine (rdFields1 w.heap.size _ _ _ _ _ _ w2 h2 (by have := k2.size; omega) (by omega) (by omega) (by omega) (by omega) (by omega) (by omega) (lieK_good k x).al (lie_small hxf).2.1 (hsm i) (by omega)).mono ?_
      rintro y w3 ⟨e, k3, b1⟩
      refine ⟨e, k3, ?_⟩
      rw [fldS_snoc hx]
      exact b1
    · rintro y w3 ⟨e, k3, h3⟩
      rw [List.take_length] at h3
      exact ⟨e, k3, h3⟩
  have he := hsm l.length
  rw [List.take_length] at he
  have HW := Lib.hid (fun w => rdWhole (fldS (lieK k) l).2.1 (fldS (lieK k) l).2.2 (by omega) hal w)
  have hV : fldV (lieK k) l = (nxt (fldS (lieK k) l).2.1 (fldS (lieK k) l).2.2, (fldS (lieK k) l).2.2) := rfl
  rw [← hV] at HW
  have hmk := make_ints l.length hl64
  have ha2 := hal.le
  clear hfit hlz hV hal HLie h hsm
  have HE2 := HE
  clear HE
  revert he HW ha2 HE2
  generalize fldV (lieK k) l = V
  generalize fldS (lieK k) l = S
  obtain ⟨s1, s2, s3⟩ := S
  intro he HW ha2 HE2
  simp only at he HW ha2
  have hR := World.ownsRow_made (base := w.heap.size) (e := 3) (size := 1) w (madeCells #[.int .i64 0] l.length) l.length (Nat.le_refl _) (by unfold maxLen; omega) (by rw [size_madeCells, Nat.mul_one])
  have hA0 := BlkAt.new (w.alloc (.cells (madeCells #[.int .i64 0] l.length) 3)) #[.slice (some ⟨w.heap.size, 0, none⟩) 0 l.length] 31
  have hE0 := BlkAt.new ((w.alloc (.cells (madeCells #[.int .i64 0] l.length) 3)).alloc (.cells #[.slice (some ⟨w.heap.size, 0, none⟩) 0 l.length] 31)) #[.int .i64 0] 3
  have hM0 := BlkAt.new (((w.alloc (.cells (madeCells #[.int .i64 0] l.length) 3)).alloc (.cells #[.slice (some ⟨w.heap.size, 0, none⟩) 0 l.length] 31)).alloc (.cells #[.int .i64 0] 3)) #[.int .i64 1] 3
  have hA1 := (hA0.kept (F := fun _ => False) ((Kept.refl _ _).new (.cells #[.int .i64 0] 3)) id).kept (F := fun _ => False) ((Kept.refl _ _).new (.cells #[.int .i64 1] 3)) id
  have hE1 := hE0.kept (F := fun _ => False) ((Kept.refl _ _).new (.cells #[.int .i64 1] 3)) id
  have hR1 := ((hR.alloc (.cells #[.slice (some ⟨w.heap.size, 0, none⟩) 0 l.length] 31)).alloc (.cells #[.int .i64 0] 3)).alloc (.cells #[.int .i64 1] 3)
  simp only [World.size_alloc] at hA1 hE1 hM0
  have HC0 : Hid (FldAt w.heap.size (w.heap.size + 1 + 1) (w.heap.size + 1) (w.heap.size + 1 + 1 + 1) ((((w.alloc (.cells (madeCells #[.int .i64 0] l.length) 3)).alloc (.cells #[.slice (some ⟨w.heap.size, 0, none⟩) 0 l.length] 31)).alloc (.cells #[.int .i64 0] 3)).alloc (.cells #[.int .i64 1] 3)) ([], 0, 1)) :=
    Lib.hid ⟨some ⟨w.heap.size, 0, none⟩, l.length, hE1, hA1, hM0, hR1, fun e => by have e : w.heap.size = w.heap.size + 1 + 1 := Option.some.inj e; omega, fun e => by have e : w.heap.size = w.heap.size + 1 := Option.some.inj e; omega, fun e => by have e : w.heap.size = w.heap.size + 1 + 1 + 1 := Option.some.inj e; omega⟩
  have HK0 : Hid (Kept (fun _ => False) w ((((w.alloc (.cells (madeCells #[.int .i64 0] l.length) 3)).alloc (.cells #[.slice (some ⟨w.heap.size, 0, none⟩) 0 l.length] 31)).alloc (.cells #[.int .i64 0] 3)).alloc (.cells #[.int .i64 1] 3))) := Lib.hid (((((Kept.refl _ _).new _).new _).new _).new _)
  clear hR hA0 hE0 hM0 hA1 hE1 hR1
  go_enter Tryd.func33, Tryd.ntmps33
  go_wp2_with (first
    | (go_at_call 45; refine (HE2.out _ HK0.out HK0.out.size HC0.out).mono ?_; rintro y w1 ⟨rfl, k1, hc1⟩; obtain ⟨av, cap1, b1, b2, b3, b4, _⟩ := hc1.ex; have m1 := b1.cell 0; have m2 := b2.cell 0; have m3 := b3.cell 0; simp at m1 m2 m3; have HK1 := Lib.hid k1; have HO := Lib.hid b4; clear k1 hc1 b1 b2 b3 b4))
  go_region_with (go_at_call 48; refine (HW.out _).mono ?_; rintro y w4 ⟨rfl, rfl⟩)
  all_goals (go_wp2_with fail)
  all_goals exact bodyPost_ret (v := .tuple #[.slice av s1.length cap1, cV V]) (by simp [results, Tryd.results33, go_sem]) rfl ⟨_, rfl, HO.out, (HK0.out.any.trans HK1.out).drew.clear (fun i hi e => by omega)⟩
end Go.Proofs.YtlkbgdhlbdjbiaaDoor
