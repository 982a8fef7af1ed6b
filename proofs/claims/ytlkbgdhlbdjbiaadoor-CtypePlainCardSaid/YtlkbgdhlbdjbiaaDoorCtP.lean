/- ctype: plain, of all but a tuple. -/
import Derived.Test.YtlkbgdhlbdjbiaaDoorCtO
set_option linter.unusedVariables false
set_option linter.unusedSimpArgs false
namespace Go.Proofs.YtlkbgdhlbdjbiaaDoor
open Go.RowKit
open Lex Ct

namespace Ct
def nmNone : Nm := [110, 111, 110, 101]
def nmSome : Nm := [115, 111, 109, 101]
def nmOk : Nm := [111, 107]
def nmError : Nm := [101, 114, 114, 111, 114]
/-- A small number as it is written. -/
def digs (n : Nat) : Nm := if n < 10 then [48 + (n : Int)] else [48 + ((n / 10 : Nat) : Int), 48 + ((n % 10 : Nat) : Int)]
def plainT (t : Ty) : Ty := if t.kind = 14 then .mk 13 ((List.range t.l.length).map digs) t.l 0 else if t.kind = 16 then .mk 15 t.names (List.replicate t.names.length .zero) 0
  else if t.kind = 17 ∧ t.l.length = 1 then .mk 15 [nmNone, nmSome] (.zero :: t.l) 0 else if t.kind = 18 ∧ t.l.length = 2 then .mk 15 [nmOk, nmError] t.l 0 else t
theorem plainT_l (t : Ty) : (plainT t).l = plainL t := by
  unfold plainT plainL
  by_cases h14 : t.kind = 14
  · rw [if_pos h14, if_neg (by omega), if_neg (by omega)]; rfl
  · rw [if_neg h14]
    by_cases h16 : t.kind = 16
    · rw [if_pos h16, if_pos h16]; rfl
    · rw [if_neg h16, if_neg h16]
      by_cases h17 : t.kind = 17 ∧ t.l.length = 1
      · rw [if_pos h17, if_pos h17]; rfl
      · rw [if_neg h17, if_neg h17]
        split <;> rfl
end Ct
/-- A slice over a new block. -/
theorem liesU_blk {w : World} {T : TypeId} {m n cap g : Nat} {us : List U} {cs : Array Value} (hb : BlkAt w g cs T) (hc : n ≤ cap) (hm : cap ≤ 9223372036854775807) (hl : us.length = n * m) (h : LiesL AnyB w us cs.toList) : LiesU AnyB w (.sl T m n us) (.slice (some ⟨g, 0, none⟩) n cap) := by
  unfold LiesU
  refine ⟨_, cap, cs.toList, rfl, hc, hm, hl, h, .inr ⟨g, 0, rfl, trivial, hb.lt, fun j v hj => ?_⟩⟩
  rw [hb.cell, Nat.zero_add, ← hj]
  simp
def PlainR (t : Ty) (w : World) (y : Ending) (w' : World) : Prop := ∃ ap cp aq cq, y = .returned (tyV t ap cp aq cq) ∧ TyAt w' t ap cp aq cq ∧ Kept (fun _ => False) w w'
set_option maxRecDepth 100000 in
set_option maxHeartbeats 4000000 in
theorem plain_same (t : Ty) (an : Option Addr) (cn : Nat) (al : Option Addr) (cl : Nat) (w : World) (h : TyAt w t an cn al cl) (b14 : (t.kind == 14) = false) (b16 : (t.kind == 16) = false) (b17 : (t.kind == 17) = false ∨ ((t.kind == 17) = true ∧ ((t.l.length : Int) == 1) = false))
    (b18 : (t.kind == 18) = false ∨ ((t.kind == 18) = true ∧ ((t.l.length : Int) == 2) = false)) :
    Calls Tryd.prog 23 #[tyV t an cn al cl] w (PlainR t w) := by
  have HL := Lib.hid h
  clear h
  unfold PlainR
  rcases b17 with b17 | ⟨b17, b17'⟩
  all_goals
    rcases b18 with b18 | ⟨b18, b18'⟩
    all_goals
      go_enter Tryd.func23, Tryd.ntmps23
      go_wp2_with fail
      try exact bodyPost_ret (v := tyV t an cn al cl) (by simp [results, Tryd.results23, go_sem]) rfl ⟨_, _, _, _, rfl, HL.out.kept (((Kept.refl _ _).new _).new _), ((Kept.refl _ _).new _).new _⟩
set_option maxRecDepth 100000 in
set_option maxHeartbeats 4000000 in
theorem plain_18 (n : List Nm) (l : List Ty) (r : Int) (an : Option Addr) (cn : Nat) (al : Option Addr) (cl : Nat) (w : World) (h : TyAt w (.mk 18 n l r) an cn al cl) (hl2 : l.length = 2) :
    Calls Tryd.prog 23 #[.agg #[.int .i64 18, .slice an n.length cn, .slice al l.length cl, .int .i64 r]] w (PlainR (.mk 15 [nmOk, nmError] l 0) w) := by
  have HL := Lib.hid h.l
  have hb : ((l.length : Int) == 2) = true := by simp; omega
  clear h hl2
  go_enter Tryd.func23, Tryd.ntmps23
  go_wp2_with fail
  have kk : Kept (fun _ => False) w _ := (((Kept.refl _ w).new (.cells #[.int .i64 18, .slice an n.length cn, .slice al l.length cl, .int .i64 r] 25)).new (.cells #[.int .i64 15, .slice (some ⟨w.heap.size + 1 + 1, 0, none⟩) 2 2, .slice al l.length cl, .int .i64 0] 25)).new (.cells #[.string ⟨#[111, 107]⟩, .string ⟨#[101, 114, 114, 111, 114]⟩] 9)
  have hS := BlkAt.new ((w.alloc (.cells #[.int .i64 18, .slice an n.length cn, .slice al l.length cl, .int .i64 r] 25)).alloc (.cells #[.int .i64 15, .slice (some ⟨w.heap.size + 1 + 1, 0, none⟩) 2 2, .slice al l.length cl, .int .i64 0] 25)) #[.string ⟨#[111, 107]⟩, .string ⟨#[101, 114, 114, 111, 114]⟩] 9
  rw [World.size_alloc, World.size_alloc] at hS
  refine bodyPost_ret (v := .agg #[.int .i64 15, .slice (some ⟨w.heap.size + 1 + 1, 0, none⟩) 2 2, .slice al l.length cl, .int .i64 0]) (by simp [results, Tryd.results23, go_sem]) rfl ⟨_, _, _, _, rfl, ⟨?_, HL.out.kept kk⟩, kk⟩
  exact liesU_blk (us := [U.s nmOk, U.s nmError]) hS (Nat.le_refl _) (by omega) rfl (.cons (liesU_s nmOk) (.cons (liesU_s nmError) .nil))
set_option maxRecDepth 100000 in
set_option maxHeartbeats 4000000 in
theorem plain_17 (n : List Nm) (x : Ty) (r : Int) (an : Option Addr) (cn : Nat) (al : Option Addr) (cl : Nat) (w : World) (h : TyAt w (.mk 17 n [x] r) an cn al cl) :
    Calls Tryd.prog 23 #[.agg #[.int .i64 17, .slice an n.length cn, .slice al 1 cl, .int .i64 r]] w (PlainR (.mk 15 [nmNone, nmSome] [.zero, x] 0) w) := by
  obtain ⟨g, o, ax, cx, ay, cy, rfl, hgl, htx, c0, c1, c2, c3⟩ := h.row.at (i := 0) (x := x) rfl
  have HL := Lib.hid h.l
  clear h
  rw [Nat.zero_mul, Nat.add_zero] at c0 c1 c2 c3
  have e0 := cell_box (cell_box (cell_box c0 (.cells #[.int .i64 17, .slice an n.length cn, .slice (some ⟨g, o, none⟩) 1 cl, .int .i64 r] 25)) (.cells #[.int .i64 0, .slice none 0 0, .slice none 0 0, .int .i64 0] 25)) (.cells #[.string ⟨#[110, 111, 110, 101]⟩, .string ⟨#[115, 111, 109, 101]⟩] 9)
  have e1 := cell_box (cell_box (cell_box c1 (.cells #[.int .i64 17, .slice an n.length cn, .slice (some ⟨g, o, none⟩) 1 cl, .int .i64 r] 25)) (.cells #[.int .i64 0, .slice none 0 0, .slice none 0 0, .int .i64 0] 25)) (.cells #[.string ⟨#[110, 111, 110, 101]⟩, .string ⟨#[115, 111, 109, 101]⟩] 9)
  have e2 := cell_box (cell_box (cell_box c2 (.cells #[.int .i64 17, .slice an n.length cn, .slice (some ⟨g, o, none⟩) 1 cl, .int .i64 r] 25)) (.cells #[.int .i64 0, .slice none 0 0, .slice none 0 0, .int .i64 0] 25)) (.cells #[.string ⟨#[110, 111, 110, 101]⟩, .string ⟨#[115, 111, 109, 101]⟩] 9)
  have e3 := cell_box (cell_box (cell_box c3 (.cells #[.int .i64 17, .slice an n.length cn, .slice (some ⟨g, o, none⟩) 1 cl, .int .i64 r] 25)) (.cells #[.int .i64 0, .slice none 0 0, .slice none 0 0, .int .i64 0] 25)) (.cells #[.string ⟨#[110, 111, 110, 101]⟩, .string ⟨#[115, 111, 109, 101]⟩] 9)
  have HTX := Lib.hid htx
  clear c0 c1 c2 c3 htx hgl
  go_enter Tryd.func23, Tryd.ntmps23
  go_wp2_with fail
  have kk : Kept (fun _ => False) w _ := ((((Kept.refl _ w).new (.cells #[.int .i64 17, .slice an n.length cn, .slice (some ⟨g, o, none⟩) 1 cl, .int .i64 r] 25)).new (.cells #[.int .i64 15, .slice (some ⟨w.heap.size + 1 + 1, 0, none⟩) 2 2, .slice (some ⟨w.heap.size + 1 + 1 + 1, 0, none⟩) 2 2, .int .i64 0] 25)).new (.cells #[.string ⟨#[110, 111, 110, 101]⟩, .string ⟨#[115, 111, 109, 101]⟩] 9)).new (.cells #[.int .i64 0, .slice none 0 0, .slice none 0 0, .int .i64 0, .int .i64 x.kind, .slice ax x.names.length cx, .slice ay x.l.length cy, .int .i64 x.r] 25)
  have hS := (BlkAt.new ((w.alloc (.cells #[.int .i64 17, .slice an n.length cn, .slice (some ⟨g, o, none⟩) 1 cl, .int .i64 r] 25)).alloc (.cells #[.int .i64 15, .slice (some ⟨w.heap.size + 1 + 1, 0, none⟩) 2 2, .slice (some ⟨w.heap.size + 1 + 1 + 1, 0, none⟩) 2 2, .int .i64 0] 25)) #[.string ⟨#[110, 111, 110, 101]⟩, .string ⟨#[115, 111, 109, 101]⟩] 9).kept (F := fun _ => False) ((Kept.refl _ _).new (.cells #[.int .i64 0, .slice none 0 0, .slice none 0 0, .int .i64 0, .int .i64 x.kind, .slice ax x.names.length cx, .slice ay x.l.length cy, .int .i64 x.r] 25)) id
  have hS8 := BlkAt.new (((w.alloc (.cells #[.int .i64 17, .slice an n.length cn, .slice (some ⟨g, o, none⟩) 1 cl, .int .i64 r] 25)).alloc (.cells #[.int .i64 15, .slice (some ⟨w.heap.size + 1 + 1, 0, none⟩) 2 2, .slice (some ⟨w.heap.size + 1 + 1 + 1, 0, none⟩) 2 2, .int .i64 0] 25)).alloc (.cells #[.string ⟨#[110, 111, 110, 101]⟩, .string ⟨#[115, 111, 109, 101]⟩] 9)) #[.int .i64 0, .slice none 0 0, .slice none 0 0, .int .i64 0, .int .i64 x.kind, .slice ax x.names.length cx, .slice ay x.l.length cy, .int .i64 x.r] 25
  rw [World.size_alloc, World.size_alloc] at hS
  rw [World.size_alloc, World.size_alloc, World.size_alloc] at hS8
  refine bodyPost_ret (v := .agg #[.int .i64 15, .slice (some ⟨w.heap.size + 1 + 1, 0, none⟩) 2 2, .slice (some ⟨w.heap.size + 1 + 1 + 1, 0, none⟩) 2 2, .int .i64 0]) (by simp [results, Tryd.results23, go_sem]) rfl ⟨_, _, _, _, rfl, ⟨?_, ?_⟩, kk⟩
  · exact liesU_blk (us := [U.s nmNone, U.s nmSome]) hS (Nat.le_refl _) (by omega) rfl (.cons (liesU_s nmNone) (.cons (liesU_s nmSome) .nil))
  · refine liesU_blk (us := encTy .zero ++ (encTy x ++ [])) hS8 (Nat.le_refl _) (by omega) ?_ ?_
    · rw [List.length_append, List.length_append, encTy_length, encTy_length]; rfl
    · rw [List.append_nil]
      exact (ty_lies (t := Ty.zero) (liesU_nil _ _) (liesU_nil _ _)).append (ty_lies (HTX.out.kept kk).n (HTX.out.kept kk).l)
theorem info_ty : ∃ i, Tryd.prog.info? 25 = some i ∧ i.zero = some (.agg #[.int .i64 0, .slice none 0 0, .slice none 0 0, .int .i64 0]) ∧ i.size = 4 ∧ i.bytes = 64 := by
  have h0 : (Tryd.prog.info? 25).map (fun i => (i.zero, i.size, i.bytes)) = some (some (.agg #[.int .i64 0, .slice none 0 0, .slice none 0 0, .int .i64 0]), 4, 64) := by kernel_rfl
  cases h : Tryd.prog.info? 25 with
  | none => rw [h] at h0; cases h0
  | some i =>
    rw [h] at h0
    simp at h0
    exact ⟨i, rfl, h0.1, h0.2.1, h0.2.2⟩
theorem make_types (n : Nat) (hn : n ≤ 64) (w : World) : (Instr.makeSlice 23 (.int .i64 (n : Int)) (.int .i64 (n : Int))).run Tryd.prog w = .ok (.slice (some ⟨w.heap.size, 0, none⟩) n n) (w.alloc (.cells (madeCells #[.int .i64 0, .slice none 0 0, .slice none 0 0, .int .i64 0] (n * 4)) 25)) := by
  obtain ⟨i, hi, hz, hs, hb⟩ := info_ty
  have := run_make (P := Tryd.prog) w 23 25 i _ Tryd.underlying23 hi hz .i64 .i64 n n (by omega) (Int.le_refl _) (by rw [hb]; omega) (by omega)
  rw [hs] at this
  simp only [Int.toNat_natCast] at this
  exact this
theorem encTys_append : ∀ (a b : List Ty), encTys (a ++ b) = encTys a ++ encTys b
  | [], b => rfl
  | t :: r, b => by
    show encTy t ++ encTys (r ++ b) = (encTy t ++ encTys r) ++ encTys b
    rw [encTys_append, List.append_assoc]
theorem made4 (a b c d : Value) (n : Nat) : (madeCells #[a, b, c, d] ((n + 1) * 4)).toList = (madeCells #[a, b, c, d] (n * 4)).toList ++ [a, b, c, d] := by
  unfold madeCells
  rw [Array.toList_map, Array.toList_map, Array.toList_range, Array.toList_range, show (n + 1) * 4 = n * 4 + 1 + 1 + 1 + 1 by omega, List.range_succ, List.range_succ, List.range_succ, List.range_succ]
  simp only [List.map_append, List.map_cons, List.map_nil, List.append_assoc, List.cons_append, List.nil_append]
  have e0 : n * 4 % 4 = 0 := by omega
  have e1 : (n * 4 + 1) % 4 = 1 := by omega
  have e2 : (n * 4 + 1 + 1) % 4 = 2 := by omega
  have e3 : (n * 4 + 1 + 1 + 1) % 4 = 3 := by omega
  simp only [List.size_toArray, List.length_cons, List.length_nil, Nat.zero_add, Nat.reduceAdd, e0, e1, e2, e3]
  rfl
theorem zeros_lie (w : World) : ∀ n, LiesL AnyB w (encTys (List.replicate n .zero)) (madeCells #[.int .i64 0, .slice none 0 0, .slice none 0 0, .int .i64 0] (n * 4)).toList
  | 0 => by
    have e : (madeCells #[.int .i64 0, .slice none 0 0, .slice none 0 0, .int .i64 0] (0 * 4)).toList = [] := by simp [madeCells]
    rw [e]
    exact LiesL.nil
  | n + 1 => by
    rw [made4, List.replicate_succ', encTys_append, encTys_one]
    exact (zeros_lie w n).append (ty_lies (t := Ty.zero) (liesU_nil _ _) (liesU_nil _ _))
set_option maxRecDepth 100000 in
set_option maxHeartbeats 4000000 in
theorem plain_16 (n : List Nm) (l : List Ty) (r : Int) (an : Option Addr) (cn : Nat) (al : Option Addr) (cl : Nat) (w : World) (h : TyAt w (.mk 16 n l r) an cn al cl) (hn : n.length ≤ 64) :
    Calls Tryd.prog 23 #[.agg #[.int .i64 16, .slice an n.length cn, .slice al l.length cl, .int .i64 r]] w (PlainR (.mk 15 n (List.replicate n.length .zero) 0) w) := by
  have HL := Lib.hid h.n
  have hmk := make_types n.length hn
  clear h
  go_enter Tryd.func23, Tryd.ntmps23
  go_wp2_with fail
  go_region
  all_goals (go_wp2_with fail)
  have kk : Kept (fun _ => False) w _ := ((((Kept.refl _ w).new (.cells #[.int .i64 16, .slice an n.length cn, .slice al l.length cl, .int .i64 r] 25)).new (.cells #[.int .i64 15, .slice an n.length cn, .slice (some ⟨w.heap.size + 1 + 1, 0, none⟩) n.length n.length, .int .i64 0] 25)).new (.cells (madeCells #[.int .i64 0, .slice none 0 0, .slice none 0 0, .int .i64 0] (n.length * 4)) 25)).drew
  have hS := BlkAt.new ((w.alloc (.cells #[.int .i64 16, .slice an n.length cn, .slice al l.length cl, .int .i64 r] 25)).alloc (.cells #[.int .i64 15, .slice an n.length cn, .slice (some ⟨w.heap.size + 1 + 1, 0, none⟩) n.length n.length, .int .i64 0] 25)) (madeCells #[.int .i64 0, .slice none 0 0, .slice none 0 0, .int .i64 0] (n.length * 4)) 25
  rw [World.size_alloc, World.size_alloc] at hS
  have hS2 := hS.kept (F := fun _ => False) (Kept.refl _ _).drew id
  refine bodyPost_ret (v := .agg #[.int .i64 15, .slice an n.length cn, .slice (some ⟨w.heap.size + 1 + 1, 0, none⟩) n.length n.length, .int .i64 0]) (by simp [results, Tryd.results23, go_sem]) rfl ⟨an, cn, some ⟨w.heap.size + 1 + 1, 0, none⟩, n.length, ?_, ⟨HL.out.kept kk, ?_⟩, kk⟩
  · show _ = Ending.returned (.agg #[.int .i64 15, .slice an n.length cn, .slice _ (List.replicate n.length Ty.zero).length n.length, .int .i64 0])
    rw [List.length_replicate]
  · show LiesU _ _ (.sl _ 4 (List.replicate n.length Ty.zero).length (encTys (List.replicate n.length Ty.zero))) (.slice _ (List.replicate n.length Ty.zero).length n.length)
    rw [List.length_replicate]
    exact liesU_blk hS2 (Nat.le_refl _) (by omega) (by rw [encTys_length, List.length_replicate]) (zeros_lie _ _)
/-- PLAIN, of all but a tuple. -/
theorem rdPlain (t : Ty) (an : Option Addr) (cn : Nat) (al : Option Addr) (cl : Nat) (w : World) (h : TyAt w t an cn al cl) (h14 : t.kind ≠ 14) (hn : t.names.length ≤ 64) :
    Calls Tryd.prog 23 #[tyV t an cn al cl] w (PlainR (plainT t) w) := by
  unfold plainT
  rw [if_neg h14]
  by_cases h16 : t.kind = 16
  · rw [if_pos h16]
    cases t with
    | mk k n l r =>
      have e : k = 16 := h16
      subst e
      exact plain_16 n l r an cn al cl w h hn
  · rw [if_neg h16]
    by_cases h17 : t.kind = 17 ∧ t.l.length = 1
    · rw [if_pos h17]
      cases t with
      | mk k n l r =>
        have e : k = 17 := h17.1
        subst e
        obtain ⟨x, hx⟩ := List.length_eq_one_iff.1 h17.2
        have hx' : l = [x] := hx
        subst hx'
        exact plain_17 n x r an cn al cl w h
    · rw [if_neg h17]
      by_cases h18 : t.kind = 18 ∧ t.l.length = 2
      · rw [if_pos h18]
        cases t with
        | mk k n l r =>
          have e : k = 18 := h18.1
          subst e
          exact plain_18 n l r an cn al cl w h h18.2
      · rw [if_neg h18]
        refine plain_same t an cn al cl w h (by simpa using h14) (by simpa using h16) ?_ ?_
        · by_cases e : t.kind = 17
          · exact .inr ⟨by simpa using e, by simp; omega⟩
          · exact .inl (by simpa using e)
        · by_cases e : t.kind = 18
          · exact .inr ⟨by simpa using e, by simp; omega⟩
          · exact .inl (by simpa using e)
end Go.Proofs.YtlkbgdhlbdjbiaaDoor
