/- ctype: plain, of a tuple too. -/
import Derived.Test.YtlkbgdhlbdjbiaaDoorCtNu
import Derived.Deep.RegionHeld3
set_option linter.unusedVariables false
set_option linter.unusedSimpArgs false
namespace Go.Proofs.YtlkbgdhlbdjbiaaDoor
open Go.RowKit
open Lex Ct

set_option maxRecDepth 100000 in
set_option maxHeartbeats 8000000 in
theorem plain_14 (n : List Nm) (l : List Ty) (r : Int) (an : Option Addr) (cn : Nat) (al : Option Addr) (cl : Nat) (w : World) (h : TyAt w (.mk 14 n l r) an cn al cl) (hn : l.length ≤ 64) :
    Calls Tryd.prog 23 #[.agg #[.int .i64 14, .slice an n.length cn, .slice al l.length cl, .int .i64 r]] w (PlainR (.mk 13 ((List.range l.length).map digs) l 0) w) := by
  have HL := Lib.hid h.l
  have k0 : Kept (fun _ => False) w ((w.alloc (.cells #[.int .i64 14, .slice an n.length cn, .slice al l.length cl, .int .i64 r] 25)).alloc (.cells #[.int .i64 0, .slice none 0 0, .slice none 0 0, .int .i64 0] 25)) := ((Kept.refl _ _).new _).new _
  have S0 := (BlkAt.new w #[.int .i64 14, .slice an n.length cn, .slice al l.length cl, .int .i64 r] 25).kept (F := fun _ => False) ((Kept.refl _ _).new (.cells #[.int .i64 0, .slice none 0 0, .slice none 0 0, .int .i64 0] 25)) id
  have F0 := BlkAt.new (w.alloc (.cells #[.int .i64 14, .slice an n.length cn, .slice al l.length cl, .int .i64 r] 25)) #[.int .i64 0, .slice none 0 0, .slice none 0 0, .int .i64 0] 25
  rw [World.size_alloc] at F0
  have HK := Lib.hid k0
  have HF := Lib.hid F0
  have HS := Lib.hid S0
  have q0 : Kept (fun _ => False) ((w.alloc (.cells #[.int .i64 14, .slice an n.length cn, .slice al l.length cl, .int .i64 r] 25)).alloc (.cells #[.int .i64 0, .slice none 0 0, .slice none 0 0, .int .i64 0] 25)) ((w.alloc (.cells #[.int .i64 14, .slice an n.length cn, .slice al l.length cl, .int .i64 r] 25)).alloc (.cells #[.int .i64 0, .slice none 0 0, .slice none 0 0, .int .i64 0] 25)).drew := (Kept.refl _ _).drew
  have hsz : (((w.alloc (.cells #[.int .i64 14, .slice an n.length cn, .slice al l.length cl, .int .i64 r] 25)).alloc (.cells #[.int .i64 0, .slice none 0 0, .slice none 0 0, .int .i64 0] 25)).drew).heap.size = w.heap.size + 1 + 1 := by simp
  have HN := Lib.hid (rdNumbers l.length hn)
  have HZ := Lib.hid hsz
  have HW : Hid (∀ w', Kept (fun _ => False) ((w.alloc (.cells #[.int .i64 14, .slice an n.length cn, .slice al l.length cl, .int .i64 r] 25)).alloc (.cells #[.int .i64 0, .slice none 0 0, .slice none 0 0, .int .i64 0] 25)) w' → w'.cell? ⟨w.heap.size, 2, none⟩ = some (.slice al l.length cl)) := Lib.hid fun w' k => (HS.out.kept (F := fun _ => False) k id).cell 2
  have E0 := HW.out _ q0
  clear h k0 S0 F0 hsz
  go_enter Tryd.func23, Tryd.ntmps23
  go_wp2_with fail
  go_region_held3 (fun w' => w'.cell? ⟨w.heap.size, 2, none⟩ = some (.slice al l.length cl)) (first | exact E0 | exact HW.out _ q0 | exact (((((HS.out.kept (F := fun _ => False) q0 id).other (Nat.ne_of_lt (Nat.lt_succ_self _)) 0 _).other (Nat.ne_of_lt (Nat.lt_succ_self _)) 1 _).other (Nat.ne_of_lt (Nat.lt_succ_self _)) 2 _).other (Nat.ne_of_lt (Nat.lt_succ_self _)) 3 _).cell 2)
    (first
      | (go_at_call 40; refine (HN.out _).mono ?_; rintro y w3 ⟨rfl, hB, k3⟩
         rw [HZ.out] at hB ⊢
         have HB := Lib.hid hB
         replace q0 := q0.trans k3
         have F3 := HF.out.kept (F := fun _ => False) q0 id
         have g0 := F3.cell 0
         have g1 := F3.cell 1
         have g2 := F3.cell 2
         have g3 := F3.cell 3
         have y0 := F3.frozen 0
         have y1 := F3.frozen 1
         have y2 := F3.frozen 2
         have y3 := F3.frozen 3
         simp at g0 g1 g2 g3
         have HF3 := Lib.hid F3
         clear k3 hB F3 E0))
  all_goals go_wp2_with fail
  have G := (((HF3.out.put 0 (.int .i64 13)).put 1 (.slice (some ⟨w.heap.size + 1 + 1, 0, none⟩) l.length l.length)).put 2 (.slice al l.length cl)).put 3 (.int .i64 0)
  have u0 := G.cell 0
  have u1 := G.cell 1
  have u2 := G.cell 2
  have u3 := G.cell 3
  simp at u0 u1 u2 u3
  have hne : w.heap.size + 1 + 1 ≠ w.heap.size + 1 := by omega
  have B4 := (((HB.out.other hne 0 (.int .i64 13)).other hne 1 (.slice (some ⟨w.heap.size + 1 + 1, 0, none⟩) l.length l.length)).other hne 2 (.slice al l.length cl)).other hne 3 (.int .i64 0)
  have kk := ((((((HK.out.trans q0).any (F := (w.heap.size ≤ ·))).set (p := ⟨w.heap.size + 1, 0, none⟩) (Nat.le_succ _) (.int .i64 13)).set (p := ⟨w.heap.size + 1, 1, none⟩) (Nat.le_succ _) (.slice (some ⟨w.heap.size + 1 + 1, 0, none⟩) l.length l.length)).set (p := ⟨w.heap.size + 1, 2, none⟩) (Nat.le_succ _) (.slice al l.length cl)).set (p := ⟨w.heap.size + 1, 3, none⟩) (Nat.le_succ _) (.int .i64 0)).clear (G := fun _ => False) (fun i hi e => by have e : w.heap.size ≤ i := e; omega)
  have hl : ((List.range l.length).map digs).length = l.length := by simp
  refine bodyPost_ret (v := .agg #[.int .i64 13, .slice (some ⟨w.heap.size + 1 + 1, 0, none⟩) l.length l.length, .slice al l.length cl, .int .i64 0]) (by simp [results, Tryd.results23, go_sem, u0, u1, u2, u3]) rfl ⟨some ⟨w.heap.size + 1 + 1, 0, none⟩, l.length, al, cl, ?_, ⟨?_, HL.out.kept kk⟩, kk⟩
  · show _ = Ending.returned (.agg #[.int .i64 13, .slice _ ((List.range l.length).map digs).length l.length, .slice al l.length cl, .int .i64 0])
    rw [hl]
  · show LiesU _ _ (.sl _ 1 ((List.range l.length).map digs).length (((List.range l.length).map digs).map .s)) (.slice _ ((List.range l.length).map digs).length l.length)
    rw [hl]
    exact liesU_blk B4 (Nat.le_refl _) (by omega) (by simp) (numC_all _ _)
/-- PLAIN, of every type. -/
theorem rdPlain_all (t : Ty) (an : Option Addr) (cn : Nat) (al : Option Addr) (cl : Nat) (w : World) (h : TyAt w t an cn al cl) (hl : t.kind = 14 → t.l.length ≤ 64) (hn : t.names.length ≤ 64) :
    Calls Tryd.prog 23 #[tyV t an cn al cl] w (PlainR (plainT t) w) := by
  by_cases h14 : t.kind = 14
  · unfold plainT
    rw [if_pos h14]
    have hl := hl h14
    cases t with
    | mk k n l r =>
      have e : k = 14 := h14
      subst e
      exact plain_14 n l r an cn al cl w h hl
  · exact rdPlain t an cn al cl w h h14 hn
end Go.Proofs.YtlkbgdhlbdjbiaaDoor
