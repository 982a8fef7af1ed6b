/- value: awake. -/
import Derived.Test.YtikgkjkgdlnekaaGreatDoorVbT7
set_option linter.unusedVariables false
set_option linter.unusedSimpArgs false
namespace Go.Proofs.YtikgkjkgdlnekaaGreatDoor
open Go.RowKit
open Lex Ct

def tyRow (w : World) (cs : Array Value) : World := w.alloc (.cells cs 25)
def AwkR (w : World) (y : Ending) (w' : World) : Prop := y = .returned (.bool true) ∧ Kept (fun _ => False) w w'
set_option maxRecDepth 100000 in
set_option maxHeartbeats 8000000 in
theorem awake15 (w : World) (htab : TabW w) : Calls Tryz.prog 6 #[] w (AwkR w) := by
  have HT := Lib.hid htab
  have R1 : Hid (∀ g1 g2 g3 w', Kept (fun _ => False) w w' → BlkAt w' g1 #[.int .i64 11, .slice none 0 0, .slice none 0 0, .int .i64 0] 25 → BlkAt w' g2 #[.int .i64 97, .int .i64 233] 3 → BlkAt w' g3 #[.int .i64 0, .slice (some ⟨g2, 0, none⟩) 2 2, .slice none 0 0] 29 →
      Calls Tryz.prog 17 #[.agg #[.int .i64 17, .slice none 0 0, .slice (some ⟨g1, 0, none⟩) 1 1, .int .i64 0], .agg #[.int .i64 1, .slice none 0 0, .slice (some ⟨g3, 0, none⟩) 1 1]] w' (TexR exB1 w')) := Lib.hid (fun g1 g2 g3 w' k h1 h2 h3 => by
    have ht : TyAt w' exT1 none 0 (some ⟨g1, 0, none⟩) 1 := ⟨liesU_nil _ _, liesU_blk (us := encTys [.mk 11 [] [] 0]) h1 (Nat.le_refl _) (by decide) rfl (ty_lies (t := .mk 11 [] [] 0) (liesU_nil _ _) (liesU_nil _ _))⟩
    have hv : VlAt w' exV1 none 0 (some ⟨g3, 0, none⟩) 1 := ⟨liesU_nil _ _, liesU_blk (us := encVs [.mk 0 [97, 233] []]) h3 (Nat.le_refl _) (by decide) rfl (vl_lies (v := .mk 0 [97, 233] []) (liesU_blk (us := [U.z 97, U.z 233]) h2 (Nat.le_refl _) (by decide) rfl (.cons (liesU_z _) (.cons (liesU_z _) .nil))) (liesU_nil _ _))⟩
    exact rdText exT1 none 0 _ 1 exV1 none 0 _ 1 w' ht exF1 hv exL1 (HT.out.kept k) exT1_ok exP1 exB1 exTx1)
  have R2 : Hid (∀ g1 g3 w', Kept (fun _ => False) w w' → BlkAt w' g1 #[.int .i64 1, .slice none 0 0, .slice none 0 0, .int .i64 0, .int .i64 9, .slice none 0 0, .slice none 0 0, .int .i64 0] 25 → BlkAt w' g3 #[.int .i64 1, .slice none 0 0, .slice none 0 0, .int .i64 (-1), .slice none 0 0, .slice none 0 0] 29 →
      Calls Tryz.prog 17 #[.agg #[.int .i64 14, .slice none 0 0, .slice (some ⟨g1, 0, none⟩) 2 2, .int .i64 0], .agg #[.int .i64 0, .slice none 0 0, .slice (some ⟨g3, 0, none⟩) 2 2]] w' (TexR exB2 w')) := Lib.hid (fun g1 g3 w' k h1 h3 => by
    have ht : TyAt w' exT2 none 0 (some ⟨g1, 0, none⟩) 2 := ⟨liesU_nil _ _, liesU_blk (us := encTys [.mk 1 [] [] 0, .mk 9 [] [] 0]) h1 (Nat.le_refl _) (by decide) rfl (LiesL.append (ty_lies (t := .mk 1 [] [] 0) (liesU_nil _ _) (liesU_nil _ _)) (ty_lies (t := .mk 9 [] [] 0) (liesU_nil _ _) (liesU_nil _ _)))⟩
    have hv : VlAt w' exV2 none 0 (some ⟨g3, 0, none⟩) 2 := ⟨liesU_nil _ _, liesU_blk (us := encVs [.mk 1 [] [], .mk (-1) [] []]) h3 (Nat.le_refl _) (by decide) rfl (LiesL.append (vl_lies (v := .mk 1 [] []) (liesU_nil _ _) (liesU_nil _ _)) (vl_lies (v := .mk (-1) [] []) (liesU_nil _ _) (liesU_nil _ _)))⟩
    exact rdText exT2 none 0 _ 2 exV2 none 0 _ 2 w' ht exF2 hv exL2 (HT.out.kept k) exT2_ok exP2 exB2 exTx2)
  unfold TexR at R1 R2
  have b1 : (exB1.toList == ([115, 111, 109, 101, 40, 34, 97, 92, 117, 123, 101, 57, 125, 34, 41] : List UInt8)) = true := by rw [ByteArray.toList_eq]; rfl
  have b2 : (exB2.toList == ([40, 116, 114, 117, 101, 44, 32, 49, 56, 52, 52, 54, 55, 52, 52, 48, 55, 51, 55, 48, 57, 53, 53, 49, 54, 49, 53, 41] : List UInt8)) = true := by rw [ByteArray.toList_eq]; rfl
  have k3 : Kept (fun _ => False) w (((w.alloc (.cells #[.int .i64 11, .slice none 0 0, .slice none 0 0, .int .i64 0] 25)).alloc (.cells #[.int .i64 97, .int .i64 233] 3)).alloc (.cells #[.int .i64 0, .slice (some ⟨w.heap.size + 1, 0, none⟩) 2 2, .slice none 0 0] 29)) := (((Kept.refl _ _).new _).new _).new _
  have a1 : BlkAt (((w.alloc (.cells #[.int .i64 11, .slice none 0 0, .slice none 0 0, .int .i64 0] 25)).alloc (.cells #[.int .i64 97, .int .i64 233] 3)).alloc (.cells #[.int .i64 0, .slice (some ⟨w.heap.size + 1, 0, none⟩) 2 2, .slice none 0 0] 29)) w.heap.size #[.int .i64 11, .slice none 0 0, .slice none 0 0, .int .i64 0] 25 := (BlkAt.new w #[.int .i64 11, .slice none 0 0, .slice none 0 0, .int .i64 0] 25).kept (F := fun _ => False) (((Kept.refl _ _).new _).new _) id
  have a2 : BlkAt (((w.alloc (.cells #[.int .i64 11, .slice none 0 0, .slice none 0 0, .int .i64 0] 25)).alloc (.cells #[.int .i64 97, .int .i64 233] 3)).alloc (.cells #[.int .i64 0, .slice (some ⟨w.heap.size + 1, 0, none⟩) 2 2, .slice none 0 0] 29)) (w.heap.size + 1) #[.int .i64 97, .int .i64 233] 3 := by
    have := (BlkAt.new (w.alloc (.cells #[.int .i64 11, .slice none 0 0, .slice none 0 0, .int .i64 0] 25)) #[.int .i64 97, .int .i64 233] 3).kept (F := fun _ => False) ((Kept.refl _ _).new (.cells #[.int .i64 0, .slice (some ⟨w.heap.size + 1, 0, none⟩) 2 2, .slice none 0 0] 29)) id
    rw [World.size_alloc] at this
    exact this
  have a3 : BlkAt (((w.alloc (.cells #[.int .i64 11, .slice none 0 0, .slice none 0 0, .int .i64 0] 25)).alloc (.cells #[.int .i64 97, .int .i64 233] 3)).alloc (.cells #[.int .i64 0, .slice (some ⟨w.heap.size + 1, 0, none⟩) 2 2, .slice none 0 0] 29)) (w.heap.size + 1 + 1) #[.int .i64 0, .slice (some ⟨w.heap.size + 1, 0, none⟩) 2 2, .slice none 0 0] 29 := by
    have := BlkAt.new ((w.alloc (.cells #[.int .i64 11, .slice none 0 0, .slice none 0 0, .int .i64 0] 25)).alloc (.cells #[.int .i64 97, .int .i64 233] 3)) #[.int .i64 0, .slice (some ⟨w.heap.size + 1, 0, none⟩) 2 2, .slice none 0 0] 29
    rw [World.size_alloc, World.size_alloc] at this
    exact this
  have C1 := Lib.hid (R1.out _ _ _ _ k3 a1 a2 a3)
  have HK3 := Lib.hid k3
  clear htab HT R1 k3 a1 a2 a3
  go_enter Tryz.func6, Tryz.ntmps6
  go_wp2_with (first
    | (go_at_call 17
       refine C1.out.mono ?_
       rintro y w1 ⟨rfl, k1⟩
       have HK1 := Lib.hid (HK3.out.trans k1)
       have k5 : Kept (fun _ => False) w1 ((w1.alloc (.cells #[.int .i64 1, .slice none 0 0, .slice none 0 0, .int .i64 0, .int .i64 9, .slice none 0 0, .slice none 0 0, .int .i64 0] 25)).alloc (.cells #[.int .i64 1, .slice none 0 0, .slice none 0 0, .int .i64 (-1), .slice none 0 0, .slice none 0 0] 29)) := ((Kept.refl _ _).new _).new _
       have d1 : BlkAt ((w1.alloc (.cells #[.int .i64 1, .slice none 0 0, .slice none 0 0, .int .i64 0, .int .i64 9, .slice none 0 0, .slice none 0 0, .int .i64 0] 25)).alloc (.cells #[.int .i64 1, .slice none 0 0, .slice none 0 0, .int .i64 (-1), .slice none 0 0, .slice none 0 0] 29)) w1.heap.size #[.int .i64 1, .slice none 0 0, .slice none 0 0, .int .i64 0, .int .i64 9, .slice none 0 0, .slice none 0 0, .int .i64 0] 25 := (BlkAt.new w1 #[.int .i64 1, .slice none 0 0, .slice none 0 0, .int .i64 0, .int .i64 9, .slice none 0 0, .slice none 0 0, .int .i64 0] 25).kept (F := fun _ => False) ((Kept.refl _ _).new _) id
       have d2 := BlkAt.new (w1.alloc (.cells #[.int .i64 1, .slice none 0 0, .slice none 0 0, .int .i64 0, .int .i64 9, .slice none 0 0, .slice none 0 0, .int .i64 0] 25)) #[.int .i64 1, .slice none 0 0, .slice none 0 0, .int .i64 (-1), .slice none 0 0, .slice none 0 0] 29
       rw [World.size_alloc] at d2
       have C2 := Lib.hid (R2.out _ _ _ (HK1.out.trans k5) d1 d2)
       have HK5 := Lib.hid (HK1.out.trans k5)
       clear C1 k1 k5 d1 d2)
    | (go_at_call 17
       refine C2.out.mono ?_
       rintro y w2 ⟨rfl, k2⟩
       have HK6 := Lib.hid (HK5.out.trans k2)
       clear k2 C2))
  go_ret
  exact ⟨by first | rfl | (simp; done), HK6.out⟩
end Go.Proofs.YtikgkjkgdlnekaaGreatDoor
