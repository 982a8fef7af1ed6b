/- value: Text of a value that may be; the example. -/
import Derived.Test.YtikgkjkgdlnekaaGreatDoorVbT6
set_option linter.unusedVariables false
set_option linter.unusedSimpArgs false
namespace Go.Proofs.YtikgkjkgdlnekaaGreatDoor
open Go.RowKit
open Lex Ct

def TexR (b : ByteArray) (w : World) (y : Ending) (w' : World) : Prop := y = .returned (.tuple #[.string b, .int .i64 0]) ∧ Kept (fun _ => False) w w'
set_option maxRecDepth 100000 in
set_option maxHeartbeats 8000000 in
/-- TEXT, of a value that may be. -/
theorem rdText (t : Ty) (an : Option Addr) (cn : Nat) (al : Option Addr) (cl : Nat) (v : Vl) (sa : Option Addr) (sc : Nat) (av : Option Addr) (cv : Nat) (w : World) (h : TyAt w t an cn al cl) (hf : FineT t) (hv : VlAt w v sa sc av cv) (hl : LtV v) (htab : TabW w) (ho : okT t = true) (hp : partsK 16 t v ≠ 0) (b : ByteArray) (hb : TextOf (plK 17 t) v b) :
    Calls Tryz.prog 17 #[tyV t an cn al cl, vlV v sa sc av cv] w (TexR b w) := by
  have k0 : Kept (fun _ => False) w ((w.alloc (.cells #[.int .i64 t.kind, .slice an t.names.length cn, .slice al t.l.length cl, .int .i64 t.r] 25)).alloc (.cells #[.int .i64 v.n, .slice sa v.s.length sc, .slice av v.l.length cv] 29)) := ((Kept.refl _ _).new _).new _
  have T0 := (BlkAt.new w #[.int .i64 t.kind, .slice an t.names.length cn, .slice al t.l.length cl, .int .i64 t.r] 25).kept (F := fun _ => False) ((Kept.refl _ _).new (.cells #[.int .i64 v.n, .slice sa v.s.length sc, .slice av v.l.length cv] 29)) id
  have V0 := BlkAt.new (w.alloc (.cells #[.int .i64 t.kind, .slice an t.names.length cn, .slice al t.l.length cl, .int .i64 t.r] 25)) #[.int .i64 v.n, .slice sa v.s.length sc, .slice av v.l.length cv] 29
  rw [World.size_alloc] at V0
  have HT := Lib.hid T0
  have HV := Lib.hid V0
  have HK := Lib.hid k0
  have HC := Lib.hid (fun w' (k : Kept (fun _ => False) w w') => rdVCheck t an cn al cl v sa sc av cv w' (h.kept k) hf (hv.kept k) hl)
  have hz : chkV t v = 0 := by
    unfold chkV
    rw [if_neg (by rw [ho]; decide), if_neg hp]
  rw [hz] at HC
  unfold ChkR at HC
  have HP := Lib.hid (fun w' (k : Kept (fun _ => False) w w') => rdPlV t an cn al cl w' (h.kept k) ho)
  have HX := Lib.hid (fun ap cp aq cq w' (k : Kept (fun _ => False) w w') h' => hb ap cp aq cq sa sc av cv w' h' (hv.kept k) (htab.kept k))
  unfold PlainR at HP
  unfold TxtR at HX
  clear h hf hv hl htab ho hp hb hz k0 T0 V0
  generalize plK 17 t = p at HP HX
  go_enter Tryz.func17, Tryz.ntmps17
  go_wp2_with (first
    | (go_at_call 15
       refine (HC.out _ HK.out).mono ?_
       rintro y w1 ⟨rfl, k1⟩
       have HK1 := Lib.hid (HK.out.trans k1)
       have HT1 := Lib.hid (HT.out.kept (F := fun _ => False) k1 id)
       have HV1 := Lib.hid (HV.out.kept (F := fun _ => False) k1 id)
       obtain ⟨t0, t1, t2, t3⟩ := box4_cells' HT1.out
       obtain ⟨v0, v1, v2⟩ := box3_cells HV1.out
       clear k1))
  have q0 : Kept (fun _ => False) w1 w1.drew := (Kept.refl _ _).drew
  have HW : Hid (∀ w', Kept (fun _ => False) w1 w' → w'.cell? ⟨w.heap.size, 0, none⟩ = some (.int .i64 t.kind) ∧ w'.cell? ⟨w.heap.size, 1, none⟩ = some (.slice an t.names.length cn) ∧ w'.cell? ⟨w.heap.size, 2, none⟩ = some (.slice al t.l.length cl) ∧ w'.cell? ⟨w.heap.size, 3, none⟩ = some (.int .i64 t.r) ∧ w'.cell? ⟨w.heap.size + 1, 0, none⟩ = some (.int .i64 v.n) ∧ w'.cell? ⟨w.heap.size + 1, 1, none⟩ = some (.slice sa v.s.length sc) ∧ w'.cell? ⟨w.heap.size + 1, 2, none⟩ = some (.slice av v.l.length cv)) := Lib.hid (fun w' k' => by
    have A := HT1.out.kept (F := fun _ => False) k' id
    have B := HV1.out.kept (F := fun _ => False) k' id
    exact ⟨A.cell 0, A.cell 1, A.cell 2, A.cell 3, B.cell 0, B.cell 1, B.cell 2⟩)
  have E0 := Lib.hid (HW.out _ q0)
  clear t0 t1 t2 t3 v0 v1 v2
  go_region_held3 (fun w' => w'.cell? ⟨w.heap.size, 0, none⟩ = some (.int .i64 t.kind) ∧ w'.cell? ⟨w.heap.size, 1, none⟩ = some (.slice an t.names.length cn) ∧ w'.cell? ⟨w.heap.size, 2, none⟩ = some (.slice al t.l.length cl) ∧ w'.cell? ⟨w.heap.size, 3, none⟩ = some (.int .i64 t.r) ∧ w'.cell? ⟨w.heap.size + 1, 0, none⟩ = some (.int .i64 v.n) ∧ w'.cell? ⟨w.heap.size + 1, 1, none⟩ = some (.slice sa v.s.length sc) ∧ w'.cell? ⟨w.heap.size + 1, 2, none⟩ = some (.slice av v.l.length cv))
    (first | exact E0.out | exact HW.out _ q0)
    (first
      | (go_at_call 32
         refine (HX.out ap cp aq cq _ (HK1.out.trans q0) HU.out).mono ?_
         rintro y w5 ⟨rfl, k5⟩
         replace q0 := q0.trans k5
         clear k5)
      | (go_at_call 27
         refine (HP.out _ (HK1.out.trans q0)).mono ?_
         rintro y w4 ⟨ap, cp, aq, cq, rfl, h4, k4⟩
         replace q0 := q0.trans k4
         have HU := Lib.hid h4
         clear h4 k4 E0))
  all_goals go_wp2_with fail
  all_goals exact bodyPost_ret (v := .tuple #[.string b, .int .i64 0]) (by simp [results, Tryz.results17, go_sem]) rfl ⟨rfl, HK1.out.trans q0⟩
namespace Ct
def exT1 : Ty := .mk 17 [] [.mk 11 [] [] 0] 0
def exV1 : Vl := .mk 1 [] [.mk 0 [97, 233] []]
def exT2 : Ty := .mk 14 [] [.mk 1 [] [] 0, .mk 9 [] [] 0] 0
def exV2 : Vl := .mk 0 [] [.mk 1 [] [], .mk (-1) [] []]
def exB1 : ByteArray := ⟨#[115, 111, 109, 101, 40, 34, 97, 92, 117, 123, 101, 57, 125, 34, 41]⟩
def exB2 : ByteArray := ⟨#[40, 116, 114, 117, 101, 44, 32, 49, 56, 52, 52, 54, 55, 52, 52, 48, 55, 51, 55, 48, 57, 53, 53, 49, 54, 49, 53, 41]⟩
theorem exT1_ok : okT exT1 = true := by decide +kernel
theorem exT2_ok : okT exT2 = true := by decide +kernel
theorem exP1 : partsK 16 exT1 exV1 ≠ 0 := by decide +kernel
theorem exP2 : partsK 16 exT2 exV2 ≠ 0 := by decide +kernel
theorem exF1 : FineT exT1 := by show FineL (encTy exT1); simp [exT1, encTy, encTys, FineL, FineU]
theorem exF2 : FineT exT2 := by show FineL (encTy exT2); simp [exT2, encTy, encTys, FineL, FineU]
theorem exL1 : LtV exV1 := ⟨5, by decide +kernel⟩
theorem exL2 : LtV exV2 := ⟨5, by decide +kernel⟩
theorem exK1 : plK 17 exT1 = .mk 15 [nmNone, nmSome] [.mk 0 [] [] 0, .mk 11 [] [] 0] 0 := by rfl
theorem exK2 : plK 17 exT2 = .mk 14 [] [.mk 1 [] [] 0, .mk 9 [] [] 0] 0 := by rfl
def exH : Int → List UInt8 := fun _ => [101, 57]
end Ct
theorem exTx11 : TextOf (.mk 11 [] [] 0) (.mk 0 [97, 233] []) (⟨#[34]⟩ ++ ⟨#[97, 92, 117, 123, 101, 57, 125]⟩ ++ ⟨#[34]⟩) :=
  text_11 [] [] 0 0 [97, 233] [] exH (by decide) (by simp) _ (by rfl) (by decide) (fun w hw => Lib.hid (fun c hc => ⟨by show 2 ≤ 20; decide, fun hsp w' k' => by
    rcases List.mem_cons.1 hc with rfl | hc
    · omega
    · rcases List.mem_cons.1 hc with rfl | hc
      · exact rdHex233 w' (hw.kept k').2
      · cases hc⟩))
theorem exTx1 : TextOf (plK 17 exT1) exV1 exB1 := by
  rw [exK1]
  have H : TxsOf (.mk 15 [nmNone, nmSome] [.mk 0 [] [] 0, .mk 11 [] [] 0] 0) (.mk ((1 : Nat) : Int) [] [.mk 0 [97, 233] []]) [⟨#[34]⟩ ++ ⟨#[97, 92, 117, 123, 101, 57, 125]⟩ ++ ⟨#[34]⟩] := ⟨rfl, by decide, fun i x b hx hb => by
    cases i with
    | zero =>
      cases hx
      cases hb
      exact ⟨.mk 11 [] [] 0, rfl, exTx11⟩
    | succ i => cases hx⟩
  have I := inside_go [nmNone, nmSome] [.mk 0 [] [] 0, .mk 11 [] [] 0] 0 ((1 : Nat) : Int) [] [.mk 0 [97, 233] []] (by decide) _ H ⟨#[34, 97, 92, 117, 123, 101, 57, 125, 34]⟩ (by decide +kernel) (by decide)
  have T := text_15 [nmNone, nmSome] [.mk 0 [] [] 0, .mk 11 [] [] 0] 0 1 [] [.mk 0 [97, 233] []] nmSome rfl ⟨#[115, 111, 109, 101]⟩ (by decide +kernel) (by decide) _ I (by decide)
  have e : (⟨#[115, 111, 109, 101]⟩ : ByteArray) ++ (⟨#[40]⟩ ++ ⟨#[34, 97, 92, 117, 123, 101, 57, 125, 34]⟩ ++ ⟨#[41]⟩) = exB1 := by decide +kernel
  rw [e] at T
  exact T
theorem exTx2 : TextOf (plK 17 exT2) exV2 exB2 := by
  rw [exK2]
  have H : TxsOf (.mk 14 [] [.mk 1 [] [] 0, .mk 9 [] [] 0] 0) exV2 [⟨#[116, 114, 117, 101]⟩, ⟨(Lib.decDigits 18446744073709551615).toArray⟩] := ⟨rfl, by decide, fun i x b hx hb => by
    cases i with
    | zero =>
      cases hx
      cases hb
      exact ⟨.mk 1 [] [] 0, rfl, text_1t [] [] 0 1 [] [] rfl⟩
    | succ i =>
      cases i with
      | zero =>
        cases hx
        cases hb
        exact ⟨.mk 9 [] [] 0, rfl, text_9 [] [] 0 (-1) [] [] 18446744073709551615 (by decide +kernel) (by decide) (by decide)⟩
      | succ i => cases hx⟩
  have T := text_14 [] [.mk 1 [] [] 0, .mk 9 [] [] 0] 0 0 [] [.mk 1 [] [], .mk (-1) [] []] _ H ⟨#[116, 114, 117, 101, 44, 32, 49, 56, 52, 52, 54, 55, 52, 52, 48, 55, 51, 55, 48, 57, 53, 53, 49, 54, 49, 53]⟩ (by decide +kernel) (by decide)
  have e : (⟨#[40]⟩ : ByteArray) ++ ⟨#[116, 114, 117, 101, 44, 32, 49, 56, 52, 52, 54, 55, 52, 52, 48, 55, 51, 55, 48, 57, 53, 53, 49, 54, 49, 53]⟩ ++ ⟨#[41]⟩ = exB2 := by decide +kernel
  rw [e] at T
  exact T
end Go.Proofs.YtikgkjkgdlnekaaGreatDoor
