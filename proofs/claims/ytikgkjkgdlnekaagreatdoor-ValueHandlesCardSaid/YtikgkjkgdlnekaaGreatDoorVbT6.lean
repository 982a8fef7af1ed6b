/- value: the text of a value, kind by kind. -/
import Derived.Test.YtikgkjkgdlnekaaGreatDoorVbT5
set_option linter.unusedVariables false
set_option linter.unusedSimpArgs false
namespace Go.Proofs.YtikgkjkgdlnekaaGreatDoor
open Go.RowKit
open Lex Ct

structure TxsOf (t : Ty) (v : Vl) (bs : List ByteArray) : Prop where
  len : bs.length = v.l.length
  most : v.l.length ≤ 1000
  at' : ∀ (i : Nat) (x : Vl) (b : ByteArray), v.l[i]? = some x → bs[i]? = some b → ∃ u, witO t v.n i = some u ∧ TextOf u x b
theorem rdTxs {t : Ty} {v : Vl} {bs : List ByteArray} (H : TxsOf t v bs) (an : Option Addr) (cn : Nat) (al : Option Addr) (cl : Nat) (sa : Option Addr) (sc : Nat) (av : Option Addr) (cv : Nat) (w : World) (h : TyAt w t an cn al cl) (hv : VlAt w v sa sc av cv) (htab : TabW w) :
    Calls Tryz.prog 55 #[tyV t an cn al cl, vlV v sa sc av cv] w (TxsR bs w) :=
  rdTexts t an cn al cl v sa sc av cv w h hv htab (Nat.le_trans H.most (by decide)) bs H.len (Lib.hid H.at')
theorem rdJoinT {bs : List ByteArray} (hb : bs.length ≤ 1000) (hs : (joinB bs).size ≤ 1000000000) {sv : Value} {B : Nat} {w : World} (h : w.ownsRow B 9 1 sv bs.length (bs.map .string)) :
    Calls Tryz.prog 54 #[sv] w (TxtR (joinB bs) w) := rdJoinB bs sv B w h hb (by
  have e : (joinB bs).size = (Lib.join (bs.map (·.data.toList)) [44, 32]).length := by unfold joinB; simp [ByteArray.size]
  omega)
theorem text_1t (names : List Nm) (l : List Ty) (r : Int) (n : Int) (s : List Int) (vl : List Vl) (hn : n = 1) : TextOf (.mk 1 names l r) (.mk n s vl) ⟨#[116, 114, 117, 101]⟩ := by
  intro an cn al cl sa sc av cv w h hv htab
  show Calls Tryz.prog 32 #[.agg #[.int .i64 1, .slice an names.length cn, .slice al l.length cl, .int .i64 r], .agg #[.int .i64 n, .slice sa s.length sc, .slice av vl.length cv]] w (TxtR (⟨#[116, 114, 117, 101]⟩) w)
  have k0 : Kept (fun _ => False) w ((w.alloc (.cells #[.int .i64 1, .slice an names.length cn, .slice al l.length cl, .int .i64 r] 25)).alloc (.cells #[.int .i64 n, .slice sa s.length sc, .slice av vl.length cv] 29)) := ((Kept.refl _ _).new _).new _
  have HK := Lib.hid k0
  have HF : Hid (∀ w', Calls Tryz.prog 49 #[.bool true] w' fun e w'' => e = .returned (.string ⟨#[116, 114, 117, 101]⟩) ∧ w' = w'') := Lib.hid (fun w' => (Tryz.strconv_FormatBool true w').mono fun e w'' q => ⟨q.1, q.2.symm⟩)
  have b1 : (n == 1) = true := by simp [hn]
  clear h hv htab k0 hn
  go_enter Tryz.func32, Tryz.ntmps32
  go_wp2_with (first
    | (go_at_call 49; refine (HF.out _).mono ?_; rintro y w2 ⟨rfl, rfl⟩))
  go_ret
  exact ⟨rfl, HK.out⟩
theorem text_1f (names : List Nm) (l : List Ty) (r : Int) (n : Int) (s : List Int) (vl : List Vl) (hn : n ≠ 1) : TextOf (.mk 1 names l r) (.mk n s vl) ⟨#[102, 97, 108, 115, 101]⟩ := by
  intro an cn al cl sa sc av cv w h hv htab
  show Calls Tryz.prog 32 #[.agg #[.int .i64 1, .slice an names.length cn, .slice al l.length cl, .int .i64 r], .agg #[.int .i64 n, .slice sa s.length sc, .slice av vl.length cv]] w (TxtR (⟨#[102, 97, 108, 115, 101]⟩) w)
  have k0 : Kept (fun _ => False) w ((w.alloc (.cells #[.int .i64 1, .slice an names.length cn, .slice al l.length cl, .int .i64 r] 25)).alloc (.cells #[.int .i64 n, .slice sa s.length sc, .slice av vl.length cv] 29)) := ((Kept.refl _ _).new _).new _
  have HK := Lib.hid k0
  have HF : Hid (∀ w', Calls Tryz.prog 49 #[.bool false] w' fun e w'' => e = .returned (.string ⟨#[102, 97, 108, 115, 101]⟩) ∧ w' = w'') := Lib.hid (fun w' => (Tryz.strconv_FormatBool false w').mono fun e w'' q => ⟨q.1, q.2.symm⟩)
  have b1 : (n == 1) = false := by simp [hn]
  clear h hv htab k0 hn
  go_enter Tryz.func32, Tryz.ntmps32
  go_wp2_with (first
    | (go_at_call 49; refine (HF.out _).mono ?_; rintro y w2 ⟨rfl, rfl⟩))
  go_ret
  exact ⟨rfl, HK.out⟩
theorem text_9 (names : List Nm) (l : List Ty) (r : Int) (n : Int) (s : List Int) (vl : List Vl) (u : Nat) (hu : IntKind.u64.wrap n = (u : Int)) (h100 : 100 ≤ u) (h64 : u < 18446744073709551616) : TextOf (.mk 9 names l r) (.mk n s vl) ⟨(Lib.decDigits u).toArray⟩ := by
  intro an cn al cl sa sc av cv w h hv htab
  show Calls Tryz.prog 32 #[.agg #[.int .i64 9, .slice an names.length cn, .slice al l.length cl, .int .i64 r], .agg #[.int .i64 n, .slice sa s.length sc, .slice av vl.length cv]] w (TxtR (⟨(Lib.decDigits u).toArray⟩) w)
  have k0 : Kept (fun _ => False) w ((w.alloc (.cells #[.int .i64 9, .slice an names.length cn, .slice al l.length cl, .int .i64 r] 25)).alloc (.cells #[.int .i64 n, .slice sa s.length sc, .slice av vl.length cv] 29)) := ((Kept.refl _ _).new _).new _
  have HK := Lib.hid k0
  have HF : Hid (∀ w', Kept (fun _ => False) w w' → Calls Tryz.prog 50 #[.int .u64 u, .int .i64 10] w' (TxtR ⟨(Lib.decDigits u).toArray⟩ w')) := Lib.hid (fun w' k => rdFmtUint u h100 h64 w' (htab.kept k).1)
  unfold TxtR at HF
  clear h hv htab k0 h100 h64
  go_enter Tryz.func32, Tryz.ntmps32
  go_wp2_with (first
    | (go_at_call 50; refine (HF.out _ HK.out).mono ?_; rintro y w2 ⟨rfl, k2⟩))
  go_ret
  exact ⟨rfl, HK.out.trans k2⟩
theorem text_11 (names : List Nm) (l : List Ty) (r : Int) (n : Int) (s : List Int) (vl : List Vl) (hx : Int → List UInt8) (hl : s.length ≤ 1000) (h0 : s ≠ []) (C : ByteArray) (hC : C = ⟨(charsL hx s).toArray⟩) (hCs : C.size ≤ 1000000)
    (HX : ∀ w, TabW w → Hid (∀ c ∈ s, (hx c).length ≤ 20 ∧ ((c < 32 ∨ 126 < c ∨ c = 34 ∨ c = 92) → ∀ w', Kept (fun _ => False) w w' → Calls Tryz.prog 52 #[.int .i64 c] w' (TxtR ⟨(hx c).toArray⟩ w')))) :
    TextOf (.mk 11 names l r) (.mk n s vl) (⟨#[34]⟩ ++ C ++ ⟨#[34]⟩) := by
  intro an cn al cl sa sc av cv w h hv htab
  show Calls Tryz.prog 32 #[.agg #[.int .i64 11, .slice an names.length cn, .slice al l.length cl, .int .i64 r], .agg #[.int .i64 n, .slice sa s.length sc, .slice av vl.length cv]] w (TxtR (⟨#[34]⟩ ++ C ++ ⟨#[34]⟩) w)
  have k0 : Kept (fun _ => False) w ((w.alloc (.cells #[.int .i64 11, .slice an names.length cn, .slice al l.length cl, .int .i64 r] 25)).alloc (.cells #[.int .i64 n, .slice sa s.length sc, .slice av vl.length cv] 29)) := ((Kept.refl _ _).new _).new _
  have HK := Lib.hid k0
  have HF : Hid (Calls Tryz.prog 53 #[.slice sa s.length sc] ((w.alloc (.cells #[.int .i64 11, .slice an names.length cn, .slice al l.length cl, .int .i64 r] 25)).alloc (.cells #[.int .i64 n, .slice sa s.length sc, .slice av vl.length cv] 29)) (TxtR C ((w.alloc (.cells #[.int .i64 11, .slice an names.length cn, .slice al l.length cl, .int .i64 r] 25)).alloc (.cells #[.int .i64 n, .slice sa s.length sc, .slice av vl.length cv] 29)))) := Lib.hid (by
    rw [hC]
    exact rdChars hx s sa sc _ (hv.kept k0).ints hl h0 (HX _ (htab.kept k0)))
  unfold TxtR at HF
  clear h hv htab k0 hl h0 hC HX
  go_enter Tryz.func32, Tryz.ntmps32
  go_wp2_with (first
    | (go_at_call 53; refine HF.out.mono ?_; rintro y w2 ⟨rfl, k2⟩))
  go_ret
  exact ⟨rfl, HK.out.trans k2⟩
theorem text_12 (names : List Nm) (l : List Ty) (r : Int) (n : Int) (s : List Int) (vl : List Vl) (bs : List ByteArray) (H : TxsOf (.mk 12 names l r) (.mk n s vl) bs) (J : ByteArray) (hJ : J = joinB bs) (hJs : J.size ≤ 1000000000) : TextOf (.mk 12 names l r) (.mk n s vl) (⟨#[91]⟩ ++ J ++ ⟨#[93]⟩) := by
  intro an cn al cl sa sc av cv w h hv htab
  show Calls Tryz.prog 32 #[.agg #[.int .i64 12, .slice an names.length cn, .slice al l.length cl, .int .i64 r], .agg #[.int .i64 n, .slice sa s.length sc, .slice av vl.length cv]] w (TxtR (⟨#[91]⟩ ++ J ++ ⟨#[93]⟩) w)
  have k0 : Kept (fun _ => False) w ((w.alloc (.cells #[.int .i64 12, .slice an names.length cn, .slice al l.length cl, .int .i64 r] 25)).alloc (.cells #[.int .i64 n, .slice sa s.length sc, .slice av vl.length cv] 29)) := ((Kept.refl _ _).new _).new _
  have HK := Lib.hid k0
  have HF : Hid (Calls Tryz.prog 55 #[.agg #[.int .i64 12, .slice an names.length cn, .slice al l.length cl, .int .i64 r], .agg #[.int .i64 n, .slice sa s.length sc, .slice av vl.length cv]] ((w.alloc (.cells #[.int .i64 12, .slice an names.length cn, .slice al l.length cl, .int .i64 r] 25)).alloc (.cells #[.int .i64 n, .slice sa s.length sc, .slice av vl.length cv] 29)) (TxsR bs ((w.alloc (.cells #[.int .i64 12, .slice an names.length cn, .slice al l.length cl, .int .i64 r] 25)).alloc (.cells #[.int .i64 n, .slice sa s.length sc, .slice av vl.length cv] 29)))) := Lib.hid (rdTxs H an cn al cl sa sc av cv _ (h.kept k0) (hv.kept k0) (htab.kept k0))
  have HJ : Hid (∀ sv B w', w'.ownsRow B 9 1 sv bs.length (bs.map .string) → Calls Tryz.prog 54 #[sv] w' (TxtR J w')) := Lib.hid (fun sv B w' h' => by rw [hJ]; exact rdJoinT (by rw [H.len]; exact H.most) (by rw [← hJ]; exact hJs) h')
  unfold TxtR at HJ
  unfold TxsR at HF
  clear h hv htab k0 H hJ
  go_enter Tryz.func32, Tryz.ntmps32
  go_wp2_with (first
    | (go_at_call 54; refine (HJ.out _ _ _ HO.out).mono ?_; rintro y w3 ⟨rfl, k3⟩)
    | (go_at_call 55; refine HF.out.mono ?_; rintro y w2 ⟨sv, rfl, ho, k2⟩; have HO := Lib.hid ho; clear ho))
  go_ret
  exact ⟨rfl, (HK.out.trans k2).trans k3⟩
theorem text_14 (names : List Nm) (l : List Ty) (r : Int) (n : Int) (s : List Int) (vl : List Vl) (bs : List ByteArray) (H : TxsOf (.mk 14 names l r) (.mk n s vl) bs) (J : ByteArray) (hJ : J = joinB bs) (hJs : J.size ≤ 1000000000) : TextOf (.mk 14 names l r) (.mk n s vl) (⟨#[40]⟩ ++ J ++ ⟨#[41]⟩) := by
  intro an cn al cl sa sc av cv w h hv htab
  show Calls Tryz.prog 32 #[.agg #[.int .i64 14, .slice an names.length cn, .slice al l.length cl, .int .i64 r], .agg #[.int .i64 n, .slice sa s.length sc, .slice av vl.length cv]] w (TxtR (⟨#[40]⟩ ++ J ++ ⟨#[41]⟩) w)
  have k0 : Kept (fun _ => False) w ((w.alloc (.cells #[.int .i64 14, .slice an names.length cn, .slice al l.length cl, .int .i64 r] 25)).alloc (.cells #[.int .i64 n, .slice sa s.length sc, .slice av vl.length cv] 29)) := ((Kept.refl _ _).new _).new _
  have HK := Lib.hid k0
  have HF : Hid (Calls Tryz.prog 55 #[.agg #[.int .i64 14, .slice an names.length cn, .slice al l.length cl, .int .i64 r], .agg #[.int .i64 n, .slice sa s.length sc, .slice av vl.length cv]] ((w.alloc (.cells #[.int .i64 14, .slice an names.length cn, .slice al l.length cl, .int .i64 r] 25)).alloc (.cells #[.int .i64 n, .slice sa s.length sc, .slice av vl.length cv] 29)) (TxsR bs ((w.alloc (.cells #[.int .i64 14, .slice an names.length cn, .slice al l.length cl, .int .i64 r] 25)).alloc (.cells #[.int .i64 n, .slice sa s.length sc, .slice av vl.length cv] 29)))) := Lib.hid (rdTxs H an cn al cl sa sc av cv _ (h.kept k0) (hv.kept k0) (htab.kept k0))
  have HJ : Hid (∀ sv B w', w'.ownsRow B 9 1 sv bs.length (bs.map .string) → Calls Tryz.prog 54 #[sv] w' (TxtR J w')) := Lib.hid (fun sv B w' h' => by rw [hJ]; exact rdJoinT (by rw [H.len]; exact H.most) (by rw [← hJ]; exact hJs) h')
  unfold TxtR at HJ
  unfold TxsR at HF
  clear h hv htab k0 H hJ
  go_enter Tryz.func32, Tryz.ntmps32
  go_wp2_with (first
    | (go_at_call 54; refine (HJ.out _ _ _ HO.out).mono ?_; rintro y w3 ⟨rfl, k3⟩)
    | (go_at_call 55; refine HF.out.mono ?_; rintro y w2 ⟨sv, rfl, ho, k2⟩; have HO := Lib.hid ho; clear ho))
  go_ret
  exact ⟨rfl, (HK.out.trans k2).trans k3⟩
def InsideOf (t : Ty) (v : Vl) (b : ByteArray) : Prop := ∀ (an : Option Addr) (cn : Nat) (al : Option Addr) (cl : Nat) (sa : Option Addr) (sc : Nat) (av : Option Addr) (cv : Nat) (w : World), TyAt w t an cn al cl → VlAt w v sa sc av cv → TabW w →
  Calls Tryz.prog 58 #[tyV t an cn al cl, vlV v sa sc av cv] w (TxtR b w)
theorem inside_no (names : List Nm) (l : List Ty) (r : Int) (n : Int) (s : List Int) (vl : List Vl) (he : vl.length = 0) : InsideOf (.mk 15 names l r) (.mk n s vl) ⟨#[]⟩ := by
  intro an cn al cl sa sc av cv w h hv htab
  show Calls Tryz.prog 58 #[.agg #[.int .i64 15, .slice an names.length cn, .slice al l.length cl, .int .i64 r], .agg #[.int .i64 n, .slice sa s.length sc, .slice av vl.length cv]] w (TxtR ⟨#[]⟩ w)
  have k0 : Kept (fun _ => False) w ((w.alloc (.cells #[.int .i64 15, .slice an names.length cn, .slice al l.length cl, .int .i64 r] 25)).alloc (.cells #[.int .i64 n, .slice sa s.length sc, .slice av vl.length cv] 29)) := ((Kept.refl _ _).new _).new _
  have HK := Lib.hid k0
  have b0 : (vl.length == 0) = true := by rw [he]; rfl
  clear h hv htab k0 he
  go_enter Tryz.func58, Tryz.ntmps58
  go_wp2_with fail
  go_ret
  exact ⟨rfl, HK.out⟩
theorem inside_go (names : List Nm) (l : List Ty) (r : Int) (n : Int) (s : List Int) (vl : List Vl) (he : vl.length ≠ 0) (bs : List ByteArray) (H : TxsOf (.mk 15 names l r) (.mk n s vl) bs) (J : ByteArray) (hJ : J = joinB bs) (hJs : J.size ≤ 1000000000) : InsideOf (.mk 15 names l r) (.mk n s vl) (⟨#[40]⟩ ++ J ++ ⟨#[41]⟩) := by
  intro an cn al cl sa sc av cv w h hv htab
  show Calls Tryz.prog 58 #[.agg #[.int .i64 15, .slice an names.length cn, .slice al l.length cl, .int .i64 r], .agg #[.int .i64 n, .slice sa s.length sc, .slice av vl.length cv]] w (TxtR (⟨#[40]⟩ ++ J ++ ⟨#[41]⟩) w)
  have k0 : Kept (fun _ => False) w ((w.alloc (.cells #[.int .i64 15, .slice an names.length cn, .slice al l.length cl, .int .i64 r] 25)).alloc (.cells #[.int .i64 n, .slice sa s.length sc, .slice av vl.length cv] 29)) := ((Kept.refl _ _).new _).new _
  have HK := Lib.hid k0
  have b0 : (vl.length == 0) = false := beq_eq_false_iff_ne.2 he
  have HF : Hid (Calls Tryz.prog 55 #[.agg #[.int .i64 15, .slice an names.length cn, .slice al l.length cl, .int .i64 r], .agg #[.int .i64 n, .slice sa s.length sc, .slice av vl.length cv]] ((w.alloc (.cells #[.int .i64 15, .slice an names.length cn, .slice al l.length cl, .int .i64 r] 25)).alloc (.cells #[.int .i64 n, .slice sa s.length sc, .slice av vl.length cv] 29)) (TxsR bs ((w.alloc (.cells #[.int .i64 15, .slice an names.length cn, .slice al l.length cl, .int .i64 r] 25)).alloc (.cells #[.int .i64 n, .slice sa s.length sc, .slice av vl.length cv] 29)))) := Lib.hid (rdTxs H an cn al cl sa sc av cv _ (h.kept k0) (hv.kept k0) (htab.kept k0))
  have HJ : Hid (∀ sv B w', w'.ownsRow B 9 1 sv bs.length (bs.map .string) → Calls Tryz.prog 54 #[sv] w' (TxtR J w')) := Lib.hid (fun sv B w' h' => by rw [hJ]; exact rdJoinT (by rw [H.len]; exact H.most) (by rw [← hJ]; exact hJs) h')
  unfold TxtR at HJ
  unfold TxsR at HF
  clear h hv htab k0 H hJ he
  go_enter Tryz.func58, Tryz.ntmps58
  go_wp2_with (first
    | (go_at_call 54; refine (HJ.out _ _ _ HO.out).mono ?_; rintro y w3 ⟨rfl, k3⟩)
    | (go_at_call 55; refine HF.out.mono ?_; rintro y w2 ⟨sv, rfl, ho, k2⟩; have HO := Lib.hid ho; clear ho))
  go_ret
  exact ⟨rfl, (HK.out.trans k2).trans k3⟩
set_option maxRecDepth 100000 in
set_option maxHeartbeats 8000000 in
theorem text_15 (names : List Nm) (l : List Ty) (r : Int) (m : Nat) (s : List Int) (vl : List Vl) (nm : Nm) (hnm : names[m]? = some nm) (N : ByteArray) (hN : N = strOfNums nm) (hNs : N.size ≤ 1000000) (I : ByteArray) (hI : InsideOf (.mk 15 names l r) (.mk (m : Int) s vl) I) (hIs : I.size ≤ 2000000000) : TextOf (.mk 15 names l r) (.mk (m : Int) s vl) (N ++ I) := by
  intro an cn al cl sa sc av cv w h hv htab
  obtain ⟨gn, on, rfl, hgn, d0⟩ := h.nms.at (l := names) hnm
  rw [← hN] at d0
  show Calls Tryz.prog 32 #[.agg #[.int .i64 15, .slice (some ⟨gn, on, none⟩) names.length cn, .slice al l.length cl, .int .i64 r], .agg #[.int .i64 (m : Int), .slice sa s.length sc, .slice av vl.length cv]] w (TxtR (N ++ I) w)
  have hlt : m < names.length := (List.getElem?_eq_some_iff.1 hnm).1
  have k0 : Kept (fun _ => False) w ((w.alloc (.cells #[.int .i64 15, .slice (some ⟨gn, on, none⟩) names.length cn, .slice al l.length cl, .int .i64 r] 25)).alloc (.cells #[.int .i64 (m : Int), .slice sa s.length sc, .slice av vl.length cv] 29)) := ((Kept.refl _ _).new _).new _
  have T0 := (BlkAt.new w #[.int .i64 15, .slice (some ⟨gn, on, none⟩) names.length cn, .slice al l.length cl, .int .i64 r] 25).kept (F := fun _ => False) ((Kept.refl _ _).new (.cells #[.int .i64 (m : Int), .slice sa s.length sc, .slice av vl.length cv] 29)) id
  have V0 := BlkAt.new (w.alloc (.cells #[.int .i64 15, .slice (some ⟨gn, on, none⟩) names.length cn, .slice al l.length cl, .int .i64 r] 25)) #[.int .i64 (m : Int), .slice sa s.length sc, .slice av vl.length cv] 29
  rw [World.size_alloc] at V0
  have HK := Lib.hid k0
  have HI : Hid (∀ w', Kept (fun _ => False) w w' → Calls Tryz.prog 58 #[.agg #[.int .i64 15, .slice (some ⟨gn, on, none⟩) names.length cn, .slice al l.length cl, .int .i64 r], .agg #[.int .i64 (m : Int), .slice sa s.length sc, .slice av vl.length cv]] w' (TxtR I w')) := Lib.hid (fun w' k => hI _ cn al cl sa sc av cv w' (h.kept k) (hv.kept k) (htab.kept k))
  unfold TxtR at HI
  have HW : Hid (∀ w', Kept (fun _ => False) ((w.alloc (.cells #[.int .i64 15, .slice (some ⟨gn, on, none⟩) names.length cn, .slice al l.length cl, .int .i64 r] 25)).alloc (.cells #[.int .i64 (m : Int), .slice sa s.length sc, .slice av vl.length cv] 29)) w' → w'.cell? ⟨w.heap.size, 0, none⟩ = some (.int .i64 15) ∧ w'.cell? ⟨w.heap.size, 1, none⟩ = some (.slice (some ⟨gn, on, none⟩) names.length cn) ∧ w'.cell? ⟨w.heap.size, 2, none⟩ = some (.slice al l.length cl) ∧ w'.cell? ⟨w.heap.size, 3, none⟩ = some (.int .i64 r) ∧ w'.cell? ⟨w.heap.size + 1, 0, none⟩ = some (.int .i64 (m : Int)) ∧ w'.cell? ⟨w.heap.size + 1, 1, none⟩ = some (.slice sa s.length sc) ∧ w'.cell? ⟨w.heap.size + 1, 2, none⟩ = some (.slice av vl.length cv) ∧ w'.cell? ⟨gn, on + m, none⟩ = some (.string N)) := Lib.hid (fun w' k' => by
    have A := T0.kept (F := fun _ => False) k' id
    have B := V0.kept (F := fun _ => False) k' id
    exact ⟨A.cell 0, A.cell 1, A.cell 2, A.cell 3, B.cell 0, B.cell 1, B.cell 2, ((k0.trans k').cell1 hgn).trans d0⟩)
  have q0 : Kept (fun _ => False) ((w.alloc (.cells #[.int .i64 15, .slice (some ⟨gn, on, none⟩) names.length cn, .slice al l.length cl, .int .i64 r] 25)).alloc (.cells #[.int .i64 (m : Int), .slice sa s.length sc, .slice av vl.length cv] 29)) ((w.alloc (.cells #[.int .i64 15, .slice (some ⟨gn, on, none⟩) names.length cn, .slice al l.length cl, .int .i64 r] 25)).alloc (.cells #[.int .i64 (m : Int), .slice sa s.length sc, .slice av vl.length cv] 29)).drew := (Kept.refl _ _).drew
  have E0 := Lib.hid (HW.out _ q0)
  have g1 : ¬ (9223372036854775807 < N.size + I.size) := by omega
  have g2 : N.size + I.size ≤ 9223372036854775807 := by omega
  clear h hv htab k0 T0 V0 hnm hN hI d0 hgn
  go_enter Tryz.func32, Tryz.ntmps32
  go_wp2_with fail
  go_region_held3 (fun w' => w'.cell? ⟨w.heap.size, 0, none⟩ = some (.int .i64 15) ∧ w'.cell? ⟨w.heap.size, 1, none⟩ = some (.slice (some ⟨gn, on, none⟩) names.length cn) ∧ w'.cell? ⟨w.heap.size, 2, none⟩ = some (.slice al l.length cl) ∧ w'.cell? ⟨w.heap.size, 3, none⟩ = some (.int .i64 r) ∧ w'.cell? ⟨w.heap.size + 1, 0, none⟩ = some (.int .i64 (m : Int)) ∧ w'.cell? ⟨w.heap.size + 1, 1, none⟩ = some (.slice sa s.length sc) ∧ w'.cell? ⟨w.heap.size + 1, 2, none⟩ = some (.slice av vl.length cv) ∧ w'.cell? ⟨gn, on + m, none⟩ = some (.string N))
    (first | exact E0.out | exact HW.out _ q0)
    (first
      | (go_at_call 58
         refine (HI.out _ (HK.out.trans q0)).mono ?_
         rintro y w3 ⟨rfl, k3⟩
         replace q0 := q0.trans k3
         clear k3 E0))
  all_goals go_wp2_with fail
  all_goals go_ret
  all_goals exact ⟨rfl, HK.out.trans q0⟩
end Go.Proofs.YtikgkjkgdlnekaaGreatDoor
