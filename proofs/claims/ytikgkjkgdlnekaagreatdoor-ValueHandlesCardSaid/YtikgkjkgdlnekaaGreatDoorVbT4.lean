/- value: characters. -/
import Derived.Test.YtikgkjkgdlnekaaGreatDoorVbT3
set_option linter.unusedVariables false
set_option linter.unusedSimpArgs false
namespace Go.Proofs.YtikgkjkgdlnekaaGreatDoor
open Go.RowKit
open Lex Ct

namespace Ct
def charL (hx : Int → List UInt8) (c : Int) : List UInt8 := if c < 32 ∨ 126 < c ∨ c = 34 ∨ c = 92 then [92, 117, 123] ++ hx c ++ [125] else [UInt8.ofNat c.toNat]
def charsL (hx : Int → List UInt8) (l : List Int) : List UInt8 := l.flatMap (charL hx)
theorem charsL_take {hx : Int → List UInt8} {l : List Int} {i : Nat} {x : Int} (h : l[i]? = some x) : charsL hx (l.take (i + 1)) = charsL hx (l.take i) ++ charL hx x := by
  unfold charsL
  rw [List.take_add_one, h, Option.toList_some, List.flatMap_append, List.flatMap_cons, List.flatMap_nil, List.append_nil]
theorem charsL_len {hx : Int → List UInt8} : ∀ {l : List Int}, (∀ c ∈ l, (hx c).length ≤ 20) → (charsL hx l).length ≤ l.length * 30
  | [], _ => by unfold charsL; simp
  | c :: r, h => by
    have ih := charsL_len (hx := hx) (l := r) (fun c hc => h c (List.mem_cons_of_mem _ hc))
    have h1 := h c List.mem_cons_self
    have h2 : (charL hx c).length ≤ 30 := by
      unfold charL
      split
      · simp; omega
      · simp
    have e : charsL hx (c :: r) = charL hx c ++ charsL hx r := by unfold charsL; rw [List.flatMap_cons]
    rw [e, List.length_append, List.length_cons]
    omega
end Ct
theorem wrAt_new (w : World) : WrAt w.heap.size w.heap.size [] 0 (w.alloc (.cells #[.pointer none, .slice none 0 0] 93)) (fun k => k = w.heap.size) :=
  ⟨Nat.le_refl _, .pointer none, .slice none 0 0, BlkAt.new _ _ _, .inl rfl, World.ownsRow_nil _ _ _ _, (by intro q; cases q), fun k => by
    constructor
    · intro e; exact .inl e
    · rintro (e | e)
      · exact e
      · cases e⟩
theorem Wrote.far {C b : Nat} {l l' : List UInt8} {n : Int} {a c : World} {M : Nat → Prop} (h0 : WrAt C b l n a M) (h : Wrote C b l' n a M c) : (∃ M', WrAt C b l' n c M') ∧ Kept (C ≤ ·) a c := by
  obtain ⟨M', h1, h2, h3⟩ := h
  exact ⟨⟨M', h1⟩, h2.mono fun k hk => (h0.low k hk).1⟩
set_option maxRecDepth 100000 in
set_option maxHeartbeats 8000000 in
theorem rdChars (hx : Int → List UInt8) (l : List Int) (a : Option Addr) (ca : Nat) (w : World) (h : IRowAt w l a ca) (hl : l.length ≤ 1000) (h0 : l ≠ [])
    (HX : Hid (∀ c ∈ l, (hx c).length ≤ 20 ∧ ((c < 32 ∨ 126 < c ∨ c = 34 ∨ c = 92) → ∀ w', Kept (fun _ => False) w w' → Calls Tryz.prog 52 #[.int .i64 c] w' (TxtR ⟨(hx c).toArray⟩ w')))) :
    Calls Tryz.prog 53 #[.slice a l.length ca] w (TxtR ⟨(charsL hx l).toArray⟩ w) := by
  have HA := Lib.hid h
  have HLN := Lib.hid hl
  have hlenI : l.length ≤ 1000 := hl
  have HCL := Lib.hid (fun (i : Nat) => charsL_len (hx := hx) (l := l.take i) (fun c hc => (HX.out c (List.mem_of_mem_take hc)).1))
  have H0 := Lib.hid h0
  clear h hl h0
  go_enter Tryz.func53, Tryz.ntmps53
  go_wp2_with fail
  go_loopw [8] (fun u wr => ∃ i : Nat, u = .int .i64 i ∧ i ≤ l.length ∧ Hid ((∃ M, WrAt w.heap.size w.heap.size (charsL hx (l.take i)) 0 wr M) ∧ Kept (w.heap.size ≤ ·) w wr ∧ w.heap.size < wr.heap.size)) (fun u _ => l.length - (intOf u).toNat)
  case atStart => exact ⟨0, rfl, Nat.zero_le _, Lib.hid ⟨⟨_, wrAt_new w⟩, (Kept.refl _ w).new _, by rw [World.size_alloc]; omega⟩⟩
  case round =>
    obtain ⟨i, rfl, hi, hst⟩ := hrel
    by_cases hlt : i < l.length
    · obtain ⟨x, hxx⟩ : ∃ x, l[i]? = some x := ⟨_, List.getElem?_eq_getElem hlt⟩
      have kcl : Kept (fun _ => False) w wr := hst.out.2.1.clear (fun i hi e => by have e : w.heap.size ≤ i := e; omega)
      obtain ⟨g, o, rfl, hg, c0⟩ := (HA.out.kept kcl).at hxx
      obtain ⟨hx20, hhx⟩ := HX.out x (List.mem_of_getElem? hxx)
      have hct := charsL_take (hx := hx) hxx
      have hcl := HCL.out i
      rw [List.length_take] at hcl
      have HCT := Lib.hid hct
      have HCX := Lib.hid hcl
      obtain ⟨M, hM⟩ := hst.out.1
      have HM := Lib.hid hM
      have HKC := Lib.hid kcl
      have HLT : Hid (i + 1 ≤ l.length) := Lib.hid hlt
      have HH := Lib.hid hhx
      have H20 := Lib.hid hx20
      clear hxx hct hcl hM kcl hhx hg hx20
      rcases (show x < 32 ∨ (¬ x < 32 ∧ 126 < x) ∨ (¬ x < 32 ∧ ¬ 126 < x ∧ x = 34) ∨ (¬ x < 32 ∧ ¬ 126 < x ∧ x ≠ 34 ∧ x = 92) ∨ (32 ≤ x ∧ x ≤ 126 ∧ x ≠ 34 ∧ x ≠ 92) by omega) with hc | hc | hc | hc | hc
      · have hsp : x < 32 ∨ 126 < x ∨ x = 34 ∨ x = 92 := .inl hc
        have hcs : charL hx x = [92, 117, 123] ++ hx x ++ [125] := if_pos hsp
        have HS := Lib.hid hcs
        have hhs := HH.out hsp
        obtain ⟨D, hD⟩ : ∃ D : ByteArray, D = ⟨(hx x).toArray⟩ := ⟨_, rfl⟩
        rw [← hD] at hhs
        have HHX := Lib.hid hhs
        have hDl : D.data.toList = hx x := by rw [hD]
        have hDs : D.size ≤ 20 := by have := H20.out; rw [← hDl, Array.length_toList] at this; exact this
        have HDL := Lib.hid hDl
        have HDS := Lib.hid hDs
        unfold TxtR at HHX
        clear hD hDl hhs
        have b1 : decide (x < 32) = true := by simp; omega
        clear hc hsp hcs
        go_wp2_with (first
          | (go_at_call 52
             refine (HHX.out _ HKC.out).mono ?_
             rintro y w2 ⟨rfl, k2⟩
             have HK2 := Lib.hid k2
             have HM2 := Lib.hid (HM.out.stay k2 (fun _ _ => id))
             clear k2)
          | (go_at_call 75
             refine (wrString HM2.out _ (by have := HCX.out; have := HLN.out; have := HDS.out; have e1 : (⟨#[92, 117, 123]⟩ : ByteArray).size = 3 := rfl; have e2 : (⟨#[125]⟩ : ByteArray).size = 1 := rfl; rw [ByteArray.size_append, ByteArray.size_append]; omega) (by have := hst.out.2.2; have := HK2.out.size; omega)).mono ?_
             rintro y w3 ⟨rfl, h3⟩
             have HF := Lib.hid (Wrote.far HM2.out h3)
             clear h3))
        have KW : Kept (w.heap.size ≤ ·) w w3 := (hst.out.2.1.trans HK2.out.any).trans HF.out.2
        have hfin : (∃ M, WrAt w.heap.size w.heap.size (charsL hx (l.take (i + 1))) 0 w3 M) := by
          rw [HCT.out, HS.out, ← HDL.out]
          have := HF.out.1
          rw [ByteArray.data_append, ByteArray.data_append, Array.toList_append, Array.toList_append] at this
          exact this
        exact ⟨⟨i + 1, by go_num, HLT.out, Lib.hid ⟨hfin, KW, by have := hst.out.2.2; have := HK2.out.size; have := HF.out.2.size; omega⟩⟩, by have := HLT.out; simp [intOf]; omega⟩
      · have hsp : x < 32 ∨ 126 < x ∨ x = 34 ∨ x = 92 := .inr (.inl hc.2)
        have hcs : charL hx x = [92, 117, 123] ++ hx x ++ [125] := if_pos hsp
        have HS := Lib.hid hcs
        have hhs := HH.out hsp
        obtain ⟨D, hD⟩ : ∃ D : ByteArray, D = ⟨(hx x).toArray⟩ := ⟨_, rfl⟩
        rw [← hD] at hhs
        have HHX := Lib.hid hhs
        have hDl : D.data.toList = hx x := by rw [hD]
        have hDs : D.size ≤ 20 := by have := H20.out; rw [← hDl, Array.length_toList] at this; exact this
        have HDL := Lib.hid hDl
        have HDS := Lib.hid hDs
        unfold TxtR at HHX
        clear hD hDl hhs
        have b1 : decide (x < 32) = false := by simp; omega
        have b2 : decide (x > 126) = true := by simp; omega
        clear hc hsp hcs
        go_wp2_with (first
          | (go_at_call 52
             refine (HHX.out _ HKC.out).mono ?_
             rintro y w2 ⟨rfl, k2⟩
             have HK2 := Lib.hid k2
             have HM2 := Lib.hid (HM.out.stay k2 (fun _ _ => id))
             clear k2)
          | (go_at_call 75
             refine (wrString HM2.out _ (by have := HCX.out; have := HLN.out; have := HDS.out; have e1 : (⟨#[92, 117, 123]⟩ : ByteArray).size = 3 := rfl; have e2 : (⟨#[125]⟩ : ByteArray).size = 1 := rfl; rw [ByteArray.size_append, ByteArray.size_append]; omega) (by have := hst.out.2.2; have := HK2.out.size; omega)).mono ?_
             rintro y w3 ⟨rfl, h3⟩
             have HF := Lib.hid (Wrote.far HM2.out h3)
             clear h3))
        have KW : Kept (w.heap.size ≤ ·) w w3 := (hst.out.2.1.trans HK2.out.any).trans HF.out.2
        have hfin : (∃ M, WrAt w.heap.size w.heap.size (charsL hx (l.take (i + 1))) 0 w3 M) := by
          rw [HCT.out, HS.out, ← HDL.out]
          have := HF.out.1
          rw [ByteArray.data_append, ByteArray.data_append, Array.toList_append, Array.toList_append] at this
          exact this
        exact ⟨⟨i + 1, by go_num, HLT.out, Lib.hid ⟨hfin, KW, by have := hst.out.2.2; have := HK2.out.size; have := HF.out.2.size; omega⟩⟩, by have := HLT.out; simp [intOf]; omega⟩
      · have hsp : x < 32 ∨ 126 < x ∨ x = 34 ∨ x = 92 := .inr (.inr (.inl hc.2.2))
        have hcs : charL hx x = [92, 117, 123] ++ hx x ++ [125] := if_pos hsp
        have HS := Lib.hid hcs
        have hhs := HH.out hsp
        obtain ⟨D, hD⟩ : ∃ D : ByteArray, D = ⟨(hx x).toArray⟩ := ⟨_, rfl⟩
        rw [← hD] at hhs
        have HHX := Lib.hid hhs
        have hDl : D.data.toList = hx x := by rw [hD]
        have hDs : D.size ≤ 20 := by have := H20.out; rw [← hDl, Array.length_toList] at this; exact this
        have HDL := Lib.hid hDl
        have HDS := Lib.hid hDs
        unfold TxtR at HHX
        clear hD hDl hhs
        have b1 : decide (x < 32) = false := by simp; omega
        have b2 : decide (x > 126) = false := by simp; omega
        have b3 : (x == 34) = true := by simp; omega
        clear hc hsp hcs
        go_wp2_with (first
          | (go_at_call 52
             refine (HHX.out _ HKC.out).mono ?_
             rintro y w2 ⟨rfl, k2⟩
             have HK2 := Lib.hid k2
             have HM2 := Lib.hid (HM.out.stay k2 (fun _ _ => id))
             clear k2)
          | (go_at_call 75
             refine (wrString HM2.out _ (by have := HCX.out; have := HLN.out; have := HDS.out; have e1 : (⟨#[92, 117, 123]⟩ : ByteArray).size = 3 := rfl; have e2 : (⟨#[125]⟩ : ByteArray).size = 1 := rfl; rw [ByteArray.size_append, ByteArray.size_append]; omega) (by have := hst.out.2.2; have := HK2.out.size; omega)).mono ?_
             rintro y w3 ⟨rfl, h3⟩
             have HF := Lib.hid (Wrote.far HM2.out h3)
             clear h3))
        have KW : Kept (w.heap.size ≤ ·) w w3 := (hst.out.2.1.trans HK2.out.any).trans HF.out.2
        have hfin : (∃ M, WrAt w.heap.size w.heap.size (charsL hx (l.take (i + 1))) 0 w3 M) := by
          rw [HCT.out, HS.out, ← HDL.out]
          have := HF.out.1
          rw [ByteArray.data_append, ByteArray.data_append, Array.toList_append, Array.toList_append] at this
          exact this
        exact ⟨⟨i + 1, by go_num, HLT.out, Lib.hid ⟨hfin, KW, by have := hst.out.2.2; have := HK2.out.size; have := HF.out.2.size; omega⟩⟩, by have := HLT.out; simp [intOf]; omega⟩
      · have hsp : x < 32 ∨ 126 < x ∨ x = 34 ∨ x = 92 := .inr (.inr (.inr hc.2.2.2))
        have hcs : charL hx x = [92, 117, 123] ++ hx x ++ [125] := if_pos hsp
        have HS := Lib.hid hcs
        have hhs := HH.out hsp
        obtain ⟨D, hD⟩ : ∃ D : ByteArray, D = ⟨(hx x).toArray⟩ := ⟨_, rfl⟩
        rw [← hD] at hhs
        have HHX := Lib.hid hhs
        have hDl : D.data.toList = hx x := by rw [hD]
        have hDs : D.size ≤ 20 := by have := H20.out; rw [← hDl, Array.length_toList] at this; exact this
        have HDL := Lib.hid hDl
        have HDS := Lib.hid hDs
        unfold TxtR at HHX
        clear hD hDl hhs
        have b1 : decide (x < 32) = false := by simp; omega
        have b2 : decide (x > 126) = false := by simp; omega
        have b3 : (x == 34) = false := by simp; omega
        have b4 : (x == 92) = true := by simp; omega
        clear hc hsp hcs
        go_wp2_with (first
          | (go_at_call 52
             refine (HHX.out _ HKC.out).mono ?_
             rintro y w2 ⟨rfl, k2⟩
             have HK2 := Lib.hid k2
             have HM2 := Lib.hid (HM.out.stay k2 (fun _ _ => id))
             clear k2)
          | (go_at_call 75
             refine (wrString HM2.out _ (by have := HCX.out; have := HLN.out; have := HDS.out; have e1 : (⟨#[92, 117, 123]⟩ : ByteArray).size = 3 := rfl; have e2 : (⟨#[125]⟩ : ByteArray).size = 1 := rfl; rw [ByteArray.size_append, ByteArray.size_append]; omega) (by have := hst.out.2.2; have := HK2.out.size; omega)).mono ?_
             rintro y w3 ⟨rfl, h3⟩
             have HF := Lib.hid (Wrote.far HM2.out h3)
             clear h3))
        have KW : Kept (w.heap.size ≤ ·) w w3 := (hst.out.2.1.trans HK2.out.any).trans HF.out.2
        have hfin : (∃ M, WrAt w.heap.size w.heap.size (charsL hx (l.take (i + 1))) 0 w3 M) := by
          rw [HCT.out, HS.out, ← HDL.out]
          have := HF.out.1
          rw [ByteArray.data_append, ByteArray.data_append, Array.toList_append, Array.toList_append] at this
          exact this
        exact ⟨⟨i + 1, by go_num, HLT.out, Lib.hid ⟨hfin, KW, by have := hst.out.2.2; have := HK2.out.size; have := HF.out.2.size; omega⟩⟩, by have := HLT.out; simp [intOf]; omega⟩
      · have hcs : charL hx x = [UInt8.ofNat x.toNat] := if_neg (by omega)
        have HS := Lib.hid hcs
        have b1 : decide (x < 32) = false := by simp; omega
        have b2 : decide (x > 126) = false := by simp; omega
        have b3 : (x == 34) = false := by simp; omega
        have b4 : (x == 92) = false := by simp; omega
        have hxu : IntKind.u8.wrap x = x := by simp [IntKind.wrap, IntKind.signed, IntKind.bits]; omega
        have hxn : x = ((UInt8.ofNat x.toNat).toNat : Int) := by
          have : (UInt8.ofNat x.toNat).toNat = x.toNat % 256 := by simp
          rw [this]
          omega
        have HW : Hid (Calls Tryz.prog 76 #[.pointer (some ⟨w.heap.size, 0, none⟩), .int .u8 x] wr fun y w' => y = .returned .nilIface ∧ Wrote w.heap.size w.heap.size (charsL hx (l.take i) ++ [UInt8.ofNat x.toNat]) 0 wr M w') := Lib.hid (by
          rw [hxn, ← hxn]
          conv => enter [3]; rw [hxn]
          exact wrByte HM.out (UInt8.ofNat x.toNat) (by have := HCX.out; have := HLN.out; omega) (by have := hst.out.2.2; omega))
        clear hc hcs hxn
        go_wp2_with (first
          | (go_at_call 76
             refine HW.out.mono ?_
             rintro y w3 ⟨rfl, h3⟩
             have HF := Lib.hid (Wrote.far HM.out h3)
             clear h3))
        have KW : Kept (w.heap.size ≤ ·) w w3 := hst.out.2.1.trans HF.out.2
        have hfin : (∃ M, WrAt w.heap.size w.heap.size (charsL hx (l.take (i + 1))) 0 w3 M) := by
          rw [HCT.out, HS.out]
          exact HF.out.1
        exact ⟨⟨i + 1, by go_num, HLT.out, Lib.hid ⟨hfin, KW, by have := hst.out.2.2; have := HF.out.2.size; omega⟩⟩, by have := HLT.out; simp [intOf]; omega⟩
    · have he : i = l.length := by omega
      subst he
      obtain ⟨M, hM⟩ := hst.out.1
      rw [List.take_length] at hM
      have hne : charsL hx l ≠ [] := by
        intro e
        cases hl : l with
        | nil => exact H0.out hl
        | cons c r =>
          rw [hl] at e
          have e2 : charsL hx (c :: r) = charL hx c ++ charsL hx r := by unfold charsL; rw [List.flatMap_cons]
          rw [e2] at e
          have e3 := (List.append_eq_nil_iff.1 e).1
          unfold charL at e3
          split at e3 <;> simp at e3
      have HT := Lib.hid (wrText hM hne)
      have hltd : decide (l.length < l.length) = false := decide_eq_false hlt
      clear hM hne hlt
      go_wp2_with (first
        | (go_at_call 77; refine HT.out.mono ?_; rintro y w3 ⟨rfl, k3⟩))
      go_ret
      exact ⟨rfl, (hst.out.2.1.trans k3).clear (fun i hi e => by have e : w.heap.size ≤ i := e; omega)⟩
end Go.Proofs.YtikgkjkgdlnekaaGreatDoor
