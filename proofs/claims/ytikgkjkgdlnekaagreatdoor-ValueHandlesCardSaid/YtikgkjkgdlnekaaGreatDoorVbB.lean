/- value: within: the type of what a value has within. -/
import Derived.Test.YtikgkjkgdlnekaaGreatDoorVbA
import Derived.Test.YtikgkjkgdlnekaaGreatDoorCtFK
set_option linter.unusedVariables false
set_option linter.unusedSimpArgs false
namespace Go.Proofs.YtikgkjkgdlnekaaGreatDoor
open Go.RowKit
open Ct

namespace Ct
def witO (t : Ty) (n : Int) (i : Nat) : Option Ty := if t.kind = 12 then t.l[0]? else if t.kind = 15 then (if 0 ≤ n then t.l[n.toNat]? else none) else t.l[i]?
end Ct
theorem TyP.kept {P : Nat → Prop} {w w' : World} {t : Ty} {an : Option Addr} {cn : Nat} {al : Option Addr} {cl : Nat} (h : TyP P w t an cn al cl) (k : Kept (fun _ => False) w w') : TyP P w' t an cn al cl := ⟨h.n.kept k, h.l.kept k⟩
/-- A type, given: what it leans on keeps P. -/
def TyR (P : Nat → Prop) (x : Ty) (w : World) (y : Ending) (w' : World) : Prop := ∃ ap cp aq cq, y = .returned (tyV x ap cp aq cq) ∧ TyP P w' x ap cp aq cq ∧ Kept (fun _ => False) w w'
theorem tyR_k {P : Nat → Prop} {x : Ty} {w wr : World} {ap aq : Option Addr} {cp cq : Nat} (hx : TyP P w x ap cp aq cq) (k : Kept (fun _ => False) w wr) : TyR P x w (.returned (tyV x ap cp aq cq)) wr := ⟨ap, cp, aq, cq, rfl, hx.kept k, k⟩
set_option maxRecDepth 100000 in
set_option maxHeartbeats 4000000 in
theorem within_12 (P : Nat → Prop) (names : List Nm) (l : List Ty) (r : Int) (an : Option Addr) (cn : Nat) (al : Option Addr) (cl : Nat) (s : List Int) (vl : List Vl) (sa : Option Addr) (sc : Nat) (av : Option Addr) (cv : Nat) (i : Nat) (x : Ty) (w : World) (h : LiesU P w (tysU l) (.slice al l.length cl)) (n : Int) (hx : l[0]? = some x) :
    Calls Tryz.prog 43 #[.agg #[.int .i64 12, .slice an names.length cn, .slice al l.length cl, .int .i64 r], .agg #[.int .i64 n, .slice sa s.length sc, .slice av vl.length cv], .int .i64 (i : Int)] w (TyR P x w) := by
  obtain ⟨g, o, ap, cp, aq, cq, rfl, _, hg, ht, d0, d1, d2, d3⟩ := row_in h hx
  rw [Nat.zero_mul, Nat.add_zero] at d0 d1 d2 d3
  have hlen : 0 < l.length := (List.getElem?_eq_some_iff.1 hx).1
  have e0 := cell_box (cell_box (cell_box d0 (.cells #[.int .i64 12, .slice an names.length cn, .slice (some ⟨g, o, none⟩) l.length cl, .int .i64 r] 25)) (.cells #[.int .i64 n, .slice sa s.length sc, .slice av vl.length cv] 29)) (.cells #[.int .i64 0, .slice none 0 0, .slice none 0 0, .int .i64 0] 25)
  have e1 := cell_box (cell_box (cell_box d1 (.cells #[.int .i64 12, .slice an names.length cn, .slice (some ⟨g, o, none⟩) l.length cl, .int .i64 r] 25)) (.cells #[.int .i64 n, .slice sa s.length sc, .slice av vl.length cv] 29)) (.cells #[.int .i64 0, .slice none 0 0, .slice none 0 0, .int .i64 0] 25)
  have e2 := cell_box (cell_box (cell_box d2 (.cells #[.int .i64 12, .slice an names.length cn, .slice (some ⟨g, o, none⟩) l.length cl, .int .i64 r] 25)) (.cells #[.int .i64 n, .slice sa s.length sc, .slice av vl.length cv] 29)) (.cells #[.int .i64 0, .slice none 0 0, .slice none 0 0, .int .i64 0] 25)
  have e3 := cell_box (cell_box (cell_box d3 (.cells #[.int .i64 12, .slice an names.length cn, .slice (some ⟨g, o, none⟩) l.length cl, .int .i64 r] 25)) (.cells #[.int .i64 n, .slice sa s.length sc, .slice av vl.length cv] 29)) (.cells #[.int .i64 0, .slice none 0 0, .slice none 0 0, .int .i64 0] 25)
  have HT := Lib.hid ht
  have HG := Lib.hid hg
  clear h hx ht hg d0 d1 d2 d3
  go_enter Tryz.func43, Tryz.ntmps43
  go_wp2_with fail
  refine bodyPost_ret (v := tyV x ap cp aq cq) (by simp [results, Tryz.results43, go_sem]) rfl ?_
  exact tyR_k HT.out ((((Kept.refl _ w).new _).new _).new _)
set_option maxRecDepth 100000 in
set_option maxHeartbeats 4000000 in
theorem within_15 (P : Nat → Prop) (names : List Nm) (l : List Ty) (r : Int) (an : Option Addr) (cn : Nat) (al : Option Addr) (cl : Nat) (s : List Int) (vl : List Vl) (sa : Option Addr) (sc : Nat) (av : Option Addr) (cv : Nat) (i : Nat) (x : Ty) (w : World) (h : LiesU P w (tysU l) (.slice al l.length cl)) (n : Nat) (hx : l[n]? = some x) :
    Calls Tryz.prog 43 #[.agg #[.int .i64 15, .slice an names.length cn, .slice al l.length cl, .int .i64 r], .agg #[.int .i64 (n : Int), .slice sa s.length sc, .slice av vl.length cv], .int .i64 (i : Int)] w (TyR P x w) := by
  obtain ⟨g, o, ap, cp, aq, cq, rfl, _, hg, ht, d0, d1, d2, d3⟩ := row_in h hx
  have hlen : n < l.length := (List.getElem?_eq_some_iff.1 hx).1
  have e0 := cell_box (cell_box (cell_box d0 (.cells #[.int .i64 15, .slice an names.length cn, .slice (some ⟨g, o, none⟩) l.length cl, .int .i64 r] 25)) (.cells #[.int .i64 (n : Int), .slice sa s.length sc, .slice av vl.length cv] 29)) (.cells #[.int .i64 0, .slice none 0 0, .slice none 0 0, .int .i64 0] 25)
  have e1 := cell_box (cell_box (cell_box d1 (.cells #[.int .i64 15, .slice an names.length cn, .slice (some ⟨g, o, none⟩) l.length cl, .int .i64 r] 25)) (.cells #[.int .i64 (n : Int), .slice sa s.length sc, .slice av vl.length cv] 29)) (.cells #[.int .i64 0, .slice none 0 0, .slice none 0 0, .int .i64 0] 25)
  have e2 := cell_box (cell_box (cell_box d2 (.cells #[.int .i64 15, .slice an names.length cn, .slice (some ⟨g, o, none⟩) l.length cl, .int .i64 r] 25)) (.cells #[.int .i64 (n : Int), .slice sa s.length sc, .slice av vl.length cv] 29)) (.cells #[.int .i64 0, .slice none 0 0, .slice none 0 0, .int .i64 0] 25)
  have e3 := cell_box (cell_box (cell_box d3 (.cells #[.int .i64 15, .slice an names.length cn, .slice (some ⟨g, o, none⟩) l.length cl, .int .i64 r] 25)) (.cells #[.int .i64 (n : Int), .slice sa s.length sc, .slice av vl.length cv] 29)) (.cells #[.int .i64 0, .slice none 0 0, .slice none 0 0, .int .i64 0] 25)
  have HT := Lib.hid ht
  have HG := Lib.hid hg
  clear h hx ht hg d0 d1 d2 d3
  go_enter Tryz.func43, Tryz.ntmps43
  go_wp2_with fail
  refine bodyPost_ret (v := tyV x ap cp aq cq) (by simp [results, Tryz.results43, go_sem]) rfl ?_
  exact tyR_k HT.out ((((Kept.refl _ w).new _).new _).new _)
set_option maxRecDepth 100000 in
set_option maxHeartbeats 4000000 in
theorem within_i (P : Nat → Prop) (names : List Nm) (l : List Ty) (r : Int) (an : Option Addr) (cn : Nat) (al : Option Addr) (cl : Nat) (s : List Int) (vl : List Vl) (sa : Option Addr) (sc : Nat) (av : Option Addr) (cv : Nat) (i : Nat) (x : Ty) (w : World) (h : LiesU P w (tysU l) (.slice al l.length cl)) (n : Int) (k : Int) (h12 : (k == 12) = false) (h15 : (k == 15) = false) (hx : l[i]? = some x) :
    Calls Tryz.prog 43 #[.agg #[.int .i64 k, .slice an names.length cn, .slice al l.length cl, .int .i64 r], .agg #[.int .i64 n, .slice sa s.length sc, .slice av vl.length cv], .int .i64 (i : Int)] w (TyR P x w) := by
  obtain ⟨g, o, ap, cp, aq, cq, rfl, _, hg, ht, d0, d1, d2, d3⟩ := row_in h hx
  have hlen : i < l.length := (List.getElem?_eq_some_iff.1 hx).1
  have e0 := cell_box (cell_box (cell_box d0 (.cells #[.int .i64 k, .slice an names.length cn, .slice (some ⟨g, o, none⟩) l.length cl, .int .i64 r] 25)) (.cells #[.int .i64 n, .slice sa s.length sc, .slice av vl.length cv] 29)) (.cells #[.int .i64 0, .slice none 0 0, .slice none 0 0, .int .i64 0] 25)
  have e1 := cell_box (cell_box (cell_box d1 (.cells #[.int .i64 k, .slice an names.length cn, .slice (some ⟨g, o, none⟩) l.length cl, .int .i64 r] 25)) (.cells #[.int .i64 n, .slice sa s.length sc, .slice av vl.length cv] 29)) (.cells #[.int .i64 0, .slice none 0 0, .slice none 0 0, .int .i64 0] 25)
  have e2 := cell_box (cell_box (cell_box d2 (.cells #[.int .i64 k, .slice an names.length cn, .slice (some ⟨g, o, none⟩) l.length cl, .int .i64 r] 25)) (.cells #[.int .i64 n, .slice sa s.length sc, .slice av vl.length cv] 29)) (.cells #[.int .i64 0, .slice none 0 0, .slice none 0 0, .int .i64 0] 25)
  have e3 := cell_box (cell_box (cell_box d3 (.cells #[.int .i64 k, .slice an names.length cn, .slice (some ⟨g, o, none⟩) l.length cl, .int .i64 r] 25)) (.cells #[.int .i64 n, .slice sa s.length sc, .slice av vl.length cv] 29)) (.cells #[.int .i64 0, .slice none 0 0, .slice none 0 0, .int .i64 0] 25)
  have HT := Lib.hid ht
  have HG := Lib.hid hg
  clear h hx ht hg d0 d1 d2 d3
  go_enter Tryz.func43, Tryz.ntmps43
  go_wp2_with fail
  refine bodyPost_ret (v := tyV x ap cp aq cq) (by simp [results, Tryz.results43, go_sem]) rfl ?_
  exact tyR_k HT.out ((((Kept.refl _ w).new _).new _).new _)
/-- WITHIN. -/
theorem rdWithin (P : Nat → Prop) (t : Ty) (an : Option Addr) (cn : Nat) (al : Option Addr) (cl : Nat) (v : Vl) (sa : Option Addr) (sc : Nat) (av : Option Addr) (cv : Nat) (i : Nat) (x : Ty) (w : World) (h : TyP P w t an cn al cl) (hx : witO t v.n i = some x) :
    Calls Tryz.prog 43 #[tyV t an cn al cl, vlV v sa sc av cv, .int .i64 (i : Int)] w (TyR P x w) := by
  cases t with
  | mk k names l r =>
  cases v with
  | mk n s vl =>
    have hr : LiesU P w (tysU l) (.slice al l.length cl) := h.l
    by_cases h12 : k = 12
    · subst h12
      exact within_12 P names l r an cn al cl s vl sa sc av cv i x w hr n hx
    · by_cases h15 : k = 15
      · subst h15
        have hx : (if (0 : Int) ≤ n then l[n.toNat]? else none) = some x := hx
        by_cases hn : 0 ≤ n
        · rw [if_pos hn] at hx
          obtain ⟨m, rfl⟩ := Int.eq_ofNat_of_zero_le hn
          exact within_15 P names l r an cn al cl s vl sa sc av cv i x w hr m hx
        · rw [if_neg hn] at hx
          cases hx
      · have hx : (if k = 12 then l[0]? else if k = 15 then (if (0 : Int) ≤ n then l[n.toNat]? else none) else l[i]?) = some x := hx
        rw [if_neg h12, if_neg h15] at hx
        exact within_i P names l r an cn al cl s vl sa sc av cv i x w hr n k (by simp [h12]) (by simp [h15]) hx
end Go.Proofs.YtikgkjkgdlnekaaGreatDoor
