/- ctype: the reference's core types: one behind the other. -/
import Derived.Test.YtlkbgdhlbdjbiaaDoorCtAw
set_option linter.unusedVariables false
set_option linter.unusedSimpArgs false
namespace Go.Proofs.YtlkbgdhlbdjbiaaDoor
open Go.RowKit
open Lex Ct

namespace Ct
/-- An enum has no types within. -/
def e16K : Nat → Ty → Prop
  | 0, _ => True
  | k + 1, t => (t.kind = 16 → t.l = []) ∧ ∀ x ∈ t.l, e16K k x
theorem e16_zero {k : Nat} {t : Ty} (hl : t.l = []) : e16K k t := by
  cases k with
  | zero => trivial
  | succ k => exact ⟨fun _ => hl, fun x hx => by rw [hl] at hx; cases hx⟩
theorem isNone_l {t : Ty} (h : isNone t = true) : t.l = [] := by
  unfold isNone at h
  simp at h
  exact h.2.2.2
theorem deepK_e16 : ∀ {k : Nat} {t : Ty}, deepK k t = true → e16K k t
  | 0, t, h => trivial
  | k + 1, t, h => by
    unfold deepK at h
    simp only [Bool.and_eq_true, List.all_eq_true, Bool.or_eq_true] at h
    have hs := h.1.1
    unfold shapedB at hs
    simp only [Bool.and_eq_true] at hs
    refine ⟨fun e => ?_, fun x hx => ?_⟩
    · have := hs.1
      rw [e] at this
      unfold okW at this
      simp at this
      exact this.2.2
    · rcases h.2 x hx with h1 | h1
      · exact e16_zero (isNone_l h1.2)
      · exact deepK_e16 h1
theorem ovF_plain {k : Nat} {t : Ty} (h : t.kind = 16 → t.l = []) : ovF (coreK k) (plainL t) = ovF (coreK k) t.l := by
  have hz : coreK k .zero = [] := (coreK_len k .zero).1 rfl
  unfold plainL
  by_cases h16 : t.kind = 16
  · rw [if_pos h16, h h16]
    have : ∀ (n : Nat) (o : List Int), (List.replicate n Ty.zero).foldl (fun o x => ovR o 0 (coreK k x)) o = o := by
      intro n
      induction n with
      | zero => intro o; rfl
      | succ n ih =>
        intro o
        rw [List.replicate_succ, List.foldl_cons, hz]
        exact ih o
    exact this _ _
  · rw [if_neg h16]
    split
    · unfold ovF
      rw [List.foldl_cons, hz]
      rfl
    · rfl
end Ct
def CorRAt (k : Nat) : Prop := ∀ (t : Ty) (an : Option Addr) (cn : Nat) (al : Option Addr) (cl : Nat) (w : World), TyAt w t an cn al cl → Fit k t → e16K k t →
  Calls Tryd.prog 11 #[tyV t an cn al cl] w (CoreR (coreK k t) w)
set_option maxRecDepth 100000 in
set_option maxHeartbeats 8000000 in
theorem rdRefRow (k : Nat) (HC : CorRAt k) (l : List Ty) (a : Option Addr) (cap : Nat) (w : World) (hl : RowAt w l a cap) (hfit : ∀ x ∈ l, Fit k x ∧ e16K k x) (hs : csum k l ≤ 40000) :
    Calls Tryd.prog 27 #[.slice a l.length cap] w (CoreR (behL (coreK k) l) w) := by
  obtain ⟨i0, hi, hz0, hz1, hz2⟩ := info_int2
  have hbd := hl.bound
  have hlen : (l.length : Int) ≤ 9223372036854775807 := by omega
  have HL := Lib.hid hl
  have HF := Lib.hid hfit
  have HX0 := Lib.hid HC
  have HS := Lib.hid (fun i => behL_small hs i)
  clear hl hfit HC hbd hs
  go_enter Tryd.func27, Tryd.ntmps27
  go_wp2_with fail
  go_loopw [3, 4] (fun v u wr => ∃ (i : Nat) (av : Option Addr) (cp : Nat), v = .slice av (behL (coreK k) (l.take i)).length cp ∧ u = .int .i64 i ∧ i ≤ l.length ∧ Hid (Kept (fun _ => False) w wr ∧ Ints w.heap.size (.slice av (behL (coreK k) (l.take i)).length cp) (behL (coreK k) (l.take i)) wr ∧ (behL (coreK k) (l.take i) = [] → av = none ∧ cp = 0))) (fun _ u _ => l.length - (intOf u).toNat)
  case atStart => exact ⟨0, none, 0, rfl, rfl, Nat.zero_le _, Lib.hid ⟨Kept.refl _ _, World.ownsRow_nil _ _ _ _, fun _ => ⟨rfl, rfl⟩⟩⟩
  case round =>
    obtain ⟨i, av, cp, rfl, rfl, hi2, hst⟩ := hrel
    by_cases hlt : i < l.length
    · obtain ⟨x, hx⟩ : ∃ x, l[i]? = some x := ⟨_, List.getElem?_eq_getElem hlt⟩
      obtain ⟨g, o, ax, cx, ay, cy, rfl, hgl, htx, c0, c1, c2, c3⟩ := (HL.out.kept hst.out.1).at hx
      have hxf := HF.out x (List.mem_of_getElem? hx)
      have HKX := Lib.hid (Kept.refl (fun _ => False) wr)
      have HX : Hid (∀ w', Kept (fun _ => False) wr w' → Calls Tryd.prog 11 #[tyV x ax cx ay cy] w' (CoreR (coreK k x) w')) := Lib.hid fun w' k' => HX0.out x ax cx ay cy w' (htx.kept k') hxf.1 hxf.2
      have hsn := behL_snoc (f := coreK k) hx
      have hlen2 := HS.out (i + 1)
      rw [hsn, List.length_append] at hlen2
      have HSN := Lib.hid hsn
      have hltI : ((i : Int) < (l.length : Int)) = True := by simp; omega
      clear hx htx hxf hgl hsn
      revert hst HX hlen2 HSN
      generalize behL (coreK k) (l.take i) = out
      generalize coreK k x = ys
      intro hst HX hlen2 HSN
      unfold CoreR at HX
      by_cases hy : ys = []
      · subst hy
        have HSN2 : Hid (behL (coreK k) (l.take (i + 1)) = out) := Lib.hid (by rw [HSN.out, List.append_nil])
        go_wp2_with (first
          | (at_builtin; refine wpList_append_own_none rfl _ _ 31 rfl w.heap.size 3 i0 1 Tryd.underlying31 hi _ out.length (out.map (Value.int .i64)) rfl hown2 rfl ?_)
          | (go_at_call 11; refine (HX.out _ HKX.out).mono ?_; rintro y w2 ⟨av2, cp2, rfl, hi3, hn3, k2⟩; obtain ⟨rfl, rfl⟩ := hn3 rfl; have hown2 := hst.out.2.1.kept (HKX.out.trans k2) (fun _ _ => id)))
        exact ⟨⟨i + 1, av, cp, by rw [HSN2.out], by go_num, by omega, Lib.hid ⟨hst.out.1.trans (HKX.out.trans k2), by rw [HSN2.out]; exact hown2, by rw [HSN2.out]; exact hst.out.2.2⟩⟩, by simp [intOf]; omega⟩
      · have q0 : 0 < ys.length := by cases ys with | nil => exact absurd rfl hy | cons a b => simp
        have q3 : out.length + ys.length ≤ maxLen := by unfold maxLen; omega
        have q4 : (out.length + ys.length) * 8 ≤ 140737488355328 := by omega
        have HY := Lib.hid hy
        have HSZ : Hid ((behL (coreK k) (l.take (i + 1))).length = out.length + ys.length) := Lib.hid (by rw [HSN.out, List.length_append])
        clear hy
        go_wp2_with (first
          | (at_builtin; refine wpList_append_lies _ rfl _ _ 31 rfl w.heap.size 3 i0 (.int .i64 0) 1 8 Tryd.underlying31 hi hz0 hz1 hz2 rfl (by decide) _ out.length (out.map (Value.int .i64)) rfl hown2 ⟨g2, 0, none⟩ ys.length cp2 (ys.map (Value.int .i64)) rfl (by rw [List.length_map, Nat.mul_one]) hnews (one_ints ys) q0 q3 q4 hsz2 _ rfl ?_; intro g3 cap3 w3 hown3 hg3 hat hgl; clear hnews)
          | (go_at_call 11; refine (HX.out _ HKX.out).mono ?_; rintro y w2 ⟨av2, cp2, rfl, hi3, hn3, k2⟩; obtain ⟨g2, rfl, _, _, _, _, hnews⟩ := hi3.at HY.out; have hown2 := hst.out.2.1.kept (HKX.out.trans k2) (fun _ _ => id); have hsz2 := (hst.out.1.trans (HKX.out.trans k2)).size; clear hi3 hn3))
        have HG := Lib.hid (And.intro hown3 hg3)
        refine ⟨⟨i + 1, some ⟨g3, 0, none⟩, cap3, by rw [HSZ.out], by go_num, by omega, Lib.hid ⟨?_, ?_, fun e => ?_⟩⟩, by simp [intOf]; omega⟩
        · exact (hst.out.1.trans (HKX.out.trans k2)).grown HG.out.2 (fun q hq e => by have := (World.ownsRow.lt hown2 q e.symm).1; omega)
        · rw [HSN.out]
          have := HG.out.1
          unfold Ints
          rw [List.length_append, List.map_append]
          exact this
        · rw [HSN.out] at e
          exact absurd (List.append_eq_nil_iff.1 e).2 HY.out
    · have hie : i = l.length := by omega
      subst hie
      rw [List.take_length] at hst ⊢
      clear hlt
      go_wp2_with fail
      go_ret
      exact ⟨av, cp, rfl, hst.out.2.1, hst.out.2.2, hst.out.1⟩
end Go.Proofs.YtlkbgdhlbdjbiaaDoor
