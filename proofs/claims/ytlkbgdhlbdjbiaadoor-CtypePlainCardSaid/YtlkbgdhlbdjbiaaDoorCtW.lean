/- ctype: core types, one behind the other. -/
import Derived.Test.YtlkbgdhlbdjbiaaDoorCtV
set_option linter.unusedVariables false
set_option linter.unusedSimpArgs false
namespace Go.Proofs.YtlkbgdhlbdjbiaaDoor
open Go.RowKit
open Lex Ct

def CorAt (k : Nat) : Prop := ∀ (t : Ty) (an : Option Addr) (cn : Nat) (al : Option Addr) (cl : Nat) (w : World), TyAt w t an cn al cl → Fit k t →
  Calls Tryd.prog 29 #[tyV t an cn al cl] w (CoreR (coreK k t) w)
theorem behL_small {k : Nat} {l : List Ty} (hs : csum k l ≤ 40000) (i : Nat) : (behL (coreK k) (l.take i)).length ≤ 80000 := by
  have h1 := behL_len (coreK_len k) (l.take i)
  have h2 := csum_take k i l
  omega
theorem one_ints (ys : List Int) : ∀ u ∈ ys.map (Value.int .i64), u.oneCell' = true := by
  intro u hu
  obtain ⟨z, _, rfl⟩ := List.mem_map.1 hu
  rfl
set_option maxRecDepth 100000 in
set_option maxHeartbeats 8000000 in
theorem rdBehind (k : Nat) (HC : CorAt k) (l : List Ty) (a : Option Addr) (cap : Nat) (w : World) (hl : RowAt w l a cap) (hfit : ∀ x ∈ l, Fit k x) (hs : csum k l ≤ 40000) :
    Calls Tryd.prog 42 #[.slice a l.length cap] w (CoreR (behL (coreK k) l) w) := by
  obtain ⟨i0, hi, hz0, hz1, hz2⟩ := info_int2
  have hbd := hl.bound
  have hlen : (l.length : Int) ≤ 9223372036854775807 := by omega
  have HL := Lib.hid hl
  have HF := Lib.hid hfit
  have HX0 := Lib.hid HC
  have HS := Lib.hid (fun i => behL_small hs i)
  clear hl hfit HC hbd hs
  go_enter Tryd.func42, Tryd.ntmps42
  go_wp2_with fail
  go_loopw [3, 8] (fun v u wr => ∃ (i : Nat) (av : Option Addr) (cp : Nat), v = .slice av (behL (coreK k) (l.take i)).length cp ∧ u = .int .i64 i ∧ i ≤ l.length ∧ Hid (Kept (fun _ => False) w wr ∧ Ints w.heap.size (.slice av (behL (coreK k) (l.take i)).length cp) (behL (coreK k) (l.take i)) wr ∧ (behL (coreK k) (l.take i) = [] → av = none ∧ cp = 0))) (fun _ u _ => l.length - (intOf u).toNat)
  case atStart => exact ⟨0, none, 0, rfl, rfl, Nat.zero_le _, Lib.hid ⟨Kept.refl _ _, World.ownsRow_nil _ _ _ _, fun _ => ⟨rfl, rfl⟩⟩⟩
  case round =>
    obtain ⟨i, av, cp, rfl, rfl, hi2, hst⟩ := hrel
    by_cases hlt : i < l.length
    · obtain ⟨x, hx⟩ : ∃ x, l[i]? = some x := ⟨_, List.getElem?_eq_getElem hlt⟩
      obtain ⟨g, o, ax, cx, ay, cy, rfl, hgl, htx, c0, c1, c2, c3⟩ := (HL.out.kept hst.out.1).at hx
      have hxf := HF.out x (List.mem_of_getElem? hx)
      have kx : Kept (fun _ => False) wr (wr.alloc (.cells #[.int .i64 x.kind, .slice ax x.names.length cx, .slice ay x.l.length cy, .int .i64 x.r] 25)) := (Kept.refl _ _).new _
      have HKX := Lib.hid kx
      have HX : Hid (∀ w', Kept (fun _ => False) wr w' → Calls Tryd.prog 29 #[tyV x ax cx ay cy] w' (CoreR (coreK k x) w')) := Lib.hid fun w' k' => HX0.out x ax cx ay cy w' (htx.kept k') hxf
      have hsn := behL_snoc (f := coreK k) hx
      have hlen2 := HS.out (i + 1)
      rw [hsn, List.length_append] at hlen2
      have HSN := Lib.hid hsn
      have hltI : ((i : Int) < (l.length : Int)) = True := by simp; omega
      clear hx htx hxf kx hgl hsn
      revert hst HX hlen2 HSN
      generalize behL (coreK k) (l.take i) = out
      generalize coreK k x = ys
      intro hst HX hlen2 HSN
      unfold CoreR at HX
      by_cases hy : ys = []
      · subst hy
        have HSN2 : Hid (behL (coreK k) (l.take (i + 1)) = out) := Lib.hid (by rw [HSN.out, List.append_nil])
        go_wp2_with (first
          | (at_builtin; refine wpList_append_own_none rfl _ _ 31 rfl w.heap.size 3 i0 1 Tryd.underlying31 hi _ out.length (out.map (Value.int .i64)) rfl hown2 rfl ?_)
          | (go_at_call 29; refine (HX.out _ HKX.out).mono ?_; rintro y w2 ⟨av2, cp2, rfl, hi3, hn3, k2⟩; obtain ⟨rfl, rfl⟩ := hn3 rfl; have hown2 := hst.out.2.1.kept (HKX.out.trans k2) (fun _ _ => id)))
        exact ⟨⟨i + 1, av, cp, by rw [HSN2.out], by go_num, by omega, Lib.hid ⟨hst.out.1.trans (HKX.out.trans k2), by rw [HSN2.out]; exact hown2, by rw [HSN2.out]; exact hst.out.2.2⟩⟩, by simp [intOf]; omega⟩
      · have q0 : 0 < ys.length := by cases ys with | nil => exact absurd rfl hy | cons a b => simp
        have q3 : out.length + ys.length ≤ maxLen := by unfold maxLen; omega
        have q4 : (out.length + ys.length) * 8 ≤ 140737488355328 := by omega
        have HY := Lib.hid hy
        have HSZ : Hid ((behL (coreK k) (l.take (i + 1))).length = out.length + ys.length) := Lib.hid (by rw [HSN.out, List.length_append])
        clear hy
        go_wp2_with (first
          | (at_builtin; refine wpList_append_lies _ rfl _ _ 31 rfl w.heap.size 3 i0 (.int .i64 0) 1 8 Tryd.underlying31 hi hz0 hz1 hz2 rfl (by decide) _ out.length (out.map (Value.int .i64)) rfl hown2 ⟨g2, 0, none⟩ ys.length cp2 (ys.map (Value.int .i64)) rfl (by rw [List.length_map, Nat.mul_one]) hnews (one_ints ys) q0 q3 q4 hsz2 _ rfl ?_; intro g3 cap3 w3 hown3 hg3 hat hgl; clear hnews)
          | (go_at_call 29; refine (HX.out _ HKX.out).mono ?_; rintro y w2 ⟨av2, cp2, rfl, hi3, hn3, k2⟩; obtain ⟨g2, rfl, _, _, _, _, hnews⟩ := hi3.at HY.out; have hown2 := hst.out.2.1.kept (HKX.out.trans k2) (fun _ _ => id); have hsz2 := (hst.out.1.trans (HKX.out.trans k2)).size; clear hi3 hn3))
        have HG := Lib.hid (And.intro hown3 hg3)
        refine ⟨⟨i + 1, some ⟨g3, 0, none⟩, cap3, by rw [HSZ.out], by go_num, by omega, Lib.hid ⟨?_, ?_, fun e => ?_⟩⟩, by simp [intOf]; omega⟩
        · exact (hst.out.1.trans (HKX.out.trans k2)).grown HG.out.2 (fun q hq e => by have := (World.ownsRow.lt hown2 q e.symm).1; omega)
        · rw [HSN.out]
          have := HG.out.1
          unfold Ints
          rw [List.length_append, List.map_append]
          exact this
        · rw [HSN.out] at e
          exact absurd (List.append_eq_nil_iff.1 e).2 HY.out
    · have hie : i = l.length := by omega
      subst hie
      rw [List.take_length] at hst ⊢
      clear hlt
      go_wp2_with fail
      go_ret
      exact ⟨av, cp, rfl, hst.out.2.1, hst.out.2.2, hst.out.1⟩
end Go.Proofs.YtlkbgdhlbdjbiaaDoor
