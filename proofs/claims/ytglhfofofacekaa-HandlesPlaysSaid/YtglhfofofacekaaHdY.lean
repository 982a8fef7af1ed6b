/- handles: Handles; Calls. -/
import Derived.Test.YtglhfofofacekaaHdX
set_option linter.unusedVariables false
set_option linter.unusedSimpArgs false
namespace Go.Proofs.Ytglhfofofacekaa
open Go.RowKit

/-- An instance's handles. -/
def handlesS (S : Tb) (i : Int) : List Hd := if hasB S.tb.length i = true then S.tb.getD i.toNat [] else []
/-- A slice that holds handles, in a block of a call's own. -/
def Hds (B : Nat) (v : Value) (T : List Hd) (w : World) : Prop := w.ownsRow B 68 6 v T.length (hdCs T)
theorem Hds.base {B C : Nat} {v : Value} {T : List Hd} {w : World} (h : Hds C v T w) (hB : B ≤ C) : Hds B v T w := own_base h hB
theorem Hds.below {B : Nat} {v : Value} {T : List Hd} {w w' : World} (h : Hds B v T w) (hb : Below w.heap.size w w') : Hds B v T w' := ownsRow_kept h (Kept.of_below hb) (fun _ _ e => e)
theorem Hds.len {B : Nat} {v : Value} {T : List Hd} {w : World} (h : Hds B v T w) : ∃ a c, v = .slice a T.length c := len_of_own h

theorem fitI (k : Nat) : ((k : Int)).toNat = k := rfl
set_option maxRecDepth 100000 in
set_option maxHeartbeats 2000000 in
theorem TbR.handles {F : Nat → Prop} {a : Nat} {w : World} {S : Tb} {H : TbH} (h : TbR F a w S H) {N : Nat} (ok : TbOk N S) (i : Int) :
    Calls Try.prog 16 #[.pointer (some ⟨a, 0, none⟩), .int .i64 i] w fun e w' => ∃ v, e = .returned v ∧ Hds w.heap.size v (handlesS S i) w' ∧ Below w.heap.size w w' := by
  have HH := h.has i
  unfold handlesS
  cases hi : hasB S.tb.length i
  · rw [hi] at HH
    clear h
    go_enter Try.func16, Try.ntmps16
    go_wp2_with (go_at_call 44; refine HH.mono ?_; rintro e w' ⟨rfl, rfl⟩)
    go_ret
    exact ⟨_, rfl, World.ownsRow_nil _ _ _ _, Below.refl _ _⟩
  · rw [hi] at HH
    obtain ⟨k, rfl, hk⟩ : ∃ k : Nat, i = k ∧ k < S.tb.length := ⟨i.toNat, by simp [hasB] at hi; omega, by simp [hasB] at hi; omega⟩
    have c1 := h.cells.2.1
    have c2 : w.cell? ⟨H.tg, k, none⟩ = some (.map (some (H.bs.getD k 0))) := (h.tbl.cell k).trans (h.slot k hk)
    have hm := h.maps k hk
    have HS := Lib.hid (ok.rise k hk)
    have HL := Lib.hid (ok.len k hk)
    rw [if_pos rfl, fitI]
    generalize H.bs.getD k 0 = b at c2 hm
    generalize S.tb.getD k [] = T at hm HS HL ⊢
    generalize S.tb.length = n at HH c1 hk
    have HV := callsIn_wide.1 (values_in Fence.wide 1 trivial rfl (some b) w)
    have HF := sortedFunc w.heap.size b T HS.out HL.out (w.alloc (.cells #[.map (some b)] 56)) (by simp) (by simp) (hm.next (Below.heap_alloc _ _ b hm.lt))
    clear h hi hm ok
    go_enter Try.func16, Try.ntmps16
    go_wp2_with (first
      | (go_at_call 44; refine HH.mono ?_; rintro e w' ⟨rfl, rfl⟩)
      | (go_at_call 48; refine HV.mono ?_; rintro e w' ⟨rfl, rfl⟩)
      | (go_at_call 47; refine HF.mono ?_; rintro e w2 ⟨v, rfl, hr, hb⟩))
    go_ret
    exact ⟨v, rfl, own_base hr (by simp), ((Below.refl _ w).alloc (Nat.le_refl _) _).trans (hb.mono (by simp))⟩

/-- Of which instances calls are under way. -/
abbrev callsS (S : Tb) : List Int := S.cl.map (·.1)
theorem take_snoc (l : List Int) (k : Nat) (h : k < l.length) : l.take (k + 1) = l.take k ++ [l.getD k 0] := by
  rw [List.take_add_one, List.getD_eq_getElem?_getD, List.getElem?_eq_getElem h]
  rfl
theorem info_int64 : (Try.prog.info? 3).map (fun i => (i.zero, i.size, i.bytes)) = some (some (.int .i64 0), 1, 8) := by kernel_rfl
set_option maxRecDepth 100000 in
set_option maxHeartbeats 4000000 in
theorem TbR.callsT {F : Nat → Prop} {a : Nat} {w : World} {S : Tb} {H : TbH} (h : TbR F a w S H) (h16 : S.cl.length ≤ 16) :
    Calls Try.prog 41 #[.pointer (some ⟨a, 0, none⟩)] w fun e w' => ∃ v, e = .returned v ∧ Ints w.heap.size v (callsS S) w' ∧ Below w.heap.size w w' := by
  obtain ⟨ca, cc, _, c2, hrow⟩ := h.row
  obtain ⟨i0, hti, hz0, hz1, hz2⟩ := info_parts info_int64
  unfold callsS
  have HL : Hid ((S.cl.map (·.1)).length = S.cl.length) := Lib.hid (by simp)
  have HG : Hid (∀ j, j < S.cl.length → (S.cl.map (·.1)).getD j 0 = (S.cl.getD j (0, [])).1) := Lib.hid (fun j hj => getD_map _ j hj)
  generalize S.cl.map (·.1) = L at HL HG ⊢
  have HR := Lib.hid hrow
  have H16 := Lib.hid h16
  clear h hrow h16
  go_enter Try.func41, Try.ntmps41
  go_wp2_with fail
  go_loopw [3, 13] (fun v i wr => ∃ (k : Nat) (av : Option Addr) (cp : Nat), i = .int .i64 k ∧ v = .slice av k cp ∧ k ≤ S.cl.length ∧ Hid (Below w.heap.size w wr ∧ wr.ownsRow w.heap.size 3 1 (.slice av k cp) k ((L.take k).map (Value.int .i64)))) (fun _ i _ => S.cl.length - (intOf i).toNat)
  case atStart => exact ⟨0, none, 0, rfl, rfl, Nat.zero_le _, Lib.hid ⟨Below.refl _ _, World.ownsRow_nil _ _ _ _⟩⟩
  case round =>
    obtain ⟨k, av, cp, rfl, rfl, hk, HB⟩ := hrel
    by_cases hlt : k < S.cl.length
    · obtain ⟨g, o, rfl, hrow⟩ := HR.out.resolve_left (by omega)
      have x0 := farB (hrow.at0 k hlt) HB.out.1
      have x1 := farB (hrow.at1 k hlt) HB.out.1
      have hx : (S.cl.getD k (0, [])).1 = L.getD k 0 := (HG.out k hlt).symm
      rw [hx] at x0
      have HT : Hid ((L.take (k + 1)).map (Value.int .i64) = (L.take k).map (Value.int .i64) ++ [.int .i64 (L.getD k 0)]) := Lib.hid (by rw [take_snoc L k (by rw [HL.out]; exact hlt)]; simp)
      generalize L.getD k 0 = x at x0 HT
      generalize H.ls.getD k 0 = m at x1
      have HW : Hid (((wr.alloc (.cells #[.int .i64 x, .map (some m)] 83)).alloc (.cells #[.int .i64 x] 3)).ownsRow w.heap.size 3 1 (.slice av k cp) k ((L.take k).map (Value.int .i64))) := Lib.hid ((HB.out.2.alloc _).alloc _)
      have HS1 : Hid (w.heap.size ≤ ((wr.alloc (.cells #[.int .i64 x, .map (some m)] 83)).alloc (.cells #[.int .i64 x] 3)).heap.size) := Lib.hid (by have := HB.out.1.size; simp; omega)
      have HB2 : Hid (Below w.heap.size w ((wr.alloc (.cells #[.int .i64 x, .map (some m)] 83)).alloc (.cells #[.int .i64 x] 3))) := Lib.hid (by have h1 := HB.out.1.alloc HB.out.1.size (.cells #[.int .i64 x, .map (some m)] 83); exact h1.alloc h1.size _)
      have NEWS : Hid (∀ j u, [Value.int .i64 x][j]? = some u → ((wr.alloc (.cells #[.int .i64 x, .map (some m)] 83)).alloc (.cells #[.int .i64 x] 3)).cell? ((⟨wr.heap.size + 1, 0, none⟩ : Addr).add j) = some u) := by
        refine Lib.hid ?_
        have := cell_one_new (wr.alloc (.cells #[.int .i64 x, .map (some m)] 83)) (.int .i64 x) 3
        rw [show (wr.alloc (.cells #[.int .i64 x, .map (some m)] 83)).heap.size = wr.heap.size + 1 by simp] at this
        exact this
      have HK : Hid (k + 1 ≤ maxLen) := Lib.hid (by have := H16.out; unfold maxLen; omega)
      have HK2 : Hid ((k + 1) * 8 ≤ 140737488355328) := Lib.hid (by have := H16.out; omega)
      have HLT := Lib.hid hlt
      have HKK := Lib.hid hk
      clear hrow hx hk
      go_wp2_with (first
        | (at_builtin; refine wpList_append_own _ rfl _ _ 22 rfl w.heap.size 3 i0 (.int .i64 0) 1 8 Try.underlying22 hti hz0 hz1 hz2 rfl (by decide) _ k ((L.take k).map (Value.int .i64)) rfl HW.out ⟨wr.heap.size + 1, 0, none⟩ 1 1 [.int .i64 x] rfl rfl NEWS.out (one_i64 _) HK.out HK2.out HS1.out ?_; intro v' w3 hown3 hg3 _; have HO3 := Lib.hid hown3; have HG3 := Lib.hid hg3; clear hg3; obtain ⟨g3, c3, rfl⟩ := ownsRow_succ hown3; clear hown3))
      have hwk : wrap64 ((k : Int) + 1) = (k : Int) + 1 := by have := H16.out; unfold wrap64; omega
      rw [hwk]
      refine ⟨⟨k + 1, some ⟨g3, 0, none⟩, c3, by simp, rfl, by omega, Lib.hid ⟨HB2.out.grown HG3.out HB2.out.size (fun j e => (World.ownsRow.lt HW.out j e).1), by rw [HT.out]; exact HO3.out⟩⟩, by simp [intOf]; omega⟩
    · have hke : k = S.cl.length := by omega
      subst hke
      clear hlt hk
      go_wp2_with fail
      go_ret
      refine ⟨_, rfl, ?_, HB.out.1⟩
      have := HB.out.2
      rw [List.take_of_length_le (by rw [HL.out]; exact Nat.le_refl _)] at this
      unfold Ints
      rw [HL.out]
      exact this

theorem St.handles {B a N : Nat} {w : World} {S : Tb} (h : St B a w S N) (i : Int) : Calls Try.prog 16 #[.pointer (some ⟨a, 0, none⟩), .int .i64 i] w fun e w' => ∃ v, e = .returned v ∧ Hds w.heap.size v (handlesS S i) w' ∧ St B a w' S N ∧ Below w.heap.size w w' := by
  obtain ⟨H, h1⟩ := h.at'
  refine (h1.handles h.ok i).mono ?_
  rintro e w' ⟨v, rfl, hv, hb⟩
  exact ⟨v, rfl, hv, (h.below hb).1, hb⟩
theorem St.callsT {B a N : Nat} {w : World} {S : Tb} (h : St B a w S N) : Calls Try.prog 41 #[.pointer (some ⟨a, 0, none⟩)] w fun e w' => ∃ v, e = .returned v ∧ Ints w.heap.size v (callsS S) w' ∧ St B a w' S N ∧ Below w.heap.size w w' := by
  obtain ⟨H, h1⟩ := h.at'
  refine (h1.callsT h.ok.k1).mono ?_
  rintro e w' ⟨v, rfl, hv, hb⟩
  exact ⟨v, rfl, hv, (h.below hb).1, hb⟩
end Go.Proofs.Ytglhfofofacekaa
