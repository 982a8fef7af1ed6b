/- handles: Leave. -/
import Derived.Test.YtglhfofofacekaaHdO
set_option linter.unusedVariables false
set_option linter.unusedSimpArgs false
namespace Go.Proofs.Ytglhfofofacekaa
open Go.RowKit

/-- The tables behind what was lent has been given back. -/
def givenT (L : List (Int × Int)) (tb : List (List Hd)) : List (List Hd) := tb.mapIdx fun i T => T.map fun x => { x with lends := x.lends - L.count ((i : Int), x.h) }
theorem givenT_getD (L : List (Int × Int)) (tb : List (List Hd)) (i : Nat) (hi : i < tb.length) : (givenT L tb).getD i [] = (tb.getD i []).map fun x => { x with lends := x.lends - L.count ((i : Int), x.h) } := by
  unfold givenT
  simp only [List.getD_eq_getElem?_getD, List.getElem?_mapIdx]
  rw [List.getElem?_eq_getElem hi]
  rfl
theorem ext_getD {l l' : List (List Hd)} (h : l'.length = l.length) (he : ∀ i, i < l.length → l'.getD i [] = l.getD i []) : l' = l := by
  apply List.ext_getElem h
  intro i h1 h2
  have := he i h2
  simp only [List.getD_eq_getElem?_getD] at this
  rw [List.getElem?_eq_getElem h1, List.getElem?_eq_getElem h2] at this
  exact this
theorem BackEnd.is {F : Nat → Prop} {a : Nat} {w w' : World} {S : Tb} {H : TbH} {L : List (Int × Int)} (h : BackEnd F a w S H L w') : TbR F a w' { S with tb := givenT L S.tb } H ∧ Kept F w w' := by
  obtain ⟨tb', h1, h2, h3, h4⟩ := h
  have : tb' = givenT L S.tb := ext_getD (by rw [h3]; simp [givenT]) (fun i hi => by
    have hi' : i < S.tb.length := by simpa [givenT] using hi
    rw [h4 i hi', givenT_getD L S.tb i hi'])
  rw [← this]
  exact ⟨h1, h2⟩
def leaveS (S : Tb) : Int × Tb :=
  if S.cl.length = 0 then (20, S) else if borB S.tb S.cl.length = true then (18, S) else
    (0, { S with tb := givenT (S.cl.getD (S.cl.length - 1) (0, [])).2 S.tb, cl := S.cl.take (S.cl.length - 1) })
set_option maxRecDepth 100000 in
set_option maxHeartbeats 1000000 in
theorem leave_nil (w : World) : Calls Try.prog 26 #[.pointer none] w fun e w' => e = .returned (.int .i64 20) ∧ w = w' := by
  go_enter Try.func26, Try.ntmps26
  go_wp2_with fail
  go_ret
  exact ⟨rfl, rfl⟩
set_option maxRecDepth 100000 in
set_option maxHeartbeats 1000000 in
theorem TbR.leave_none {F : Nat → Prop} {a : Nat} {w : World} {S : Tb} {H : TbH} (h : TbR F a w S H) (hc : S.cl.length = 0) :
    Calls Try.prog 26 #[.pointer (some ⟨a, 0, none⟩)] w fun e w' => e = .returned (.int .i64 20) ∧ w = w' := by
  obtain ⟨ca, cc, _, h2⟩ := h.cvS
  have hq : ((S.cl.length : Int) == 0) = true := by simp [hc]
  generalize S.cl.length = n at h2 hq
  clear h hc
  go_enter Try.func26, Try.ntmps26
  go_wp2_with fail
  go_ret
  exact ⟨rfl, rfl⟩
set_option maxRecDepth 100000 in
set_option maxHeartbeats 1000000 in
theorem TbR.leave_bor {F : Nat → Prop} {a : Nat} {w : World} {S : Tb} {H : TbH} (h : TbR F a w S H) {N : Nat} (ok : TbOk N S) (hc : S.cl.length ≠ 0) (hb : borB S.tb S.cl.length = true) :
    Calls Try.prog 26 #[.pointer (some ⟨a, 0, none⟩)] w fun e w' => e = .returned (.int .i64 18) ∧ Below w.heap.size w w' := by
  obtain ⟨ca, cc, _, h2⟩ := h.cvS
  have hq : ((S.cl.length : Int) == 0) = false := by simp; exact fun e => hc (by rw [e]; rfl)
  have HB := h.borrowed ok S.cl.length
  rw [hb] at HB
  generalize S.cl.length = n at h2 hq HB
  clear h hc hb ok
  go_enter Try.func26, Try.ntmps26
  go_wp2_with (go_at_call 55; refine HB.mono ?_; rintro e w1 ⟨rfl, hb1⟩)
  go_ret
  exact ⟨rfl, hb1⟩
theorem zip_take {α β : Type} : ∀ (l : List α) (m : List β) (p : Nat), (l.take p).zip (m.take p) = (l.zip m).take p
  | [], m, p => by simp
  | x :: l, [], p => by cases p <;> simp
  | x :: l, y :: m, 0 => by simp
  | x :: l, y :: m, p + 1 => by simp [zip_take l m p]
theorem flat_take : ∀ (l : List ((Int × List (Int × Int)) × Nat)) (p : Nat), ((l.take p).flatMap clC) = (l.flatMap clC).take (p * 2)
  | [], p => by simp
  | c :: r, 0 => by simp
  | c :: r, p + 1 => by
    rw [List.take_succ_cons, List.flatMap_cons, List.flatMap_cons, flat_take r p, List.take_append, show (clC c).length = 2 from rfl, List.take_of_length_le (show (clC c).length ≤ (p + 1) * 2 by rw [show (clC c).length = 2 from rfl]; omega), show (p + 1) * 2 - 2 = p * 2 by omega]
theorem own_take {w : World} {B : Nat} {e : TypeId} {m n p : Nat} {ca : Option Addr} {cc : Nat} {xs : List Value} (h : w.ownsRow B e m (.slice ca n cc) n xs) (hp : p ≤ n) : w.ownsRow B e m (.slice ca p cc) p (xs.take (p * m)) := by
  have hm : p * m ≤ n * m := Nat.mul_le_mul_right m hp
  refine ⟨by rw [List.length_take, h.1]; omega, ?_⟩
  rcases h.2 with ⟨e1, e0⟩ | ⟨g, cap, cur, e1, h1, h2, h3, h4, h5, h6⟩
  · injection e1 with e1 _ e2
    subst e1
    subst e2
    exact .inl ⟨by rw [show p = 0 by omega], by omega⟩
  · injection e1 with e1 _ e2
    subst e1
    subst e2
    refine .inr ⟨g, cc, cur, rfl, h1, h2, by omega, h4, h5, ?_⟩
    rw [← h6, List.take_take, Nat.min_eq_left hm]
/-- The tables when the innermost call has ended. -/
theorem TbR.left {F : Nat → Prop} {a : Nat} {w : World} {S : Tb} {H : TbH} (h : TbR F a w S H) {ca : Option Addr} {cc p : Nat} (he : H.cv = .slice ca S.cl.length cc) (hp : p ≤ S.cl.length) :
    TbR F a (w.setCell ⟨a, 2, none⟩ (.slice ca p cc)) { S with cl := S.cl.take p } { H with cv := .slice ca p cc, ls := H.ls.take p } := by
  have K5 : Kept (· = a) w (w.setCell ⟨a, 2, none⟩ (.slice ca p cc)) := (Kept.refl (fun b => b = a) w).set (p := ⟨a, 2, none⟩) rfl _
  have hta : H.tg ≠ a := by
    intro e
    have h1 := h.tbl
    have h3 := h.head
    rw [e] at h1
    have := (show w.heap[a]? = some (.cells H.tcs 56 (0, 0)) from h1).symm.trans h3
    injection this with this
    injection this with _ this
    exact absurd this (by decide)
  have hcl : (S.cl.take p).length = p := by rw [List.length_take]; omega
  have hown := h.calls
  rw [he] at hown
  refine { h with head := ?_, mks := ?_, tbl := ?_, nl := ?_, maps := ?_, calls := ?_, lents := ?_, apart := ?_, fc := ?_, fb := ?_ }
  · exact h.head.put 2 _
  · exact ownsRow_kept h.mks K5 (fun g hg e => own_ne_cells h.mks h.head (by decide) (by rw [hg, e]))
  · exact h.tbl.kept K5 hta
  · show (H.ls.take p).length = (S.cl.take p).length
    rw [List.length_take, hcl, h.nl]; omega
  · intro i hi
    obtain ⟨es, c, hb⟩ := (h.maps i hi).block
    exact (h.maps i hi).kept K5 (fun e => cells_ne_map h.head hb e.symm)
  · show (w.setCell ⟨a, 2, none⟩ (.slice ca p cc)).ownsRow 0 _ 2 (.slice ca p cc) (S.cl.take p).length (((S.cl.take p).zip (H.ls.take p)).flatMap clC)
    rw [hcl, zip_take, flat_take]
    refine ownsRow_kept (own_take hown hp) K5 (fun g hg e => ?_)
    exact own_ne_cells (own_take hown hp) h.head (by decide) (by rw [hg, e])
  · intro j hj
    have hj' : j < p := by rw [← hcl]; exact hj
    show LMap _ ((H.ls.take p).getD j 0) ((S.cl.take p).getD j (0, [])).2
    rw [show (H.ls.take p).getD j 0 = H.ls.getD j 0 by simp only [List.getD_eq_getElem?_getD]; rw [List.getElem?_take_of_lt hj'], show (S.cl.take p).getD j (0, []) = S.cl.getD j (0, []) by simp only [List.getD_eq_getElem?_getD]; rw [List.getElem?_take_of_lt hj']]
    obtain ⟨es, c, hb⟩ := (h.lents j (by omega)).block
    exact (h.lents j (by omega)).kept K5 (fun e => cells_ne_map h.head hb e.symm)
  · show (H.bs ++ H.ls.take p).Nodup
    exact h.apart.sublist ((List.Sublist.refl _).append (List.take_sublist _ _))
  · intro g hg
    refine h.fc g ?_
    rw [he]
    have hg' : (Value.slice ca p cc).ownBlock = some g := hg
    cases ca with
    | none => cases hg'
    | some x => simpa [Value.ownBlock] using hg'
  · intro b hb
    refine h.fb b ?_
    rcases List.mem_append.1 hb with hb | hb
    · exact List.mem_append_left _ hb
    · exact List.mem_append_right _ (List.mem_of_mem_take hb)
set_option maxRecDepth 100000 in
set_option maxHeartbeats 2000000 in
theorem TbR.leave_ok {F : Nat → Prop} {a : Nat} {w : World} {S : Tb} {H : TbH} (h : TbR F a w S H) {N : Nat} (ok : TbOk N S) (hN : N ≤ 100000) (p : Nat) (hc : S.cl.length = p + 1) (hb : borB S.tb S.cl.length = false) :
    Calls Try.prog 26 #[.pointer (some ⟨a, 0, none⟩)] w fun e w' => e = .returned (.int .i64 0) ∧ TbAt F a w' { S with tb := givenT (S.cl.getD p (0, [])).2 S.tb, cl := S.cl.take p } ∧ Kept F w w' := by
  obtain ⟨ca, cc, he, h2, hr⟩ := h.row
  obtain ⟨g, o, rfl, hrow⟩ := hr.resolve_left (by omega)
  have r1 := hrow.at1 p (by omega)
  have hq : (((p + 1 : Nat) : Int) == 0) = false := by simp; omega
  have hpw2 : wrap64 ((p : Int) + 1 - 1) = (p : Int) := by have := ok.k1; unfold wrap64; omega
  have hpw3 : wrap64 (p : Int) = (p : Int) := by have := ok.k1; unfold wrap64; omega
  have hpc : p ≤ cc := by
    have hown := h.calls
    rw [he] at hown
    rcases hown.2 with ⟨e1, _⟩ | ⟨g', cap, cur, e1, h1, h2, h3, _⟩
    · cases e1
    · injection e1 with _ _ e2
      omega
  have HB := h.borrowed ok S.cl.length
  rw [hb, hc] at HB
  rw [hc] at h2
  have HBK : Hid (∀ w1, Below w.heap.size w w1 → Calls Try.prog 56 #[.pointer (some ⟨a, 0, none⟩), .map (some (H.ls.getD p 0))] w1 fun e w' => e = .returned (.tuple #[]) ∧ TbR F a w' { S with tb := givenT (S.cl.getD p (0, [])).2 S.tb } H ∧ Kept F w w' ∧ w'.cell? ⟨a, 2, none⟩ = some (.slice (some ⟨g, o, none⟩) (p + 1) cc) ∧ w'.frozen? ⟨a, 2, none⟩ = false) := by
    refine Lib.hid ?_
    intro w1 hb1
    have h1 := (h.below hb1).low
    refine (h1.back ok hN p (by omega) (fun b hb => hb.2)).mono ?_
    rintro e w' ⟨rfl, hbe⟩
    have z := hbe.is
    have h3 := z.1.mono (G := F) (fun b hb => hb.1)
    refine ⟨rfl, h3, (Kept.of_below hb1).trans (z.2.mono (fun b hb => hb.1)), ?_, h3.head.frozen 2⟩
    rw [h3.cells.2.2, he, hc]
  have HE := Lib.hid he
  have HC := Lib.hid hc
  have HFA := Lib.hid h.fa
  generalize H.ls.getD p 0 = lp at r1 HBK
  clear h ok hr hrow hb he hc
  go_enter Try.func26, Try.ntmps26
  go_wp2_with (first
    | (go_at_call 55; refine HB.mono ?_; rintro e w1 ⟨rfl, hb1⟩; have q2 := farB h2 hb1; have q1 := farB r1 hb1)
    | (go_at_call 56; refine (HBK.out w1 hb1).mono ?_; rintro e w3 ⟨rfl, t1, t2, t3, t4⟩; have T1 := Lib.hid t1; have T2 := Lib.hid t2; clear t1 t2))
  go_ret
  exact ⟨rfl, ⟨_, TbR.left T1.out HE.out (by show p ≤ S.cl.length; have := HC.out; omega)⟩, T2.out.set (p := ⟨a, 2, none⟩) HFA.out _⟩
/-- Leave. -/
theorem TbR.leave {F : Nat → Prop} {a : Nat} {w : World} {S : Tb} {H : TbH} (h : TbR F a w S H) {N : Nat} (ok : TbOk N S) (hN : N ≤ 100000) :
    Calls Try.prog 26 #[.pointer (some ⟨a, 0, none⟩)] w fun e w' => e = .returned (.int .i64 (leaveS S).1) ∧ TbAt F a w' (leaveS S).2 ∧ Kept F w w' := by
  unfold leaveS
  by_cases hc : S.cl.length = 0
  · rw [if_pos hc]
    refine (h.leave_none hc).mono ?_
    rintro e w' ⟨rfl, rfl⟩
    exact ⟨rfl, ⟨H, h⟩, Kept.refl _ _⟩
  · rw [if_neg hc]
    rcases Bool.eq_false_or_eq_true (borB S.tb S.cl.length) with hb | hb
    · rw [if_pos hb]
      refine (h.leave_bor ok hc hb).mono ?_
      rintro e w' ⟨rfl, hb⟩
      exact ⟨rfl, ⟨H, h.below hb⟩, Kept.of_below hb⟩
    · rw [if_neg (by rw [hb]; simp)]
      obtain ⟨p, hp⟩ : ∃ p, S.cl.length = p + 1 := ⟨S.cl.length - 1, by omega⟩
      rw [show S.cl.length - 1 = p by omega]
      exact h.leave_ok ok hN p hp hb
end Go.Proofs.Ytglhfofofacekaa
