/- handles: New. -/
import Derived.Test.YtglhfofofacekaaHdP
import Derived.Test.YtglhfofofacekaaSh
set_option linter.unusedVariables false
set_option linter.unusedSimpArgs false
namespace Go.Proofs.Ytglhfofofacekaa
open Go.RowKit

/-- May there be such tables? -/
def newB (n : Int) (ms : List Int) : Bool := !(decide (n < 1) || (decide (4 < n) || (decide (16 < (ms.length : Int)) || ms.any (fun m => decide (m < 0) || decide (n ≤ m)))))
theorem own_base {w : World} {B : Nat} {e : TypeId} {m : Nat} {v : Value} {n : Nat} {xs : List Value} (h : w.ownsRow B e m v n xs) {B' : Nat} (hB : B' ≤ B) : w.ownsRow B' e m v n xs := by
  refine ⟨h.1, ?_⟩
  rcases h.2 with h1 | ⟨g, cap, cur, e1, h1, r⟩
  · exact .inl h1
  · exact .inr ⟨g, cap, cur, e1, by omega, r⟩
/-- What is told of a slice of numbers that is cloned. -/
structure IntsIn (w : World) (a : Option Addr) (n cap : Nat) (ms : List Int) : Prop where
  len : ms.length = n
  view : View w a n ms
theorem clone_ints {w : World} {a : Option Addr} {n cap : Nat} {ms : List Int} (h : IntsIn w a n cap ms) (h16 : n ≤ 16) :
    Calls Try.prog 20 #[.slice a n cap] w fun e w' => ∃ v, e = .returned v ∧ Ints w.heap.size v ms w' ∧ Below w.heap.size w w' := by
  have hl := h.len
  by_cases h0 : n = 0
  · subst h0
    have hms : ms = [] := List.length_eq_zero_iff.1 hl
    subst hms
    cases a with
    | none =>
      refine (Try.slices_Clone_int_nil 0 cap w).mono ?_
      rintro e w' ⟨rfl, rfl⟩
      exact ⟨_, rfl, World.ownsRow_nil _ _ _ _, Below.refl _ _⟩
    | some x =>
      refine (Try.slices_Clone_int_zero x cap w).mono ?_
      rintro e w' ⟨v, rfl, h1, _, h2⟩
      exact ⟨v, rfl, h1, h2⟩
  · obtain ⟨b, o, rfl, hc⟩ := h.view.resolve_left h0
    refine (Try.slices_Clone_int b o n cap ms w (by omega) (by omega) (fun j hj => hc j (by omega))).mono ?_
    rintro e w' ⟨v, rfl, h1, _, h2⟩
    refine ⟨v, rfl, ?_, h2⟩
    unfold Ints
    rw [List.take_of_length_le (by omega)] at h1
    rw [hl]
    exact h1
theorem info_mapv : (Try.prog.info? 56).map (fun i => (i.zero, i.size, i.bytes)) = some (some (.map none), 1, 8) := by kernel_rfl
theorem one_map (m : Nat) : ∀ u ∈ [Value.map (some m)], u.oneCell' = true := by
  intro u hu
  simp at hu
  subst hu
  rfl
theorem news_map (w : World) (m : Nat) (T : TypeId) : ∀ j u, [Value.map (some m)][j]? = some u → (w.alloc (.cells #[.map (some m)] T)).cell? ((⟨w.heap.size, 0, none⟩ : Addr).add j) = some u := by
  intro j u hj
  have hadd : (⟨w.heap.size, 0, none⟩ : Addr).add j = ⟨w.heap.size, j, none⟩ := by unfold Addr.add; split <;> simp_all
  rw [hadd, BlkAt.cell (BlkAt.new w _ T) j]
  simpa using hj
/-- Tables in the making. -/
structure NewRel (B a : Nat) (mv : Value) (ms : List Int) (w0 wr : World) (k : Nat) (tv : Value) (bs : List Nat) : Prop where
  head : BlkAt wr a #[mv, tv, .slice none 0 0] 55
  row : wr.ownsRow B 56 1 tv k (bs.map fun b => .map (some b))
  len : bs.length = k
  maps : ∀ b ∈ bs, HMap wr b [] ∧ B ≤ b
  nodup : bs.Nodup
  ints : Ints B mv ms wr
  keep : Below B w0 wr
  aB : B ≤ a
  bB : B ≤ w0.heap.size
theorem new_step {B a k g cap : Nat} {mv : Value} {ms : List Int} {w0 wr w5 : World} {ta : Option Addr} {tc : Nat} {bs : List Nat} (h : NewRel B a mv ms w0 wr k (.slice ta k tc) bs)
    (q1 : BlkAt w5 a #[mv, .slice ta k tc, .slice none 0 0] 55) (q2 : w5.ownsRow B 56 1 (.slice (some ⟨g, 0, none⟩) (k + 1) cap) (k + 1) (bs.map (fun b => .map (some b)) ++ [.map (some wr.heap.size)]))
    (q3 : ((wr.alloc (.map #[] 0)).alloc (.cells #[.map (some wr.heap.size)] 56)).grownBy w5 (Value.slice ta k tc).ownBlock)
    (q4 : BlkAt ((wr.alloc (.map #[] 0)).alloc (.cells #[.map (some wr.heap.size)] 56)) a #[mv, .slice ta k tc, .slice none 0 0] 55)
    (q5 : ((wr.alloc (.map #[] 0)).alloc (.cells #[.map (some wr.heap.size)] 56)).ownsRow B 56 1 (.slice ta k tc) k (bs.map fun b => .map (some b)))
    (hat : (Value.slice ta k tc).ownBlock = some g ∨ g = ((wr.alloc (.map #[] 0)).alloc (.cells #[.map (some wr.heap.size)] 56)).heap.size)
    (hb : Below B w0 ((wr.alloc (.map #[] 0)).alloc (.cells #[.map (some wr.heap.size)] 56))) :
    NewRel B a mv ms w0 (w5.setCell ⟨a, 1, none⟩ (.slice (some ⟨g, 0, none⟩) (k + 1) cap)) (k + 1) (.slice (some ⟨g, 0, none⟩) (k + 1) cap) (bs ++ [wr.heap.size]) := by
  generalize hW : (wr.alloc (.map #[] 0)).alloc (.cells #[.map (some wr.heap.size)] 56) = W at q3 q4 q5 hat hb
  have k1 : Kept (fun _ => False) wr W := by rw [← hW]; exact ((Kept.refl _ wr).new _).new _
  have hsz : wr.heap.size < W.heap.size := by rw [← hW]; simp; omega
  have hmade : HMap W wr.heap.size [] := by
    rw [← hW]
    exact (HMap.made wr).kept (F := fun _ => False) ((Kept.refl _ _).new _) (fun e => e)
  have K25 : Kept (fun b => some b = (Value.slice ta k tc).ownBlock) W w5 := Kept.grow q3
  have K5 : Kept (fun b => b = a) w5 (w5.setCell ⟨a, 1, none⟩ (.slice (some ⟨g, 0, none⟩) (k + 1) cap)) := (Kept.refl (fun b => b = a) w5).set (p := ⟨a, 1, none⟩) rfl _
  have mapK : ∀ b, HMap W b [] → HMap (w5.setCell ⟨a, 1, none⟩ (.slice (some ⟨g, 0, none⟩) (k + 1) cap)) b [] := fun b hm => by
    obtain ⟨es, c, hb'⟩ := hm.block
    exact (hm.kept K25 (fun e => own_ne_map q5 hb' e.symm)).kept K5 (fun e => cells_ne_map q4 hb' e.symm)
  have hsum : (bs ++ [wr.heap.size]).map (fun b => Value.map (some b)) = bs.map (fun b => .map (some b)) ++ [.map (some wr.heap.size)] := by simp
  have haB : B ≤ W.heap.size := Nat.le_trans h.bB hb.size
  refine ⟨q1.put 1 _, ?_, by simp [h.len], ?_, ?_, ?_, ?_, h.aB, h.bB⟩
  · rw [hsum]
    exact ownsRow_kept q2 K5 (fun g' hg' e => own_ne_cells q2 q1 (by decide) (by rw [hg', e]))
  · intro b hb1
    rcases List.mem_append.1 hb1 with hb1 | hb1
    · exact ⟨mapK b ((h.maps b hb1).1.kept k1 (fun e => e)), (h.maps b hb1).2⟩
    · simp at hb1
      subst hb1
      exact ⟨mapK _ hmade, Nat.le_trans h.bB h.keep.size⟩
  · refine List.nodup_append.2 ⟨h.nodup, by simp, fun b hb1 c hc e => ?_⟩
    simp at hc
    subst hc
    subst e
    have := (h.maps _ hb1).1.lt
    omega
  · refine ownsRow_kept (ownsRow_kept (ownsRow_kept h.ints k1 (fun _ _ e => e)) K25 (fun g' hg' e => ?_)) K5 (fun g' hg' e => ?_)
    · obtain ⟨c1, f1, z1⟩ := row_kind (ownsRow_kept h.ints k1 (fun _ _ e => e)) g' hg'
      obtain ⟨c2, f2, z2⟩ := row_kind q5 g' e.symm
      rw [z1] at z2
      injection z2 with z2
      injection z2 with _ z2
      exact absurd z2 (by decide)
    · exact own_ne_cells (ownsRow_kept h.ints k1 (fun _ _ e => e)) q4 (by decide) (by rw [hg', e])
  · refine (hb.grown q3 haB (fun j e => (World.ownsRow.lt q5 j e).1)).trans ?_
    have ha : B ≤ a ∨ a < B := by omega
    rcases ha with ha | ha
    · exact K5.below (Nat.le_trans haB K25.size) (fun b e => by rw [e]; exact ha)
    · exact absurd ha (by have := h.aB; omega)
theorem new_end {B a k : Nat} {mv tv : Value} {ms : List Int} {w0 wr : World} {bs : List Nat} (h : NewRel B a mv ms w0 wr k tv bs) (hk : 1 ≤ k) (ha : B ≤ a) : TbAt (B ≤ ·) a wr ⟨ms, List.replicate k [], []⟩ := by
  rcases h.row.2 with ⟨_, e0⟩ | ⟨g, cap, cur, rfl, h1, h2, h3, h4, h5, h6⟩
  · omega
  · have hlen : (List.replicate k ([] : List Hd)).length = k := by simp
    refine ⟨⟨mv, g, cap, cur, bs, .slice none 0 0, []⟩, ⟨?_, own_base h.ints (Nat.zero_le _), h2, ?_, rfl, ?_, ?_, World.ownsRow_nil _ _ _ _, ?_, ?_, ha, h1, ?_, ?_, ?_⟩⟩
    · show BlkAt wr a #[mv, .slice (some ⟨g, 0, none⟩) (List.replicate k ([] : List Hd)).length cap, .slice none 0 0] _
      rw [hlen]
      exact h.head
    · rw [h.len]; simp
    · intro i hi
      have hi' : i < k := by simpa using hi
      have : (cur.toList.take (k * 1))[i]? = (bs.map fun b => Value.map (some b))[i]? := by rw [h6]
      rw [List.getElem?_take_of_lt (by omega), List.getElem?_map] at this
      rw [← Array.getElem?_toList, this]
      have hb : i < bs.length := by rw [h.len]; exact hi'
      simp only [List.getD_eq_getElem?_getD, List.getElem?_eq_getElem hb]
      rfl
    · intro i hi
      have hi' : i < k := by simpa using hi
      have := (h.maps _ (getD_mem (l := bs) (i := i) (by rw [h.len]; exact hi'))).1
      have he : (List.replicate k ([] : List Hd)).getD i [] = [] := by
        simp [List.getD_eq_getElem?_getD, List.getElem?_replicate]
        split <;> rfl
      rw [he]
      exact this
    · intro j hj
      simp at hj
    · simpa using h.nodup
    · intro g' hg'
      exact (World.ownsRow.lt h.ints g' hg').1
    · intro g' hg'
      cases hg'
    · intro b hb
      simp at hb
      exact (h.maps b hb).2
set_option maxRecDepth 100000 in
set_option maxHeartbeats 1000000 in
theorem new_no (n : Int) (ca : Option Addr) (c m : Nat) (ms : List Int) (w : World) (h : IntsIn w ca m c ms) (hno : newB n ms = false) :
    Calls Try.prog 5 #[.int .i64 n, .slice ca m c] w fun e w' => e = .returned (.tuple #[.pointer none, .int .i64 1]) ∧ Below w.heap.size w w' := by
  have B0 : Below w.heap.size w (w.alloc (.cells #[.int .i64 n] 3)) := (Below.refl _ w).alloc (Nat.le_refl _) _
  have qi : (w.alloc (.cells #[.int .i64 n] 3)).cell? ⟨w.heap.size, 0, none⟩ = some (.int .i64 n) := (BlkAt.new w _ _).cell 0
  have HC : m ≤ 16 → Calls Try.prog 19 #[.slice ca m c, .func (.func 18) #[] #[.pointer (some ⟨w.heap.size, 0, none⟩)]] (w.alloc (.cells #[.int .i64 n] 3)) fun e w' => e = .returned (.bool (ms.any (fun m => decide (m < 0) || decide (n ≤ m)))) ∧ (w.alloc (.cells #[.int .i64 n] 3)) = w' := by
    intro h16
    have := containsNo_any ms m ca c w.heap.size n _ (by rw [h.len]; exact Nat.le_refl _) h16 (h.view.below B0) qi
    rwa [List.take_of_length_le (by rw [h.len]; exact Nat.le_refl _)] at this
  unfold newB at hno
  rw [h.len] at hno
  generalize ms.any (fun m => decide (m < 0) || decide (n ≤ m)) = q at HC hno
  have HCC := Lib.hid HC
  clear HC h
  by_cases h1 : n < 1
  · have e1 : decide (n < 1) = true := decide_eq_true h1
    clear hno h1 HCC
    go_enter Try.func5, Try.ntmps5
    go_wp2_with fail
    go_ret2
    exact ⟨rfl, B0⟩
  · have e1 : decide (n < 1) = false := decide_eq_false h1
    by_cases h2 : 4 < n
    · have e2 : decide (4 < n) = true := decide_eq_true h2
      clear hno h1 h2 HCC
      go_enter Try.func5, Try.ntmps5
      go_wp2_with fail
      go_ret2
      exact ⟨rfl, B0⟩
    · have e2 : decide (4 < n) = false := decide_eq_false h2
      by_cases h3 : 16 < m
      · have e3 : decide ((16 : Int) < (m : Int)) = true := by simp; omega
        clear hno h1 h2 h3 HCC
        go_enter Try.func5, Try.ntmps5
        go_wp2_with fail
        go_ret2
        exact ⟨rfl, B0⟩
      · have e3 : decide ((16 : Int) < (m : Int)) = false := by simp; omega
        have HQ := HCC.out (by omega)
        have hq : q = true := by
          rw [e1, e2, e3] at hno
          simpa using hno
        rw [hq] at HQ
        clear hno h1 h2 h3 HCC hq
        go_enter Try.func5, Try.ntmps5
        go_wp2_with (go_at_call 19; refine HQ.mono ?_; rintro e w1 ⟨rfl, rfl⟩)
        go_ret2
        exact ⟨rfl, B0⟩
set_option maxRecDepth 100000 in
set_option maxHeartbeats 4000000 in
theorem new_yes (n : Int) (ca : Option Addr) (c m : Nat) (ms : List Int) (w : World) (h : IntsIn w ca m c ms) (hyes : newB n ms = true) :
    Calls Try.prog 5 #[.int .i64 n, .slice ca m c] w fun e w' => ∃ a, e = .returned (.tuple #[.pointer (some ⟨a, 0, none⟩), .int .i64 0]) ∧ TbAt (w.heap.size ≤ ·) a w' ⟨ms, List.replicate n.toNat [], []⟩ ∧ Below w.heap.size w w' := by
  have B0 : Below w.heap.size w (w.alloc (.cells #[.int .i64 n] 3)) := (Below.refl _ w).alloc (Nat.le_refl _) _
  have qi : (w.alloc (.cells #[.int .i64 n] 3)).cell? ⟨w.heap.size, 0, none⟩ = some (.int .i64 n) := (BlkAt.new w _ _).cell 0
  unfold newB at hyes
  simp only [Bool.not_eq_true', Bool.or_eq_false_iff] at hyes
  obtain ⟨e1, e2, e3, hq⟩ := hyes
  rw [h.len] at e3
  have h16 : m ≤ 16 := by simp at e3; omega
  have hn1 : 1 ≤ n ∧ n ≤ 4 := by simp at e1 e2; omega
  have HC := containsNo_any ms m ca c w.heap.size n _ (by rw [h.len]; exact Nat.le_refl _) h16 (h.view.below B0) qi
  rw [List.take_of_length_le (by rw [h.len]; exact Nat.le_refl _), hq] at HC
  have HCL := clone_ints (cap := c) (⟨h.len, h.view.below B0⟩ : IntsIn (w.alloc (.cells #[.int .i64 n] 3)) ca m c ms) h16
  have HN := Lib.hid hn1
  have HB0 := Lib.hid B0
  obtain ⟨i0, hti, hz0, hz1, hz2⟩ := info_parts info_mapv
  have hmm := @run_makeMap Try.prog
  clear h hq h16 hn1 B0
  go_enter Try.func5, Try.ntmps5
  go_wp2_with (first
    | (go_at_call 19; refine HC.mono ?_; rintro e w1 ⟨rfl, rfl⟩)
    | (go_at_call 20; refine HCL.mono ?_; rintro e w2 ⟨v, rfl, hv, hb2⟩; obtain ⟨va, vc, rfl⟩ := ints_slice hv; have HV := Lib.hid hv; clear hv; have qn : (w2.alloc (.cells #[.slice va ms.length vc, .slice none 0 0, .slice none 0 0] 55)).cell? ⟨w.heap.size, 0, none⟩ = some (.int .i64 n) := far qi hb2 _))
  have R0 : Hid (NewRel w.heap.size w2.heap.size (.slice va ms.length vc) ms w (w2.alloc (.cells #[.slice va ms.length vc, .slice none 0 0, .slice none 0 0] 55)) 0 (.slice none 0 0) []) := by
    have hb0 := HB0.out.trans (hb2.mono HB0.out.size)
    refine Lib.hid ⟨BlkAt.new w2 _ _, World.ownsRow_nil _ _ _ _, rfl, by simp, List.nodup_nil, ?_, hb0.alloc hb0.size _, Nat.le_trans HB0.out.size hb2.size, Nat.le_refl _⟩
    exact (Ints.below (own_base HV.out HB0.out.size) ((Below.refl _ w2).alloc (Nat.le_refl _) _))
  have HA : Hid (w.heap.size ≤ w2.heap.size) := Lib.hid (Nat.le_trans HB0.out.size hb2.size)
  generalize (w2.alloc (.cells #[.slice va ms.length vc, .slice none 0 0, .slice none 0 0] 55)) = w3 at R0 ⊢
  generalize w2.heap.size = ab at R0 HA ⊢
  clear HC HCL HV qn hb2 qi
  go_loopw [30] (fun i wr => ∃ (k : Nat) (tv : Value) (bs : List Nat), i = .int .i64 k ∧ (k : Int) ≤ n ∧ NewRel w.heap.size ab (.slice va ms.length vc) ms w wr k tv bs) (fun i _ => (n - intOf i).toNat)
  case atStart => exact ⟨0, _, _, rfl, by have := HN.out; omega, R0.out⟩
  case round =>
    obtain ⟨k, tv, bs, rfl, hk, hR⟩ := hrel
    obtain ⟨ta, tc, rfl⟩ := len_of_own hR.row
    have HR := Lib.hid hR
    have p1 := hR.head.cell 1
    simp at p1
    by_cases hlt : (k : Int) < n
    · have hltd : decide ((k : Int) < n) = true := decide_eq_true hlt
      have kn4 : k < 4 := by have := HN.out; omega
      have B2 : Below w.heap.size w (wr.alloc (.map #[] 0)) := hR.keep.alloc hR.keep.size _
      have B3 : Below w.heap.size w ((wr.alloc (.map #[] 0)).alloc (.cells #[.map (some wr.heap.size)] 56)) := B2.alloc B2.size _
      have KK : Kept (fun _ => False) wr ((wr.alloc (.map #[] 0)).alloc (.cells #[.map (some wr.heap.size)] 56)) := ((Kept.refl _ wr).new _).new _
      have HOWN : Hid (((wr.alloc (.map #[] 0)).alloc (.cells #[.map (some wr.heap.size)] 56)).ownsRow w.heap.size 56 1 (.slice ta k tc) k (bs.map fun b => .map (some b))) := Lib.hid (ownsRow_kept hR.row KK (fun _ _ e => e))
      have HAF : Hid (BlkAt ((wr.alloc (.map #[] 0)).alloc (.cells #[.map (some wr.heap.size)] 56)) ab #[.slice va ms.length vc, .slice ta k tc, .slice none 0 0] 55) := Lib.hid (hR.head.kept KK (fun e => e))
      have NEWS : Hid (∀ j u, [Value.map (some wr.heap.size)][j]? = some u → ((wr.alloc (.map #[] 0)).alloc (.cells #[.map (some wr.heap.size)] 56)).cell? ((⟨wr.heap.size + 1, 0, none⟩ : Addr).add j) = some u) := by
        refine Lib.hid ?_
        have := news_map (wr.alloc (.map #[] 0)) wr.heap.size 56
        rw [show (wr.alloc (.map #[] 0)).heap.size = wr.heap.size + 1 by simp] at this
        exact this
      have HB3 := Lib.hid B3
      have HSB : w.heap.size ≤ ((wr.alloc (.map #[] 0)).alloc (.cells #[.map (some wr.heap.size)] 56)).heap.size := B3.size
      have HR1 : k + 1 ≤ maxLen := by unfold maxLen; omega
      have HR2 : (k + 1) * 8 ≤ 140737488355328 := by omega
      have HSS := Lib.hid HSB
      have HS1 := Lib.hid HR1
      have HS2 := Lib.hid HR2
      have HK4 := Lib.hid kn4
      have HLT := Lib.hid hlt
      clear hR B2 B3 KK HSB HR1 HR2 hlt kn4 hk
      go_wp2_with (first
        | (at_builtin; refine wpList_append_lies _ rfl _ _ 52 rfl w.heap.size 56 i0 _ 1 8 Try.underlying52 hti hz0 hz1 hz2 rfl (by decide) _ k (bs.map fun b => .map (some b)) rfl HOWN.out ⟨wr.heap.size + 1, 0, none⟩ 1 1 [.map (some wr.heap.size)] rfl rfl NEWS.out (one_map _) (by decide) HS1.out HS2.out HSS.out _ rfl ?_; intro g cap5 w5 hown5 hg5 hat5 hlt5; have q5 : BlkAt w5 ab #[.slice va ms.length vc, .slice ta k tc, .slice none 0 0] 55 := HAF.out.kept (Kept.grow hg5) (fun e => own_ne_cells HOWN.out HAF.out (by decide) e.symm); have q51 := q5.cell 1; have f51 := q5.frozen 1; simp at q51; have Q5 := Lib.hid (And.intro q5 (And.intro hown5 hg5)); clear q5 hown5 hg5))
      have hwk : wrap64 ((k : Int) + 1) = (k : Int) + 1 := by have := HK4.out; unfold wrap64; omega
      rw [hwk]
      refine ⟨⟨k + 1, _, _, by simp, by have := HLT.out; omega, new_step HR.out Q5.out.1 Q5.out.2.1 Q5.out.2.2 HAF.out HOWN.out hat5 HB3.out⟩, ?_⟩
      have := HLT.out
      simp [intOf]
      omega
    · have hke : (k : Int) = n := by omega
      subst hke
      go_wp2_with fail
      go_ret2
      refine ⟨ab, rfl, ?_, HR.out.keep⟩
      exact new_end HR.out (by have := HN.out; omega) HA.out
end Go.Proofs.Ytglhfofofacekaa
