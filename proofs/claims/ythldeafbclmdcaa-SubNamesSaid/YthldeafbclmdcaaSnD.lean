/- subtype: SubNames: another name of an argument is another type. -/
import Derived.Test.YthldeafbclmdcaaSnC
import Derived.Test.YthldeafbclmdcaaCtIn
import Derived.Deep.AppendLies
set_option linter.unusedVariables false
set_option linter.unusedSimpArgs false
namespace Go.Proofs.Ythldeafbclmdcaa
open Go.RowKit
open Ct

/-- Two functions' types whose arguments' names differ. -/
structure NmsTwo (w : World) (l m : List Nm) (a c : Option Addr) (ca cc : Nat) : Prop where
  l : NmsAt w l a ca
  m : NmsAt w m c cc
set_option maxRecDepth 100000 in
set_option maxHeartbeats 4000000 in
theorem rdSigs_no (l m : List Nm) (a c : Option Addr) (ca cc : Nat) (v0 t0 k0 n0 l0 r0 v1 t1 k1 n1 l1 r1 : Value) (w : World) (hl : NmsAt w l a ca) (hm : NmsAt w m c cc) (hf : ∀ b ∈ l, NmOk b) (hg : ∀ b ∈ m, NmOk b) (hne : (l == m) = false) :
    Calls Try.prog 9 #[.agg #[v0, .slice a l.length ca, t0, k0, n0, l0, r0], .agg #[v1, .slice c m.length cc, t1, k1, n1, l1, r1], .slice none 0 0] w fun y w' => y = .returned (.bool false) ∧ Kept (fun _ => False) w w' := by
  have HE : Hid (∀ w', Kept (fun _ => False) w w' → Calls Try.prog 21 #[.slice a l.length ca, .slice c m.length cc] w' fun y w'' => y = .returned (.bool false) ∧ Kept (fun _ => False) w' w'') := Lib.hid fun w' k => by
    have := rdEqual l m a c ca cc w' (hl.kept k) (hm.kept k) hf hg
    rw [hne] at this
    exact this
  clear hl hm hf hg hne
  go_enter Try.func9, Try.ntmps9
  go_wp2_with (first
    | (go_at_call 21; refine (HE.out _ ((((Kept.refl _ w).new _).new _).new _)).mono ?_; rintro y w1 ⟨rfl, k1⟩))
  go_ret
  exact ⟨rfl, ((((Kept.refl _ w).new _).new _).new _).trans k1⟩
set_option maxRecDepth 100000 in
set_option maxHeartbeats 4000000 in
theorem names_no (s : Sg) (ap : Option Addr) (cp : Nat) (aq : Option Addr) (cq : Nat) (an : Option Addr) (cn : Nat) (al : Option Addr) (cl : Nat) (k : Int) (w : World) (hn : s.p.length = 0 ∨ 100 < s.p.length) :
    Calls Try.prog 6 #[sgV s ap cp aq cq an cn al cl, .int .i64 k] w fun y w' => y = .returned (.bool true) ∧ Kept (fun _ => False) w w' := by
  have HAW := Lib.hid (fun w => awake14_any w)
  have k0 : Hid (Kept (fun _ => False) w (w.alloc (.cells (sgC s ap cp aq cq an cn al cl) 27))) := Lib.hid ((Kept.refl _ _).new _)
  have b0 : ((s.p.length : Int) == 0) = decide (s.p.length = 0) := by rw [Bool.eq_iff_iff]; simp
  have b1 : decide ((s.p.length : Int) > 100) = decide (100 < s.p.length) := by simp; omega
  rcases hn with hn | hn
  · rw [hn] at b0
    simp only [decide_true] at b0
    go_enter Try.func6, Try.ntmps6
    go_wp2_with (first
      | (go_at_call 11; refine (HAW.out _).mono ?_; rintro y w1 ⟨rfl, k1⟩))
    all_goals go_ret
    all_goals exact ⟨rfl, k0.out.trans k1⟩
  · rw [decide_eq_true hn] at b1
    rw [decide_eq_false (by omega)] at b0
    clear hn
    go_enter Try.func6, Try.ntmps6
    go_wp2_with (first
      | (go_at_call 11; refine (HAW.out _).mono ?_; rintro y w1 ⟨rfl, k1⟩))
    all_goals go_ret
    all_goals exact ⟨rfl, k0.out.trans k1⟩
theorem info_text : ∃ i, Try.prog.info? 9 = some i ∧ i.zero = some (.string ByteArray.empty) ∧ i.size = 1 ∧ i.bytes = 16 := by
  have h : (Try.prog.info? 9).map (fun i => (i.zero, i.size, i.bytes)) = some (some (.string ByteArray.empty), 1, 16) := by kernel_rfl
  cases hi : Try.prog.info? 9 with
  | none => rw [hi] at h; cases h
  | some i =>
    rw [hi] at h
    simp at h
    exact ⟨i, rfl, h⟩
theorem kmod (k : Int) (n : Nat) (h1 : 1 ≤ n) (h2 : n ≤ 100) : ∃ i : Nat, i < n ∧ (wrap64 (k.tmod (n : Int) + (n : Int))).tmod (n : Int) = (i : Int) := by
  have a1 := Int.tmod_lt_of_pos k (b := (n : Int)) (by omega)
  have a2 := Int.lt_tmod_of_pos k (b := (n : Int)) (by omega)
  generalize k.tmod (n : Int) = t at a1 a2
  have e : wrap64 (t + n) = t + n := by unfold wrap64; omega
  rw [e]
  have b1 := Int.tmod_lt_of_pos (t + n) (b := (n : Int)) (by omega)
  have b2 := Int.tmod_nonneg (n : Int) (a := t + n) (by omega)
  exact ⟨((t + n).tmod (n : Int)).toNat, by omega, by omega⟩
theorem strs_vals {P : Nat → Prop} {w : World} : ∀ {l : List Nm} {vs : List Value}, LiesL P w (l.map U.s) vs → vs = l.map fun b => Value.string (strOfNums b)
  | [], vs, h => by rw [h.inv_nil]; rfl
  | b :: r, vs, h => by
    obtain ⟨v, t, rfl, h1, h2⟩ := LiesL.inv h
    rw [h1.str, strs_vals h2]
    rfl
theorem nms_cells {w : World} {l : List Nm} {a : Option Addr} {cap : Nat} (h : NmsAt w l a cap) (hp : 1 ≤ l.length) : ∃ g o, a = some ⟨g, o, none⟩ ∧ g < w.heap.size ∧ CellsAt w g o (l.map fun b => Value.string (strOfNums b)) := by
  have h := h.lies
  unfold LiesU at h
  obtain ⟨a', cap', vs, hv, hc, hcm, hlen, hlv, hg⟩ := h
  obtain ⟨rfl, _, rfl⟩ : a = a' ∧ l.length = l.length ∧ cap = cap' := by simpa using hv
  rcases hg with hg | ⟨g, o, rfl, _, hgl, hcl⟩
  · omega
  · exact ⟨g, o, rfl, hgl, by rw [← strs_vals hlv]; exact hcl⟩
theorem cells_nms {w : World} {l : List Nm} {g o cap : Nat} (hg : g < w.heap.size) (hc : l.length ≤ cap) (hm : cap ≤ 9223372036854775807) (h : CellsAt w g o (l.map fun b => Value.string (strOfNums b))) : NmsAt w l (some ⟨g, o, none⟩) cap := by
  refine ⟨?_⟩
  unfold LiesU
  refine ⟨_, cap, l.map fun b => Value.string (strOfNums b), rfl, hc, hm, by simp, ?_, .inr ⟨g, o, rfl, trivial, hg, h⟩⟩
  clear h hc
  induction l with
  | nil => exact .nil
  | cons b r ih => exact .cons (liesU_s _) ih
/-- A copy with one text longer. -/
theorem set_ne {l : List Nm} {i : Nat} {x : Nm} (h : l[i]? = some x) : (l == l.set i (x ++ [120])) = false := by
  rw [Bool.eq_false_iff]
  intro e
  rw [beq_iff_eq] at e
  have h2 := congrArg (·[i]?) e
  simp only [List.getElem?_set_self (List.getElem?_eq_some_iff.1 h).1, h, Option.some.injEq] at h2
  have := congrArg List.length h2
  rw [List.length_append] at this
  simp at this
theorem set_ne' {l : List Nm} {i : Nat} {x : Nm} (h : l[i]? = some x) : (l.set i (x ++ [120]) == l) = false := by
  have := set_ne h
  rw [Bool.eq_false_iff] at this ⊢
  intro e
  rw [beq_iff_eq] at e
  exact this (beq_iff_eq.2 e.symm)
abbrev sgC2 (s : Sg) (g3 cap3 : Nat) (aq : Option Addr) (cq : Nat) (an : Option Addr) (cn : Nat) (al : Option Addr) (cl : Nat) : Array Value := #[.string (strOfNums s.name), .slice (some ⟨g3, 0, none⟩) s.p.length cap3, .slice aq s.t.length cq, .int .i64 s.r.kind, .slice an s.r.names.length cn, .slice al s.r.l.length cl, .int .i64 s.r.r]
/-- The copy stands beside what there was. -/
structure Cpy (w w4 : World) (l : List Nm) (g o cp g3 cap3 : Nat) (sc tc : Array Value) (cur : Array Value) : Prop where
  kept : Kept (fun _ => False) w w4
  s : BlkAt w4 w.heap.size sc 27
  t : BlkAt w4 (w.heap.size + 1) tc 27
  row : BlkAt w4 g3 cur 9
  size : l.length ≤ cap3 ∧ cap3 ≤ 9223372036854775807 ∧ cur.size = cap3
  takes : cur.toList.take l.length = l.map fun b => Value.string (strOfNums b)
  new : w.heap.size + 1 < g3
  old : NmsAt w4 l (some ⟨g, o, none⟩) cp
theorem Cpy.mk' {w w0 w3 : World} {s : Sg} {g o cp g3 cap3 : Nat} {aq : Option Addr} {cq : Nat} {an : Option Addr} {cn : Nat} {al : Option Addr} {cl : Nat} (k0 : Kept (fun _ => False) w w0) (hz : w0.heap.size = w.heap.size + 1) (hS : BlkAt w0 w.heap.size (sgC s (some ⟨g, o, none⟩) cp aq cq an cn al cl) 27)
    (hn : NmsAt w0 s.p (some ⟨g, o, none⟩) cp)
    (hB : BlkAt w3 (w.heap.size + 1) #[.string (strOfNums s.name), .slice none 0 0, .slice aq s.t.length cq, .int .i64 s.r.kind, .slice an s.r.names.length cn, .slice al s.r.l.length cl, .int .i64 s.r.r] 27)
    (hown : w3.ownsRow w0.heap.size 9 1 (.slice (some ⟨g3, 0, none⟩) (0 + s.p.length) cap3) (0 + s.p.length) ([] ++ s.p.map fun b => Value.string (strOfNums b)))
    (hg : (w0.alloc (.cells #[.string (strOfNums s.name), .slice none 0 0, .slice aq s.t.length cq, .int .i64 s.r.kind, .slice an s.r.names.length cn, .slice al s.r.l.length cl, .int .i64 s.r.r] 27)).grownBy w3 (Value.slice none 0 0).ownBlock)
    (hat : (Value.slice none 0 0).ownBlock = some g3 ∨ g3 = (w0.alloc (.cells #[.string (strOfNums s.name), .slice none 0 0, .slice aq s.t.length cq, .int .i64 s.r.kind, .slice an s.r.names.length cn, .slice al s.r.l.length cl, .int .i64 s.r.r] 27)).heap.size) :
    ∃ cur, Cpy w (w3.setCell ⟨w.heap.size + 1, 1, none⟩ (.slice (some ⟨g3, 0, none⟩) s.p.length cap3)) s.p g o cp g3 cap3 (sgC s (some ⟨g, o, none⟩) cp aq cq an cn al cl) (sgC2 s g3 cap3 aq cq an cn al cl) cur := by
  have hg3 : g3 = w.heap.size + 2 := by
    rcases hat with h | h
    · cases h
    · rw [h, World.size_alloc, hz]
  rw [Nat.zero_add, List.nil_append] at hown
  rcases hown with ⟨_, ⟨e, _⟩ | ⟨g', cap', cur, e, hgb, hgg, h1, h2, h3, h4⟩⟩
  · cases e
  · cases e
    have kW : Kept (fun k => k = w.heap.size + 1) w0 (w3.setCell ⟨w.heap.size + 1, 1, none⟩ (.slice (some ⟨g3, 0, none⟩) s.p.length cap3)) := by
      have k1 : Kept (fun k => k = w.heap.size + 1) w0 w3 := ((Kept.refl _ _).new _).grown hg fun k _ e => by cases e
      exact k1.set rfl _
    have hk2 : Kept (fun _ => False) w0 (w3.setCell ⟨w.heap.size + 1, 1, none⟩ (.slice (some ⟨g3, 0, none⟩) s.p.length cap3)) := kW.clear fun i hi e => by omega
    refine ⟨cur, k0.trans hk2, hS.kept hk2 id, ?_, ?_, ⟨h1, by unfold maxLen at h2; omega, by omega⟩, ?_, by omega, hn.kept hk2⟩
    · have := hB.put 1 (.slice (some ⟨g3, 0, none⟩) s.p.length cap3)
      exact this
    · exact BlkAt.other hgg (by omega) 1 _
    · rw [Nat.mul_one] at h4
      exact h4
/-- The copy, with one text longer. -/
structure Cpy2 (w w5 : World) (l m : List Nm) (g o cp g3 cap3 : Nat) (sc tc : Array Value) : Prop where
  kept : Kept (fun _ => False) w w5
  s : BlkAt w5 w.heap.size sc 27
  t : BlkAt w5 (w.heap.size + 1) tc 27
  old : NmsAt w5 l (some ⟨g, o, none⟩) cp
  new : NmsAt w5 m (some ⟨g3, 0, none⟩) cap3
theorem Cpy.turn {w w4 : World} {l : List Nm} {g o cp g3 cap3 i : Nat} {x : Nm} {sc tc cur : Array Value} (h : Cpy w w4 l g o cp g3 cap3 sc tc cur) (hn : NmsAt w l (some ⟨g, o, none⟩) cp) (hx : l[i]? = some x) :
    Cpy2 w (w4.setCell ⟨g3, i, none⟩ (.string (strOfNums x ++ { data := #[120] }))).drew l (l.set i (x ++ [120])) g o cp g3 cap3 sc tc := by
  have k : Kept (fun k => k = g3) w4 (w4.setCell ⟨g3, i, none⟩ (.string (strOfNums x ++ { data := #[120] }))).drew := ((Kept.refl (fun k => k = g3) w4).set (p := ⟨g3, i, none⟩) rfl _).drew
  have h4 := h.new
  have kw : Kept (fun _ => False) w (w4.setCell ⟨g3, i, none⟩ (.string (strOfNums x ++ { data := #[120] }))).drew := h.kept.then k fun j hj e => by omega
  have hr : BlkAt (w4.setCell ⟨g3, i, none⟩ (.string (strOfNums x ++ { data := #[120] }))).drew g3 (cur.setIfInBounds i (.string (strOfNums x ++ { data := #[120] }))) 9 := h.row.put i _
  refine ⟨kw, h.s.kept k (by omega), h.t.kept k (by omega), hn.kept kw, cells_nms hr.lt (by rw [List.length_set]; exact h.size.1) h.size.2.1 fun j v hj => ?_⟩
  rw [Nat.zero_add, hr.cell j]
  have hi := (List.getElem?_eq_some_iff.1 hx).1
  have e : (l.set i (x ++ [120])).map (fun b => Value.string (strOfNums b)) = (l.map fun b => Value.string (strOfNums b)).set i (.string (strOfNums x ++ { data := #[120] })) := by
    rw [List.map_set, ← strOfNums_app]
    rfl
  rw [e, ← h.takes] at hj
  have hjl : j < l.length := by
    have := (List.getElem?_eq_some_iff.1 hj).1
    rw [List.length_set, List.length_take] at this
    omega
  have hcur := h.size
  have hcl : cur.toList.length = cur.size := Array.length_toList
  rw [← Array.getElem?_toList, Array.toList_setIfInBounds]
  by_cases hij : i = j
  · subst hij
    rw [List.getElem?_set_self (by rw [List.length_take]; omega)] at hj
    rw [List.getElem?_set_self (by omega)]
    exact hj
  · rw [List.getElem?_set_ne hij] at hj ⊢
    rw [List.getElem?_take_of_lt hjl] at hj
    exact hj
theorem longer_ok {l : List Nm} (hf : ∀ b ∈ l, NmOk b) (hs : ∀ b ∈ l, b.length ≤ 140737488351232) {i : Nat} {x : Nm} (hx : l[i]? = some x) : ∀ b ∈ l.set i (x ++ [120]), NmOk b := by
  intro b hb
  have hm := List.mem_of_getElem? hx
  rcases List.mem_or_eq_of_mem_set hb with h | rfl
  · exact hf b h
  · refine ⟨fun z hz => ?_, ?_⟩
    · rcases List.mem_append.1 hz with h | h
      · exact (hf x hm).1 z h
      · rw [List.mem_singleton.1 h]; decide
    · have := hs x hm
      rw [List.length_append]
      unfold maxLen
      simp
      omega
set_option maxRecDepth 100000 in
set_option maxHeartbeats 4000000 in
theorem names_go (s : Sg) (ap : Option Addr) (cp : Nat) (aq : Option Addr) (cq : Nat) (an : Option Addr) (cn : Nat) (al : Option Addr) (cl : Nat) (k : Int) (w : World) (h : NmsAt w s.p ap cp) (hf : ∀ b ∈ s.p, NmOk b) (h1 : 1 ≤ s.p.length) (h2 : s.p.length ≤ 100) (hsz2 : ∀ b ∈ s.p, b.length ≤ 140737488351232) :
    Calls Try.prog 6 #[sgV s ap cp aq cq an cn al cl, .int .i64 k] w fun y w' => y = .returned (.bool true) ∧ Kept (fun _ => False) w w' := by
  have HAW := Lib.hid (fun w => awake14_any w)
  have k0 : Kept (fun _ => False) w (w.alloc (.cells (sgC s ap cp aq cq an cn al cl) 27)).drew := ((Kept.refl _ _).new _).drew
  have hS : BlkAt (w.alloc (.cells (sgC s ap cp aq cq an cn al cl) 27)).drew w.heap.size (sgC s ap cp aq cq an cn al cl) 27 := BlkAt.new w _ _
  have b0 : ((s.p.length : Int) == 0) = false := by rw [beq_eq_false_iff_ne]; omega
  have b1 : decide ((s.p.length : Int) > 100) = false := decide_eq_false (by omega)
  obtain ⟨i, hi, he⟩ := kmod k s.p.length h1 h2
  go_enter Try.func6, Try.ntmps6
  go_wp2_with fail
  go_region
  try simp only [he]
  have HK0 := Lib.hid k0
  have HS0 := Lib.hid hS
  have hz0 : (w.alloc (.cells (sgC s ap cp aq cq an cn al cl) 27)).drew.heap.size = w.heap.size + 1 := by simp
  revert hz0 HK0 HS0
  generalize (w.alloc (.cells (sgC s ap cp aq cq an cn al cl) 27)).drew = w0
  intro HK0 HS0 hz0
  clear k0 hS he b0 b1
  obtain ⟨e0, e1, e2, e3, e4, e5⟩ := boxS_cells HS0.out
  have e9 := HS0.out.cell 0
  simp at e9
  obtain ⟨i0, hi1, hi2, hi3, hi4⟩ := info_text
  obtain ⟨g, o, rfl, hg, hcs⟩ := nms_cells (h.kept HK0.out) h1
  obtain ⟨x, hx⟩ : ∃ x, s.p[i]? = some x := ⟨_, List.getElem?_eq_getElem hi⟩
  have kA : Kept (fun _ => False) w0 (w0.alloc (.cells #[.string (strOfNums s.name), .slice none 0 0, .slice aq s.t.length cq, .int .i64 s.r.kind, .slice an s.r.names.length cn, .slice al s.r.l.length cl, .int .i64 s.r.r] 27)) := (Kept.refl _ _).new _
  have hA := BlkAt.new w0 #[.string (strOfNums s.name), .slice none 0 0, .slice aq s.t.length cq, .int .i64 s.r.kind, .slice an s.r.names.length cn, .slice al s.r.l.length cl, .int .i64 s.r.r] 27
  rw [hz0] at hA
  have hc2 : Hid (∀ j u, (s.p.map fun b => Value.string (strOfNums b))[j]? = some u → (w0.alloc (.cells #[.string (strOfNums s.name), .slice none 0 0, .slice aq s.t.length cq, .int .i64 s.r.kind, .slice an s.r.names.length cn, .slice al s.r.l.length cl, .int .i64 s.r.r] 27)).cell? ((⟨g, o, none⟩ : Addr).add j) = some u) := Lib.hid fun j u hj => by
    rw [Addr.add_lit]
    exact (cell_of (kA.block g hg id)).trans (hcs j u hj)
  have h1c : ∀ u ∈ (s.p.map fun b => Value.string (strOfNums b)), u.oneCell' = true := fun u hu => by obtain ⟨b, _, rfl⟩ := List.mem_map.1 hu; rfl
  have q3 : 0 + s.p.length ≤ maxLen := by unfold maxLen; omega
  have q4 : (0 + s.p.length) * 16 ≤ 140737488355328 := by omega
  have hsz := kA.size
  have hl1 : (s.p.map fun b => Value.string (strOfNums b)).length = s.p.length * 1 := by simp
  have HA := Lib.hid hA
  have HKA := Lib.hid kA
  have hown : World.ownsRow (w0.alloc (.cells #[.string (strOfNums s.name), .slice none 0 0, .slice aq s.t.length cq, .int .i64 s.r.kind, .slice an s.r.names.length cn, .slice al s.r.l.length cl, .int .i64 s.r.r] 27)) w0.heap.size 9 1 (.slice none 0 0) 0 [] := World.ownsRow_nil _ _ _ _
  clear kA hA hcs
  go_wp2_with (first
    | (at_builtin
       refine wpList_append_lies _ rfl _ _ 22 rfl w0.heap.size 9 i0 (.string ByteArray.empty) 1 16 Try.underlying22 hi1 hi2 hi3 hi4 rfl (by decide) _ 0 [] rfl hown ⟨g, o, none⟩ s.p.length cp (s.p.map fun b => Value.string (strOfNums b)) rfl hl1 hc2.out h1c h1 q3 q4 hsz _ rfl ?_
       intro g3 cap3 w3 hown3 hg3 hat hgl
       have hB := HA.out.kept (Kept.grow hg3) (fun e => by cases e)
       have f1 := hB.cell 1
       have f2 := hB.frozen 1
       simp at f1
       have HG := Lib.hid (And.intro hown3 (And.intro hg3 hat))
       have HB := Lib.hid hB
       clear hown3 hg3 hat hgl hown hsz hB))
  obtain ⟨cur, hcp⟩ := Cpy.mk' HK0.out hz0 HS0.out (h.kept HK0.out) HB.out HG.out.1 HG.out.2.1 HG.out.2.2
  have HC := Lib.hid hcp
  clear hcp
  revert HC
  generalize w3.setCell ⟨w.heap.size + 1, 1, none⟩ (.slice (some ⟨g3, 0, none⟩) s.p.length cap3) = w4
  intro HC
  have hri : w4.cell? ⟨g3, i, none⟩ = some (.string (strOfNums x)) := by
    rw [HC.out.row.cell i, ← Array.getElem?_toList, ← List.getElem?_take_of_lt hi, HC.out.takes, List.getElem?_map, hx]
    rfl
  have hfz := HC.out.row.frozen i
  obtain ⟨d0, d1, d2, d3, d4, d5⟩ := boxS_cells HC.out.s
  have d9 := HC.out.s.cell 0
  have t0 := HC.out.t.cell 0
  have t1 := HC.out.t.cell 1
  have t2 := HC.out.t.cell 2
  have t3 := HC.out.t.cell 3
  have t4 := HC.out.t.cell 4
  have t5 := HC.out.t.cell 5
  have t6 := HC.out.t.cell 6
  simp at d9 t0 t1 t2 t3 t4 t5 t6
  have hxs := hsz2 x (List.mem_of_getElem? hx)
  have hxz : (strOfNums x).size ≤ 140737488351232 := by rw [← bl_length, bl_str x fun z hz => by have := (hf x (List.mem_of_getElem? hx)).1 z hz; omega]; exact hxs
  have H1 := Lib.hid h
  have HX := Lib.hid hx
  clear HA HKA HG HB hc2 h1c q3 q4 hl1 hi1 hi2 hi3 hi4 e0 e1 e2 e3 e4 e5 e9 h hx hg HS0 HK0 hxs
  go_wp2_with fail
  go_region
  have HC2 := Lib.hid (HC.out.turn H1.out HX.out)
  revert HC2
  generalize (w4.setCell { block := g3, off := i } (Value.string (strOfNums x ++ { data := #[120] }))).drew = w5
  intro HC2
  clear hri hfz d0 d1 d2 d3 d4 d5 d9 t0 t1 t2 t3 t4 t5 t6 HC hxz f1 f2
  obtain ⟨d0, d1, d2, d3, d4, d5⟩ := boxS_cells HC2.out.s
  have d9 := HC2.out.s.cell 0
  simp at d9
  have hok := longer_ok hf hsz2 HX.out
  have HS1 : Hid (∀ w', Kept (fun _ => False) w5 w' → ∀ v0 t0 k0 n0 l0 r0 v1 t1 k1 n1 l1 r1 : Value, Calls Try.prog 9 #[.agg #[v0, .slice (some ⟨g, o, none⟩) s.p.length cp, t0, k0, n0, l0, r0], .agg #[v1, .slice (some ⟨g3, 0, none⟩) s.p.length cap3, t1, k1, n1, l1, r1], .slice none 0 0] w' fun y w'' => y = .returned (.bool false) ∧ Kept (fun _ => False) w' w'') := Lib.hid fun w' k v0 t0 k0 n0 l0 r0 v1 t1 k1 n1 l1 r1 => by
    have := rdSigs_no s.p (s.p.set i (x ++ [120])) (some ⟨g, o, none⟩) (some ⟨g3, 0, none⟩) cp cap3 v0 t0 k0 n0 l0 r0 v1 t1 k1 n1 l1 r1 w' (HC2.out.old.kept k) (HC2.out.new.kept k) hf hok (set_ne HX.out)
    rw [List.length_set] at this
    exact this
  have HS2 : Hid (∀ w', Kept (fun _ => False) w5 w' → ∀ v0 t0 k0 n0 l0 r0 v1 t1 k1 n1 l1 r1 : Value, Calls Try.prog 9 #[.agg #[v1, .slice (some ⟨g3, 0, none⟩) s.p.length cap3, t1, k1, n1, l1, r1], .agg #[v0, .slice (some ⟨g, o, none⟩) s.p.length cp, t0, k0, n0, l0, r0], .slice none 0 0] w' fun y w'' => y = .returned (.bool false) ∧ Kept (fun _ => False) w' w'') := Lib.hid fun w' k v0 t0 k0 n0 l0 r0 v1 t1 k1 n1 l1 r1 => by
    have := rdSigs_no (s.p.set i (x ++ [120])) s.p (some ⟨g3, 0, none⟩) (some ⟨g, o, none⟩) cap3 cp v1 t1 k1 n1 l1 r1 v0 t0 k0 n0 l0 r0 w' (HC2.out.new.kept k) (HC2.out.old.kept k) hok hf (set_ne' HX.out)
    rw [List.length_set] at this
    exact this
  have HN : Hid (∀ w', Kept (fun _ => False) w5 w' → Calls Try.prog 18 #[.slice (some ⟨g, o, none⟩) s.p.length cp, .slice (some ⟨g3, 0, none⟩) s.p.length cap3] w' fun y w'' => y = .returned (.bool false) ∧ Kept (fun _ => False) w' w'') := Lib.hid fun w' k => by
    have := rdSameNames s.p (s.p.set i (x ++ [120])) (some ⟨g, o, none⟩) (some ⟨g3, 0, none⟩) cp cap3 w' (HC2.out.old.kept k) (HC2.out.new.kept k) hf hok
    rw [set_ne HX.out, List.length_set] at this
    exact this
  have HW : Hid (∀ w', Kept (fun _ => False) w5 w' → BlkAt w' w.heap.size (sgC s (some ⟨g, o, none⟩) cp aq cq an cn al cl) 27 ∧ BlkAt w' (w.heap.size + 1) (sgC2 s g3 cap3 aq cq an cn al cl) 27) := Lib.hid fun w' k => ⟨HC2.out.s.kept k id, HC2.out.t.kept k id⟩
  have hT := HC2.out.t
  have t0 := hT.cell 0
  have t1 := hT.cell 1
  have t2 := hT.cell 2
  have t3 := hT.cell 3
  have t4 := hT.cell 4
  have t5 := hT.cell 5
  have t6 := hT.cell 6
  simp at t0 t1 t2 t3 t4 t5 t6
  clear hT hok hf hsz2
  go_wp2_with (first
    | (go_at_call 11; have _h := HK8; refine (HAW.out _).mono ?_; rintro y w9 ⟨rfl, k9⟩)
    | (go_at_call 18; have _h := HK7; refine (HN.out _ HK7.out).mono ?_; rintro y w8 ⟨rfl, k8⟩; have HK8 := Lib.hid (HK7.out.trans k8); clear k8)
    | (go_at_call 9; have _h := HK6; refine (HS2.out _ HK6.out _ _ _ _ _ _ _ _ _ _ _ _).mono ?_; rintro y w7 ⟨rfl, k7⟩; have HK7 := Lib.hid (HK6.out.trans k7); have hB := (HW.out _ HK7.out).1; have u1 := hB.cell 1; have hB2 := (HW.out _ HK7.out).2; have u2 := hB2.cell 1; simp at u1 u2; clear k7 hB hB2)
    | (go_at_call 9; refine (HS1.out _ (Kept.refl _ _) _ _ _ _ _ _ _ _ _ _ _ _).mono ?_; rintro y w6 ⟨rfl, k6⟩; have HK6 := Lib.hid k6; obtain ⟨d0, d1, d2, d3, d4, d5⟩ := boxS_cells (HW.out _ k6).1; have hB := (HW.out _ k6).1; have d9 := hB.cell 0; have hB2 := (HW.out _ k6).2; have t0 := hB2.cell 0; have t1 := hB2.cell 1; have t2 := hB2.cell 2; have t3 := hB2.cell 3; have t4 := hB2.cell 4; have t5 := hB2.cell 5; have t6 := hB2.cell 6; simp at d9 t0 t1 t2 t3 t4 t5 t6; clear k6 hB hB2))
  go_ret
  exact ⟨rfl, HC2.out.kept.trans (HK8.out.trans k9)⟩
end Go.Proofs.Ythldeafbclmdcaa
