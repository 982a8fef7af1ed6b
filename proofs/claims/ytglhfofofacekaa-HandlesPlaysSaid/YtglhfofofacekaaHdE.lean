/- handles: a handle put at the least index that is free. -/
import Derived.Test.YtglhfofofacekaaHdD
set_option linter.unusedVariables false
set_option linter.unusedSimpArgs false
namespace Go.Proofs.Ytglhfofofacekaa
open Go.RowKit

/-- The least index from k on that no handle has. -/
def freeIn : Int → List Hd → Int
  | k, [] => k
  | k, y :: r => if y.h = k then freeIn (k + 1) r else k
abbrev freeT (T : List Hd) : Int := freeIn 1 T
theorem freeIn_le : ∀ (T : List Hd) (k : Int), k ≤ freeIn k T ∧ freeIn k T ≤ k + T.length
  | [], k => by simp [freeIn]
  | y :: r, k => by
    have := freeIn_le r (k + 1)
    unfold freeIn
    simp only [List.length_cons]
    split
    · omega
    · omega
theorem freeIn_spec : ∀ (T : List Hd) (k : Int), Rise T → (∀ y ∈ T, k ≤ y.h) → at? T (freeIn k T) = none ∧ ∀ j, k ≤ j → j < freeIn k T → ∃ x, at? T j = some x
  | [], k, _, _ => by
    refine ⟨rfl, fun j h1 h2 => ?_⟩
    simp [freeIn] at h2
    omega
  | y :: r, k, h, hk => by
    obtain ⟨h1, h2⟩ := List.pairwise_cons.1 h
    unfold freeIn
    split
    · rename_i e
      obtain ⟨i1, i2⟩ := freeIn_spec r (k + 1) h2 (fun z hz => by have := h1 z hz; omega)
      have hle := (freeIn_le r (k + 1)).1
      constructor
      · unfold at? at i1 ⊢
        rw [List.find?_cons, show decide (y.h = freeIn (k + 1) r) = false by simp; omega]
        exact i1
      · intro j hj1 hj2
        by_cases hj : j = y.h
        · exact ⟨y, by unfold at?; rw [List.find?_cons]; simp [hj]⟩
        · obtain ⟨x, hx⟩ := i2 j (by omega) hj2
          refine ⟨x, ?_⟩
          unfold at? at hx ⊢
          rw [List.find?_cons, show decide (y.h = j) = false by simp; omega]
          exact hx
    · rename_i e
      have hky := hk y (by simp)
      refine ⟨?_, fun j hj1 hj2 => by omega⟩
      apply List.find?_eq_none.2
      intro z hz
      rcases List.mem_cons.1 hz with rfl | hz
      · simp; omega
      · have := h1 z hz
        simp; omega

set_option maxRecDepth 100000 in
set_option maxHeartbeats 4000000 in
theorem add_full (a tg n cap b : Nat) (T : List Hd) (k : Nat) (x : Hd) (w : World) (hk : k < n) (hT : T.length = 256) (h1 : w.cell? ⟨a, 1, none⟩ = some (.slice (some ⟨tg, 0, none⟩) n cap)) (h2 : w.cell? ⟨tg, k, none⟩ = some (.map (some b))) (hm : HMap w b T) :
    Calls Try.prog 54 #[.pointer (some ⟨a, 0, none⟩), .int .i64 (k : Int), x.v] w fun e w' => e = .returned (.tuple #[.int .i64 0, .int .i64 5]) ∧ Below w.heap.size w w' := by
  obtain ⟨xh, xr, xrep, xown, xlends, xcall⟩ := x
  have la := World.block_lt_of_cell? w _ h1
  have lt := World.block_lt_of_cell? w _ h2
  have hl := fun ty => ((hm.kept (F := fun _ => False) (((Kept.refl _ w).new (.cells #[.int .i64 xh, .int .i64 xr, .int .i64 xrep, .bool xown, .int .i64 xlends, .int .i64 xcall] 68))) (by simp))).len ty
  rw [hT] at hl
  have c1 : (w.alloc (.cells #[.int .i64 xh, .int .i64 xr, .int .i64 xrep, .bool xown, .int .i64 xlends, .int .i64 xcall] 68)).cell? ⟨a, 1, none⟩ = some (.slice (some ⟨tg, 0, none⟩) n cap) := (((Below.refl w.heap.size w).alloc (Nat.le_refl _) _).cell (p := ⟨a, 1, none⟩) la).trans h1
  have c2 : (w.alloc (.cells #[.int .i64 xh, .int .i64 xr, .int .i64 xrep, .bool xown, .int .i64 xlends, .int .i64 xcall] 68)).cell? ⟨tg, k, none⟩ = some (.map (some b)) := (((Below.refl w.heap.size w).alloc (Nat.le_refl _) _).cell (p := ⟨tg, k, none⟩) lt).trans h2
  clear hm la lt h1 h2 hT
  go_enter Try.func54, Try.ntmps54
  go_wp2_with fail
  go_ret2
  exact ⟨rfl, (Below.refl w.heap.size w).alloc (Nat.le_refl _) _⟩

def leftF (f : Int) (b : Nat) (w : World) : Nat := match w.cell? ⟨b, 0, none⟩ with | some (.int _ j) => (f - j).toNat | _ => 0
theorem leftF_eq (f j : Int) (w : World) (cs : List Value) (T : TypeId) : leftF f w.heap.size (w.alloc (.cells (Value.int .i64 j :: cs).toArray T)) = (f - j).toNat := by
  unfold leftF
  rw [show (w.alloc (.cells (Value.int .i64 j :: cs).toArray T)).cell? ⟨w.heap.size, 0, none⟩ = some (.int .i64 j) from by rw [BlkAt.cell (BlkAt.new w _ T) 0]; rfl]
set_option maxRecDepth 100000 in
set_option maxHeartbeats 4000000 in
theorem add_ok (a tg n cap b : Nat) (T : List Hd) (k : Nat) (x : Hd) (w : World) (hk : k < n) (hT : T.length < 256) (hr : Rise T) (hone : ∀ y ∈ T, 1 ≤ y.h) (h1 : w.cell? ⟨a, 1, none⟩ = some (.slice (some ⟨tg, 0, none⟩) n cap)) (h2 : w.cell? ⟨tg, k, none⟩ = some (.map (some b))) (hm : HMap w b T) :
    Calls Try.prog 54 #[.pointer (some ⟨a, 0, none⟩), .int .i64 (k : Int), x.v] w fun e w' => e = .returned (.tuple #[.int .i64 (freeT T), .int .i64 0]) ∧ ∃ w1, Below w.heap.size w w1 ∧ w1.mapTurned w' b ∧ HMap w' b (putT { x with h := freeT T } T) := by
  obtain ⟨xh, xr, xrep, xown, xlends, xcall⟩ := x
  have la := World.block_lt_of_cell? w _ h1
  have lt := World.block_lt_of_cell? w _ h2
  have lb := hm.lt
  have HM := fun (o : Obj) => hm.kept (F := fun _ => False) ((Kept.refl _ w).new o) (by simp)
  have HC := fun (o : Obj) => (((Below.refl w.heap.size w).alloc (Nat.le_refl _) o).cell (p := ⟨a, 1, none⟩) la).trans h1
  have HD := fun (o : Obj) => (((Below.refl w.heap.size w).alloc (Nat.le_refl _) o).cell (p := ⟨tg, k, none⟩) lt).trans h2
  have hl := fun ty => (HM (.cells #[.int .i64 xh, .int .i64 xr, .int .i64 xrep, .bool xown, .int .i64 xlends, .int .i64 xcall] 68)).len ty
  have hge : decide ((256 : Int) ≤ T.length) = false := by simp; omega
  have c1 := HC (.cells #[.int .i64 xh, .int .i64 xr, .int .i64 xrep, .bool xown, .int .i64 xlends, .int .i64 xcall] 68)
  have c2 := HD (.cells #[.int .i64 xh, .int .i64 xr, .int .i64 xrep, .bool xown, .int .i64 xlends, .int .i64 xcall] 68)
  have hfree := freeIn_spec T 1 hr hone
  have hfle : 1 ≤ freeT T ∧ freeT T ≤ 1 + T.length := freeIn_le T 1
  have HX := Lib.hid hfree
  have HL := Lib.hid hfle
  have HMH := Lib.hid HM
  have HTL := Lib.hid hT
  clear HM hm la lt h1 h2 HC HD hfree hfle hT
  go_enter Try.func54, Try.ntmps54
  go_wp2_with fail
  go_loopw [] (fun wr => ∃ j : Int, 1 ≤ j ∧ j ≤ freeT T ∧ wr = w.alloc (.cells #[.int .i64 j, .int .i64 xr, .int .i64 xrep, .bool xown, .int .i64 xlends, .int .i64 xcall] 68)) (fun wr => leftF (freeT T) w.heap.size wr)
  case atStart => exact ⟨1, by omega, (HL.out).1, rfl⟩
  case round =>
    obtain ⟨j, hj1, hj2, rfl⟩ := hrel
    have hjw : wf64 j := WalkArith.wf_i64 (by have := HL.out; have := HTL.out; omega)
    have hlk := (HMH.out (.cells #[.int .i64 j, .int .i64 xr, .int .i64 xrep, .bool xown, .int .i64 xlends, .int .i64 xcall] 68)).look1 hjw
    by_cases hlt : j < freeT T
    · obtain ⟨⟨yh, yr, yrep, yown, ylends, ycall⟩, hy⟩ := HX.out.2 j hj1 hlt
      have hyj : yh = j := (at?_mem hy).2
      rw [hy] at hlk
      simp only [Option.getD_some] at hlk
      subst hyj
      have hne : (yh != (0 : Int)) = true := by simp; omega
      have hwr : wrap64 (yh + 1) = yh + 1 := by unfold wrap64; have := HL.out; have := HTL.out; omega
      have hf : ∀ w, (Instr.field 68 (⟨yh, yr, yrep, yown, ylends, ycall⟩ : Hd).v 0).run Try.prog w = .ok (.int .i64 yh) w := fun w => by kernel_rfl
      go_wp2_with fail
      refine ⟨⟨yh + 1, by omega, by omega, rfl⟩, ?_⟩
      rw [leftF_eq (freeT T) (yh + 1) w [.int .i64 xr, .int .i64 xrep, .bool xown, .int .i64 xlends, .int .i64 xcall], leftF_eq (freeT T) yh w [.int .i64 xr, .int .i64 xrep, .bool xown, .int .i64 xlends, .int .i64 xcall]]
      omega
    · have hje : j = freeT T := by omega
      rw [hje] at hlk hjw ⊢
      rw [HX.out.1] at hlk
      simp only [Option.getD_none] at hlk
      have hf : ∀ w, (Instr.field 68 Hd.zero.v 0).run Try.prog w = .ok (.int .i64 0) w := fun w => by kernel_rfl
      obtain ⟨w5, hu1, hu2, hu3⟩ := (HMH.out (.cells #[.int .i64 (freeT T), .int .i64 xr, .int .i64 xrep, .bool xown, .int .i64 xlends, .int .i64 xcall] 68)).put hr (by have := HTL.out; omega) ⟨freeT T, xr, xrep, xown, xlends, xcall⟩ hjw
      have hc5 : w5.cell? ⟨w.heap.size, 0, none⟩ = some (.int .i64 (freeT T)) := by
        rw [(BlkAt.new w _ _).kept (Kept.turned hu3) (by omega) |>.cell 0]
        rfl
      clear hj1 hj2 hlt hje hjw
      generalize hfr : freeT T = fr at hlk hf hu1 hu2 hu3 hc5 ⊢
      have HFR := Lib.hid hfr
      clear hfr
      go_wp2_with fail
      go_ret2
      exact ⟨by rw [HFR.out]; rfl, _, (Below.refl w.heap.size w).alloc (Nat.le_refl _) _, hu3, by rw [HFR.out]; exact hu2⟩

/-- Two blocks of other kinds are two. -/
theorem cells_ne_map {w : World} {a b : Nat} {cs : Array Value} {T : TypeId} (h : BlkAt w a cs T) {es : Array MapEntry} {c : Nat} (hb : w.heap[b]? = some (.map es c)) : a ≠ b := by
  intro e
  subst e
  rw [show w.heap[a]? = some (.cells cs T (0, 0)) from h] at hb
  cases hb
theorem HMap.block {w : World} {b : Nat} {T : List Hd} (h : HMap w b T) : ∃ es c, w.heap[b]? = some (.map es c) := by
  obtain ⟨es, c, hb, _⟩ := h
  exact ⟨es, c, hb⟩
theorem LMap.block {w : World} {b : Nat} {L : List (Int × Int)} (h : LMap w b L) : ∃ es c, w.heap[b]? = some (.map es c) := by
  obtain ⟨D, ⟨es, c, hb, _⟩, _⟩ := h.own
  exact ⟨es, c, hb⟩
theorem own_ne_map {w : World} {B : Nat} {e : TypeId} {m : Nat} {v : Value} {n : Nat} {xs : List Value} (h : w.ownsRow B e m v n xs) {b : Nat} {es : Array MapEntry} {c : Nat} (hb : w.heap[b]? = some (.map es c)) : v.ownBlock ≠ some b := by
  intro e
  rcases h.2 with ⟨rfl, _⟩ | ⟨g, cap, cur, rfl, _, hg, _⟩
  · cases e
  · simp [Value.ownBlock] at e
    subst e
    rw [hg] at hb
    cases hb

theorem getD_inj {l : List Nat} (h : l.Nodup) {i j : Nat} (hi : i < l.length) (hj : j < l.length) (e : l.getD i 0 = l.getD j 0) : i = j := by
  rw [List.getD_eq_getElem?_getD, List.getD_eq_getElem?_getD, List.getElem?_eq_getElem hi, List.getElem?_eq_getElem hj] at e
  refine (List.getElem?_inj hi h).1 ?_
  rw [List.getElem?_eq_getElem hi, List.getElem?_eq_getElem hj]
  exact congrArg some e
/-- A table of one instance has turned. -/
theorem TbR.turned {F : Nat → Prop} {a : Nat} {w : World} {S : Tb} {H : TbH} (h : TbR F a w S H) {k : Nat} (hk : k < S.tb.length) {w' : World} {T' : List Hd} (K : Kept (· = H.bs.getD k 0) w w') (hm : HMap w' (H.bs.getD k 0) T') :
    TbR F a w' { S with tb := S.tb.set k T' } H := by
  obtain ⟨es, c, hb⟩ := (h.maps k hk).block
  have hlen : ({ S with tb := S.tb.set k T' } : Tb).tb.length = S.tb.length := List.length_set
  have hbs : H.bs.Nodup := (List.nodup_append.1 h.apart).1
  refine { h with head := ?_, mks := ?_, tbl := ?_, nb := ?_, slot := ?_, maps := ?_, calls := ?_, lents := ?_ }
  · rw [hlen]
    exact h.head.kept K (fun e => cells_ne_map h.head hb e)
  · exact ownsRow_kept h.mks K (fun g hg e => own_ne_map h.mks hb (by rw [hg, e]))
  · exact h.tbl.kept K (fun e => cells_ne_map h.tbl hb e)
  · rw [hlen]
    exact h.nb
  · rw [hlen]
    exact h.slot
  · intro i hi
    rw [hlen] at hi
    by_cases e : i = k
    · subst e
      simp only [List.getD_eq_getElem?_getD, List.getElem?_set_self hi] at hm ⊢
      exact hm
    · rw [show ({ S with tb := S.tb.set k T' } : Tb).tb.getD i [] = S.tb.getD i [] by
        simp only [List.getD_eq_getElem?_getD]
        rw [List.getElem?_set_ne (fun e' => e e'.symm)]]
      exact (h.maps i hi).kept K (fun e' => e (getD_inj hbs (by rw [h.nb]; exact hi) (by rw [h.nb]; exact hk) e'))
  · exact ownsRow_kept h.calls K (fun g hg e => own_ne_map h.calls hb (by rw [hg, e]))
  · intro j hj
    refine (h.lents j hj).kept K (fun e => ?_)
    exact (List.nodup_append.1 h.apart).2.2 _ (getD_mem (by rw [h.nb]; exact hk)) _ (getD_mem (by rw [h.nl]; exact hj)) e.symm
end Go.Proofs.Ytglhfofofacekaa
