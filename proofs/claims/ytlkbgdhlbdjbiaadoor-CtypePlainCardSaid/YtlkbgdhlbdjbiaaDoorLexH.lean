/- lex: names. -/
import Derived.Test.YtlkbgdhlbdjbiaaDoorLexG
namespace Go.Proofs.YtlkbgdhlbdjbiaaDoor
open Go.RowKit Go.Shelf
open Lex
attribute [local go_sem] Oper.semAt_some

theorem parts_in (F : Fence) (n : Nat) (hf : F.fn 61) (hro : F.round = none) (s : ByteArray) (c : Int) (w : World) :
    CallsIn F n Tryd.prog 61 #[.string s, .int .u8 c] w fun e w' => e = .returned (.func (.func 68) #[] #[.pointer (some ⟨w.heap.size, 0, none⟩), .pointer (some ⟨w.heap.size + 1, 0, none⟩)]) ∧ w' = (w.alloc (.cells #[.string s] 9)).alloc (.cells #[.int .u8 c] 5) := by
  refine callsIn_of_wp Tryd.func61 rfl hf ?_ hro
  simp only [Tryd.ntmps61, List.size_toArray, List.length_cons, List.length_nil, Nat.reduceAdd, Nat.reduceSub, Array.replicate_succ, Array.replicate_zero, List.push_toArray, List.append_toArray, List.nil_append, List.cons_append]
  gi_wp2
  go_ret
  exact ⟨rfl, rfl⟩

theorem parts_stops (F : Fence) (n : Nat) (hf : F.fn 68) (hro : F.round = none) (hn : 1 ≤ n) (Bs : Nat) (s : ByteArray) (hs : s.size ≤ maxLen) (c : Nat) (w : World) (hb : Bs + 1 < w.heap.size)
    (hc1 : w.cell? ⟨Bs, 0, none⟩ = some (.string s)) (hc2 : w.cell? ⟨Bs + 1, 0, none⟩ = some (.int .u8 c)) :
    SeqStopsK F n Tryd.prog 68 #[.pointer (some ⟨Bs, 0, none⟩), .pointer (some ⟨Bs + 1, 0, none⟩)] (fun x : Txt => #[Value.string x.1]) (KpB Bs) (fun ys => ys = parts s hs c) (fun pre => pre <+: parts s hs c) (parts s hs c).length w := fun l J Jx W hW hJ _ hY h0 =>
  parts1_in F n hf hro hn l Bs s hs c J Jx hY W ((hW.cell (p := ⟨Bs, 0, none⟩) (by show Bs < _; omega)).trans hc1) ((hW.cell (p := ⟨Bs + 1, 0, none⟩) hb).trans hc2) (fun p W' hp => hJ p W' W'.drew none hp ⟨rfl, rfl, rfl, Nat.le_refl _, fun _ _ _ => rfl⟩ (fun r e => by cases e)) h0

theorem KpB_b {B : Nat} {w : World} (hB : B + 1 < w.heap.size) (W : World) (l : Nat) (o o' : Obj) (hl : w.heap.size ≤ l) (h : W.heap[l]? = some o) (_ : o.isCells = false) (_ : o.isWalk = false) : KpB B W (W.putObj l o') := by
  have hb := (Below.refl (B + 2) W).grown (grownBy_putObj' W l o') (by have := (Array.getElem?_eq_some_iff.1 h).1; omega) (fun k e => by cases e; omega)
  rintro b (rfl | rfl)
  · exact hb.cell (p := ⟨b, 0, none⟩) (by show b < b + 2; omega)
  · exact hb.cell (p := ⟨B + 1, 0, none⟩) (by show B + 1 < B + 2; omega)
theorem KpB_t {B : Nat} {X Y Z : World} (h : KpB B X Y) (k : KpB B Y Z) : KpB B X Z := fun b hb => (k b hb).trans (h b hb)
theorem KpB_below {B n₀ : Nat} {X Y : World} (h : Below n₀ X Y) (hB : B + 1 < n₀) : KpB B X Y := by
  rintro b (rfl | rfl)
  · exact h.cell (p := ⟨b, 0, none⟩) (by show b < n₀; omega)
  · exact h.cell (p := ⟨B + 1, 0, none⟩) hB
theorem KpB_refl (B : Nat) (W : World) : KpB B W W := fun _ _ => rfl

/-- A name. -/
def nameB (s : ByteArray) (hs : s.size ≤ maxLen) : Bool := decide (s.size ≤ 100) && (parts s hs 45).all fun x => prt (bl x.1)

set_option maxRecDepth 100000 in
set_option maxHeartbeats 2000000 in
theorem Name_go (s : ByteArray) (hs : s.size ≤ maxLen) (h100 : s.size ≤ 100) (w : World) :
    Calls Tryd.prog 57 #[.string s] w fun e W' => e = .returned (.bool ((parts s hs 45).all fun x => prt (bl x.1))) ∧ Below w.heap.size w W' := by
  refine (callsIn_wide (n := 3)).1 ?_
  refine callsIn_of_wp_marks Tryd.func57 rfl trivial ?_ rfl
  simp only [Tryd.ntmps57, List.size_toArray, List.length_cons, List.length_nil, Nat.reduceAdd, Nat.reduceSub, Array.replicate_succ, Array.replicate_zero, List.push_toArray, List.append_toArray, List.nil_append, List.cons_append]
  gi_wp2_with (refine ⟨trivial, ?_⟩; gi_at_call 61; refine (parts_in Fence.wide _ trivial rfl _ _ _).mono ?_; rintro e w' ⟨rfl, rfl⟩)
  have bR := Boxed.new w 4 (.bool false)
  have bS := Boxed.new (w.alloc (.cells #[.bool false] 4)) 9 (.string s)
  have bC := Boxed.new ((w.alloc (.cells #[.bool false] 4)).alloc (.cells #[.string s] 9)) 5 (.int .u8 45)
  simp only [World.size_alloc] at bS bC
  have hB0 : Below w.heap.size w (((w.alloc (.cells #[.bool false] 4)).alloc (.cells #[.string s] 9)).alloc (.cells #[.int .u8 45] 5)) := (((Below.refl _ w).alloc (Nat.le_refl _) _).alloc (by simp) _).alloc (by simp; omega) _
  refine wpIn_rangeFunc_ownG rfl (by decide) (gf := 68) (lb := #[.pointer (some ⟨w.heap.size + 1, 0, none⟩), .pointer (some ⟨w.heap.size + 1 + 1, 0, none⟩)]) rfl trivial (enters_of Tryd.func68 (by kernel_rfl) rfl)
    (parts_stops Fence.wide _ trivial rfl (by decide) (w.heap.size + 1) s hs 45 _ (by simp) (bS.alloc _).cell bC.cell) KpB_t (KpB_b (by simp)) (Below.refl _ _) (fun _ => rfl)
    (fun pre W => ((∀ p ∈ pre, prt (bl p.1) = true) ∧ W.cell? ⟨w.heap.size, 0, none⟩ = some (.bool false) ∧ W.frozen? ⟨w.heap.size, 0, none⟩ = false) ∧ Below w.heap.size w W)
    (fun c pre W => (c = .ret ∧ (∃ last ∈ pre, prt (bl last.1) = false) ∧ W.cell? ⟨w.heap.size, 0, none⟩ = some (.bool false)) ∧ Below w.heap.size w W)
    (OwnFrom.and (Own.from (fun s A B row hs hg hr => ⟨hs.1, cell_kept hs.2.1 hg hr, (frozen_kept hs.2.1 hg hr).trans hs.2.2⟩) _) (ownFrom_below (Nat.le_refl _) (by simp; omega)))
    (fun c => OwnFrom.and (Own.from (fun s A B row hs hg hr => ⟨hs.1, hs.2.1, cell_kept hs.2.2 hg hr⟩) _) (ownFrom_below (Nat.le_refl _) (by simp; omega)))
    ⟨⟨by simp, ((bR.alloc _).alloc _).cell, ((bR.alloc _).alloc _).frozen⟩, hB0⟩
    (fun x => { tmps := #[.string s, undef, .pointer (some ⟨w.heap.size, 0, none⟩), .string x.1, .string s, .int .i64 s.size, .bool (decide (100 < (s.size : Int))), .string s, .func (.func 68) #[] #[.pointer (some ⟨w.heap.size + 1, 0, none⟩), .pointer (some ⟨w.heap.size + 1 + 1, 0, none⟩)], .string x.1, undef, undef, undef], defers := [] }) ?assign ?body ?done ?stop
  case assign =>
    intro l x W K hK
    gi_wp2
    exact hK
  case body =>
    rintro l pre x W ⟨⟨hp, hcr, hfr⟩, hB⟩ _
    by_cases hx : prt (bl x.1) = true
    · have HX := Lib.hid hx
      clear hx
      gi_wp2_with (refine ⟨trivial, ?_⟩; gi_at_call 62; refine (CallsIn.inRound l (callsIn_wide.2 (isPart_any x.1 x.2 _))).mono ?_; rintro e w' ⟨rfl, rfl⟩; rw [HX.out])
      exact ⟨KeepsFrom.refl _ _, KpB_refl _ _, ⟨fun p hp' => (List.mem_append.1 hp').elim (hp p) (fun e => by simp at e; subst e; exact HX.out), hcr, hfr⟩, hB⟩
    · have HX := Lib.hid (not_true hx)
      clear hx
      gi_wp2_with (refine ⟨trivial, ?_⟩; gi_at_call 62; refine (CallsIn.inRound l (callsIn_wide.2 (isPart_any x.1 x.2 _))).mono ?_; rintro e w' ⟨rfl, rfl⟩; rw [HX.out])
      exact ⟨(KeepsOthers.setCell _ _ _).from _, ⟨rfl, ⟨x, by simp, HX.out⟩, World.cell?_setCell_same' _ _ _ (by rw [hcr]; rfl)⟩, hB.setCell (p := ⟨w.heap.size, 0, none⟩) (Nat.le_refl _) _⟩
  case done =>
    rintro D ys W hD rfl ⟨⟨hall, hcr, hfr⟩, hB⟩ hK
    gi_wp2
    have hK' := (KeepsOthers.setCell W ⟨w.heap.size, 0, none⟩ (.bool true)).same D _ hK rfl
    refine ⟨by simp, .inl ⟨_, _, rfl, run_takeDeferred hK', ?_⟩⟩
    have hc5 := cell_kept (World.cell?_setCell_same' W ⟨w.heap.size, 0, none⟩ (.bool true) (by rw [hcr]; rfl)) (grownBy_putObj' _ D (.deferred none)) (fun r e => by cases e; exact ⟨_, hK', rfl⟩)
    refine ⟨.bool true, ?_, by rw [show ((parts s hs 45).all fun x => prt (bl x.1)) = true from List.all_eq_true.2 hall], (hB.setCell (p := ⟨w.heap.size, 0, none⟩) (Nat.le_refl _) _).trans (belowK_b (w := w) (Nat.le_refl _) _ D _ _ (by simp at hD; omega) hK' rfl rfl)⟩
    simp [results, Tryd.f57, go_sem, hc5]
  case stop =>
    rintro D c pre W hD hpre ⟨⟨rfl, ⟨last, hlast, hbad⟩, hcr⟩, hB⟩ hK
    gi_wp2
    refine ⟨by simp, .inl ⟨_, _, rfl, run_takeDeferred hK, ?_⟩⟩
    have hc5 := cell_kept hcr (grownBy_putObj' _ D (.deferred none)) (fun r e => by cases e; exact ⟨_, hK, rfl⟩)
    refine ⟨.bool false, ?_, ?_, hB.trans (belowK_b (w := w) (Nat.le_refl _) W D _ _ (by simp at hD; omega) hK rfl rfl)⟩
    · simp [results, Tryd.f57, go_sem, hc5]
    · have : ((parts s hs 45).all fun x => prt (bl x.1)) = false := by
        rw [Bool.eq_false_iff]
        intro h
        have := List.all_eq_true.1 h last (hpre.subset hlast)
        rw [hbad] at this
        cases this
      rw [this]
theorem Name_any (s : ByteArray) (hs : s.size ≤ maxLen) (w : World) :
    Calls Tryd.prog 57 #[.string s] w fun e W' => e = .returned (.bool (nameB s hs)) ∧ Below w.heap.size w W' := by
  unfold nameB
  by_cases h100 : s.size ≤ 100
  · rw [decide_eq_true h100, Bool.true_and]
    exact Name_go s hs h100 w
  · rw [decide_eq_false h100, Bool.false_and]
    have hm := hs
    unfold maxLen at hm
    have hbig : 100 < s.size := by omega
    clear h100
    have hb := Below.refl w.heap.size w
    go_enter Tryd.func57, Tryd.ntmps57
    go_wp2_with fail
    refine bodyPost_ret (v := .bool false) (by simp [results, Tryd.f57, go_sem]) rfl ⟨rfl, ?_⟩
    exact (hb.alloc (Nat.le_refl _) _)
end Go.Proofs.YtlkbgdhlbdjbiaaDoor
