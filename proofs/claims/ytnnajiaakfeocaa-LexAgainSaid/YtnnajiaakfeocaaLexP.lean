/- lex: the same tokens; the examples. -/
import Derived.Test.YtnnajiaakfeocaaLexO
namespace Go.Proofs.Ytnnajiaakfeocaa
open Go.RowKit
open Lex

/-- What is read of a slice of tokens. -/
def TView (w : World) (a : Option Addr) (n : Nat) (ts : List Tok) : Prop :=
  n = 0 ∨ ∃ b off, a = some ⟨b, off, none⟩ ∧ ∀ i, i < n → w.cell? ⟨b, off + i * 3, none⟩ = some (.int .i64 (ts.getD i default).kind) ∧ w.cell? ⟨b, off + i * 3 + 1, none⟩ = some (.string (strOfNums (ts.getD i default).s)) ∧ w.cell? ⟨b, off + i * 3 + 2, none⟩ = some (.int .i64 (ts.getD i default).at')
theorem TView.below {w w' : World} {a : Option Addr} {n : Nat} {ts : List Tok} (h : TView w a n ts) (hb : Below w.heap.size w w') : TView w' a n ts := by
  rcases h with h | ⟨b, off, ha, hc⟩
  · exact .inl h
  · refine .inr ⟨b, off, ha, fun i hi => ?_⟩
    obtain ⟨h0, h1, h2⟩ := hc i hi
    have hlt : b < w.heap.size := World.block_lt_of_cell? w _ h0
    exact ⟨(hb.cell (p := ⟨b, off + i * 3, none⟩) hlt).trans h0, (hb.cell (p := ⟨b, off + i * 3 + 1, none⟩) hlt).trans h1, (hb.cell (p := ⟨b, off + i * 3 + 2, none⟩) hlt).trans h2⟩
theorem flat_get : ∀ (ts : List Tok) (i j : Nat), i < ts.length → j < 3 → (flat ts)[i * 3 + j]? = (ts.getD i default).cells[j]?
  | [], i, j, h, _ => absurd h (by simp)
  | t :: r, 0, j, _, hj => by
    show (t.cells ++ flat r)[0 * 3 + j]? = t.cells[j]?
    rw [Nat.zero_mul, Nat.zero_add, List.getElem?_append_left (by simp [Tok.cells]; omega)]
  | t :: r, i + 1, j, h, hj => by
    show (t.cells ++ flat r)[(i + 1) * 3 + j]? = _
    rw [List.getElem?_append_right (by simp [Tok.cells]; omega)]
    have : (i + 1) * 3 + j - t.cells.length = i * 3 + j := by simp [Tok.cells]; omega
    rw [this, flat_get r i j (by simpa using h) hj]
    rfl
theorem Toks.view {base : Nat} {v : Value} {ts : List Tok} {w : World} (h : Toks base v ts w) : ∃ a cap, v = .slice a ts.length cap ∧ TView w a ts.length ts := by
  rcases h.2 with ⟨hn, h0⟩ | ⟨g, cap, cur, hn, hb, hg, _⟩
  · exact ⟨none, 0, by rw [hn, h0], .inl h0⟩
  · subst hn
    refine ⟨_, cap, rfl, .inr ⟨g, 0, rfl, fun i hi => ?_⟩⟩
    have key : ∀ j u, j < 3 → (ts.getD i default).cells[j]? = some u → w.cell? ⟨g, 0 + i * 3 + j, none⟩ = some u := fun j u hj hu => by
      have hc := World.ownsRow.cells h (g := g) rfl (i * 3 + j) u (by rw [flat_get ts i j hi hj]; exact hu)
      rw [add_at] at hc
      rw [Nat.zero_add]
      exact hc
    exact ⟨key 0 _ (by decide) rfl, key 1 _ (by decide) rfl, key 2 _ (by decide) rfl⟩

set_option maxHeartbeats 400000 in
set_option maxRecDepth 100000 in
theorem Same_view (a c : Option Addr) (n cap cap2 : Nat) (ts : List Tok) (w : World) (hn : n ≤ 9000) (ha : TView w a n ts) (hc : TView w c n ts) :
    Calls Try.prog 10 #[.slice a n cap, .slice c n cap2] w fun e w' => e = .returned (.bool true) ∧ Below w.heap.size w w' := by
  have HA := Lib.hid ha
  have HC := Lib.hid hc
  have hne : ((n : Int) != (n : Int)) = false := by simp
  clear ha hc
  go_enter Try.func10, Try.ntmps10
  go_wp2_with fail
  go_loopw [5] (fun i wr => ∃ k : Nat, i = .int .i64 k ∧ k ≤ n ∧ Below w.heap.size w wr) (fun i _ => n - (intOf i).toNat)
  case atStart => exact ⟨0, rfl, by omega, Below.refl _ _⟩
  case round =>
    obtain ⟨k, rfl, hk, hb⟩ := hrel
    by_cases hlt : k < n
    · obtain ⟨b, off, rfl, hca⟩ := HA.out.resolve_left (by omega)
      obtain ⟨d, off2, rfl, hcc⟩ := HC.out.resolve_left (by omega)
      obtain ⟨x0, x1, x2⟩ := hca k hlt
      obtain ⟨y0, y1, y2⟩ := hcc k hlt
      have lb := World.block_lt_of_cell? w _ x0
      have ld := World.block_lt_of_cell? w _ y0
      replace x0 := (hb.cell (p := ⟨b, off + k * 3, none⟩) lb).trans x0
      replace x1 := (hb.cell (p := ⟨b, off + k * 3 + 1, none⟩) lb).trans x1
      replace x2 := (hb.cell (p := ⟨b, off + k * 3 + 2, none⟩) lb).trans x2
      replace y0 := (hb.cell (p := ⟨d, off2 + k * 3, none⟩) ld).trans y0
      replace y1 := (hb.cell (p := ⟨d, off2 + k * 3 + 1, none⟩) ld).trans y1
      replace y2 := (hb.cell (p := ⟨d, off2 + k * 3 + 2, none⟩) ld).trans y2
      clear hca hcc lb ld
      revert x0 x1 x2 y0 y1 y2
      generalize ts.getD k default = t
      intro x0 x1 x2 y0 y1 y2
      obtain ⟨tk, tS, ta⟩ := t
      dsimp only at x0 x1 x2 y0 y1 y2
      go_wp2_with fail
      go_quiet (fail)
      go_wp2
      exact ⟨⟨k + 1, by go_num, by omega, below_drewN hb _⟩, by simp [intOf]; omega⟩
    · have hkn : k = n := by omega
      subst hkn
      go_wp2_with fail
      go_ret
      exact ⟨rfl, hb⟩

def exL : List Tok := [⟨1, [97, 45, 98], 0⟩, ⟨4, [58], 3⟩, ⟨2, [116, 121, 112, 101], 5⟩]
def exM : List Tok := [⟨1, [97], 0⟩, ⟨4, [95], 1⟩, ⟨1, [98], 2⟩]
def exK1 : ByteArray := ⟨#[97, 45, 98, 58, 32, 37, 116, 121, 112, 101, 32, 47, 47, 32, 120]⟩
def exK2 : ByteArray := ⟨#[97, 45, 45, 98]⟩
def exK3 : ByteArray := ⟨#[97, 95, 98]⟩
def exK4 : ByteArray := ⟨#[32, 49, 46, 50]⟩
theorem ex1 : resL (bl exK1) = (exL, 0, 0) := by decide +kernel
theorem ex2 : resL (bl exK2) = ([], 0, 2) := by decide +kernel
theorem ex3 : resL (bl exK3) = (exM, 0, 0) := by decide +kernel
theorem ex4 : resL (bl exK4) = ([], 1, 2) := by decide +kernel

def litO (_w : World) : Obj := .cells #[.int .i64 1, .string ⟨#[97, 45, 98]⟩, .int .i64 0, .int .i64 4, .string ⟨#[58]⟩, .int .i64 3, .int .i64 2, .string ⟨#[116, 121, 112, 101]⟩, .int .i64 5] 33
theorem lit_view (w : World) : TView (w.alloc (litO w)) (some ⟨w.heap.size, 0, none⟩) 3 exL := by
  refine .inr ⟨_, 0, rfl, fun i hi => ?_⟩
  unfold litO
  have h : i = 0 ∨ i = 1 ∨ i = 2 := by omega
  rcases h with rfl | rfl | rfl
  all_goals
    rw [World.cell?_alloc_mark, World.cell?_alloc_mark, World.cell?_alloc_mark]
    exact ⟨rfl, rfl, rfl⟩

set_option maxRecDepth 100000 in
set_option maxHeartbeats 1000000 in
theorem awake_any (w : World) : Calls Try.prog 11 #[] w fun e w' => e = .returned (.bool true) ∧ Below w.heap.size w w' := by
  have h1 := fun w => Cut_any exK1 (by decide) w
  have h2 := fun w => Cut_any exK2 (by decide) w
  have h3 := fun w => Cut_any exK3 (by decide) w
  have h4 := fun w => Cut_any exK4 (by decide) w
  rw [ex1] at h1
  rw [ex2] at h2
  rw [ex3] at h3
  rw [ex4] at h4
  have H1 := Lib.hid h1
  have H2 := Lib.hid h2
  have H3 := Lib.hid h3
  have H4 := Lib.hid h4
  clear h1 h2 h3 h4
  have hb := Below.refl w.heap.size w
  go_enter Try.func11, Try.ntmps11
  go_wp2_with (first
    | (go_at_call 8; refine (H1.out _).mono ?_; rintro e w1 ⟨v1, rfl, t1, k1⟩; obtain ⟨a1, c1, hv1, V1⟩ := t1.view; rw [show exL.length = 3 from rfl] at hv1 V1; subst hv1; clear t1 H1; replace hb := hb.trans k1; clear k1)
    | (go_at_call 8; refine (H2.out _).mono ?_; rintro e w2 ⟨v2, rfl, t2, k2⟩; clear t2 H2; replace V1 := V1.below k2; replace hb := hb.trans (k2.mono hb.size); clear k2)
    | (go_at_call 8; refine (H3.out _).mono ?_; rintro e w3 ⟨v3, rfl, t3, k3⟩; obtain ⟨a3, c3, hv3, V3⟩ := t3.view; rw [show exM.length = 3 from rfl] at hv3 V3; subst hv3; clear t3 V3 H3; replace V1 := V1.below k3; replace hb := hb.trans (k3.mono hb.size); clear k3)
    | (go_at_call 8; refine (H4.out _).mono ?_; rintro e w4 ⟨v4, rfl, t4, k4⟩; clear t4 H4; replace V1 := V1.below k4; replace hb := hb.trans (k4.mono hb.size); clear k4; have V2 := lit_view w4; replace V1 := V1.below ((Below.refl _ w4).alloc (Nat.le_refl _) (litO w4)); replace hb := hb.alloc hb.size (litO w4); dsimp only [litO] at V1 V2 hb)
    | (go_at_call 10; refine (Same_view _ _ 3 _ _ exL _ (by decide) V1 V2).mono ?_; rintro e w5 ⟨rfl, k5⟩; replace hb := hb.trans (k5.mono hb.size); clear k5 V1 V2))
  go_ret
  exact ⟨rfl, hb⟩
end Go.Proofs.Ytnnajiaakfeocaa
