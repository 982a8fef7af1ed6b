/- subtype: functions' types that came in, with what the form says of their texts' lengths; SubNames' walk. -/
import Derived.Test.YthldeafbclmdcaaSnD
import Derived.SizedLaws
set_option linter.unusedVariables false
set_option linter.unusedSimpArgs false
set_option maxRecDepth 100000
namespace Go.Proofs.Ythldeafbclmdcaa
open Go.RowKit Go.Deep Go.Joins Go.ChangeShapes Go.WideShapes
open Ct

section
variable {H : Type} {enc : TypeId × Value → H} {w : World} {base : Nat} {spare : Nat → Bool} {held : Bool}
theorem weightsAll_mem {P : Program} {e : TypeId} : ∀ {ds : List (DataW H)} {d : DataW H}, d ∈ ds → ∀ n ∈ d.weights P e, n ∈ DataW.weightsAll P e ds
  | [], d, h => by cases h
  | y :: r, d, h => by
    intro n hn
    rw [DataW.weightsAll]
    rcases List.mem_cons.1 h with rfl | h
    · exact List.mem_append_left _ hn
    · exact List.mem_append_right _ (weightsAll_mem h n hn)
theorem nmsw_of {fuel : Nat} {a : Option Addr} {len cap : Nat} {x : DataW H × List MemPlace} (h : DataW.trod enc Try.prog w base spare held fuel 22 [.slice a len cap] = some x) (hw : ∀ n ∈ DataW.weights Try.prog 22 x.1, n ≤ reachBytes) (l : List Nm) (hl : NmsAt w l a cap) (hlen : len = l.length) (hf : ∀ b ∈ l, NmOk b) : ∀ b ∈ l, b.length ≤ 140737488351232 := by
  intro b hb
  obtain ⟨i, hi, rfl⟩ := List.getElem_of_mem hb
  rcases open_slice Try.underlying22 h with ⟨hcs, _⟩ | ⟨ad, l', c, m, n, D, Pl, hcs, _, hl', hm, hmm, hx, hi'⟩
  · simp only [List.cons.injEq, Value.slice.injEq, and_true] at hcs
    omega
  · simp only [List.cons.injEq, Value.slice.injEq, and_true] at hcs
    obtain ⟨rfl, rfl, rfl⟩ := hcs
    obtain ⟨g, o, e, _, hc⟩ := hl.at (List.getElem?_eq_getElem hi)
    cases e
    have hlm : len ≤ m := by rw [hmm]; split <;> omega
    obtain ⟨cs', h1, h2⟩ := hi' i (by omega)
    rw [cells_str, Nat.mul_one] at h1
    obtain ⟨s, hz, hD, hsz⟩ := DataW.trod_string Try.underlying9 h2
    obtain ⟨_, _, hc2⟩ := World.cells?_some h1
    have h3 := hc2 0 (by decide)
    rw [hz, add_add, Nat.add_zero, Addr.add_lit, hc] at h3
    have h4 : strOfNums l[i] = s := by simpa using h3
    have h5 : l[i] = bl s := by rw [← h4, bl_str _ fun z hz => by have := (hf _ (List.getElem_mem hi)).1 z hz; omega]
    have h6 : D i = .lit (.string s.data.toList) := congrArg Prod.fst hD
    have hx1 : x.1 = .slice ((List.range len).map D) ((List.range (m - len)).map fun j => D (len + j)) := by rw [hx]
    have h7 := hw s.data.toList.length (by
      rw [hx1, DataW.weights, Try.underlying22]
      refine List.mem_cons_of_mem _ (List.mem_append_left _ (weightsAll_mem (d := D i) (List.mem_map.2 ⟨i, List.mem_range.2 (by omega), rfl⟩) _ ?_))
      rw [h6, DataW.weights]
      exact List.mem_singleton.2 rfl)
    rw [h5, bl_length]
    rw [Array.length_toList] at h7
    exact h7
theorem sgw_of {fuel : Nat} {cs : List Value} {x : DataW H × List MemPlace} (h : DataW.trod enc Try.prog w base spare held fuel 27 cs = some x) (hw : ∀ n ∈ DataW.weights Try.prog 27 x.1, n ≤ reachBytes) : ∃ c : Cell7, cs = (sgC c.s c.ap c.cp c.aq c.cq c.an c.cn c.al c.cl).toList ∧ SgAt w c.s c.ap c.cp c.aq c.cq c.an c.cn c.al c.cl ∧ FineS c.s ∧ ∀ b ∈ c.s.p, b.length ≤ 140737488351232 := by
  obtain ⟨c, hc, h1, h2⟩ := sg_of h
  refine ⟨c, hc, h1, h2, ?_⟩
  obtain ⟨xs, n', _, hxx, hcl, hl4, hf⟩ := DataW.trod_struct Try.underlying27 h
  have f1 : DataW.trod enc Try.prog w base spare held n' 22 ((cs.drop 1).take (Try.prog.cellsOf 22)) = xs[1]? := hf 1 _ rfl
  have h4 : xs.length = 4 := hl4
  rw [cells_strs, List.getElem?_eq_getElem (by omega), hc] at f1
  refine nmsw_of f1 (fun n hn => hw n ?_) c.s.p h1.p rfl h2.p
  have hag : x.1 = .agg (xs.map (·.1)) := congrArg Prod.fst hxx
  rw [hag, DataW.weights, Try.underlying27]
  exact DataW.weights_mem_each (j := 1) (t := 22) rfl (by rw [List.getElem?_map, List.getElem?_eq_getElem (by omega)]; rfl) n hn
end
theorem SubNames_walk (s : Sg) (ap : Option Addr) (cp : Nat) (aq : Option Addr) (cq : Nat) (an : Option Addr) (cn : Nat) (al : Option Addr) (cl : Nat) (k : Int) (w : World) (h : SgAt w s ap cp aq cq an cn al cl) (hf : FineS s) (hs : ∀ b ∈ s.p, b.length ≤ 140737488351232) :
    Calls Try.prog 6 #[sgV s ap cp aq cq an cn al cl, .int .i64 k] w fun y w' => y = .returned (.bool true) ∧ Kept (fun _ => False) w w' := by
  by_cases h1 : s.p.length = 0 ∨ 100 < s.p.length
  · exact names_no s ap cp aq cq an cn al cl k w h1
  · exact names_go s ap cp aq cq an cn al cl k w h.p hf.p (by omega) (by omega) hs
end Go.Proofs.Ythldeafbclmdcaa
