/- handles: the project's tables, where they lie. -/
import Derived.Test.YtglhfofofacekaaHdB
import Derived.Deep.RegionHeld3
import Derived.Deep.RegionLaw
import Derived.Deep.RegionWith
set_option linter.unusedVariables false
set_option linter.unusedSimpArgs false
namespace Go.Proofs.Ytglhfofofacekaa
open Go.RowKit

/-- What tables hold: which instance makes each resource, each instance's handles, the calls that are under way with what is lent for each. -/
structure Tb where
  ms : List Int
  tb : List (List Hd)
  cl : List (Int × List (Int × Int))
/-- Where they lie. -/
structure TbH where
  mv : Value
  tg : Nat
  tcap : Nat
  tcs : Array Value
  bs : List Nat
  cv : Value
  ls : List Nat
abbrev clC (p : (Int × List (Int × Int)) × Nat) : List Value := [.int .i64 p.1.1, .map (some p.2)]
structure TbR (F : Nat → Prop) (a : Nat) (w : World) (S : Tb) (H : TbH) : Prop where
  head : BlkAt w a #[H.mv, .slice (some ⟨H.tg, 0, none⟩) S.tb.length H.tcap, H.cv] 55
  mks : Ints 0 H.mv S.ms w
  tbl : BlkAt w H.tg H.tcs 56
  nb : H.bs.length = S.tb.length
  nl : H.ls.length = S.cl.length
  slot : ∀ i, i < S.tb.length → H.tcs[i]? = some (.map (some (H.bs.getD i 0)))
  maps : ∀ i, i < S.tb.length → HMap w (H.bs.getD i 0) (S.tb.getD i [])
  calls : w.ownsRow 0 83 2 H.cv S.cl.length ((S.cl.zip H.ls).flatMap clC)
  lents : ∀ j, j < S.cl.length → LMap w (H.ls.getD j 0) (S.cl.getD j (0, [])).2
  apart : (H.bs ++ H.ls).Nodup
  fa : F a
  ft : F H.tg
  fm : ∀ g, H.mv.ownBlock = some g → F g
  fc : ∀ g, H.cv.ownBlock = some g → F g
  fb : ∀ b ∈ H.bs ++ H.ls, F b
def TbAt (F : Nat → Prop) (a : Nat) (w : World) (S : Tb) : Prop := ∃ H, TbR F a w S H
theorem TbR.mono {F G : Nat → Prop} {a : Nat} {w : World} {S : Tb} {H : TbH} (h : TbR F a w S H) (hf : ∀ b, F b → G b) : TbR G a w S H :=
  { h with fa := hf _ h.fa, ft := hf _ h.ft, fm := fun g hg => hf _ (h.fm g hg), fc := fun g hg => hf _ (h.fc g hg), fb := fun b hb => hf _ (h.fb b hb) }
theorem getD_mem {l : List Nat} {i : Nat} (h : i < l.length) : l.getD i 0 ∈ l := by
  rw [List.getD_eq_getElem?_getD, List.getElem?_eq_getElem h]
  exact List.getElem_mem _
theorem TbR.kept {F G : Nat → Prop} {a : Nat} {w w' : World} {S : Tb} {H : TbH} (h : TbR F a w S H) (k : Kept G w w') (hf : ∀ b, F b → ¬ G b) : TbR F a w' S H :=
  { h with
    head := h.head.kept k (hf _ h.fa)
    mks := ownsRow_kept h.mks k (fun g hg => hf _ (h.fm g hg))
    tbl := h.tbl.kept k (hf _ h.ft)
    maps := fun i hi => (h.maps i hi).kept k (hf _ (h.fb _ (List.mem_append_left _ (getD_mem (by rw [h.nb]; exact hi)))))
    calls := ownsRow_kept h.calls k (fun g hg => hf _ (h.fc g hg))
    lents := fun j hj => (h.lents j hj).kept k (hf _ (h.fb _ (List.mem_append_right _ (getD_mem (by rw [h.nl]; exact hj))))) }
theorem TbAt.kept {F G : Nat → Prop} {a : Nat} {w w' : World} {S : Tb} (h : TbAt F a w S) (k : Kept G w w') (hf : ∀ b, F b → ¬ G b) : TbAt F a w' S := by
  obtain ⟨H, h⟩ := h
  exact ⟨H, h.kept k hf⟩
theorem TbAt.mono {F G : Nat → Prop} {a : Nat} {w : World} {S : Tb} (h : TbAt F a w S) (hf : ∀ b, F b → G b) : TbAt G a w S := by
  obtain ⟨H, h⟩ := h
  exact ⟨H, h.mono hf⟩
theorem TbAt.lt {F : Nat → Prop} {a : Nat} {w : World} {S : Tb} (h : TbAt F a w S) : a < w.heap.size := by
  obtain ⟨H, h⟩ := h
  exact h.head.lt

/-- An instance? -/
def hasB (n : Nat) (i : Int) : Bool := decide (0 ≤ i) && decide (i < n)
theorem TbR.cells {F : Nat → Prop} {a : Nat} {w : World} {S : Tb} {H : TbH} (h : TbR F a w S H) :
    w.cell? ⟨a, 0, none⟩ = some H.mv ∧ w.cell? ⟨a, 1, none⟩ = some (.slice (some ⟨H.tg, 0, none⟩) S.tb.length H.tcap) ∧ w.cell? ⟨a, 2, none⟩ = some H.cv := ⟨h.head.cell 0, h.head.cell 1, h.head.cell 2⟩

set_option maxRecDepth 100000 in
set_option maxHeartbeats 1000000 in
theorem has_nil (i : Int) (w : World) : Calls Try.prog 44 #[.pointer none, .int .i64 i] w fun e w' => e = .returned (.bool false) ∧ w = w' := by
  go_enter Try.func44, Try.ntmps44
  go_wp2_with fail
  go_ret
  exact ⟨rfl, rfl⟩

set_option maxRecDepth 100000 in
set_option maxHeartbeats 1000000 in
theorem has_any (a tg n cap : Nat) (i : Int) (w : World) (h1 : w.cell? ⟨a, 1, none⟩ = some (.slice (some ⟨tg, 0, none⟩) n cap)) :
    Calls Try.prog 44 #[.pointer (some ⟨a, 0, none⟩), .int .i64 i] w fun e w' => e = .returned (.bool (hasB n i)) ∧ w = w' := by
  go_enter Try.func44, Try.ntmps44
  go_wp2_with fail
  all_goals go_ret
  all_goals exact ⟨by (simp_all [hasB]; try omega), rfl⟩
end Go.Proofs.Ytglhfofofacekaa
