/- Texts of the proof of ModuleOnlyProof. -/
import Derived.Test.YtekonefnniaheaaGreatModuleBackUptoProofQ1
import Derived.Test.YtekonefnniaheaaGreatModuleBackUptoProofQ2
import Derived.Test.YtekonefnniaheaaGreatModuleBackUptoProofQ3
import Derived.Test.YtekonefnniaheaaGreatModuleBackUptoProofQ4
import Derived.Test.YtekonefnniaheaaGreatModuleBackUptoProofQ5
import Derived.Test.YtekonefnniaheaaGreatModuleBackUptoProofQ6
import Derived.Test.YtekonefnniaheaaGreatModuleBackUptoProofQ7
import Derived.Test.YtekonefnniaheaaGreatModuleBackUptoProofQ8
import Derived.Test.YtekonefnniaheaaGreatModuleBackUptoProofQ9
import Derived.Test.YtekonefnniaheaaGreatModuleBackUptoProofQ10
import Derived.Test.YtekonefnniaheaaGreatModuleBackUptoProofQ11
import Derived.Test.YtekonefnniaheaaGreatModuleBackUptoProofQ12
import Derived.Test.YtekonefnniaheaaGreatModuleBackUptoProofQ13
import Derived.Test.YtekonefnniaheaaGreatModuleBackUptoProofQ14
import Derived.Test.YtekonefnniaheaaGreatModuleBackUptoProofQ15
import Derived.Test.YtekonefnniaheaaGreatModuleBackUptoProofQ16
import Derived.Test.YtekonefnniaheaaGreatModuleBackUptoProofQ17
import Derived.Test.YtekonefnniaheaaGreatModuleBackUptoProofQ18
import Derived.Test.YtekonefnniaheaaGreatModuleBackUptoProofQ19
import Derived.Test.YtekonefnniaheaaGreatModuleBackUptoProofQ20
import Derived.Test.YtekonefnniaheaaGreatModuleBackUptoProofQ21
import Derived.Test.YtekonefnniaheaaGreatModuleBackUptoProofQ22
import Derived.Test.YtekonefnniaheaaGreatModuleBackUptoProofQ23
import Derived.Test.YtekonefnniaheaaGreatModuleBackUptoProofQ24
import Derived.Test.YtekonefnniaheaaGreatModuleBackUptoProofQ25
import Derived.Test.YtekonefnniaheaaGreatModuleBackUptoProofQ26
import Derived.Test.YtekonefnniaheaaGreatModuleBackUptoProofQ27
set_option linter.unusedVariables false
namespace Go.Proofs.YtekonefnniaheaaGreat
open Go.RowKit Go.Deep
open Leb (byt byt_lt byt_get len7 sum7 putU putS)

def secO (m : Mdl) : Bool := oSect oFT m.types && oSect oImp m.imports && oSect oIdx m.funcs && oSect (fun x : Lim => oLim x.mn x.mx) m.tables && oSect (fun x : Lim => oLim x.mn x.mx) m.mems && (oSect oGlo m.globals && oSect oExp m.exports && oStart m.start && oSect oEle m.elems && oSect oCod m.codes && oSect oDat m.datas)
/-- This module may be laid, and its sections' bytes are these. -/
structure Pre (m : Mdl) (B : List Int) : Prop where
  o : secO m = true
  w : MdlWf m
  b : bHead m ++ bTail m = B
/-- Sections that lead from one module to another; cut off they are none, or lead to some module's bytes. -/
structure CutTo (m : Mdl) (p0 : Int) (b : List Int) (m' : Mdl) (p1 : Int) : Prop where
  to : SecTo m p0 b m' p1
  pre : ∀ B, Pre m B → Pre m' (B ++ b)
  cut : ∀ last, last ≤ p0 → ∀ B, Pre m B → ∀ j, j < b.length → ∀ k, j < k → secsR k ⟨m, last, -1⟩ (strOfNums (b.take j)) = .error 2 ∨ ∃ n l, secsR k ⟨m, last, -1⟩ (strOfNums (b.take j)) = .ok (⟨n, l, -1⟩, strOfNums []) ∧ Pre n (B ++ b.take j)
theorem CutTo.trans {m1 m2 m3 : Mdl} {p0 p1 p2 : Int} {x y : List Int} (h1 : CutTo m1 p0 x m2 p1) (h2 : CutTo m2 p1 y m3 p2) : CutTo m1 p0 (x ++ y) m3 p2 := by
  refine ⟨h1.to.trans h2.to, fun B h => ?_, fun last hl B h j hj k hk => ?_⟩
  · rw [← List.append_assoc]
    exact h2.pre _ (h1.pre _ h)
  · by_cases hx : j < x.length
    · rw [List.take_append_of_le_length (by omega)]
      exact h1.cut last hl B h j hx k hk
    · rw [List.length_append] at hj
      rw [List.take_append, List.take_of_length_le (by omega)]
      obtain ⟨l1, e1, q1⟩ := h1.to last hl
      obtain ⟨k', hk', hq⟩ := q1 k (y.take (j - x.length)) (by rw [strOfNums_size, List.length_append, List.length_take]; omega)
      rw [hq, ← List.append_assoc]
      rw [strOfNums_size, List.length_take] at hk'
      exact h2.cut l1 e1 _ (h1.pre _ h) _ (by omega) k' (by omega)
theorem CutTo.none {m : Mdl} {p0 p1 : Int} (h : p0 ≤ p1) : CutTo m p0 [] m p1 := ⟨SecTo.none h, fun B h => by rwa [List.append_nil], fun _ _ _ _ j hj => absurd hj (by simp)⟩
theorem secs_nil {k : Nat} (hk : 0 < k) (so : Sofar) : secsR k so (strOfNums []) = .ok (so, strOfNums []) := by
  obtain ⟨i, rfl⟩ : ∃ i, k = i + 1 := ⟨k - 1, by omega⟩
  exact secs_end (by rfl)
theorem CutTo.one {m m' : Mdl} {p0 n : Int} {b : List Int} (h0 : 0 < n) (h1 : n ≤ 12) (hp : p0 < placeN n) (h : Enc (contR n m (-1)) (m', -1) b) (hb : b.length ≤ 4294967295) (hpre : ∀ B, Pre m B → Pre m' (B ++ ([n % 256] ++ (putU b.length ++ b)))) : CutTo m p0 ([n % 256] ++ (putU b.length ++ b)) m' (placeN n) := by
  refine ⟨SecTo.one h0 h1 hp h hb, hpre, fun last hl B hB j hj k hk => ?_⟩
  have he := enc_sect (so := ⟨m, last, -1⟩) h0 h1 (by show last < placeN n; omega) h hb
  revert hj he
  generalize [n % 256] ++ (putU b.length ++ b) = bb
  intro hj he
  by_cases hz : j = 0
  · subst hz
    exact .inr ⟨m, last, by rw [List.take_zero]; exact secs_nil hk _, by rw [List.take_zero, List.append_nil]; exact hB⟩
  · obtain ⟨i, rfl⟩ : ∃ i, k = i + 1 := ⟨k - 1, by omega⟩
    refine .inl ?_
    rw [secs_step (by rw [strOfNums_size, List.length_take]; omega), he.2 j hj]
    rfl
theorem cutTo_list {α : Type} {m m' : Mdl} {p0 n : Int} {b : α → List Int} {ok : α → Bool} {ts : List α} {R : Rd α} (h0 : 0 < n) (h1 : n ≤ 12) (hp : p0 < placeN n) (ho : oSect ok ts = true) (hR : ∀ t, t ∈ ts → ok t = true → Enc R t (b t))
    (hc : Enc (listR 1000 R) ts (bList b ts) → Enc (contR n m (-1)) (m', -1) (bList b ts)) (hm : ts.length = 0 → m' = m) (hb : (bList b ts).length ≤ 4294967295) (hpre : ∀ B, Pre m B → Pre m' (B ++ bSect n b ts)) : CutTo m p0 (bSect n b ts) m' (placeN n) := by
  unfold bSect at hpre ⊢
  unfold oSect at ho
  by_cases hz : ts.length = 0
  · rw [if_pos hz, hm hz]
    exact CutTo.none (by omega)
  · rw [if_neg hz] at ho hpre ⊢
    exact CutTo.one h0 h1 hp (hc (enc_listO (by decide) ho hR)) hb hpre
theorem pre_of {m m' : Mdl} {b : List Int} (ho : secO m' = true) (hw : MdlWf m') (hb : bHead m' ++ bTail m' = (bHead m ++ bTail m) ++ b) : ∀ B, Pre m B → Pre m' (B ++ b) := fun _ h => ⟨ho, hw, by rw [← h.b]; exact hb⟩
theorem bSect_nil {α : Type} (n : Int) (b : α → List Int) : bSect n b ([] : List α) = [] := if_pos rfl
theorem oSect_nil {α : Type} (ok : α → Bool) : oSect ok ([] : List α) = true := if_pos rfl
theorem bStart_nil : bStart 0 = [] := rfl
theorem oStart_nil : oStart 0 = true := rfl
set_option maxHeartbeats 1000000 in
theorem mod_cuts {m : Mdl} (ho : oMod m = true) (hw : MdlWf m) (hl : (bMod m).length ≤ 65536) : CutTo noM 0 (bHead m ++ bTail m) m 22 := by
  unfold oMod at ho
  obtain ⟨_, ho⟩ := and_two ho
  obtain ⟨ha, hb⟩ := and_two ho
  obtain ⟨ha, o5⟩ := and_two ha
  obtain ⟨ha, o4⟩ := and_two ha
  obtain ⟨ha, o3⟩ := and_two ha
  obtain ⟨o1, o2⟩ := and_two ha
  obtain ⟨hb, o11⟩ := and_two hb
  obtain ⟨hb, o10⟩ := and_two hb
  obtain ⟨hb, o9⟩ := and_two hb
  obtain ⟨hb, o8⟩ := and_two hb
  obtain ⟨o6, o7⟩ := and_two hb
  unfold bMod bHead bTail at hl
  simp only [List.length_append] at hl
  have key : ∀ {α : Type} (n : Int) (b : α → List Int) (ts : List α), (bSect n b ts).length ≤ 65536 → ¬ ts.length = 0 → (bList b ts).length ≤ 4294967295 := fun n b ts h hz => Nat.le_trans (sect_len n b ts _ h hz) (by omega)
  have key0 : ∀ {α : Type} (n : Int) (b : α → List Int) (ts : List α), (bSect n b ts).length ≤ 65536 → (bList b ts).length ≤ 4294967295 := fun n b ts h => by
    by_cases hz : ts.length = 0
    · have := empty_list hz
      subst this
      have h0 : (bList b ([] : List _)).length = 1 := by
        unfold bList
        rw [List.length_append, List.flatMap_nil]
        show (putU 0).length + 0 = 1
        rw [putU_zero]
        rfl
      omega
    · exact key n b ts h hz
  have s1 : CutTo ⟨[], [], [], [], [], [], [], 0, [], [], []⟩ 0 (bSect 1 bFT m.types) ⟨m.types, [], [], [], [], [], [], 0, [], [], []⟩ 2 := cutTo_list (by decide) (by decide) (by decide) o1 (fun t _ h => enc_ft h) (fun h => enc_mapR h (fun l => (({ (⟨[], [], [], [], [], [], [], 0, [], [], []⟩ : Mdl) with types := l } : Mdl), (-1 : Int)))) (fun hz => by rw [empty_list hz]) (key0 1 _ _ (by omega)) (pre_of (by simp only [secO, oSect_nil, oStart_nil, o1, Bool.and_self]) ⟨fun _ h => absurd h List.not_mem_nil, fun _ h => absurd h List.not_mem_nil, fun _ h => absurd h List.not_mem_nil, fun _ h => absurd h List.not_mem_nil⟩ (by simp only [bHead, bTail, bSect_nil, bStart_nil, List.append_nil, List.nil_append]))
  have s2 : CutTo ⟨m.types, [], [], [], [], [], [], 0, [], [], []⟩ 2 (bSect 2 bImp m.imports) ⟨m.types, m.imports, [], [], [], [], [], 0, [], [], []⟩ 4 := cutTo_list (by decide) (by decide) (by decide) o2 (fun t _ h => enc_imp h) (fun h => enc_mapR h (fun l => (({ (⟨m.types, [], [], [], [], [], [], 0, [], [], []⟩ : Mdl) with imports := l } : Mdl), (-1 : Int)))) (fun hz => by rw [empty_list hz]) (key0 2 _ _ (by omega)) (pre_of (by simp only [secO, oSect_nil, oStart_nil, o1, o2, Bool.and_self]) ⟨fun _ h => absurd h List.not_mem_nil, fun _ h => absurd h List.not_mem_nil, fun _ h => absurd h List.not_mem_nil, fun _ h => absurd h List.not_mem_nil⟩ (by simp only [bHead, bTail, bSect_nil, bStart_nil, List.append_nil]))
  have s3 : CutTo ⟨m.types, m.imports, [], [], [], [], [], 0, [], [], []⟩ 4 (bSect 3 putU m.funcs) ⟨m.types, m.imports, m.funcs, [], [], [], [], 0, [], [], []⟩ 6 := cutTo_list (by decide) (by decide) (by decide) o3 (fun t _ h => enc_idx h) (fun h => enc_mapR h (fun l => (({ (⟨m.types, m.imports, [], [], [], [], [], 0, [], [], []⟩ : Mdl) with funcs := l } : Mdl), (-1 : Int)))) (fun hz => by rw [empty_list hz]) (key0 3 _ _ (by omega)) (pre_of (by simp only [secO, oSect_nil, oStart_nil, o1, o2, o3, Bool.and_self]) ⟨fun _ h => absurd h List.not_mem_nil, fun _ h => absurd h List.not_mem_nil, fun _ h => absurd h List.not_mem_nil, fun _ h => absurd h List.not_mem_nil⟩ (by simp only [bHead, bTail, bSect_nil, bStart_nil, List.append_nil, List.append_assoc]))
  have s4 : CutTo ⟨m.types, m.imports, m.funcs, [], [], [], [], 0, [], [], []⟩ 6 (bSect 4 (fun x : Lim => bTab x.mn x.mx) m.tables) ⟨m.types, m.imports, m.funcs, m.tables, [], [], [], 0, [], [], []⟩ 8 := cutTo_list (by decide) (by decide) (by decide) o4 (fun t _ h => enc_tab h) (fun h => enc_mapR h (fun l => (({ (⟨m.types, m.imports, m.funcs, [], [], [], [], 0, [], [], []⟩ : Mdl) with tables := l } : Mdl), (-1 : Int)))) (fun hz => by rw [empty_list hz]) (key0 4 _ _ (by omega)) (pre_of (by simp only [secO, oSect_nil, oStart_nil, o1, o2, o3, o4, Bool.and_self]) ⟨fun _ h => absurd h List.not_mem_nil, fun _ h => absurd h List.not_mem_nil, fun _ h => absurd h List.not_mem_nil, fun _ h => absurd h List.not_mem_nil⟩ (by simp only [bHead, bTail, bSect_nil, bStart_nil, List.append_nil, List.append_assoc]))
  have s5 : CutTo ⟨m.types, m.imports, m.funcs, m.tables, [], [], [], 0, [], [], []⟩ 8 (bSect 5 (fun x : Lim => bLim x.mn x.mx) m.mems) ⟨m.types, m.imports, m.funcs, m.tables, m.mems, [], [], 0, [], [], []⟩ 10 := cutTo_list (by decide) (by decide) (by decide) o5 (fun t _ h => enc_lim h) (fun h => enc_mapR h (fun l => (({ (⟨m.types, m.imports, m.funcs, m.tables, [], [], [], 0, [], [], []⟩ : Mdl) with mems := l } : Mdl), (-1 : Int)))) (fun hz => by rw [empty_list hz]) (key0 5 _ _ (by omega)) (pre_of (by simp only [secO, oSect_nil, oStart_nil, o1, o2, o3, o4, o5, Bool.and_self]) ⟨fun _ h => absurd h List.not_mem_nil, fun _ h => absurd h List.not_mem_nil, fun _ h => absurd h List.not_mem_nil, fun _ h => absurd h List.not_mem_nil⟩ (by simp only [bHead, bTail, bSect_nil, bStart_nil, List.append_nil, List.append_assoc]))
  have s6 : CutTo ⟨m.types, m.imports, m.funcs, m.tables, m.mems, [], [], 0, [], [], []⟩ 10 (bSect 6 bGlo m.globals) ⟨m.types, m.imports, m.funcs, m.tables, m.mems, m.globals, [], 0, [], [], []⟩ 12 := cutTo_list (by decide) (by decide) (by decide) o6 (fun t ht h => enc_glo h (hw.g t ht)) (fun h => enc_mapR h (fun l => (({ (⟨m.types, m.imports, m.funcs, m.tables, m.mems, [], [], 0, [], [], []⟩ : Mdl) with globals := l } : Mdl), (-1 : Int)))) (fun hz => by rw [empty_list hz]) (key0 6 _ _ (by omega)) (pre_of (by simp only [secO, oSect_nil, oStart_nil, o1, o2, o3, o4, o5, o6, Bool.and_self]) ⟨hw.g, fun _ h => absurd h List.not_mem_nil, fun _ h => absurd h List.not_mem_nil, fun _ h => absurd h List.not_mem_nil⟩ (by simp only [bHead, bTail, bSect_nil, bStart_nil, List.append_nil, List.append_assoc]))
  have s7 : CutTo ⟨m.types, m.imports, m.funcs, m.tables, m.mems, m.globals, [], 0, [], [], []⟩ 12 (bSect 7 bExp m.exports) ⟨m.types, m.imports, m.funcs, m.tables, m.mems, m.globals, m.exports, 0, [], [], []⟩ 14 := cutTo_list (by decide) (by decide) (by decide) o7 (fun t _ h => enc_exp h) (fun h => enc_mapR h (fun l => (({ (⟨m.types, m.imports, m.funcs, m.tables, m.mems, m.globals, [], 0, [], [], []⟩ : Mdl) with exports := l } : Mdl), (-1 : Int)))) (fun hz => by rw [empty_list hz]) (key0 7 _ _ (by omega)) (pre_of (by simp only [secO, oSect_nil, oStart_nil, o1, o2, o3, o4, o5, o6, o7, Bool.and_self]) ⟨hw.g, fun _ h => absurd h List.not_mem_nil, fun _ h => absurd h List.not_mem_nil, fun _ h => absurd h List.not_mem_nil⟩ (by simp only [bHead, bTail, bSect_nil, bStart_nil, List.append_nil, List.append_assoc]))
  have s8 : CutTo ⟨m.types, m.imports, m.funcs, m.tables, m.mems, m.globals, m.exports, 0, [], [], []⟩ 14 (bStart m.start) ⟨m.types, m.imports, m.funcs, m.tables, m.mems, m.globals, m.exports, m.start, [], [], []⟩ 16 := by
    unfold bStart
    obtain ⟨q1, q2⟩ := and_two o8
    by_cases hs : 0 < m.start
    · rw [if_pos hs] at q2 ⊢
      have h3 : Enc (contR 8 ⟨m.types, m.imports, m.funcs, m.tables, m.mems, m.globals, m.exports, 0, [], [], []⟩ (-1)) (⟨m.types, m.imports, m.funcs, m.tables, m.mems, m.globals, m.exports, m.start, [], [], []⟩, -1) (putU (m.start - 1)) := by
        have := enc_mapR (enc_idx q2) (fun z => (({ (⟨m.types, m.imports, m.funcs, m.tables, m.mems, m.globals, m.exports, 0, [], [], []⟩ : Mdl) with start := z + 1 } : Mdl), (-1 : Int)))
        rw [show m.start - 1 + 1 = m.start by omega] at this
        exact this
      exact CutTo.one (by decide) (by decide) (by decide) h3 (by have := Leb.putU_length (m.start - 1); omega) (pre_of (by simp only [secO, oSect_nil, o1, o2, o3, o4, o5, o6, o7, o8, Bool.and_self]) ⟨hw.g, fun _ h => absurd h List.not_mem_nil, fun _ h => absurd h List.not_mem_nil, fun _ h => absurd h List.not_mem_nil⟩ (by simp only [bHead, bTail, bStart, if_pos hs, if_neg (show ¬ (0 : Int) < 0 by decide), bSect_nil, List.append_nil, List.append_assoc]))
    · rw [if_neg hs]
      have h4 : m.start = 0 := by have := of_decide_eq_true q1; omega
      rw [h4]
      exact CutTo.none (by decide)
  have s9 : CutTo ⟨m.types, m.imports, m.funcs, m.tables, m.mems, m.globals, m.exports, m.start, [], [], []⟩ 16 (bSect 9 bEle m.elems) ⟨m.types, m.imports, m.funcs, m.tables, m.mems, m.globals, m.exports, m.start, m.elems, [], []⟩ 18 := cutTo_list (by decide) (by decide) (by decide) o9 (fun t ht h => enc_ele h (hw.e t ht)) (fun h => enc_mapR h (fun l => (({ (⟨m.types, m.imports, m.funcs, m.tables, m.mems, m.globals, m.exports, m.start, [], [], []⟩ : Mdl) with elems := l } : Mdl), (-1 : Int)))) (fun hz => by rw [empty_list hz]) (key0 9 _ _ (by omega)) (pre_of (by simp only [secO, oSect_nil, o1, o2, o3, o4, o5, o6, o7, o8, o9, Bool.and_self]) ⟨hw.g, hw.e, fun _ h => absurd h List.not_mem_nil, fun _ h => absurd h List.not_mem_nil⟩ (by simp only [bHead, bTail, bSect_nil, List.append_nil, List.append_assoc]))
  have s10 : CutTo ⟨m.types, m.imports, m.funcs, m.tables, m.mems, m.globals, m.exports, m.start, m.elems, [], []⟩ 18 (bSect 10 bCod m.codes) ⟨m.types, m.imports, m.funcs, m.tables, m.mems, m.globals, m.exports, m.start, m.elems, m.codes, []⟩ 20 := cutTo_list (by decide) (by decide) (by decide) o10 (fun t ht h => enc_cod h (hw.c t ht) (by
      have h1 := list_len bCod m.codes 4294967295 (key0 10 bCod m.codes (by omega)) ht
      unfold bCod at h1
      rw [List.length_append] at h1
      omega)) (fun h => enc_mapR h (fun l => (({ (⟨m.types, m.imports, m.funcs, m.tables, m.mems, m.globals, m.exports, m.start, m.elems, [], []⟩ : Mdl) with codes := l } : Mdl), (-1 : Int)))) (fun hz => by rw [empty_list hz]) (key0 10 _ _ (by omega)) (pre_of (by simp only [secO, oSect_nil, o1, o2, o3, o4, o5, o6, o7, o8, o9, o10, Bool.and_self]) ⟨hw.g, hw.e, hw.c, fun _ h => absurd h List.not_mem_nil⟩ (by simp only [bHead, bTail, bSect_nil, List.append_nil, List.append_assoc]))
  have s11 : CutTo ⟨m.types, m.imports, m.funcs, m.tables, m.mems, m.globals, m.exports, m.start, m.elems, m.codes, []⟩ 20 (bSect 11 bDat m.datas) ⟨m.types, m.imports, m.funcs, m.tables, m.mems, m.globals, m.exports, m.start, m.elems, m.codes, m.datas⟩ 22 := cutTo_list (by decide) (by decide) (by decide) o11 (fun t ht h => enc_dat h (hw.d t ht) (by
      have h1 := list_len bDat m.datas 4294967295 (key0 11 bDat m.datas (by omega)) ht
      unfold bDat bStr at h1
      simp only [List.length_append, bl_length] at h1
      omega)) (fun h => enc_mapR h (fun l => (({ (⟨m.types, m.imports, m.funcs, m.tables, m.mems, m.globals, m.exports, m.start, m.elems, m.codes, []⟩ : Mdl) with datas := l } : Mdl), (-1 : Int)))) (fun hz => by rw [empty_list hz]) (key0 11 _ _ (by omega)) (pre_of (by simp only [secO, o1, o2, o3, o4, o5, o6, o7, o8, o9, o10, o11, Bool.and_self]) ⟨hw.g, hw.e, hw.c, hw.d⟩ (by simp only [bHead, bTail, bSect_nil, List.append_nil, List.append_assoc]))
  have := ((((s1.trans s2).trans s3).trans s4).trans s5).trans (((((s6.trans s7).trans s8).trans s9).trans s10).trans s11)
  exact this
/-- A module's bytes cut off are none, or those of some of its sections. -/
theorem takeM_cut {m : Mdl} (ho : oMod m = true) (hw : MdlWf m) (hl : (bMod m).length ≤ 65536) (j : Nat) (hj : j < (bMod m).length) : takeMd (strOfNums ((bMod m).take j)) = .error 2 ∨ ∃ n, takeMd (strOfNums ((bMod m).take j)) = .ok n ∧ oMod n = true ∧ MdlWf n ∧ bMod n = (bMod m).take j := by
  have hs := mod_cuts ho hw hl
  have hz : ¬ 65536 < (strOfNums ((bMod m).take j)).size := by rw [strOfNums_size, List.length_take]; omega
  unfold takeMd
  rw [if_neg hz]
  unfold bMod at hj ⊢
  have h8 : headB.length = 8 := rfl
  rw [List.length_append, h8] at hj
  by_cases hk : j < 8
  · refine .inl ?_
    have : hdR (strOfNums ((headB ++ (bHead m ++ bTail m)).take j)) = .error 2 := by
      unfold hdR
      rw [if_neg]
      intro q
      have h2 := congrArg ByteArray.size q
      rw [ByteArray.size_extract, strOfNums_size, strOfNums_size, List.length_take, h8] at h2
      omega
    unfold modR
    rw [bindR_err this]
    rfl
  · obtain ⟨i, rfl⟩ : ∃ i, j = 8 + i := ⟨j - 8, by omega⟩
    rw [List.take_append, List.take_of_length_le (by rw [h8]; omega), h8, show 8 + i - 8 = i by omega]
    have hh : hdR (strOfNums (headB ++ (bHead m ++ bTail m).take i)) = .ok ((), strOfNums ((bHead m ++ bTail m).take i)) := by
      unfold hdR
      rw [← strOfNums_app]
      have q1 : (strOfNums headB ++ strOfNums ((bHead m ++ bTail m).take i)).extract 0 8 = strOfNums headB := ext_head headB _
      have q2 : (strOfNums headB ++ strOfNums ((bHead m ++ bTail m).take i)).extract 8 (strOfNums headB ++ strOfNums ((bHead m ++ bTail m).take i)).size = strOfNums ((bHead m ++ bTail m).take i) := ext_app headB _
      rw [if_pos q1, q2]
    have hm : modR (strOfNums (headB ++ (bHead m ++ bTail m).take i)) = needR (needR (secsR ((strOfNums ((bHead m ++ bTail m).take i)).size + 1) so0) e1R 2) e2R 2 (strOfNums ((bHead m ++ bTail m).take i)) := by
      unfold modR
      rw [bindR_ok hh]
    rw [hm]
    rcases hs.cut 0 (Int.le_refl _) [] ⟨rfl, ⟨fun _ h => absurd h List.not_mem_nil, fun _ h => absurd h List.not_mem_nil, fun _ h => absurd h List.not_mem_nil, fun _ h => absurd h List.not_mem_nil⟩, rfl⟩ i (by omega) ((strOfNums ((bHead m ++ bTail m).take i)).size + 1) (by rw [strOfNums_size, List.length_take]; omega) with h | ⟨n, l, h, hp⟩
    · refine .inl ?_
      have h1 : needR (secsR ((strOfNums ((bHead m ++ bTail m).take i)).size + 1) so0) e1R 2 (strOfNums ((bHead m ++ bTail m).take i)) = .error 2 := bindR_err h
      have h2 : needR (needR (secsR ((strOfNums ((bHead m ++ bTail m).take i)).size + 1) so0) e1R 2) e2R 2 (strOfNums ((bHead m ++ bTail m).take i)) = .error 2 := bindR_err h1
      rw [h2]
      rfl
    · have h' : secsR ((strOfNums ((bHead m ++ bTail m).take i)).size + 1) so0 (strOfNums ((bHead m ++ bTail m).take i)) = .ok (⟨n, l, -1⟩, strOfNums []) := h
      by_cases e1 : e1R ⟨n, l, -1⟩ = true
      · refine .inr ⟨n, ?_, ?_, hp.w, by rw [hp.b, List.nil_append]⟩
        · have h1 : needR (secsR ((strOfNums ((bHead m ++ bTail m).take i)).size + 1) so0) e1R 2 (strOfNums ((bHead m ++ bTail m).take i)) = .ok (⟨n, l, -1⟩, strOfNums []) := by
            unfold needR
            rw [bindR_ok h']
            show (if e1R ⟨n, l, -1⟩ = true then pureR (Sofar.mk n l (-1)) else failR 2) (strOfNums []) = _
            rw [if_pos e1]
            rfl
          have h2 : needR (needR (secsR ((strOfNums ((bHead m ++ bTail m).take i)).size + 1) so0) e1R 2) e2R 2 (strOfNums ((bHead m ++ bTail m).take i)) = .ok (⟨n, l, -1⟩, strOfNums []) := by
            show bindR _ (fun x => if e2R x = true then pureR x else failR 2) _ = _
            rw [bindR_ok h1]
            rfl
          rw [h2]
          rfl
        · have ho2 := hp.o
          unfold secO at ho2
          unfold oMod
          rw [ho2, Bool.and_true]
          unfold e1R at e1
          have e2 : ((n.codes.length : Int)) = (n.funcs.length : Int) := of_decide_eq_true e1
          rw [e2]
          exact beq_self_eq_true _
      · refine .inl ?_
        have h1 : needR (secsR ((strOfNums ((bHead m ++ bTail m).take i)).size + 1) so0) e1R 2 (strOfNums ((bHead m ++ bTail m).take i)) = .error 2 := by
          unfold needR
          rw [bindR_ok h']
          show (if e1R ⟨n, l, -1⟩ = true then pureR (Sofar.mk n l (-1)) else failR 2) (strOfNums []) = _
          rw [if_neg e1]
          rfl
        have h2 : needR (needR (secsR ((strOfNums ((bHead m ++ bTail m).take i)).size + 1) so0) e1R 2) e2R 2 (strOfNums ((bHead m ++ bTail m).take i)) = .error 2 := bindR_err h1
        rw [h2]
        rfl
end Go.Proofs.YtekonefnniaheaaGreat
namespace Go.Proofs.YtekonefnniaheaaGreat
open Go.RowKit Go.Deep

theorem lay_ways2 (m : Mdl) : layV m = ([], 1) ∨ layV m = ([], 14) ∨ layV m = (bMod m, 0) ∧ oMod m = true ∧ (bMod m).length ≤ 65536 := by
  rw [layV_eq]
  by_cases ho : oMod m = true
  · rw [if_pos ho]
    by_cases hl : 65536 < (bMod m).length
    · rw [if_pos hl]
      exact .inr (.inl rfl)
    · rw [if_neg hl]
      exact .inr (.inr ⟨rfl, ho, by omega⟩)
  · rw [if_neg ho]
    exact .inl rfl
theorem noM_ok : MdlOk noM := ⟨fun _ h => absurd h (Nat.not_lt_zero _), fun _ h => absurd h (Nat.not_lt_zero _), fun _ h => absurd h (Nat.not_lt_zero _), fun _ h => absurd h (Nat.not_lt_zero _)⟩
theorem ext_take (b : List Int) (j : Nat) (hj : j ≤ b.length) : (strOfNums b).extract 0 j = strOfNums (b.take j) := by
  have h := ext_head (b.take j) (strOfNums (b.drop j))
  rw [strOfNums_app, List.take_append_drop, List.length_take, Nat.min_eq_left hj] at h
  exact h
/-- A reading that fails. -/
theorem take_err {s : ByteArray} (hs : s.size ≤ maxLen) (h : takeMd s = .error 2) (w : World) : Calls Tryz.prog 12 #[.string s] w fun e w2 => ∃ yT dT yI dI yF dF yB dB yM dM yG dG yX dX yE dE yC dC yD dD, e = .returned (.tuple #[.agg #[.slice yT 0 dT, .slice yI 0 dI, .slice yF 0 dF, .slice yB 0 dB, .slice yM 0 dM, .slice yG 0 dG, .slice yX 0 dX, .int .i64 0, .slice yE 0 dE, .slice yC 0 dC, .slice yD 0 dD], .int .i64 2]) ∧ Below w.heap.size w w2 ∧ MdlIn w2 noM yT dT yI dI yF dF yB dB yM dM yG dG yX dX yE dE yC dC yD dD := by
  refine (TakeM_any s hs w).mono ?_
  rintro e w2 ⟨vs, f, he, hb, _, ⟨m', hm, _⟩ | ⟨hm, _, hv⟩⟩
  · rw [h] at hm
    cases hm
  · rw [h] at hm
    injection hm with hm
    subst hm
    obtain ⟨yT, dT, yI, dI, yF, dF, yB, dB, yM, dM, yG, dG, yX, dX, yE, dE, yC, dC, yD, dD, rfl, hin⟩ := hv.ex
    exact ⟨yT, dT, yI, dI, yF, dF, yB, dB, yM, dM, yG, dG, yX, dX, yE, dE, yC, dC, yD, dD, he, hb, hin⟩
theorem take_okM {s : ByteArray} {n : Mdl} (hs : s.size ≤ maxLen) (h : takeMd s = .ok n) (w : World) : Calls Tryz.prog 12 #[.string s] w fun e w2 => ∃ yT dT yI dI yF dF yB dB yM dM yG dG yX dX yE dE yC dC yD dD, e = .returned (.tuple #[.agg #[.slice yT n.types.length dT, .slice yI n.imports.length dI, .slice yF n.funcs.length dF, .slice yB n.tables.length dB, .slice yM n.mems.length dM, .slice yG n.globals.length dG, .slice yX n.exports.length dX, .int .i64 n.start, .slice yE n.elems.length dE, .slice yC n.codes.length dC, .slice yD n.datas.length dD], .int .i64 0]) ∧ Below w.heap.size w w2 ∧ MdlIn w2 n yT dT yI dI yF dF yB dB yM dM yG dG yX dX yE dE yC dC yD dD := by
  refine (TakeM_any s hs w).mono ?_
  rintro e w2 ⟨vs, f, he, hb, _, ⟨m', hm, rfl, hv⟩ | ⟨hm, _⟩⟩
  · rw [h] at hm
    injection hm with hm
    subst hm
    obtain ⟨yT, dT, yI, dI, yF, dF, yB, dB, yM, dM, yG, dG, yX, dX, yE, dE, yC, dC, yD, dD, rfl, hin⟩ := hv.ex
    exact ⟨yT, dT, yI, dI, yF, dF, yB, dB, yM, dM, yG, dG, yX, dX, yE, dE, yC, dC, yD, dD, he, hb, hin⟩
  · rw [h] at hm
    cases hm
theorem same_noM {w : World} {yT : Option Addr} {dT : Nat} {yI : Option Addr} {dI : Nat} {yF : Option Addr} {dF : Nat} {yB : Option Addr} {dB : Nat} {yM : Option Addr} {dM : Nat} {yG : Option Addr} {dG : Nat} {yX : Option Addr} {dX : Nat} {yE : Option Addr} {dE : Nat} {yC : Option Addr} {dC : Nat} {yD : Option Addr} {dD : Nat} (h : MdlIn w noM yT dT yI dI yF dF yB dB yM dM yG dG yX dX yE dE yC dC yD dD) : Calls Tryz.prog 13 #[.agg #[.slice yT 0 dT, .slice yI 0 dI, .slice yF 0 dF, .slice yB 0 dB, .slice yM 0 dM, .slice yG 0 dG, .slice yX 0 dX, .int .i64 0, .slice yE 0 dE, .slice yC 0 dC, .slice yD 0 dD], .agg #[.slice none 0 0, .slice none 0 0, .slice none 0 0, .slice none 0 0, .slice none 0 0, .slice none 0 0, .slice none 0 0, .int .i64 0, .slice none 0 0, .slice none 0 0, .slice none 0 0]] w fun e w' => e = .returned (.bool true) ∧ Below w.heap.size w w' :=
  SameM_any noM yT dT yI dI yF dF yB dB yM dM yG dG yX dX yE dE yC dC yD dD none 0 none 0 none 0 none 0 none 0 none 0 none 0 none 0 none 0 none 0 w noM_ok h (noM_in w)
set_option maxRecDepth 100000 in
set_option maxHeartbeats 4000000 in
theorem ModuleCut_walk (m : Mdl) (xT : Option Addr) (cT : Nat) (xI : Option Addr) (cI : Nat) (xF : Option Addr) (cF : Nat) (xB : Option Addr) (cB : Nat) (xM : Option Addr) (cM : Nat) (xG : Option Addr) (cG : Nat) (xX : Option Addr) (cX : Nat) (xE : Option Addr) (cE : Nat) (xC : Option Addr) (cC : Nat) (xD : Option Addr) (cD : Nat) (a : Int) (w : World) (hx : MdlIn w m xT cT xI cI xF cF xB cB xM cM xG cG xX cX xE cE xC cC xD cD) :
    Calls Tryz.prog 7 #[.agg #[.slice xT m.types.length cT, .slice xI m.imports.length cI, .slice xF m.funcs.length cF, .slice xB m.tables.length cB, .slice xM m.mems.length cM, .slice xG m.globals.length cG, .slice xX m.exports.length cX, .int .i64 m.start, .slice xE m.elems.length cE, .slice xC m.codes.length cC, .slice xD m.datas.length cD], .int .i64 a] w fun e w' => e = .returned (.bool true) ∧ Below w.heap.size w w' := by
  have b1 := BlkAt.new w #[.slice xT m.types.length cT, .slice xI m.imports.length cI, .slice xF m.funcs.length cF, .slice xB m.tables.length cB, .slice xM m.mems.length cM, .slice xG m.globals.length cG, .slice xX m.exports.length cX, .int .i64 m.start, .slice xE m.elems.length cE, .slice xC m.codes.length cC, .slice xD m.datas.length cD] 32
  have HB := Lib.hid ((Below.refl w.heap.size w).alloc (Nat.le_refl _) (.cells #[.slice xT m.types.length cT, .slice xI m.imports.length cI, .slice xF m.funcs.length cF, .slice xB m.tables.length cB, .slice xM m.mems.length cM, .slice xG m.globals.length cG, .slice xX m.exports.length cX, .int .i64 m.start, .slice xE m.elems.length cE, .slice xC m.codes.length cC, .slice xD m.datas.length cD] 32))
  have HA := Lib.hid awake6_any
  have HPU := fun (w' : World) (h : Below w.heap.size w w') => PutM_any m xT cT xI cI xF cF xB cB xM cM xG cG xX cX xE cE xC cC xD cD w' (hx.below h)
  have hwf := mdlWf_of hx
  have hb := Below.refl (w.alloc (.cells #[.slice xT m.types.length cT, .slice xI m.imports.length cI, .slice xF m.funcs.length cF, .slice xB m.tables.length cB, .slice xM m.mems.length cM, .slice xG m.globals.length cG, .slice xX m.exports.length cX, .int .i64 m.start, .slice xE m.elems.length cE, .slice xC m.codes.length cC, .slice xD m.datas.length cD] 32)).heap.size (w.alloc (.cells #[.slice xT m.types.length cT, .slice xI m.imports.length cI, .slice xF m.funcs.length cF, .slice xB m.tables.length cB, .slice xM m.mems.length cM, .slice xG m.globals.length cG, .slice xX m.exports.length cX, .int .i64 m.start, .slice xE m.elems.length cE, .slice xC m.codes.length cC, .slice xD m.datas.length cD] 32))
  obtain ⟨g0, g1, g2, g3, g4, g5, g6, g7, g8, g9, g10⟩ := b1.eleven
  clear b1 hx
  rcases lay_ways2 m with hl | hl | ⟨hl, ho, hlen⟩
  · rw [hl, show strOfNums [] = (⟨#[]⟩ : ByteArray) from rfl] at HPU
    have HP := Lib.hid HPU
    clear HPU hl
    go_enter Tryz.func7, Tryz.ntmps7
    go_wp2_with (first
    | (go_at_call 10; refine (HP.out _ (HB.out.trans (hb.mono HB.out.size))).mono ?_; rintro e w2 ⟨rfl, q2⟩; have hb2 := hb.trans (q2.mono hb.size); clear HP q2 hb g0 g1 g2 g3 g4 g5 g6 g7 g8 g9 g10)
    | (go_at_call 9; refine (HA.out _).mono ?_; rintro e w9 ⟨rfl, q9⟩; have hb9 := hb2.trans (q9.mono hb2.size); clear q9))
    all_goals
      go_ret
      exact ⟨rfl, HB.out.trans (hb9.mono HB.out.size)⟩
  · rw [hl, show strOfNums [] = (⟨#[]⟩ : ByteArray) from rfl] at HPU
    have HP := Lib.hid HPU
    clear HPU hl
    go_enter Tryz.func7, Tryz.ntmps7
    go_wp2_with (first
    | (go_at_call 10; refine (HP.out _ (HB.out.trans (hb.mono HB.out.size))).mono ?_; rintro e w2 ⟨rfl, q2⟩; have hb2 := hb.trans (q2.mono hb.size); clear HP q2 hb g0 g1 g2 g3 g4 g5 g6 g7 g8 g9 g10)
    | (go_at_call 9; refine (HA.out _).mono ?_; rintro e w9 ⟨rfl, q9⟩; have hb9 := hb2.trans (q9.mono hb2.size); clear q9))
    all_goals
      go_ret
      exact ⟨rfl, HB.out.trans (hb9.mono HB.out.size)⟩
  · rw [hl] at HPU
    have HP := Lib.hid HPU
    have hcut := takeM_cut ho hwf hlen
    have hex := ext_take (bMod m)
    have hsz := strOfNums_size (bMod m)
    have HB2 := Lib.hid (show (bMod m).length ≤ 65536 from hlen)
    clear HPU hl ho hwf hlen
    revert HP
    generalize strOfNums (bMod m) = S at hex hsz
    intro HP
    by_cases hneg : a < 0
    · clear hcut hex hsz
      go_enter Tryz.func7, Tryz.ntmps7
      go_wp2_with (first
      | (go_at_call 10; refine (HP.out _ (HB.out.trans (hb.mono HB.out.size))).mono ?_; rintro e w2 ⟨rfl, q2⟩; have hb2 := hb.trans (q2.mono hb.size); clear HP q2 hb g0 g1 g2 g3 g4 g5 g6 g7 g8 g9 g10)
      | (go_at_call 9; refine (HA.out _).mono ?_; rintro e w9 ⟨rfl, q9⟩; have hb9 := hb2.trans (q9.mono hb2.size); clear q9))
      all_goals
        go_ret
        exact ⟨rfl, HB.out.trans (hb9.mono HB.out.size)⟩
    obtain ⟨j, rfl⟩ : ∃ j : Nat, a = j := ⟨a.toNat, by omega⟩
    by_cases hge : (S.size : Int) ≤ (j : Int)
    · clear hcut hex hsz
      go_enter Tryz.func7, Tryz.ntmps7
      go_wp2_with (first
      | (go_at_call 10; refine (HP.out _ (HB.out.trans (hb.mono HB.out.size))).mono ?_; rintro e w2 ⟨rfl, q2⟩; have hb2 := hb.trans (q2.mono hb.size); clear HP q2 hb g0 g1 g2 g3 g4 g5 g6 g7 g8 g9 g10)
      | (go_at_call 9; refine (HA.out _).mono ?_; rintro e w9 ⟨rfl, q9⟩; have hb9 := hb2.trans (q9.mono hb2.size); clear q9))
      all_goals
        go_ret
        exact ⟨rfl, HB.out.trans (hb9.mono HB.out.size)⟩
    have hjl : j < (bMod m).length := by omega
    have hjs : j ≤ S.size := by omega
    have hS : S.size ≤ 65536 := by have := HB2.out; omega
    have hmax : (S.extract 0 j).size ≤ maxLen := by rw [ByteArray.size_extract]; unfold maxLen; omega
    rcases hcut j hjl with h | ⟨n, h, hon, hwn, hbn⟩
    · rw [← hex j (by omega)] at h
      have HT := Lib.hid (take_err hmax h)
      clear hcut hex hsz h hmax
      go_enter Tryz.func7, Tryz.ntmps7
      go_wp2_with (first
      | (go_at_call 10; refine (HP.out _ (HB.out.trans (hb.mono HB.out.size))).mono ?_; rintro e w2 ⟨rfl, q2⟩; have hb2 := hb.trans (q2.mono hb.size); clear HP q2 hb g0 g1 g2 g3 g4 g5 g6 g7 g8 g9 g10)
      | (go_at_call 12; refine (HT.out _).mono ?_; rintro e w3 ⟨yT, dT, yI, dI, yF, dF, yB, dB, yM, dM, yG, dG, yX, dX, yE, dE, yC, dC, yD, dD, rfl, q3, hy⟩; have hb3 := hb2.trans (q3.mono hb2.size); have bz := (Below.refl w3.heap.size w3).alloc (Nat.le_refl _) (.cells #[.slice yT 0 dT, .slice yI 0 dI, .slice yF 0 dF, .slice yB 0 dB, .slice yM 0 dM, .slice yG 0 dG, .slice yX 0 dX, .int .i64 0, .slice yE 0 dE, .slice yC 0 dC, .slice yD 0 dD] 32); have hb4 := hb3.trans (bz.mono hb3.size); have HSM := Lib.hid (same_noM (hy.below bz)); clear HT q3 hb2 hb3 bz hy)
      | (go_at_call 13; refine HSM.out.mono ?_; rintro e w5 ⟨rfl, q5⟩; have hb5 := hb4.trans (q5.mono hb4.size); clear HSM q5 hb4)
      | (go_at_call 9; refine (HA.out _).mono ?_; rintro e w9 ⟨rfl, q9⟩; have hb9 := hb5.trans (q9.mono hb5.size); clear q9))
      all_goals
        go_ret
        exact ⟨rfl, HB.out.trans (hb9.mono HB.out.size)⟩
    · have hln : layV n = (bMod n, 0) := by
        rw [layV_eq, if_pos hon, if_neg (by rw [hbn, List.length_take]; have := HB2.out; omega)]
      rw [hbn] at hln
      rw [← hex j (by omega)] at h
      have HT := Lib.hid (take_okM hmax h)
      have HPN :=  fun (yT : Option Addr) (dT : Nat) (yI : Option Addr) (dI : Nat) (yF : Option Addr) (dF : Nat) (yB : Option Addr) (dB : Nat) (yM : Option Addr) (dM : Nat) (yG : Option Addr) (dG : Nat) (yX : Option Addr) (dX : Nat) (yE : Option Addr) (dE : Nat) (yC : Option Addr) (dC : Nat) (yD : Option Addr) (dD : Nat) (w' : World) (h : MdlIn w' n yT dT yI dI yF dF yB dB yM dM yG dG yX dX yE dE yC dC yD dD) => PutM_any n yT dT yI dI yF dF yB dB yM dM yG dG yX dX yE dE yC dC yD dD w' h
      have HPM : Hid (∀ (yT : Option Addr) (dT : Nat) (yI : Option Addr) (dI : Nat) (yF : Option Addr) (dF : Nat) (yB : Option Addr) (dB : Nat) (yM : Option Addr) (dM : Nat) (yG : Option Addr) (dG : Nat) (yX : Option Addr) (dX : Nat) (yE : Option Addr) (dE : Nat) (yC : Option Addr) (dC : Nat) (yD : Option Addr) (dD : Nat) (w' : World), MdlIn w' n yT dT yI dI yF dF yB dB yM dM yG dG yX dX yE dE yC dC yD dD → Calls Tryz.prog 10 #[.agg #[.slice yT n.types.length dT, .slice yI n.imports.length dI, .slice yF n.funcs.length dF, .slice yB n.tables.length dB, .slice yM n.mems.length dM, .slice yG n.globals.length dG, .slice yX n.exports.length dX, .int .i64 n.start, .slice yE n.elems.length dE, .slice yC n.codes.length dC, .slice yD n.datas.length dD]] w' fun e w2 => e = .returned (.tuple #[.string (S.extract 0 j), .int .i64 0]) ∧ Below w'.heap.size w' w2) := Lib.hid fun yT dT yI dI yF dF yB dB yM dM yG dG yX dX yE dE yC dC yD dD w' h => by
        have := HPN yT dT yI dI yF dF yB dB yM dM yG dG yX dX yE dE yC dC yD dD w' h
        rw [hln] at this
        rw [hex j (by omega)]
        exact this
      clear hcut hex hsz h hmax HPN hln hon hwn hbn
      go_enter Tryz.func7, Tryz.ntmps7
      go_wp2_with (first
      | (go_at_call 10; refine (HP.out _ (HB.out.trans (hb.mono HB.out.size))).mono ?_; rintro e w2 ⟨rfl, q2⟩; have hb2 := hb.trans (q2.mono hb.size); clear HP q2 hb g0 g1 g2 g3 g4 g5 g6 g7 g8 g9 g10)
      | (go_at_call 12; refine (HT.out _).mono ?_; rintro e w3 ⟨yT, dT, yI, dI, yF, dF, yB, dB, yM, dM, yG, dG, yX, dX, yE, dE, yC, dC, yD, dD, rfl, q3, hy⟩; have hb3 := hb2.trans (q3.mono hb2.size); have bz := (Below.refl w3.heap.size w3).alloc (Nat.le_refl _) (.cells #[.slice yT n.types.length dT, .slice yI n.imports.length dI, .slice yF n.funcs.length dF, .slice yB n.tables.length dB, .slice yM n.mems.length dM, .slice yG n.globals.length dG, .slice yX n.exports.length dX, .int .i64 n.start, .slice yE n.elems.length dE, .slice yC n.codes.length dC, .slice yD n.datas.length dD] 32); have hb4 := hb3.trans (bz.mono hb3.size); have HPO := Lib.hid (HPM.out yT dT yI dI yF dF yB dB yM dM yG dG yX dX yE dE yC dC yD dD _ (hy.below bz)); clear HT q3 hb2 hb3 bz hy HPM)
      | (go_at_call 10; refine HPO.out.mono ?_; rintro e w5 ⟨rfl, q5⟩; have hb5 := hb4.trans (q5.mono hb4.size); clear HPO q5 hb4)
      | (go_at_call 9; refine (HA.out _).mono ?_; rintro e w9 ⟨rfl, q9⟩; have hb9 := hb5.trans (q9.mono hb5.size); clear q9))
      all_goals
        go_ret
        exact ⟨rfl, HB.out.trans (hb9.mono HB.out.size)⟩
end Go.Proofs.YtekonefnniaheaaGreat
namespace Go.Proofs.YtekonefnniaheaaGreat
open Go.RowKit Go.Deep
open Leb (byt byt_lt byt_get len7 sum7 putU putS)

section
variable {X Y : Type}
/-- What is read is good, and its bytes are no more than those that were read. -/
def Only (R : Rd X) (P : X → Prop) (b : X → List Int) : Prop := ∀ s x r, R s = .ok (x, r) → P x ∧ (b x).length + r.size ≤ s.size
theorem bind_inv {R : Rd X} {R2 : X → Rd Y} {s r : ByteArray} {y : Y} (h : bindR R R2 s = .ok (y, r)) : ∃ x r1, R s = .ok (x, r1) ∧ R2 x r1 = .ok (y, r) := by
  cases hR : R s with
  | error e =>
    rw [bindR_err hR] at h
    cases h
  | ok q =>
    rw [bindR_ok hR] at h
    exact ⟨q.1, q.2, rfl, h⟩
theorem pure_inv {x y : X} {s r : ByteArray} (h : pureR x s = .ok (y, r)) : y = x ∧ r = s := by
  unfold pureR at h
  injection h with h
  injection h with h1 h2
  exact ⟨h1.symm, h2.symm⟩
theorem map_inv {R : Rd X} {k : X → Y} {s r : ByteArray} {y : Y} (h : mapR k R s = .ok (y, r)) : ∃ x, R s = .ok (x, r) ∧ y = k x := by
  obtain ⟨x, r1, h1, h2⟩ := bind_inv h
  obtain ⟨e1, rfl⟩ := pure_inv h2
  exact ⟨x, h1, e1⟩
theorem need_inv {R : Rd X} {p : X → Bool} {e : Int} {s r : ByteArray} {x : X} (h : needR R p e s = .ok (x, r)) : R s = .ok (x, r) ∧ p x = true := by
  obtain ⟨y, r1, h1, h2⟩ := bind_inv h
  by_cases hp : p y = true
  · rw [if_pos hp] at h2
    obtain ⟨rfl, rfl⟩ := pure_inv h2
    exact ⟨h1, hp⟩
  · rw [if_neg hp] at h2
    cases h2
theorem byte_only {s r : ByteArray} {c : Int} (h : byteR s = .ok (c, r)) : (0 ≤ c ∧ c < 256) ∧ 1 + r.size ≤ s.size := by
  unfold byteR at h
  by_cases hz : s.size = 0
  · rw [if_pos hz] at h
    cases h
  · rw [if_neg hz] at h
    injection h with h
    injection h with h1 h2
    subst h1 h2
    have := byt_lt s 0
    rw [ByteArray.size_extract]
    omega
theorem up_only {most : Int} {s r : ByteArray} {c : Int} (h : upR most s = .ok (c, r)) : (0 ≤ c ∧ c ≤ most) ∧ 1 + r.size ≤ s.size := by
  obtain ⟨h1, h2⟩ := need_inv h
  have := byte_only h1
  have := of_decide_eq_true h2
  omega
theorem this_only {c0 : Int} {s r : ByteArray} {c : Int} (h : onlyR c0 s = .ok (c, r)) : c = c0 ∧ 1 + r.size ≤ s.size := by
  obtain ⟨h1, h2⟩ := need_inv h
  exact ⟨by simpa using h2, (byte_only h1).2⟩
theorem rep_only {R : Rd X} {P : X → Prop} {b : X → List Int} (hR : Only R P b) : ∀ (n : Nat) (s r : ByteArray) (l : List X), repR R n s = .ok (l, r) → l.length = n ∧ (∀ t ∈ l, P t) ∧ (l.flatMap b).length + r.size ≤ s.size
  | 0, s, r, l, h => by
    obtain ⟨rfl, rfl⟩ := pure_inv h
    exact ⟨rfl, fun t ht => absurd ht List.not_mem_nil, by simp⟩
  | n + 1, s, r, l, h => by
    obtain ⟨x, r1, h1, h2⟩ := bind_inv h
    obtain ⟨l', h3, rfl⟩ := map_inv h2
    obtain ⟨k1, k2⟩ := hR _ _ _ h1
    obtain ⟨q1, q2, q3⟩ := rep_only hR n _ _ _ h3
    refine ⟨by rw [List.length_cons, q1], fun t ht => ?_, ?_⟩
    · rcases List.mem_cons.1 ht with rfl | ht
      · exact k1
      · exact q2 t ht
    · rw [List.flatMap_cons, List.length_append]
      omega
theorem list_only {R : Rd X} {P : X → Prop} {b : X → List Int} (hR : Only R P b) {most : Int} {s r : ByteArray} {l : List X} (h : listR most R s = .ok (l, r)) : (l.length : Int) ≤ most ∧ (∀ t ∈ l, P t) ∧ (bList b l).length + r.size ≤ s.size := by
  obtain ⟨n, r1, h1, h2⟩ := bind_inv h
  obtain ⟨h3, h4⟩ := need_inv h1
  obtain ⟨⟨k1, k2⟩, k3⟩ := uT_only h3
  obtain ⟨q1, q2, q3⟩ := rep_only hR _ _ _ _ h2
  have h5 := of_decide_eq_true h4
  have e : (l.length : Int) = n := by omega
  refine ⟨by omega, q2, ?_⟩
  unfold bList
  rw [List.length_append, e]
  omega
theorem oList_of {most : Int} {ok : X → Bool} {l : List X} (h1 : (l.length : Int) ≤ most) (h2 : ∀ t ∈ l, ok t = true) : oList most ok l = true := by
  unfold oList
  rw [decide_eq_true h1, Bool.true_and]
  exact List.all_eq_true.2 h2
end
theorem only_u : Only uT (fun n => oIdx n = true) putU := fun s x r h => by
  obtain ⟨h1, h2⟩ := uT_only h
  exact ⟨decide_eq_true h1, h2⟩
theorem only_typ : Only yT (fun t => oTyp t = true) bTyp := fun s x r h => by
  obtain ⟨h1, _, h3, _⟩ := yT_only h
  exact ⟨decide_eq_true h1, h3⟩
theorem only_ft : Only ftR (fun t => oFT t = true) bFT := fun s x r h => by
  obtain ⟨c, r1, h1, h2⟩ := bind_inv h
  obtain ⟨p, r2, h3, h4⟩ := bind_inv h2
  obtain ⟨q, h5, rfl⟩ := map_inv h4
  obtain ⟨rfl, k1⟩ := this_only h1
  obtain ⟨l1, l2, l3⟩ := list_only only_typ h3
  obtain ⟨m1, m2, m3⟩ := list_only only_typ h5
  refine ⟨?_, ?_⟩
  · show (oList 32 oTyp p && oList 32 oTyp q) = true
    rw [oList_of l1 l2, oList_of m1 m2]
    rfl
  · show ([96 % 256] ++ bList bTyp p ++ bList bTyp q).length + r.size ≤ s.size
    rw [List.length_append, List.length_append, List.length_singleton]
    omega
theorem only_lim : Only limR (fun x => oLim x.mn x.mx = true) (fun x => bLim x.mn x.mx) := fun s x r h => by
  obtain ⟨c, r1, h1, h2⟩ := bind_inv h
  obtain ⟨mn, r2, h3, h4⟩ := bind_inv h2
  obtain ⟨_, k1⟩ := up_only h1
  obtain ⟨l1, l2⟩ := only_u _ _ _ h3
  by_cases hc : (c == 1) = true
  · rw [if_pos hc] at h4
    obtain ⟨mx, h5, rfl⟩ := map_inv h4
    obtain ⟨m1, m2⟩ := only_u _ _ _ h5
    have hm := of_decide_eq_true m1
    have hx : ¬ mx = -1 := by omega
    refine ⟨?_, ?_⟩
    · show oLim mn mx = true
      unfold oLim
      rw [if_neg hx, l1, m1]
      rfl
    · show (bLim mn mx).length + r.size ≤ s.size
      unfold bLim
      rw [if_neg hx, List.length_append, List.length_append, List.length_singleton]
      omega
  · rw [if_neg hc] at h4
    obtain ⟨rfl, rfl⟩ := pure_inv h4
    refine ⟨?_, ?_⟩
    · show oLim mn (-1) = true
      unfold oLim
      rw [if_pos rfl, l1]
    · show (bLim mn (-1)).length + r.size ≤ s.size
      unfold bLim
      rw [if_pos rfl, List.length_append, List.length_singleton]
      omega
theorem only_tab : Only tabR (fun x => oLim x.mn x.mx = true) (fun x => bTab x.mn x.mx) := fun s x r h => by
  obtain ⟨c, r1, h1, h2⟩ := bind_inv h
  obtain ⟨_, k1⟩ := this_only h1
  obtain ⟨l1, l2⟩ := only_lim _ _ _ h2
  replace l2 : (bLim x.mn x.mx).length + r.size ≤ r1.size := l2
  refine ⟨l1, ?_⟩
  show (bTab x.mn x.mx).length + r.size ≤ s.size
  unfold bTab
  rw [List.length_append, List.length_singleton]
  omega
theorem only_bytes : Only bytesR (fun _ => True) bStr := fun s x r h => by
  rw [bytesR_eq] at h
  cases hu : uT s with
  | error e =>
    rw [hu] at h
    cases h
  | ok q =>
    rw [hu] at h
    obtain ⟨⟨k1, k2⟩, k3⟩ := uT_only (n := q.1) (r := q.2) hu
    replace h : (if q.1 ≤ (q.2.size : Int) then (Except.ok (q.2.extract 0 q.1.toNat, q.2.extract q.1.toNat q.2.size) : Except Int (ByteArray × ByteArray)) else .error 2) = Except.ok (x, r) := h
    by_cases hl : q.1 ≤ (q.2.size : Int)
    · rw [if_pos hl] at h
      injection h with h
      injection h with e1 e2
      subst e1 e2
      have hz : (q.2.extract 0 q.1.toNat).size = q.1.toNat := by rw [ByteArray.size_extract]; omega
      refine ⟨trivial, ?_⟩
      unfold bStr
      rw [List.length_append, bl_length, hz, show ((q.1.toNat : Nat) : Int) = q.1 by omega, ByteArray.size_extract]
      omega
    · rw [if_neg hl] at h
      cases h
theorem only_name : Only nameR (fun x => nameB x = true) bStr := fun s x r h => by
  obtain ⟨h1, h2⟩ := need_inv h
  obtain ⟨h3, h4⟩ := need_inv h1
  refine ⟨?_, (only_bytes _ _ _ h3).2⟩
  show nameB x = true
  unfold nameB
  rw [h4, h2]
  rfl
theorem only_yes : Only yesR (fun _ => True) bYes := fun s x r h => by
  obtain ⟨c, h1, rfl⟩ := map_inv h
  exact ⟨trivial, (up_only h1).2⟩
theorem only_ins : Only takeT (fun ls => oIns ls = true ∧ wfL ls) bIns := fun s x r h => by
  obtain ⟨h1, h2, h3, h4⟩ := takeT_only h
  have hc : (cP 0 0 x).2 = true := by
    unfold cP
    rw [if_pos ⟨h1, by omega⟩]
  refine ⟨⟨?_, h2⟩, ?_⟩
  · unfold oIns putV
    rw [hc]
    rfl
  · unfold bIns putV
    rw [if_pos hc]
    exact h4
theorem only_const : Only constR (fun c => oIns [c] = true ∧ wfI c) (fun c => bIns [c]) := fun s x r h => by
  obtain ⟨ls, r1, h1, h2⟩ := bind_inv h
  obtain ⟨⟨k1, k2⟩, k3⟩ := only_ins _ _ _ h1
  by_cases hl : ls.length = 1
  · rw [if_pos hl] at h2
    obtain ⟨rfl, rfl⟩ := pure_inv h2
    obtain ⟨c, rfl⟩ := List.length_eq_one_iff.1 hl
    refine ⟨⟨k1, ?_⟩, k3⟩
    rw [wfL] at k2
    exact k2.1
  · rw [if_neg hl] at h2
    cases h2
end Go.Proofs.YtekonefnniaheaaGreat
namespace Go.Proofs.YtekonefnniaheaaGreat
open Go.RowKit Go.Deep
open Leb (byt byt_lt byt_get len7 sum7 putU putS)

theorem only_imp : Only impR (fun x => oImp x = true) bImp := fun s x r h => by
  obtain ⟨md, r1, h1, h⟩ := bind_inv h
  obtain ⟨nm, r2, h2, h⟩ := bind_inv h
  obtain ⟨k, r3, h3, h⟩ := bind_inv h
  obtain ⟨a1, a2⟩ := only_name _ _ _ h1
  obtain ⟨b1, b2⟩ := only_name _ _ _ h2
  obtain ⟨c1, c2⟩ := up_only h3
  have hk : oKind k = true := decide_eq_true c1
  unfold impK2 at h
  have key : ∀ y : Imp, y.mod = md → y.name = nm → y.kind = k → oImpK y = true → ownB y = true → (bImpK y).length + r.size ≤ r3.size → oImp y = true ∧ (bImp y).length + r.size ≤ s.size := by
    intro y e1 e2 e3 o1 o2 l
    refine ⟨?_, ?_⟩
    · unfold oImp
      rw [e1, e2, e3, a1, b1, hk, o1, o2]
      rfl
    · unfold bImp
      rw [e1, e2, e3, List.length_append, List.length_append, List.length_append, List.length_singleton]
      omega
  by_cases k0 : k = 0
  · rw [if_pos k0] at h
    obtain ⟨t, h4, rfl⟩ := map_inv h
    obtain ⟨d1, d2⟩ := only_u _ _ _ h4
    refine key _ rfl rfl rfl ?_ ?_ ?_
    · unfold oImpK
      rw [if_pos k0]
      exact d1
    · unfold ownB
      rw [if_pos k0]
      rfl
    · unfold bImpK
      rw [if_pos k0]
      exact d2
  rw [if_neg k0] at h
  by_cases k1 : k = 1
  · rw [if_pos k1] at h
    obtain ⟨t, h4, rfl⟩ := map_inv h
    obtain ⟨d1, d2⟩ := only_tab _ _ _ h4
    refine key _ rfl rfl rfl ?_ ?_ ?_
    · unfold oImpK
      rw [if_neg k0, if_pos k1]
      exact d1
    · unfold ownB
      rw [if_neg k0, if_neg (show ¬ k = 3 by omega)]
      rfl
    · unfold bImpK
      rw [if_neg k0, if_pos k1]
      exact d2
  rw [if_neg k1] at h
  by_cases k2 : k = 2
  · rw [if_pos k2] at h
    obtain ⟨t, h4, rfl⟩ := map_inv h
    obtain ⟨d1, d2⟩ := only_lim _ _ _ h4
    refine key _ rfl rfl rfl ?_ ?_ ?_
    · unfold oImpK
      rw [if_neg k0, if_neg k1, if_pos k2]
      exact d1
    · unfold ownB
      rw [if_neg k0, if_neg (show ¬ k = 3 by omega)]
      rfl
    · unfold bImpK
      rw [if_neg k0, if_neg k1, if_pos k2]
      exact d2
  rw [if_neg k2, if_pos (show k = 3 by omega)] at h
  obtain ⟨t, r4, h4, h⟩ := bind_inv h
  obtain ⟨b, h5, rfl⟩ := map_inv h
  obtain ⟨d1, d2⟩ := only_typ _ _ _ h4
  obtain ⟨_, f2⟩ := only_yes _ _ _ h5
  have k3 : k = 3 := by omega
  refine key _ rfl rfl rfl ?_ ?_ ?_
  · unfold oImpK
    rw [if_neg k0, if_neg k1, if_neg k2, if_pos k3]
    exact d1
  · unfold ownB
    rw [if_neg k0, if_pos k3]
    rfl
  · unfold bImpK
    rw [if_neg k0, if_neg k1, if_neg k2, if_pos k3, List.length_append]
    show (bTyp t).length + (bYes b).length + _ ≤ _
    omega
theorem only_exp : Only expR (fun x => oExp x = true) bExp := fun s x r h => by
  obtain ⟨nm, r1, h1, h⟩ := bind_inv h
  obtain ⟨k, r2, h2, h⟩ := bind_inv h
  obtain ⟨i, h3, rfl⟩ := map_inv h
  obtain ⟨a1, a2⟩ := only_name _ _ _ h1
  obtain ⟨c1, c2⟩ := up_only h2
  obtain ⟨d1, d2⟩ := only_u _ _ _ h3
  have hk : oKind k = true := decide_eq_true c1
  refine ⟨?_, ?_⟩
  · show (nameB nm && oKind k && oIdx i) = true
    rw [a1, hk, d1]
    rfl
  · show (bStr nm ++ [k % 256] ++ putU i).length + r.size ≤ s.size
    rw [List.length_append, List.length_append, List.length_singleton]
    omega
theorem only_glo : Only gloR (fun x => oGlo x = true ∧ wfI x.init) bGlo := fun s x r h => by
  obtain ⟨t, r1, h1, h⟩ := bind_inv h
  obtain ⟨b, r2, h2, h⟩ := bind_inv h
  obtain ⟨c, h3, rfl⟩ := map_inv h
  obtain ⟨a1, a2⟩ := only_typ _ _ _ h1
  obtain ⟨_, b2⟩ := only_yes _ _ _ h2
  obtain ⟨⟨c1, c2⟩, c3⟩ := only_const _ _ _ h3
  refine ⟨⟨?_, c2⟩, ?_⟩
  · show (oTyp t && oIns [c]) = true
    rw [a1, c1]
    rfl
  · show (bTyp t ++ bYes b ++ bIns [c]).length + r.size ≤ s.size
    rw [List.length_append, List.length_append]
    replace c3 : (bIns [c]).length + r.size ≤ r2.size := c3
    omega
theorem putU_small {n : Int} (h : 0 ≤ n) (h1 : n < 128) : (putU n).length = 1 := putU_one h h1
/-- Where it lies: a number, and whether it was written; it is laid in no more bytes. -/
theorem where_only {s r : ByteArray} {q : Int × Bool} (h : whereR s = .ok (q, r)) : oWhere q.1 = true ∧ (bWhere q.1).length + r.size ≤ s.size ∧ (¬ q.1 = 0 → q.2 = true) := by
  obtain ⟨n, r1, h1, h⟩ := bind_inv h
  obtain ⟨a1, a2⟩ := only_u _ _ _ h1
  have hp := putU_pos (n := n) (of_decide_eq_true a1).1
  by_cases n0 : n = 0
  · rw [if_pos n0] at h
    obtain ⟨rfl, rfl⟩ := pure_inv h
    refine ⟨rfl, ?_, fun k => absurd rfl k⟩
    show 1 + r.size ≤ s.size
    omega
  rw [if_neg n0] at h
  by_cases n2 : n = 2
  · rw [if_pos n2] at h
    obtain ⟨t, h2, rfl⟩ := map_inv h
    obtain ⟨b1, b2⟩ := only_u _ _ _ h2
    refine ⟨?_, ?_, fun _ => rfl⟩
    · show oWhere t = true
      unfold oWhere
      by_cases t0 : t = 0
      · rw [if_pos t0]
      · rw [if_neg t0, b1]
    · show (bWhere t).length + r.size ≤ s.size
      unfold bWhere
      by_cases t0 : t = 0
      · rw [if_pos t0, List.length_singleton]
        omega
      · rw [if_neg t0, List.length_append, List.length_singleton]
        omega
  · rw [if_neg n2] at h
    cases h
theorem only_dat : Only datR (fun x => oDat x = true ∧ wfI x.off) bDat := fun s x r h => by
  obtain ⟨q, r1, h1, h⟩ := bind_inv h
  obtain ⟨c, r2, h2, h⟩ := bind_inv h
  obtain ⟨b, h3, rfl⟩ := map_inv h
  obtain ⟨a1, a2, _⟩ := where_only h1
  obtain ⟨⟨c1, c2⟩, c3⟩ := only_const _ _ _ h2
  obtain ⟨_, d2⟩ := only_bytes _ _ _ h3
  refine ⟨⟨?_, c2⟩, ?_⟩
  · show (oWhere q.1 && oIns [c]) = true
    rw [a1, c1]
    rfl
  · show (bWhere q.1 ++ bIns [c] ++ bStr b).length + r.size ≤ s.size
    rw [List.length_append, List.length_append]
    replace c3 : (bIns [c]).length + r2.size ≤ r1.size := c3
    omega
theorem only_ele : Only eleR (fun x => oEle x = true ∧ wfI x.off) bEle := fun s x r h => by
  obtain ⟨q, r1, h1, h⟩ := bind_inv h
  obtain ⟨c, r2, h2, h⟩ := bind_inv h
  obtain ⟨u, r3, h3, h⟩ := bind_inv h
  obtain ⟨f, h4, rfl⟩ := map_inv h
  obtain ⟨a1, a2, a3⟩ := where_only h1
  obtain ⟨⟨c1, c2⟩, c3⟩ := only_const _ _ _ h2
  obtain ⟨d1, d2, d3⟩ := list_only only_u h4
  replace c3 : (bIns [c]).length + r2.size ≤ r1.size := c3
  have hf : r3.size ≤ r2.size ∧ (q.2 = true → 1 + r3.size ≤ r2.size) := by
    unfold formR at h3
    by_cases hq : q.2 = true
    · rw [if_pos hq] at h3
      obtain ⟨z, h5, _⟩ := map_inv h3
      obtain ⟨h6, _⟩ := need_inv h5
      obtain ⟨e1, e2⟩ := only_u _ _ _ h6
      have := putU_pos (n := z) (of_decide_eq_true e1).1
      exact ⟨by omega, fun _ => by omega⟩
    · rw [if_neg hq] at h3
      obtain ⟨_, rfl⟩ := pure_inv h3
      exact ⟨Nat.le_refl _, fun k => absurd k hq⟩
  refine ⟨⟨?_, c2⟩, ?_⟩
  · show (oWhere q.1 && oIns [c] && oList 1000 oIdx f) = true
    rw [a1, c1, oList_of d1 d2]
    rfl
  · show ((if q.1 = 0 then bWhere q.1 ++ bIns [c] else bWhere q.1 ++ bIns [c] ++ [0 % 256]) ++ bList putU f).length + r.size ≤ s.size
    by_cases q0 : q.1 = 0
    · rw [if_pos q0, List.length_append, List.length_append]
      omega
    · have := hf.2 (a3 q0)
      rw [if_neg q0, List.length_append, List.length_append, List.length_append, List.length_singleton]
      omega
end Go.Proofs.YtekonefnniaheaaGreat
namespace Go.Proofs.YtekonefnniaheaaGreat
open Go.RowKit Go.Deep
open Leb (byt byt_lt byt_get len7 sum7 putU putS)

theorem putU_two_of {n : Int} (h : 128 ≤ n) (h1 : n < 16384) : (putU n).length = 2 := by
  unfold putU
  rw [if_neg (by omega), Leb.putF_next 9 n h, Leb.putF_last 8 (n / 128) (by omega)]
  rfl
theorem putU_more {n : Int} (h : 128 ≤ n) : 2 ≤ (putU n).length := by
  unfold putU
  rw [if_neg (by omega), Leb.putF_next 9 n h]
  have : 0 < (putU (n / 128)).length := putU_pos (by omega)
  unfold putU at this
  rw [if_neg (by omega)] at this
  by_cases h2 : n / 128 < 128
  · rw [Leb.putF_last 8 _ h2]
    simp
  · rw [Leb.putF_next 8 _ (by omega)]
    simp
theorem putU_mono256 {a b : Int} (h0 : 0 ≤ a) (h : a ≤ b) (h1 : a ≤ 256) : (putU a).length ≤ (putU b).length := by
  by_cases ha : a < 128
  · rw [putU_one h0 ha]
    exact putU_pos (by omega)
  · rw [putU_two_of (by omega) (by omega)]
    exact putU_more (by omega)
theorem putU_256 {a : Int} (h0 : 0 ≤ a) (h1 : a ≤ 256) : (putU a).length ≤ 2 := by
  by_cases ha : a < 128
  · rw [putU_one h0 ha]
    omega
  · rw [putU_two_of (by omega) (by omega)]
    exact Nat.le_refl _
/-- The rows' bytes. -/
def byR (rs : List (Int × Int)) : Nat := (rs.flatMap bRow).length
theorem byR_app (a b : List (Int × Int)) : byR (a ++ b) = byR a + byR b := by
  unfold byR
  rw [List.flatMap_append, List.length_append]
theorem byR_one (n t : Int) : byR [(n, t)] = (putU n).length + 1 := by
  unfold byR
  rw [List.flatMap_cons, List.flatMap_nil, List.append_nil]
  unfold bRow
  rw [List.length_append]
  rfl
theorem fold_same (rs : List (Int × Int)) (t : Int) : ∀ (k : Nat) (n : Int), (List.replicate k t).foldl addRow (rs ++ [(n, t)]) = rs ++ [(n + k, t)]
  | 0, n => by simp
  | k + 1, n => by
    rw [List.replicate_succ, List.foldl_cons, addRow_same, fold_same rs t k]
    rw [show n + 1 + (k : Int) = n + ((k + 1 : Nat) : Int) by omega]
/-- Locals of one type more: at most a row more, and no more bytes than a row of its own. -/
theorem fold_row (rs : List (Int × Int)) (t : Int) (k : Nat) (hk : k ≤ 256) (hr : ∀ q ∈ rs, 0 ≤ q.1 ∧ q.1 + k ≤ 256) (ho : oTyp t = true) (hq : ∀ q ∈ rs, oTyp q.2 = true) :
    ((List.replicate k t).foldl addRow rs).length ≤ rs.length + 1 ∧ byR ((List.replicate k t).foldl addRow rs) ≤ byR rs + byR [((k : Int), t)] ∧ (∀ q ∈ (List.replicate k t).foldl addRow rs, oTyp q.2 = true) := by
  cases k with
  | zero => exact ⟨Nat.le_succ _, Nat.le_add_right _ _, hq⟩
  | succ k =>
    rw [List.replicate_succ, List.foldl_cons]
    rcases List.eq_nil_or_concat rs with rfl | ⟨r, ⟨n, u⟩, rfl⟩
    · rw [show addRow [] t = [] ++ [(1, t)] from rfl, fold_same]
      refine ⟨by simp, ?_, fun q h => ?_⟩
      · rw [List.nil_append, show (1 : Int) + (k : Int) = ((k + 1 : Nat) : Int) by omega]
        exact Nat.le_add_left _ _
      · rw [List.nil_append, List.mem_singleton] at h
        rw [h]
        exact ho
    · rw [List.concat_eq_append] at hr hq ⊢
      by_cases e : t = u
      · subst e
        obtain ⟨h0, h1⟩ := hr (n, t) (by simp)
        replace h0 : 0 ≤ n := h0
        replace h1 : n + ((k + 1 : Nat) : Int) ≤ 256 := h1
        rw [addRow_same, fold_same, byR_app, byR_app, byR_one, byR_one, byR_one, List.length_append, List.length_append]
        have l1 := putU_256 (a := n + 1 + k) (by omega) (by omega)
        have l2 := putU_pos h0
        have l3 := putU_pos (n := ((k + 1 : Nat) : Int)) (by omega)
        refine ⟨by simp, by omega, fun q h => ?_⟩
        rcases List.mem_append.1 h with h | h
        · exact hq q (List.mem_append_left _ h)
        · rw [List.mem_singleton.1 h]
          exact ho
      · have ha := addRow_new (rs := r ++ [(n, u)]) (t := t) (fun q hq => by
          rw [List.getLast?_append, List.getLast?_singleton] at hq
          simp at hq
          rw [← hq]
          exact e)
        rw [ha, fold_same, byR_app, show (1 : Int) + (k : Int) = ((k + 1 : Nat) : Int) by omega, List.length_append]
        refine ⟨by simp, Nat.le_refl _, fun q h => ?_⟩
        rcases List.mem_append.1 h with h | h
        · exact hq q h
        · rw [List.mem_singleton.1 h]
          exact ho
theorem flat_le {rs : List (Int × Int)} {q : Int × Int} (h : q ∈ rs) : q.1.toNat ≤ (flatN rs).length := by
  obtain ⟨a, b, rfl⟩ := List.append_of_mem h
  unfold flatN
  rw [List.flatMap_append, List.flatMap_cons, List.length_append, List.length_append, List.length_replicate]
  omega
theorem rows_le (ls : List Int) : ∀ q ∈ rowsL ls, 0 ≤ q.1 ∧ q.1 ≤ ls.length := fun q h => by
  obtain ⟨h1, h2⟩ := flat_rows ls
  have h3 := flat_le h
  rw [h1] at h3
  have := h2 q h
  omega
theorem addRow_len (rs : List (Int × Int)) (t : Int) : (addRow rs t).length ≤ rs.length + 1 := by
  unfold addRow
  split
  · split
    · rw [List.length_append, List.length_dropLast, List.length_singleton]
      omega
    · rw [List.length_append, List.length_singleton]
      exact Nat.le_refl _
  · exact Nat.le_add_left _ _
theorem fold_len : ∀ (us : List Int) (acc : List (Int × Int)), (us.foldl addRow acc).length ≤ acc.length + us.length
  | [], acc => Nat.le_refl _
  | u :: us, acc => by
    rw [List.foldl_cons, List.length_cons]
    have := fold_len us (addRow acc u)
    have := addRow_len acc u
    omega
theorem rows_only : ∀ (N : Nat) (l0 : List Int) (s : ByteArray) (l : List Int) (r : ByteArray), rowsR N l0 s = .ok (l, r) → l0.length ≤ 256 → (∀ q ∈ rowsL l0, oTyp q.2 = true) →
    l.length ≤ 256 ∧ (rowsL l).length ≤ (rowsL l0).length + N ∧ byR (rowsL l) + r.size ≤ byR (rowsL l0) + s.size ∧ ∀ q ∈ rowsL l, oTyp q.2 = true
  | 0, l0, s, l, r, h, h0, ho => by
    obtain ⟨rfl, rfl⟩ := pure_inv h
    exact ⟨h0, Nat.le_refl _, Nat.le_refl _, ho⟩
  | N + 1, l0, s, l, r, h, h0, ho => by
    obtain ⟨many, r1, h1, h⟩ := bind_inv h
    obtain ⟨t, r2, h2, h⟩ := bind_inv h
    obtain ⟨⟨a1, _⟩, a2⟩ := uT_only h1
    obtain ⟨b1, b2⟩ := only_typ _ _ _ h2
    replace b2 : 1 + r2.size ≤ r1.size := b2
    by_cases hm : many ≤ 256 - (l0.length : Int)
    · rw [if_pos hm] at h
      have e : rowsL (l0 ++ List.replicate many.toNat t) = (List.replicate many.toNat t).foldl addRow (rowsL l0) := List.foldl_append
      obtain ⟨f1, f2, f3⟩ := fold_row (rowsL l0) t many.toNat (by omega) (fun q hq => by have := rows_le l0 q hq; omega) b1 ho
      rw [← e] at f1 f2 f3
      obtain ⟨g1, g2, g3, g4⟩ := rows_only N _ _ _ _ h (by rw [List.length_append, List.length_replicate]; omega) f3
      rw [byR_one, show ((many.toNat : Nat) : Int) = many by omega] at f2
      exact ⟨g1, by omega, by omega, g4⟩
    · rw [if_neg hm] at h
      cases h
theorem putF_mono : ∀ (f : Nat) (a b : Int), 0 ≤ a → a ≤ b → (Leb.putF f a).length ≤ (Leb.putF f b).length
  | 0, _, _, _, _ => Nat.le_refl _
  | f + 1, a, b, h0, h => by
    by_cases ha : a < 128
    · rw [Leb.putF_last f a ha]
      by_cases hb : b < 128
      · rw [Leb.putF_last f b hb]
        exact Nat.le_refl _
      · rw [Leb.putF_next f b (by omega)]
        simp
    · rw [Leb.putF_next f a (by omega), Leb.putF_next f b (by omega), List.length_cons, List.length_cons]
      have := putF_mono f (a / 128) (b / 128) (by omega) (by omega)
      omega
theorem putU_mono {a b : Int} (h0 : 0 ≤ a) (h : a ≤ b) : (putU a).length ≤ (putU b).length := by
  unfold putU
  rw [if_neg (by omega), if_neg (by omega)]
  exact putF_mono 10 a b h0 h
theorem loc_only {s r : ByteArray} {l : List Int} (h : locR s = .ok (l, r)) : l.length ≤ 256 ∧ oList 256 oRow (rowsL l) = true ∧ (bList bRow (rowsL l)).length + r.size ≤ s.size := by
  obtain ⟨n, r1, h1, h⟩ := bind_inv h
  obtain ⟨⟨a1, _⟩, a2⟩ := uT_only h1
  obtain ⟨g1, g2, g3, g4⟩ := rows_only _ _ _ _ _ h (by decide) (fun q hq => absurd hq List.not_mem_nil)
  replace g2 : (rowsL l).length ≤ 0 + n.toNat := g2
  replace g3 : byR (rowsL l) + r.size ≤ 0 + r1.size := g3
  have hl : (rowsL l).length ≤ 0 + l.length := fold_len l []
  refine ⟨g1, oList_of (by omega) g4, ?_⟩
  have hm := putU_mono (a := ((rowsL l).length : Int)) (b := n) (by omega) (by omega)
  unfold bList
  rw [List.length_append]
  unfold byR at g3
  omega
theorem only_in {X : Type} {R : Rd X} {P : X → Prop} {b : X → List Int} (hR : Only R P b) : Only (inR R) P (fun x => putU (b x).length ++ b x) := fun s x r h => by
  unfold inR at h
  cases hb : bytesR s with
  | error e =>
    rw [hb] at h
    cases h
  | ok q =>
    rw [hb] at h
    replace h : ((R q.1).bind fun p => if p.2.size = 0 then (.ok (p.1, q.2) : Except Int (X × ByteArray)) else .error 2) = .ok (x, r) := h
    cases hr : R q.1 with
    | error e =>
      rw [hr] at h
      cases h
    | ok p =>
      rw [hr] at h
      replace h : (if p.2.size = 0 then (.ok (p.1, q.2) : Except Int (X × ByteArray)) else .error 2) = .ok (x, r) := h
      by_cases hz : p.2.size = 0
      · rw [if_pos hz] at h
        injection h with h
        injection h with e1 e2
        subst e1 e2
        obtain ⟨k1, k2⟩ := hR q.1 p.1 p.2 hr
        obtain ⟨_, k3⟩ := only_bytes s q.1 q.2 hb
        refine ⟨k1, ?_⟩
        have hm := putU_mono (a := ((b p.1).length : Int)) (b := ((bl q.1).length : Int)) (by omega) (by rw [bl_length]; omega)
        unfold bStr at k3
        rw [List.length_append, bl_length] at k3
        rw [bl_length] at hm
        rw [List.length_append]
        omega
      · rw [if_neg hz] at h
        cases h
theorem only_cod : Only codR (fun c => oCod c = true ∧ wfL c.l) bCod := by
  refine only_in (b := bCodIn) fun s x r h => ?_
  obtain ⟨ls, r1, h1, h⟩ := bind_inv h
  obtain ⟨l, h2, rfl⟩ := map_inv h
  obtain ⟨a1, a2, a3⟩ := loc_only h1
  obtain ⟨⟨b1, b2⟩, b3⟩ := only_ins _ _ _ h2
  refine ⟨⟨?_, b2⟩, ?_⟩
  · show (decide ((ls.length : Int) ≤ 256) && (oList 256 oRow (rowsL ls) && oIns l)) = true
    rw [decide_eq_true (by omega), a2, b1]
    rfl
  · show (bList bRow (rowsL ls) ++ bIns l).length + r.size ≤ s.size
    rw [List.length_append]
    omega
end Go.Proofs.YtekonefnniaheaaGreat
namespace Go.Proofs.YtekonefnniaheaaGreat
open Go.RowKit Go.Deep
open Leb (byt byt_lt byt_get len7 sum7 putU putS)

theorem in_inv {X : Type} {R : Rd X} {s r : ByteArray} {x : X} (h : inR R s = .ok (x, r)) : ∃ c c', R c = .ok (x, c') ∧ (putU (c.size : Int)).length + c.size + r.size ≤ s.size := by
  unfold inR at h
  cases hb : bytesR s with
  | error e =>
    rw [hb] at h
    cases h
  | ok q =>
    rw [hb] at h
    replace h : ((R q.1).bind fun p => if p.2.size = 0 then (.ok (p.1, q.2) : Except Int (X × ByteArray)) else .error 2) = .ok (x, r) := h
    cases hr : R q.1 with
    | error e =>
      rw [hr] at h
      cases h
    | ok p =>
      rw [hr] at h
      replace h : (if p.2.size = 0 then (.ok (p.1, q.2) : Except Int (X × ByteArray)) else .error 2) = .ok (x, r) := h
      by_cases hz : p.2.size = 0
      · rw [if_pos hz] at h
        injection h with h
        injection h with e1 e2
        subst e1 e2
        obtain ⟨_, k3⟩ := only_bytes s q.1 q.2 hb
        unfold bStr at k3
        rw [List.length_append, bl_length] at k3
        exact ⟨q.1, p.2, hr, k3⟩
      · rw [if_neg hz] at h
        cases h
theorem sect_of {α : Type} {R : Rd α} {P : α → Prop} {b : α → List Int} {ok : α → Bool} (hR : Only R P b) (hP : ∀ t, P t → ok t = true) (n : Int) {c c' : ByteArray} {l : List α} (h : listR 1000 R c = .ok (l, c')) : oSect ok l = true ∧ (∀ t ∈ l, P t) ∧ (bSect n b l).length ≤ 1 + (putU (c.size : Int)).length + c.size := by
  obtain ⟨h1, h2, h3⟩ := list_only hR h
  refine ⟨?_, h2, ?_⟩
  · unfold oSect
    by_cases hz : l.length = 0
    · rw [if_pos hz]
    · rw [if_neg hz]
      exact oList_of h1 fun t ht => hP t (h2 t ht)
  · unfold bSect
    by_cases hz : l.length = 0
    · rw [if_pos hz]
      exact Nat.zero_le _
    · rw [if_neg hz, List.length_append, List.length_append, List.length_singleton]
      have := putU_mono (a := ((bList b l).length : Int)) (b := (c.size : Int)) (by omega) (by omega)
      omega
/-- The bytes of a module's sections. -/
def lenS (m : Mdl) : Nat := (bSect 1 bFT m.types).length + (bSect 2 bImp m.imports).length + (bSect 3 putU m.funcs).length + (bSect 4 (fun x : Lim => bTab x.mn x.mx) m.tables).length + (bSect 5 (fun x : Lim => bLim x.mn x.mx) m.mems).length + (bSect 6 bGlo m.globals).length + (bSect 7 bExp m.exports).length + (bStart m.start).length + (bSect 9 bEle m.elems).length + (bSect 10 bCod m.codes).length + (bSect 11 bDat m.datas).length
theorem lenS_eq (m : Mdl) : (bHead m ++ bTail m).length = lenS m := by
  unfold bHead bTail lenS
  simp only [List.length_append]
  omega
/-- A module so far, that may be laid; what is still to come is empty. -/
structure Good (x : Sofar) : Prop where
  o1 : oSect oFT x.m.types = true
  o2 : oSect oImp x.m.imports = true
  o3 : oSect oIdx x.m.funcs = true
  o4 : oSect (fun x : Lim => oLim x.mn x.mx) x.m.tables = true
  o5 : oSect (fun x : Lim => oLim x.mn x.mx) x.m.mems = true
  o6 : oSect oGlo x.m.globals = true
  o7 : oSect oExp x.m.exports = true
  o8 : oStart x.m.start = true
  o9 : oSect oEle x.m.elems = true
  o10 : oSect oCod x.m.codes = true
  o11 : oSect oDat x.m.datas = true
  w : MdlWf x.m
  e1 : x.last < 2 → x.m.types = []
  e2 : x.last < 4 → x.m.imports = []
  e3 : x.last < 6 → x.m.funcs = []
  e4 : x.last < 8 → x.m.tables = []
  e5 : x.last < 10 → x.m.mems = []
  e6 : x.last < 12 → x.m.globals = []
  e7 : x.last < 14 → x.m.exports = []
  e8 : x.last < 16 → x.m.start = 0
  e9 : x.last < 18 → x.m.elems = []
  e10 : x.last < 20 → x.m.codes = []
  e11 : x.last < 22 → x.m.datas = []
theorem good_none : Good so0 := ⟨rfl, rfl, rfl, rfl, rfl, rfl, rfl, rfl, rfl, rfl, rfl, ⟨fun _ h => absurd h List.not_mem_nil, fun _ h => absurd h List.not_mem_nil, fun _ h => absurd h List.not_mem_nil, fun _ h => absurd h List.not_mem_nil⟩, fun _ => rfl, fun _ => rfl, fun _ => rfl, fun _ => rfl, fun _ => rfl, fun _ => rfl, fun _ => rfl, fun _ => rfl, fun _ => rfl, fun _ => rfl, fun _ => rfl⟩
theorem good_1 {m : Mdl} {last d d' : Int} {l : List FT} (g : Good ⟨m, last, d⟩) (hl : last < 2) (h1 : oSect oFT l = true) : Good ⟨{ m with types := l }, 2, d'⟩ ∧ lenS { m with types := l } = lenS m + (bSect 1 bFT l).length := by
  refine ⟨⟨h1, g.o2, g.o3, g.o4, g.o5, g.o6, g.o7, g.o8, g.o9, g.o10, g.o11, ⟨g.w.g, g.w.e, g.w.c, g.w.d⟩, fun q => absurd q (Int.lt_irrefl _), fun q => g.e2 (Int.lt_trans hl q), fun q => g.e3 (Int.lt_trans hl q), fun q => g.e4 (Int.lt_trans hl q), fun q => g.e5 (Int.lt_trans hl q), fun q => g.e6 (Int.lt_trans hl q), fun q => g.e7 (Int.lt_trans hl q), fun q => g.e8 (Int.lt_trans hl q), fun q => g.e9 (Int.lt_trans hl q), fun q => g.e10 (Int.lt_trans hl q), fun q => g.e11 (Int.lt_trans hl q)⟩, ?_⟩
  have he := g.e1 hl
  replace he : m.types = [] := he
  have h0 : (bSect 1 bFT m.types).length = 0 := by rw [he]; rfl
  unfold lenS
  dsimp only
  omega
theorem good_2 {m : Mdl} {last d d' : Int} {l : List Imp} (g : Good ⟨m, last, d⟩) (hl : last < 4) (h1 : oSect oImp l = true) : Good ⟨{ m with imports := l }, 4, d'⟩ ∧ lenS { m with imports := l } = lenS m + (bSect 2 bImp l).length := by
  refine ⟨⟨g.o1, h1, g.o3, g.o4, g.o5, g.o6, g.o7, g.o8, g.o9, g.o10, g.o11, ⟨g.w.g, g.w.e, g.w.c, g.w.d⟩, fun q => g.e1 (Int.lt_trans hl q), fun q => absurd q (Int.lt_irrefl _), fun q => g.e3 (Int.lt_trans hl q), fun q => g.e4 (Int.lt_trans hl q), fun q => g.e5 (Int.lt_trans hl q), fun q => g.e6 (Int.lt_trans hl q), fun q => g.e7 (Int.lt_trans hl q), fun q => g.e8 (Int.lt_trans hl q), fun q => g.e9 (Int.lt_trans hl q), fun q => g.e10 (Int.lt_trans hl q), fun q => g.e11 (Int.lt_trans hl q)⟩, ?_⟩
  have he := g.e2 hl
  replace he : m.imports = [] := he
  have h0 : (bSect 2 bImp m.imports).length = 0 := by rw [he]; rfl
  unfold lenS
  dsimp only
  omega
theorem good_3 {m : Mdl} {last d d' : Int} {l : List Int} (g : Good ⟨m, last, d⟩) (hl : last < 6) (h1 : oSect oIdx l = true) : Good ⟨{ m with funcs := l }, 6, d'⟩ ∧ lenS { m with funcs := l } = lenS m + (bSect 3 putU l).length := by
  refine ⟨⟨g.o1, g.o2, h1, g.o4, g.o5, g.o6, g.o7, g.o8, g.o9, g.o10, g.o11, ⟨g.w.g, g.w.e, g.w.c, g.w.d⟩, fun q => g.e1 (Int.lt_trans hl q), fun q => g.e2 (Int.lt_trans hl q), fun q => absurd q (Int.lt_irrefl _), fun q => g.e4 (Int.lt_trans hl q), fun q => g.e5 (Int.lt_trans hl q), fun q => g.e6 (Int.lt_trans hl q), fun q => g.e7 (Int.lt_trans hl q), fun q => g.e8 (Int.lt_trans hl q), fun q => g.e9 (Int.lt_trans hl q), fun q => g.e10 (Int.lt_trans hl q), fun q => g.e11 (Int.lt_trans hl q)⟩, ?_⟩
  have he := g.e3 hl
  replace he : m.funcs = [] := he
  have h0 : (bSect 3 putU m.funcs).length = 0 := by rw [he]; rfl
  unfold lenS
  dsimp only
  omega
theorem good_4 {m : Mdl} {last d d' : Int} {l : List Lim} (g : Good ⟨m, last, d⟩) (hl : last < 8) (h1 : oSect (fun x : Lim => oLim x.mn x.mx) l = true) : Good ⟨{ m with tables := l }, 8, d'⟩ ∧ lenS { m with tables := l } = lenS m + (bSect 4 (fun x : Lim => bTab x.mn x.mx) l).length := by
  refine ⟨⟨g.o1, g.o2, g.o3, h1, g.o5, g.o6, g.o7, g.o8, g.o9, g.o10, g.o11, ⟨g.w.g, g.w.e, g.w.c, g.w.d⟩, fun q => g.e1 (Int.lt_trans hl q), fun q => g.e2 (Int.lt_trans hl q), fun q => g.e3 (Int.lt_trans hl q), fun q => absurd q (Int.lt_irrefl _), fun q => g.e5 (Int.lt_trans hl q), fun q => g.e6 (Int.lt_trans hl q), fun q => g.e7 (Int.lt_trans hl q), fun q => g.e8 (Int.lt_trans hl q), fun q => g.e9 (Int.lt_trans hl q), fun q => g.e10 (Int.lt_trans hl q), fun q => g.e11 (Int.lt_trans hl q)⟩, ?_⟩
  have he := g.e4 hl
  replace he : m.tables = [] := he
  have h0 : (bSect 4 (fun x : Lim => bTab x.mn x.mx) m.tables).length = 0 := by rw [he]; rfl
  unfold lenS
  dsimp only
  omega
theorem good_5 {m : Mdl} {last d d' : Int} {l : List Lim} (g : Good ⟨m, last, d⟩) (hl : last < 10) (h1 : oSect (fun x : Lim => oLim x.mn x.mx) l = true) : Good ⟨{ m with mems := l }, 10, d'⟩ ∧ lenS { m with mems := l } = lenS m + (bSect 5 (fun x : Lim => bLim x.mn x.mx) l).length := by
  refine ⟨⟨g.o1, g.o2, g.o3, g.o4, h1, g.o6, g.o7, g.o8, g.o9, g.o10, g.o11, ⟨g.w.g, g.w.e, g.w.c, g.w.d⟩, fun q => g.e1 (Int.lt_trans hl q), fun q => g.e2 (Int.lt_trans hl q), fun q => g.e3 (Int.lt_trans hl q), fun q => g.e4 (Int.lt_trans hl q), fun q => absurd q (Int.lt_irrefl _), fun q => g.e6 (Int.lt_trans hl q), fun q => g.e7 (Int.lt_trans hl q), fun q => g.e8 (Int.lt_trans hl q), fun q => g.e9 (Int.lt_trans hl q), fun q => g.e10 (Int.lt_trans hl q), fun q => g.e11 (Int.lt_trans hl q)⟩, ?_⟩
  have he := g.e5 hl
  replace he : m.mems = [] := he
  have h0 : (bSect 5 (fun x : Lim => bLim x.mn x.mx) m.mems).length = 0 := by rw [he]; rfl
  unfold lenS
  dsimp only
  omega
theorem good_6 {m : Mdl} {last d d' : Int} {l : List Glo} (g : Good ⟨m, last, d⟩) (hl : last < 12) (h1 : oSect oGlo l = true) (h2 : ∀ x ∈ l, wfI x.init) : Good ⟨{ m with globals := l }, 12, d'⟩ ∧ lenS { m with globals := l } = lenS m + (bSect 6 bGlo l).length := by
  refine ⟨⟨g.o1, g.o2, g.o3, g.o4, g.o5, h1, g.o7, g.o8, g.o9, g.o10, g.o11, ⟨h2, g.w.e, g.w.c, g.w.d⟩, fun q => g.e1 (Int.lt_trans hl q), fun q => g.e2 (Int.lt_trans hl q), fun q => g.e3 (Int.lt_trans hl q), fun q => g.e4 (Int.lt_trans hl q), fun q => g.e5 (Int.lt_trans hl q), fun q => absurd q (Int.lt_irrefl _), fun q => g.e7 (Int.lt_trans hl q), fun q => g.e8 (Int.lt_trans hl q), fun q => g.e9 (Int.lt_trans hl q), fun q => g.e10 (Int.lt_trans hl q), fun q => g.e11 (Int.lt_trans hl q)⟩, ?_⟩
  have he := g.e6 hl
  replace he : m.globals = [] := he
  have h0 : (bSect 6 bGlo m.globals).length = 0 := by rw [he]; rfl
  unfold lenS
  dsimp only
  omega
theorem good_7 {m : Mdl} {last d d' : Int} {l : List Exp} (g : Good ⟨m, last, d⟩) (hl : last < 14) (h1 : oSect oExp l = true) : Good ⟨{ m with exports := l }, 14, d'⟩ ∧ lenS { m with exports := l } = lenS m + (bSect 7 bExp l).length := by
  refine ⟨⟨g.o1, g.o2, g.o3, g.o4, g.o5, g.o6, h1, g.o8, g.o9, g.o10, g.o11, ⟨g.w.g, g.w.e, g.w.c, g.w.d⟩, fun q => g.e1 (Int.lt_trans hl q), fun q => g.e2 (Int.lt_trans hl q), fun q => g.e3 (Int.lt_trans hl q), fun q => g.e4 (Int.lt_trans hl q), fun q => g.e5 (Int.lt_trans hl q), fun q => g.e6 (Int.lt_trans hl q), fun q => absurd q (Int.lt_irrefl _), fun q => g.e8 (Int.lt_trans hl q), fun q => g.e9 (Int.lt_trans hl q), fun q => g.e10 (Int.lt_trans hl q), fun q => g.e11 (Int.lt_trans hl q)⟩, ?_⟩
  have he := g.e7 hl
  replace he : m.exports = [] := he
  have h0 : (bSect 7 bExp m.exports).length = 0 := by rw [he]; rfl
  unfold lenS
  dsimp only
  omega
theorem good_8 {m : Mdl} {last d d' : Int} {l : Int} (g : Good ⟨m, last, d⟩) (hl : last < 16) (h1 : oStart l = true) : Good ⟨{ m with start := l }, 16, d'⟩ ∧ lenS { m with start := l } = lenS m + (bStart l).length := by
  refine ⟨⟨g.o1, g.o2, g.o3, g.o4, g.o5, g.o6, g.o7, h1, g.o9, g.o10, g.o11, ⟨g.w.g, g.w.e, g.w.c, g.w.d⟩, fun q => g.e1 (Int.lt_trans hl q), fun q => g.e2 (Int.lt_trans hl q), fun q => g.e3 (Int.lt_trans hl q), fun q => g.e4 (Int.lt_trans hl q), fun q => g.e5 (Int.lt_trans hl q), fun q => g.e6 (Int.lt_trans hl q), fun q => g.e7 (Int.lt_trans hl q), fun q => absurd q (Int.lt_irrefl _), fun q => g.e9 (Int.lt_trans hl q), fun q => g.e10 (Int.lt_trans hl q), fun q => g.e11 (Int.lt_trans hl q)⟩, ?_⟩
  have he := g.e8 hl
  replace he : m.start = 0 := he
  have h0 : (bStart m.start).length = 0 := by rw [he]; rfl
  unfold lenS
  dsimp only
  omega
theorem good_9 {m : Mdl} {last d d' : Int} {l : List Ele} (g : Good ⟨m, last, d⟩) (hl : last < 18) (h1 : oSect oEle l = true) (h2 : ∀ x ∈ l, wfI x.off) : Good ⟨{ m with elems := l }, 18, d'⟩ ∧ lenS { m with elems := l } = lenS m + (bSect 9 bEle l).length := by
  refine ⟨⟨g.o1, g.o2, g.o3, g.o4, g.o5, g.o6, g.o7, g.o8, h1, g.o10, g.o11, ⟨g.w.g, h2, g.w.c, g.w.d⟩, fun q => g.e1 (Int.lt_trans hl q), fun q => g.e2 (Int.lt_trans hl q), fun q => g.e3 (Int.lt_trans hl q), fun q => g.e4 (Int.lt_trans hl q), fun q => g.e5 (Int.lt_trans hl q), fun q => g.e6 (Int.lt_trans hl q), fun q => g.e7 (Int.lt_trans hl q), fun q => g.e8 (Int.lt_trans hl q), fun q => absurd q (Int.lt_irrefl _), fun q => g.e10 (Int.lt_trans hl q), fun q => g.e11 (Int.lt_trans hl q)⟩, ?_⟩
  have he := g.e9 hl
  replace he : m.elems = [] := he
  have h0 : (bSect 9 bEle m.elems).length = 0 := by rw [he]; rfl
  unfold lenS
  dsimp only
  omega
theorem good_10 {m : Mdl} {last d d' : Int} {l : List Cod} (g : Good ⟨m, last, d⟩) (hl : last < 20) (h1 : oSect oCod l = true) (h2 : ∀ x ∈ l, wfL x.l) : Good ⟨{ m with codes := l }, 20, d'⟩ ∧ lenS { m with codes := l } = lenS m + (bSect 10 bCod l).length := by
  refine ⟨⟨g.o1, g.o2, g.o3, g.o4, g.o5, g.o6, g.o7, g.o8, g.o9, h1, g.o11, ⟨g.w.g, g.w.e, h2, g.w.d⟩, fun q => g.e1 (Int.lt_trans hl q), fun q => g.e2 (Int.lt_trans hl q), fun q => g.e3 (Int.lt_trans hl q), fun q => g.e4 (Int.lt_trans hl q), fun q => g.e5 (Int.lt_trans hl q), fun q => g.e6 (Int.lt_trans hl q), fun q => g.e7 (Int.lt_trans hl q), fun q => g.e8 (Int.lt_trans hl q), fun q => g.e9 (Int.lt_trans hl q), fun q => absurd q (Int.lt_irrefl _), fun q => g.e11 (Int.lt_trans hl q)⟩, ?_⟩
  have he := g.e10 hl
  replace he : m.codes = [] := he
  have h0 : (bSect 10 bCod m.codes).length = 0 := by rw [he]; rfl
  unfold lenS
  dsimp only
  omega
theorem good_11 {m : Mdl} {last d d' : Int} {l : List Dat} (g : Good ⟨m, last, d⟩) (hl : last < 22) (h1 : oSect oDat l = true) (h2 : ∀ x ∈ l, wfI x.off) : Good ⟨{ m with datas := l }, 22, d'⟩ ∧ lenS { m with datas := l } = lenS m + (bSect 11 bDat l).length := by
  refine ⟨⟨g.o1, g.o2, g.o3, g.o4, g.o5, g.o6, g.o7, g.o8, g.o9, g.o10, h1, ⟨g.w.g, g.w.e, g.w.c, h2⟩, fun q => g.e1 (Int.lt_trans hl q), fun q => g.e2 (Int.lt_trans hl q), fun q => g.e3 (Int.lt_trans hl q), fun q => g.e4 (Int.lt_trans hl q), fun q => g.e5 (Int.lt_trans hl q), fun q => g.e6 (Int.lt_trans hl q), fun q => g.e7 (Int.lt_trans hl q), fun q => g.e8 (Int.lt_trans hl q), fun q => g.e9 (Int.lt_trans hl q), fun q => g.e10 (Int.lt_trans hl q), fun q => absurd q (Int.lt_irrefl _)⟩, ?_⟩
  have he := g.e11 hl
  replace he : m.datas = [] := he
  have h0 : (bSect 11 bDat m.datas).length = 0 := by rw [he]; rfl
  unfold lenS
  dsimp only
  omega
theorem good_12 {m : Mdl} {last d d' : Int} (g : Good ⟨m, last, d⟩) (hl : last < 19) : Good ⟨m, 19, d'⟩ :=
  ⟨g.o1, g.o2, g.o3, g.o4, g.o5, g.o6, g.o7, g.o8, g.o9, g.o10, g.o11, g.w, fun q => g.e1 (Int.lt_trans hl q), fun q => g.e2 (Int.lt_trans hl q), fun q => g.e3 (Int.lt_trans hl q), fun q => g.e4 (Int.lt_trans hl q), fun q => g.e5 (Int.lt_trans hl q), fun q => g.e6 (Int.lt_trans hl q), fun q => g.e7 (Int.lt_trans hl q), fun q => g.e8 (Int.lt_trans hl q), fun q => g.e9 (Int.lt_trans hl q), fun q => g.e10 (Int.lt_trans hl q), fun q => g.e11 (Int.lt_trans hl q)⟩
theorem good_0 {m : Mdl} {last d d' : Int} (g : Good ⟨m, last, d⟩) : Good ⟨m, last, d'⟩ :=
  ⟨g.o1, g.o2, g.o3, g.o4, g.o5, g.o6, g.o7, g.o8, g.o9, g.o10, g.o11, g.w, g.e1, g.e2, g.e3, g.e4, g.e5, g.e6, g.e7, g.e8, g.e9, g.e10, g.e11⟩
/-- A section that is read keeps the module good, and its bytes are no more. -/
theorem sect_only {x y : Sofar} {s r : ByteArray} (g : Good x) (h : sectR x s = .ok (y, r)) : Good y ∧ lenS y.m + r.size ≤ lenS x.m + s.size ∧ r.size < s.size := by
  obtain ⟨m, last, d⟩ := x
  obtain ⟨n, s1, h1, h⟩ := bind_inv h
  obtain ⟨q, r1, h2, h⟩ := bind_inv h
  obtain ⟨_, k1⟩ := byte_only h1
  obtain ⟨c, c', h3, k2⟩ := in_inv h2
  replace h3 : contR n m d c = .ok (q, c') := h3
  replace h : (if n = 0 then pureR (Sofar.mk q.1 last q.2) else if last < placeN n then pureR (Sofar.mk q.1 (placeN n) q.2) else failR 2) r1 = .ok (y, r) := h
  unfold contR at h3
  by_cases n0 : n = 0
  · rw [if_pos n0] at h h3
    obtain ⟨rfl, rfl⟩ := pure_inv h
    obtain ⟨z, _, _, h4⟩ := bind_inv h3
    injection h4 with h4
    injection h4 with h4 _
    rw [← h4]
    exact ⟨good_0 g, by show lenS m + r.size ≤ lenS m + s.size; omega, by omega⟩
  rw [if_neg n0] at h h3
  have hp : last < placeN n := by
    refine Decidable.byContradiction fun hp => ?_
    rw [if_neg hp] at h
    cases h
  rw [if_pos hp] at h
  obtain ⟨rfl, rfl⟩ := pure_inv h
  by_cases n1 : n = 1
  · rw [if_pos n1] at h3
    subst n1
    obtain ⟨l, h4, rfl⟩ := map_inv h3
    obtain ⟨a1, _, a3⟩ := sect_of only_ft (ok := oFT) (fun t k => k) 1 h4
    obtain ⟨b1, b2⟩ := good_1 (d' := d) g hp a1
    exact ⟨b1, by show lenS { m with types := l } + r.size ≤ lenS m + s.size; omega, by omega⟩
  rw [if_neg n1] at h3
  by_cases n2 : n = 2
  · rw [if_pos n2] at h3
    subst n2
    obtain ⟨l, h4, rfl⟩ := map_inv h3
    obtain ⟨a1, _, a3⟩ := sect_of only_imp (ok := oImp) (fun t k => k) 2 h4
    obtain ⟨b1, b2⟩ := good_2 (d' := d) g hp a1
    exact ⟨b1, by show lenS { m with imports := l } + r.size ≤ lenS m + s.size; omega, by omega⟩
  rw [if_neg n2] at h3
  by_cases n3 : n = 3
  · rw [if_pos n3] at h3
    subst n3
    obtain ⟨l, h4, rfl⟩ := map_inv h3
    obtain ⟨a1, _, a3⟩ := sect_of only_u (ok := oIdx) (fun t k => k) 3 h4
    obtain ⟨b1, b2⟩ := good_3 (d' := d) g hp a1
    exact ⟨b1, by show lenS { m with funcs := l } + r.size ≤ lenS m + s.size; omega, by omega⟩
  rw [if_neg n3] at h3
  by_cases n4 : n = 4
  · rw [if_pos n4] at h3
    subst n4
    obtain ⟨l, h4, rfl⟩ := map_inv h3
    obtain ⟨a1, _, a3⟩ := sect_of only_tab (ok := (fun x : Lim => oLim x.mn x.mx)) (fun t k => k) 4 h4
    obtain ⟨b1, b2⟩ := good_4 (d' := d) g hp a1
    exact ⟨b1, by show lenS { m with tables := l } + r.size ≤ lenS m + s.size; omega, by omega⟩
  rw [if_neg n4] at h3
  by_cases n5 : n = 5
  · rw [if_pos n5] at h3
    subst n5
    obtain ⟨l, h4, rfl⟩ := map_inv h3
    obtain ⟨a1, _, a3⟩ := sect_of only_lim (ok := (fun x : Lim => oLim x.mn x.mx)) (fun t k => k) 5 h4
    obtain ⟨b1, b2⟩ := good_5 (d' := d) g hp a1
    exact ⟨b1, by show lenS { m with mems := l } + r.size ≤ lenS m + s.size; omega, by omega⟩
  rw [if_neg n5] at h3
  by_cases n6 : n = 6
  · rw [if_pos n6] at h3
    subst n6
    obtain ⟨l, h4, rfl⟩ := map_inv h3
    obtain ⟨a1, a2, a3⟩ := sect_of only_glo (ok := oGlo) (fun t k => k.1) 6 h4
    obtain ⟨b1, b2⟩ := good_6 (d' := d) g hp a1 (fun x k => (a2 x k).2)
    exact ⟨b1, by show lenS { m with globals := l } + r.size ≤ lenS m + s.size; omega, by omega⟩
  rw [if_neg n6] at h3
  by_cases n7 : n = 7
  · rw [if_pos n7] at h3
    subst n7
    obtain ⟨l, h4, rfl⟩ := map_inv h3
    obtain ⟨a1, _, a3⟩ := sect_of only_exp (ok := oExp) (fun t k => k) 7 h4
    obtain ⟨b1, b2⟩ := good_7 (d' := d) g hp a1
    exact ⟨b1, by show lenS { m with exports := l } + r.size ≤ lenS m + s.size; omega, by omega⟩
  rw [if_neg n7] at h3
  by_cases n8 : n = 8
  · rw [if_pos n8] at h3
    subst n8
    obtain ⟨l, h4, rfl⟩ := map_inv h3
    obtain ⟨a1, a2⟩ := only_u _ _ _ h4
    have hz := of_decide_eq_true a1
    have ho : oStart (l + 1) = true := by
      unfold oStart
      rw [decide_eq_true (show 0 ≤ l + 1 by omega), if_pos (show 0 < l + 1 by omega), show l + 1 - 1 = l by omega, a1]
      rfl
    have hlen : (bStart (l + 1)).length ≤ 1 + (putU (c.size : Int)).length + c.size := by
      unfold bStart
      rw [if_pos (show 0 < l + 1 by omega), show l + 1 - 1 = l by omega, List.length_append, List.length_append, List.length_singleton]
      have := putU_mono (a := ((putU l).length : Int)) (b := (c.size : Int)) (by omega) (by omega)
      omega
    obtain ⟨b1, b2⟩ := good_8 (d' := d) g hp ho
    exact ⟨b1, by show lenS { m with start := l + 1 } + r.size ≤ lenS m + s.size; omega, by omega⟩
  rw [if_neg n8] at h3
  by_cases n9 : n = 9
  · rw [if_pos n9] at h3
    subst n9
    obtain ⟨l, h4, rfl⟩ := map_inv h3
    obtain ⟨a1, a2, a3⟩ := sect_of only_ele (ok := oEle) (fun t k => k.1) 9 h4
    obtain ⟨b1, b2⟩ := good_9 (d' := d) g hp a1 (fun x k => (a2 x k).2)
    exact ⟨b1, by show lenS { m with elems := l } + r.size ≤ lenS m + s.size; omega, by omega⟩
  rw [if_neg n9] at h3
  by_cases n10 : n = 10
  · rw [if_pos n10] at h3
    subst n10
    obtain ⟨l, h4, rfl⟩ := map_inv h3
    obtain ⟨a1, a2, a3⟩ := sect_of only_cod (ok := oCod) (fun t k => k.1) 10 h4
    obtain ⟨b1, b2⟩ := good_10 (d' := d) g hp a1 (fun x k => (a2 x k).2)
    exact ⟨b1, by show lenS { m with codes := l } + r.size ≤ lenS m + s.size; omega, by omega⟩
  rw [if_neg n10] at h3
  by_cases n11 : n = 11
  · rw [if_pos n11] at h3
    subst n11
    obtain ⟨l, h4, rfl⟩ := map_inv h3
    obtain ⟨a1, a2, a3⟩ := sect_of only_dat (ok := oDat) (fun t k => k.1) 11 h4
    obtain ⟨b1, b2⟩ := good_11 (d' := d) g hp a1 (fun x k => (a2 x k).2)
    exact ⟨b1, by show lenS { m with datas := l } + r.size ≤ lenS m + s.size; omega, by omega⟩
  rw [if_neg n11] at h3
  by_cases n12 : n = 12
  · rw [if_pos n12] at h3
    subst n12
    obtain ⟨l, h4, rfl⟩ := map_inv h3
    exact ⟨good_12 g hp, by show lenS m + r.size ≤ lenS m + s.size; omega, by omega⟩
  rw [if_neg n12] at h3
  cases h3
theorem secs_only : ∀ (k : Nat) (x y : Sofar) (s r : ByteArray), Good x → secsR k x s = .ok (y, r) → Good y ∧ lenS y.m ≤ lenS x.m + s.size
  | 0, _, _, _, _, _, h => by cases h
  | k + 1, x, y, s, r, g, h => by
    by_cases hz : s.size = 0
    · rw [secs_end hz] at h
      injection h with h
      injection h with h _
      rw [← h]
      exact ⟨g, Nat.le_add_right _ _⟩
    · rw [secs_step hz] at h
      cases hs : sectR x s with
      | error e =>
        rw [hs] at h
        cases h
      | ok q =>
        rw [hs] at h
        obtain ⟨g1, g2, _⟩ := sect_only (y := q.1) (r := q.2) g hs
        obtain ⟨g3, g4⟩ := secs_only k q.1 y q.2 r g1 h
        exact ⟨g3, by omega⟩
/-- WHAT IS READ MAY BE LAID, IN NO MORE BYTES. -/
theorem takeM_only {s : ByteArray} {m : Mdl} (h : takeMd s = .ok m) : oMod m = true ∧ MdlWf m ∧ (bMod m).length ≤ s.size ∧ s.size ≤ 65536 := by
  unfold takeMd at h
  by_cases hz : 65536 < s.size
  · rw [if_pos hz] at h
    cases h
  rw [if_neg hz] at h
  cases hm : modR s with
  | error e =>
    rw [hm] at h
    cases h
  | ok q =>
    rw [hm] at h
    injection h with h
    subst h
    unfold modR at hm
    obtain ⟨_, s1, h1, h2⟩ := bind_inv (y := q.1) (r := q.2) hm
    obtain ⟨h3, _⟩ := need_inv h2
    obtain ⟨h4, h5⟩ := need_inv h3
    obtain ⟨g1, g2⟩ := secs_only _ _ _ _ _ good_none h4
    have hs : s1.size + 8 ≤ s.size := by
      unfold hdR at h1
      by_cases hx : s.extract 0 8 = strOfNums headB
      · rw [if_pos hx] at h1
        injection h1 with h1
        injection h1 with _ h1
        have hy := congrArg ByteArray.size hx
        rw [ByteArray.size_extract, strOfNums_size, show headB.length = 8 from rfl] at hy
        rw [← h1, ByteArray.size_extract]
        omega
      · rw [if_neg hx] at h1
        cases h1
    have hl : lenS so0.m = 0 := rfl
    refine ⟨?_, g1.w, ?_, by omega⟩
    · unfold e1R at h5
      have e := of_decide_eq_true h5
      unfold oMod
      rw [g1.o1, g1.o2, g1.o3, g1.o4, g1.o5, g1.o6, g1.o7, g1.o8, g1.o9, g1.o10, g1.o11, e]
      simp
    · unfold bMod
      rw [List.length_append, lenS_eq, show headB.length = 8 from rfl]
      omega
end Go.Proofs.YtekonefnniaheaaGreat
namespace Go.Proofs.YtekonefnniaheaaGreat
open Go.RowKit Go.Deep

/-- A reading that fails. -/
theorem take_errf {s : ByteArray} {f : Int} (hs : s.size ≤ maxLen) (h : takeMd s = .error f) (w : World) : Calls Tryz.prog 12 #[.string s] w fun e w2 => ∃ yT dT yI dI yF dF yB dB yM dM yG dG yX dX yE dE yC dC yD dD, e = .returned (.tuple #[.agg #[.slice yT 0 dT, .slice yI 0 dI, .slice yF 0 dF, .slice yB 0 dB, .slice yM 0 dM, .slice yG 0 dG, .slice yX 0 dX, .int .i64 0, .slice yE 0 dE, .slice yC 0 dC, .slice yD 0 dD], .int .i64 f]) ∧ Below w.heap.size w w2 ∧ f ≠ 0 ∧ MdlIn w2 noM yT dT yI dI yF dF yB dB yM dM yG dG yX dX yE dE yC dC yD dD := by
  refine (TakeM_any s hs w).mono ?_
  rintro e w2 ⟨vs, g, he, hb, _, ⟨m', hm, _⟩ | ⟨hm, hg, hv⟩⟩
  · rw [h] at hm
    cases hm
  · rw [h] at hm
    injection hm with hm
    subst hm
    obtain ⟨yT, dT, yI, dI, yF, dF, yB, dB, yM, dM, yG, dG, yX, dX, yE, dE, yC, dC, yD, dD, rfl, hin⟩ := hv.ex
    exact ⟨yT, dT, yI, dI, yF, dF, yB, dB, yM, dM, yG, dG, yX, dX, yE, dE, yC, dC, yD, dD, he, hb, hg, hin⟩
theorem below_eleven {w w' : World} {b : Nat} {X : Array Value} {S : TypeId} (h : BlkAt w b X S) (hb : Below w.heap.size w w') : BlkAt w' b X S := h.below hb
set_option maxRecDepth 100000 in
set_option maxHeartbeats 8000000 in
theorem ModuleOnly_walk (s : ByteArray) (hs : s.size ≤ maxLen) (w : World) :
    Calls Tryz.prog 5 #[.string s] w fun e w' => e = .returned (.bool true) ∧ Below w.heap.size w w' := by
  have HA := Lib.hid awake6_any
  have hb := Below.refl w.heap.size w
  unfold maxLen at hs
  by_cases hl : (70000 : Int) < (s.size : Int)
  · have hS : (s.extract 0 70000).size ≤ maxLen := by rw [ByteArray.size_extract]; unfold maxLen; omega
    have hse : (s.extract 0 70000).size = 70000 := by rw [ByteArray.size_extract]; omega
    cases ht : takeMd (s.extract 0 70000) with
    | error f =>
      have HT := Lib.hid (take_errf hS ht)
      clear ht hS
      go_enter Tryz.func5, Tryz.ntmps5
      go_wp2_with (first
        | (go_at_call 12; refine (HT.out _).mono ?_; rintro e w3 ⟨yT, dT, yI, dI, yF, dF, yB, dB, yM, dM, yG, dG, yX, dX, yE, dE, yC, dC, yD, dD, rfl, q3, hf, hy⟩; have hb3 := hb.trans (q3.mono hb.size); have bz := (Below.refl w3.heap.size w3).alloc (Nat.le_refl _) (.cells #[.slice yT 0 dT, .slice yI 0 dI, .slice yF 0 dF, .slice yB 0 dB, .slice yM 0 dM, .slice yG 0 dG, .slice yX 0 dX, .int .i64 0, .slice yE 0 dE, .slice yC 0 dC, .slice yD 0 dD] 32); have hb4 := hb3.trans (bz.mono hb3.size); have HSM := Lib.hid (same_noM (hy.below bz)); have hf2 : (f != 0) = true := bne_iff_ne.2 hf; clear HT q3 hb hb3 bz hy)
        | (go_at_call 13; refine HSM.out.mono ?_; rintro e w5 ⟨rfl, q5⟩; have hb5 := hb4.trans (q5.mono hb4.size); clear HSM q5 hb4)
        | (go_at_call 9; refine (HA.out _).mono ?_; rintro e w9 ⟨rfl, q9⟩; have hb9 := hb5.trans (q9.mono hb5.size); clear q9))
      all_goals
        go_ret
        exact ⟨rfl, hb9⟩
    | ok m =>
      obtain ⟨ho, hw, hlen, h65⟩ := takeM_only ht
      have hln : layV m = (bMod m, 0) := by rw [layV_eq, if_pos ho, if_neg (by omega)]
      have hbk := take_back ho hw (by omega)
      have HOK := Lib.hid (mdlOk_of ho)
      have hsz := strOfNums_size (bMod m)
      have HT := Lib.hid (take_okM hS ht)
      have HPM : Hid (∀ (yT : Option Addr) (dT : Nat) (yI : Option Addr) (dI : Nat) (yF : Option Addr) (dF : Nat) (yB : Option Addr) (dB : Nat) (yM : Option Addr) (dM : Nat) (yG : Option Addr) (dG : Nat) (yX : Option Addr) (dX : Nat) (yE : Option Addr) (dE : Nat) (yC : Option Addr) (dC : Nat) (yD : Option Addr) (dD : Nat) (w' : World), MdlIn w' m yT dT yI dI yF dF yB dB yM dM yG dG yX dX yE dE yC dC yD dD → Calls Tryz.prog 10 #[.agg #[.slice yT m.types.length dT, .slice yI m.imports.length dI, .slice yF m.funcs.length dF, .slice yB m.tables.length dB, .slice yM m.mems.length dM, .slice yG m.globals.length dG, .slice yX m.exports.length dX, .int .i64 m.start, .slice yE m.elems.length dE, .slice yC m.codes.length dC, .slice yD m.datas.length dD]] w' fun e w2 => e = .returned (.tuple #[.string (strOfNums (bMod m)), .int .i64 0]) ∧ Below w'.heap.size w' w2) := Lib.hid fun yT dT yI dI yF dF yB dB yM dM yG dG yX dX yE dE yC dC yD dD w' h => by
        have := PutM_any m yT dT yI dI yF dF yB dB yM dM yG dG yX dX yE dE yC dC yD dD w' h
        rw [hln] at this
        exact this
      have HT2 := Lib.hid (take_okM (s := strOfNums (bMod m)) (by rw [hsz]; unfold maxLen; omega) hbk)
      have hle : (((strOfNums (bMod m)).size : Nat) : Int) ≤ 70000 := by omega
      clear ht hS ho hw hlen h65 hln hbk hsz
      revert HPM HT2 hle
      generalize strOfNums (bMod m) = R
      intro HPM HT2 hle
      go_enter Tryz.func5, Tryz.ntmps5
      go_wp2_with (first
        | (go_at_call 12; refine (HT.out _).mono ?_; rintro e w3 ⟨yT, dT, yI, dI, yF, dF, yB, dB, yM, dM, yG, dG, yX, dX, yE, dE, yC, dC, yD, dD, rfl, q3, hy⟩; have hb3 := hb.trans (q3.mono hb.size); have bz := (Below.refl w3.heap.size w3).alloc (Nat.le_refl _) (.cells #[.slice yT m.types.length dT, .slice yI m.imports.length dI, .slice yF m.funcs.length dF, .slice yB m.tables.length dB, .slice yM m.mems.length dM, .slice yG m.globals.length dG, .slice yX m.exports.length dX, .int .i64 m.start, .slice yE m.elems.length dE, .slice yC m.codes.length dC, .slice yD m.datas.length dD] 32); have hb4 := hb3.trans (bz.mono hb3.size); have BK := Lib.hid (BlkAt.new w3 #[.slice yT m.types.length dT, .slice yI m.imports.length dI, .slice yF m.funcs.length dF, .slice yB m.tables.length dB, .slice yM m.mems.length dM, .slice yG m.globals.length dG, .slice yX m.exports.length dX, .int .i64 m.start, .slice yE m.elems.length dE, .slice yC m.codes.length dC, .slice yD m.datas.length dD] 32); have HY := Lib.hid (hy.below bz); have HPO := Lib.hid (HPM.out yT dT yI dI yF dF yB dB yM dM yG dG yX dX yE dE yC dC yD dD _ (hy.below bz)); clear HT q3 hb hb3 bz hy HPM)
        | (go_at_call 10; refine HPO.out.mono ?_; rintro e w5 ⟨rfl, q5⟩; have hb5 := hb4.trans (q5.mono hb4.size); have BK5 := Lib.hid (BK.out.below q5); have HY5 := Lib.hid (HY.out.below q5); clear HPO q5 hb4 BK HY)
        | (go_at_call 12; refine (HT2.out _).mono ?_; rintro e w6 ⟨zT, vT, zI, vI, zF, vF, zB, vB, zM, vM, zG, vG, zX, vX, zE, vE, zC, vC, zD, vD, rfl, q6, hz⟩; have hb6 := hb5.trans (q6.mono hb5.size); have bz6 := (Below.refl w6.heap.size w6).alloc (Nat.le_refl _) (.cells #[.slice zT m.types.length vT, .slice zI m.imports.length vI, .slice zF m.funcs.length vF, .slice zB m.tables.length vB, .slice zM m.mems.length vM, .slice zG m.globals.length vG, .slice zX m.exports.length vX, .int .i64 m.start, .slice zE m.elems.length vE, .slice zC m.codes.length vC, .slice zD m.datas.length vD] 32); have hb7 := hb6.trans (bz6.mono hb6.size); have HSM := Lib.hid (SameM_any m yT dT yI dI yF dF yB dB yM dM yG dG yX dX yE dE yC dC yD dD zT vT zI vI zF vF zB vB zM vM zG vG zX vX zE vE zC vC zD vD _ HOK.out ((HY5.out.below q6).below bz6) (hz.below bz6)); obtain ⟨n0, n1, n2, n3, n4, n5, n6, n7, n8, n9, n10⟩ := ((BK5.out.below q6).below bz6).eleven; clear HT2 q6 hb5 hb6 bz6 hz BK5 HY5)
        | (go_at_call 13; refine HSM.out.mono ?_; rintro e w8 ⟨rfl, q8⟩; have hb8 := hb7.trans (q8.mono hb7.size); clear HSM q8 hb7)
        | (go_at_call 9; refine (HA.out _).mono ?_; rintro e w9 ⟨rfl, q9⟩; have hb9 := hb8.trans (q9.mono hb8.size); clear q9))
      all_goals
        go_ret
        exact ⟨rfl, hb9⟩
  · have hS : s.size ≤ maxLen := by unfold maxLen; omega
    cases ht : takeMd s with
    | error f =>
      have HT := Lib.hid (take_errf hS ht)
      clear ht hS
      go_enter Tryz.func5, Tryz.ntmps5
      go_wp2_with (first
        | (go_at_call 12; refine (HT.out _).mono ?_; rintro e w3 ⟨yT, dT, yI, dI, yF, dF, yB, dB, yM, dM, yG, dG, yX, dX, yE, dE, yC, dC, yD, dD, rfl, q3, hf, hy⟩; have hb3 := hb.trans (q3.mono hb.size); have bz := (Below.refl w3.heap.size w3).alloc (Nat.le_refl _) (.cells #[.slice yT 0 dT, .slice yI 0 dI, .slice yF 0 dF, .slice yB 0 dB, .slice yM 0 dM, .slice yG 0 dG, .slice yX 0 dX, .int .i64 0, .slice yE 0 dE, .slice yC 0 dC, .slice yD 0 dD] 32); have hb4 := hb3.trans (bz.mono hb3.size); have HSM := Lib.hid (same_noM (hy.below bz)); have hf2 : (f != 0) = true := bne_iff_ne.2 hf; clear HT q3 hb hb3 bz hy)
        | (go_at_call 13; refine HSM.out.mono ?_; rintro e w5 ⟨rfl, q5⟩; have hb5 := hb4.trans (q5.mono hb4.size); clear HSM q5 hb4)
        | (go_at_call 9; refine (HA.out _).mono ?_; rintro e w9 ⟨rfl, q9⟩; have hb9 := hb5.trans (q9.mono hb5.size); clear q9))
      all_goals
        go_ret
        exact ⟨rfl, hb9⟩
    | ok m =>
      obtain ⟨ho, hw, hlen, h65⟩ := takeM_only ht
      have hln : layV m = (bMod m, 0) := by rw [layV_eq, if_pos ho, if_neg (by omega)]
      have hbk := take_back ho hw (by omega)
      have HOK := Lib.hid (mdlOk_of ho)
      have hsz := strOfNums_size (bMod m)
      have HT := Lib.hid (take_okM hS ht)
      have HPM : Hid (∀ (yT : Option Addr) (dT : Nat) (yI : Option Addr) (dI : Nat) (yF : Option Addr) (dF : Nat) (yB : Option Addr) (dB : Nat) (yM : Option Addr) (dM : Nat) (yG : Option Addr) (dG : Nat) (yX : Option Addr) (dX : Nat) (yE : Option Addr) (dE : Nat) (yC : Option Addr) (dC : Nat) (yD : Option Addr) (dD : Nat) (w' : World), MdlIn w' m yT dT yI dI yF dF yB dB yM dM yG dG yX dX yE dE yC dC yD dD → Calls Tryz.prog 10 #[.agg #[.slice yT m.types.length dT, .slice yI m.imports.length dI, .slice yF m.funcs.length dF, .slice yB m.tables.length dB, .slice yM m.mems.length dM, .slice yG m.globals.length dG, .slice yX m.exports.length dX, .int .i64 m.start, .slice yE m.elems.length dE, .slice yC m.codes.length dC, .slice yD m.datas.length dD]] w' fun e w2 => e = .returned (.tuple #[.string (strOfNums (bMod m)), .int .i64 0]) ∧ Below w'.heap.size w' w2) := Lib.hid fun yT dT yI dI yF dF yB dB yM dM yG dG yX dX yE dE yC dC yD dD w' h => by
        have := PutM_any m yT dT yI dI yF dF yB dB yM dM yG dG yX dX yE dE yC dC yD dD w' h
        rw [hln] at this
        exact this
      have HT2 := Lib.hid (take_okM (s := strOfNums (bMod m)) (by rw [hsz]; unfold maxLen; omega) hbk)
      have hle : (((strOfNums (bMod m)).size : Nat) : Int) ≤ (s.size : Int) := by omega
      clear ht hS ho hw hlen h65 hln hbk hsz
      revert HPM HT2 hle
      generalize strOfNums (bMod m) = R
      intro HPM HT2 hle
      go_enter Tryz.func5, Tryz.ntmps5
      go_wp2_with (first
        | (go_at_call 12; refine (HT.out _).mono ?_; rintro e w3 ⟨yT, dT, yI, dI, yF, dF, yB, dB, yM, dM, yG, dG, yX, dX, yE, dE, yC, dC, yD, dD, rfl, q3, hy⟩; have hb3 := hb.trans (q3.mono hb.size); have bz := (Below.refl w3.heap.size w3).alloc (Nat.le_refl _) (.cells #[.slice yT m.types.length dT, .slice yI m.imports.length dI, .slice yF m.funcs.length dF, .slice yB m.tables.length dB, .slice yM m.mems.length dM, .slice yG m.globals.length dG, .slice yX m.exports.length dX, .int .i64 m.start, .slice yE m.elems.length dE, .slice yC m.codes.length dC, .slice yD m.datas.length dD] 32); have hb4 := hb3.trans (bz.mono hb3.size); have BK := Lib.hid (BlkAt.new w3 #[.slice yT m.types.length dT, .slice yI m.imports.length dI, .slice yF m.funcs.length dF, .slice yB m.tables.length dB, .slice yM m.mems.length dM, .slice yG m.globals.length dG, .slice yX m.exports.length dX, .int .i64 m.start, .slice yE m.elems.length dE, .slice yC m.codes.length dC, .slice yD m.datas.length dD] 32); have HY := Lib.hid (hy.below bz); have HPO := Lib.hid (HPM.out yT dT yI dI yF dF yB dB yM dM yG dG yX dX yE dE yC dC yD dD _ (hy.below bz)); clear HT q3 hb hb3 bz hy HPM)
        | (go_at_call 10; refine HPO.out.mono ?_; rintro e w5 ⟨rfl, q5⟩; have hb5 := hb4.trans (q5.mono hb4.size); have BK5 := Lib.hid (BK.out.below q5); have HY5 := Lib.hid (HY.out.below q5); clear HPO q5 hb4 BK HY)
        | (go_at_call 12; refine (HT2.out _).mono ?_; rintro e w6 ⟨zT, vT, zI, vI, zF, vF, zB, vB, zM, vM, zG, vG, zX, vX, zE, vE, zC, vC, zD, vD, rfl, q6, hz⟩; have hb6 := hb5.trans (q6.mono hb5.size); have bz6 := (Below.refl w6.heap.size w6).alloc (Nat.le_refl _) (.cells #[.slice zT m.types.length vT, .slice zI m.imports.length vI, .slice zF m.funcs.length vF, .slice zB m.tables.length vB, .slice zM m.mems.length vM, .slice zG m.globals.length vG, .slice zX m.exports.length vX, .int .i64 m.start, .slice zE m.elems.length vE, .slice zC m.codes.length vC, .slice zD m.datas.length vD] 32); have hb7 := hb6.trans (bz6.mono hb6.size); have HSM := Lib.hid (SameM_any m yT dT yI dI yF dF yB dB yM dM yG dG yX dX yE dE yC dC yD dD zT vT zI vI zF vF zB vB zM vM zG vG zX vX zE vE zC vC zD vD _ HOK.out ((HY5.out.below q6).below bz6) (hz.below bz6)); obtain ⟨n0, n1, n2, n3, n4, n5, n6, n7, n8, n9, n10⟩ := ((BK5.out.below q6).below bz6).eleven; clear HT2 q6 hb5 hb6 bz6 hz BK5 HY5)
        | (go_at_call 13; refine HSM.out.mono ?_; rintro e w8 ⟨rfl, q8⟩; have hb8 := hb7.trans (q8.mono hb7.size); clear HSM q8 hb7)
        | (go_at_call 9; refine (HA.out _).mono ?_; rintro e w9 ⟨rfl, q9⟩; have hb9 := hb8.trans (q9.mono hb8.size); clear q9))
      all_goals
        go_ret
        exact ⟨rfl, hb9⟩
end Go.Proofs.YtekonefnniaheaaGreat
