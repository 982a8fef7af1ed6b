/- Texts of the proof of ModuleCutUptoProof. -/
import Derived.Test.YtekonefnniaheaaGreatModuleBackUptoProofQ1
import Derived.Test.YtekonefnniaheaaGreatModuleBackUptoProofQ2
import Derived.Test.YtekonefnniaheaaGreatModuleBackUptoProofQ3
import Derived.Test.YtekonefnniaheaaGreatModuleBackUptoProofQ4
import Derived.Test.YtekonefnniaheaaGreatModuleBackUptoProofQ5
import Derived.Test.YtekonefnniaheaaGreatModuleBackUptoProofQ6
import Derived.Test.YtekonefnniaheaaGreatModuleBackUptoProofQ7
import Derived.Test.YtekonefnniaheaaGreatModuleBackUptoProofQ8
import Derived.Test.YtekonefnniaheaaGreatModuleBackUptoProofQ9
import Derived.Test.YtekonefnniaheaaGreatModuleBackUptoProofQ10
import Derived.Test.YtekonefnniaheaaGreatModuleBackUptoProofQ11
import Derived.Test.YtekonefnniaheaaGreatModuleBackUptoProofQ12
import Derived.Test.YtekonefnniaheaaGreatModuleBackUptoProofQ13
import Derived.Test.YtekonefnniaheaaGreatModuleBackUptoProofQ14
import Derived.Test.YtekonefnniaheaaGreatModuleBackUptoProofQ15
import Derived.Test.YtekonefnniaheaaGreatModuleBackUptoProofQ16
import Derived.Test.YtekonefnniaheaaGreatModuleBackUptoProofQ17
import Derived.Test.YtekonefnniaheaaGreatModuleBackUptoProofQ18
import Derived.Test.YtekonefnniaheaaGreatModuleBackUptoProofQ19
import Derived.Test.YtekonefnniaheaaGreatModuleBackUptoProofQ20
import Derived.Test.YtekonefnniaheaaGreatModuleBackUptoProofQ21
import Derived.Test.YtekonefnniaheaaGreatModuleBackUptoProofQ22
import Derived.Test.YtekonefnniaheaaGreatModuleBackUptoProofQ23
import Derived.Test.YtekonefnniaheaaGreatModuleBackUptoProofQ24
import Derived.Test.YtekonefnniaheaaGreatModuleBackUptoProofQ25
import Derived.Test.YtekonefnniaheaaGreatModuleBackUptoProofQ26
import Derived.Test.YtekonefnniaheaaGreatModuleBackUptoProofQ27
set_option linter.unusedVariables false
namespace Go.Proofs.YtekonefnniaheaaGreat
open Go.RowKit Go.Deep
open Leb (byt byt_lt byt_get len7 sum7 putU putS)

def secO (m : Mdl) : Bool := oSect oFT m.types && oSect oImp m.imports && oSect oIdx m.funcs && oSect (fun x : Lim => oLim x.mn x.mx) m.tables && oSect (fun x : Lim => oLim x.mn x.mx) m.mems && (oSect oGlo m.globals && oSect oExp m.exports && oStart m.start && oSect oEle m.elems && oSect oCod m.codes && oSect oDat m.datas)
/-- This module may be laid, and its sections' bytes are these. -/
structure Pre (m : Mdl) (B : List Int) : Prop where
  o : secO m = true
  w : MdlWf m
  b : bHead m ++ bTail m = B
/-- Sections that lead from one module to another; cut off they are none, or lead to some module's bytes. -/
structure CutTo (m : Mdl) (p0 : Int) (b : List Int) (m' : Mdl) (p1 : Int) : Prop where
  to : SecTo m p0 b m' p1
  pre : ∀ B, Pre m B → Pre m' (B ++ b)
  cut : ∀ last, last ≤ p0 → ∀ B, Pre m B → ∀ j, j < b.length → ∀ k, j < k → secsR k ⟨m, last, -1⟩ (strOfNums (b.take j)) = .error 2 ∨ ∃ n l, secsR k ⟨m, last, -1⟩ (strOfNums (b.take j)) = .ok (⟨n, l, -1⟩, strOfNums []) ∧ Pre n (B ++ b.take j)
theorem CutTo.trans {m1 m2 m3 : Mdl} {p0 p1 p2 : Int} {x y : List Int} (h1 : CutTo m1 p0 x m2 p1) (h2 : CutTo m2 p1 y m3 p2) : CutTo m1 p0 (x ++ y) m3 p2 := by
  refine ⟨h1.to.trans h2.to, fun B h => ?_, fun last hl B h j hj k hk => ?_⟩
  · rw [← List.append_assoc]
    exact h2.pre _ (h1.pre _ h)
  · by_cases hx : j < x.length
    · rw [List.take_append_of_le_length (by omega)]
      exact h1.cut last hl B h j hx k hk
    · rw [List.length_append] at hj
      rw [List.take_append, List.take_of_length_le (by omega)]
      obtain ⟨l1, e1, q1⟩ := h1.to last hl
      obtain ⟨k', hk', hq⟩ := q1 k (y.take (j - x.length)) (by rw [strOfNums_size, List.length_append, List.length_take]; omega)
      rw [hq, ← List.append_assoc]
      rw [strOfNums_size, List.length_take] at hk'
      exact h2.cut l1 e1 _ (h1.pre _ h) _ (by omega) k' (by omega)
theorem CutTo.none {m : Mdl} {p0 p1 : Int} (h : p0 ≤ p1) : CutTo m p0 [] m p1 := ⟨SecTo.none h, fun B h => by rwa [List.append_nil], fun _ _ _ _ j hj => absurd hj (by simp)⟩
theorem secs_nil {k : Nat} (hk : 0 < k) (so : Sofar) : secsR k so (strOfNums []) = .ok (so, strOfNums []) := by
  obtain ⟨i, rfl⟩ : ∃ i, k = i + 1 := ⟨k - 1, by omega⟩
  exact secs_end (by rfl)
theorem CutTo.one {m m' : Mdl} {p0 n : Int} {b : List Int} (h0 : 0 < n) (h1 : n ≤ 12) (hp : p0 < placeN n) (h : Enc (contR n m (-1)) (m', -1) b) (hb : b.length ≤ 4294967295) (hpre : ∀ B, Pre m B → Pre m' (B ++ ([n % 256] ++ (putU b.length ++ b)))) : CutTo m p0 ([n % 256] ++ (putU b.length ++ b)) m' (placeN n) := by
  refine ⟨SecTo.one h0 h1 hp h hb, hpre, fun last hl B hB j hj k hk => ?_⟩
  have he := enc_sect (so := ⟨m, last, -1⟩) h0 h1 (by show last < placeN n; omega) h hb
  revert hj he
  generalize [n % 256] ++ (putU b.length ++ b) = bb
  intro hj he
  by_cases hz : j = 0
  · subst hz
    exact .inr ⟨m, last, by rw [List.take_zero]; exact secs_nil hk _, by rw [List.take_zero, List.append_nil]; exact hB⟩
  · obtain ⟨i, rfl⟩ : ∃ i, k = i + 1 := ⟨k - 1, by omega⟩
    refine .inl ?_
    rw [secs_step (by rw [strOfNums_size, List.length_take]; omega), he.2 j hj]
    rfl
theorem cutTo_list {α : Type} {m m' : Mdl} {p0 n : Int} {b : α → List Int} {ok : α → Bool} {ts : List α} {R : Rd α} (h0 : 0 < n) (h1 : n ≤ 12) (hp : p0 < placeN n) (ho : oSect ok ts = true) (hR : ∀ t, t ∈ ts → ok t = true → Enc R t (b t))
    (hc : Enc (listR 1000 R) ts (bList b ts) → Enc (contR n m (-1)) (m', -1) (bList b ts)) (hm : ts.length = 0 → m' = m) (hb : (bList b ts).length ≤ 4294967295) (hpre : ∀ B, Pre m B → Pre m' (B ++ bSect n b ts)) : CutTo m p0 (bSect n b ts) m' (placeN n) := by
  unfold bSect at hpre ⊢
  unfold oSect at ho
  by_cases hz : ts.length = 0
  · rw [if_pos hz, hm hz]
    exact CutTo.none (by omega)
  · rw [if_neg hz] at ho hpre ⊢
    exact CutTo.one h0 h1 hp (hc (enc_listO (by decide) ho hR)) hb hpre
theorem pre_of {m m' : Mdl} {b : List Int} (ho : secO m' = true) (hw : MdlWf m') (hb : bHead m' ++ bTail m' = (bHead m ++ bTail m) ++ b) : ∀ B, Pre m B → Pre m' (B ++ b) := fun _ h => ⟨ho, hw, by rw [← h.b]; exact hb⟩
theorem bSect_nil {α : Type} (n : Int) (b : α → List Int) : bSect n b ([] : List α) = [] := if_pos rfl
theorem oSect_nil {α : Type} (ok : α → Bool) : oSect ok ([] : List α) = true := if_pos rfl
theorem bStart_nil : bStart 0 = [] := rfl
theorem oStart_nil : oStart 0 = true := rfl
set_option maxHeartbeats 1000000 in
theorem mod_cuts {m : Mdl} (ho : oMod m = true) (hw : MdlWf m) (hl : (bMod m).length ≤ 65536) : CutTo noM 0 (bHead m ++ bTail m) m 22 := by
  unfold oMod at ho
  obtain ⟨_, ho⟩ := and_two ho
  obtain ⟨ha, hb⟩ := and_two ho
  obtain ⟨ha, o5⟩ := and_two ha
  obtain ⟨ha, o4⟩ := and_two ha
  obtain ⟨ha, o3⟩ := and_two ha
  obtain ⟨o1, o2⟩ := and_two ha
  obtain ⟨hb, o11⟩ := and_two hb
  obtain ⟨hb, o10⟩ := and_two hb
  obtain ⟨hb, o9⟩ := and_two hb
  obtain ⟨hb, o8⟩ := and_two hb
  obtain ⟨o6, o7⟩ := and_two hb
  unfold bMod bHead bTail at hl
  simp only [List.length_append] at hl
  have key : ∀ {α : Type} (n : Int) (b : α → List Int) (ts : List α), (bSect n b ts).length ≤ 65536 → ¬ ts.length = 0 → (bList b ts).length ≤ 4294967295 := fun n b ts h hz => Nat.le_trans (sect_len n b ts _ h hz) (by omega)
  have key0 : ∀ {α : Type} (n : Int) (b : α → List Int) (ts : List α), (bSect n b ts).length ≤ 65536 → (bList b ts).length ≤ 4294967295 := fun n b ts h => by
    by_cases hz : ts.length = 0
    · have := empty_list hz
      subst this
      have h0 : (bList b ([] : List _)).length = 1 := by
        unfold bList
        rw [List.length_append, List.flatMap_nil]
        show (putU 0).length + 0 = 1
        rw [putU_zero]
        rfl
      omega
    · exact key n b ts h hz
  have s1 : CutTo ⟨[], [], [], [], [], [], [], 0, [], [], []⟩ 0 (bSect 1 bFT m.types) ⟨m.types, [], [], [], [], [], [], 0, [], [], []⟩ 2 := cutTo_list (by decide) (by decide) (by decide) o1 (fun t _ h => enc_ft h) (fun h => enc_mapR h (fun l => (({ (⟨[], [], [], [], [], [], [], 0, [], [], []⟩ : Mdl) with types := l } : Mdl), (-1 : Int)))) (fun hz => by rw [empty_list hz]) (key0 1 _ _ (by omega)) (pre_of (by simp only [secO, oSect_nil, oStart_nil, o1, Bool.and_self]) ⟨fun _ h => absurd h List.not_mem_nil, fun _ h => absurd h List.not_mem_nil, fun _ h => absurd h List.not_mem_nil, fun _ h => absurd h List.not_mem_nil⟩ (by simp only [bHead, bTail, bSect_nil, bStart_nil, List.append_nil, List.nil_append]))
  have s2 : CutTo ⟨m.types, [], [], [], [], [], [], 0, [], [], []⟩ 2 (bSect 2 bImp m.imports) ⟨m.types, m.imports, [], [], [], [], [], 0, [], [], []⟩ 4 := cutTo_list (by decide) (by decide) (by decide) o2 (fun t _ h => enc_imp h) (fun h => enc_mapR h (fun l => (({ (⟨m.types, [], [], [], [], [], [], 0, [], [], []⟩ : Mdl) with imports := l } : Mdl), (-1 : Int)))) (fun hz => by rw [empty_list hz]) (key0 2 _ _ (by omega)) (pre_of (by simp only [secO, oSect_nil, oStart_nil, o1, o2, Bool.and_self]) ⟨fun _ h => absurd h List.not_mem_nil, fun _ h => absurd h List.not_mem_nil, fun _ h => absurd h List.not_mem_nil, fun _ h => absurd h List.not_mem_nil⟩ (by simp only [bHead, bTail, bSect_nil, bStart_nil, List.append_nil]))
  have s3 : CutTo ⟨m.types, m.imports, [], [], [], [], [], 0, [], [], []⟩ 4 (bSect 3 putU m.funcs) ⟨m.types, m.imports, m.funcs, [], [], [], [], 0, [], [], []⟩ 6 := cutTo_list (by decide) (by decide) (by decide) o3 (fun t _ h => enc_idx h) (fun h => enc_mapR h (fun l => (({ (⟨m.types, m.imports, [], [], [], [], [], 0, [], [], []⟩ : Mdl) with funcs := l } : Mdl), (-1 : Int)))) (fun hz => by rw [empty_list hz]) (key0 3 _ _ (by omega)) (pre_of (by simp only [secO, oSect_nil, oStart_nil, o1, o2, o3, Bool.and_self]) ⟨fun _ h => absurd h List.not_mem_nil, fun _ h => absurd h List.not_mem_nil, fun _ h => absurd h List.not_mem_nil, fun _ h => absurd h List.not_mem_nil⟩ (by simp only [bHead, bTail, bSect_nil, bStart_nil, List.append_nil, List.append_assoc]))
  have s4 : CutTo ⟨m.types, m.imports, m.funcs, [], [], [], [], 0, [], [], []⟩ 6 (bSect 4 (fun x : Lim => bTab x.mn x.mx) m.tables) ⟨m.types, m.imports, m.funcs, m.tables, [], [], [], 0, [], [], []⟩ 8 := cutTo_list (by decide) (by decide) (by decide) o4 (fun t _ h => enc_tab h) (fun h => enc_mapR h (fun l => (({ (⟨m.types, m.imports, m.funcs, [], [], [], [], 0, [], [], []⟩ : Mdl) with tables := l } : Mdl), (-1 : Int)))) (fun hz => by rw [empty_list hz]) (key0 4 _ _ (by omega)) (pre_of (by simp only [secO, oSect_nil, oStart_nil, o1, o2, o3, o4, Bool.and_self]) ⟨fun _ h => absurd h List.not_mem_nil, fun _ h => absurd h List.not_mem_nil, fun _ h => absurd h List.not_mem_nil, fun _ h => absurd h List.not_mem_nil⟩ (by simp only [bHead, bTail, bSect_nil, bStart_nil, List.append_nil, List.append_assoc]))
  have s5 : CutTo ⟨m.types, m.imports, m.funcs, m.tables, [], [], [], 0, [], [], []⟩ 8 (bSect 5 (fun x : Lim => bLim x.mn x.mx) m.mems) ⟨m.types, m.imports, m.funcs, m.tables, m.mems, [], [], 0, [], [], []⟩ 10 := cutTo_list (by decide) (by decide) (by decide) o5 (fun t _ h => enc_lim h) (fun h => enc_mapR h (fun l => (({ (⟨m.types, m.imports, m.funcs, m.tables, [], [], [], 0, [], [], []⟩ : Mdl) with mems := l } : Mdl), (-1 : Int)))) (fun hz => by rw [empty_list hz]) (key0 5 _ _ (by omega)) (pre_of (by simp only [secO, oSect_nil, oStart_nil, o1, o2, o3, o4, o5, Bool.and_self]) ⟨fun _ h => absurd h List.not_mem_nil, fun _ h => absurd h List.not_mem_nil, fun _ h => absurd h List.not_mem_nil, fun _ h => absurd h List.not_mem_nil⟩ (by simp only [bHead, bTail, bSect_nil, bStart_nil, List.append_nil, List.append_assoc]))
  have s6 : CutTo ⟨m.types, m.imports, m.funcs, m.tables, m.mems, [], [], 0, [], [], []⟩ 10 (bSect 6 bGlo m.globals) ⟨m.types, m.imports, m.funcs, m.tables, m.mems, m.globals, [], 0, [], [], []⟩ 12 := cutTo_list (by decide) (by decide) (by decide) o6 (fun t ht h => enc_glo h (hw.g t ht)) (fun h => enc_mapR h (fun l => (({ (⟨m.types, m.imports, m.funcs, m.tables, m.mems, [], [], 0, [], [], []⟩ : Mdl) with globals := l } : Mdl), (-1 : Int)))) (fun hz => by rw [empty_list hz]) (key0 6 _ _ (by omega)) (pre_of (by simp only [secO, oSect_nil, oStart_nil, o1, o2, o3, o4, o5, o6, Bool.and_self]) ⟨hw.g, fun _ h => absurd h List.not_mem_nil, fun _ h => absurd h List.not_mem_nil, fun _ h => absurd h List.not_mem_nil⟩ (by simp only [bHead, bTail, bSect_nil, bStart_nil, List.append_nil, List.append_assoc]))
  have s7 : CutTo ⟨m.types, m.imports, m.funcs, m.tables, m.mems, m.globals, [], 0, [], [], []⟩ 12 (bSect 7 bExp m.exports) ⟨m.types, m.imports, m.funcs, m.tables, m.mems, m.globals, m.exports, 0, [], [], []⟩ 14 := cutTo_list (by decide) (by decide) (by decide) o7 (fun t _ h => enc_exp h) (fun h => enc_mapR h (fun l => (({ (⟨m.types, m.imports, m.funcs, m.tables, m.mems, m.globals, [], 0, [], [], []⟩ : Mdl) with exports := l } : Mdl), (-1 : Int)))) (fun hz => by rw [empty_list hz]) (key0 7 _ _ (by omega)) (pre_of (by simp only [secO, oSect_nil, oStart_nil, o1, o2, o3, o4, o5, o6, o7, Bool.and_self]) ⟨hw.g, fun _ h => absurd h List.not_mem_nil, fun _ h => absurd h List.not_mem_nil, fun _ h => absurd h List.not_mem_nil⟩ (by simp only [bHead, bTail, bSect_nil, bStart_nil, List.append_nil, List.append_assoc]))
  have s8 : CutTo ⟨m.types, m.imports, m.funcs, m.tables, m.mems, m.globals, m.exports, 0, [], [], []⟩ 14 (bStart m.start) ⟨m.types, m.imports, m.funcs, m.tables, m.mems, m.globals, m.exports, m.start, [], [], []⟩ 16 := by
    unfold bStart
    obtain ⟨q1, q2⟩ := and_two o8
    by_cases hs : 0 < m.start
    · rw [if_pos hs] at q2 ⊢
      have h3 : Enc (contR 8 ⟨m.types, m.imports, m.funcs, m.tables, m.mems, m.globals, m.exports, 0, [], [], []⟩ (-1)) (⟨m.types, m.imports, m.funcs, m.tables, m.mems, m.globals, m.exports, m.start, [], [], []⟩, -1) (putU (m.start - 1)) := by
        have := enc_mapR (enc_idx q2) (fun z => (({ (⟨m.types, m.imports, m.funcs, m.tables, m.mems, m.globals, m.exports, 0, [], [], []⟩ : Mdl) with start := z + 1 } : Mdl), (-1 : Int)))
        rw [show m.start - 1 + 1 = m.start by omega] at this
        exact this
      exact CutTo.one (by decide) (by decide) (by decide) h3 (by have := Leb.putU_length (m.start - 1); omega) (pre_of (by simp only [secO, oSect_nil, o1, o2, o3, o4, o5, o6, o7, o8, Bool.and_self]) ⟨hw.g, fun _ h => absurd h List.not_mem_nil, fun _ h => absurd h List.not_mem_nil, fun _ h => absurd h List.not_mem_nil⟩ (by simp only [bHead, bTail, bStart, if_pos hs, if_neg (show ¬ (0 : Int) < 0 by decide), bSect_nil, List.append_nil, List.append_assoc]))
    · rw [if_neg hs]
      have h4 : m.start = 0 := by have := of_decide_eq_true q1; omega
      rw [h4]
      exact CutTo.none (by decide)
  have s9 : CutTo ⟨m.types, m.imports, m.funcs, m.tables, m.mems, m.globals, m.exports, m.start, [], [], []⟩ 16 (bSect 9 bEle m.elems) ⟨m.types, m.imports, m.funcs, m.tables, m.mems, m.globals, m.exports, m.start, m.elems, [], []⟩ 18 := cutTo_list (by decide) (by decide) (by decide) o9 (fun t ht h => enc_ele h (hw.e t ht)) (fun h => enc_mapR h (fun l => (({ (⟨m.types, m.imports, m.funcs, m.tables, m.mems, m.globals, m.exports, m.start, [], [], []⟩ : Mdl) with elems := l } : Mdl), (-1 : Int)))) (fun hz => by rw [empty_list hz]) (key0 9 _ _ (by omega)) (pre_of (by simp only [secO, oSect_nil, o1, o2, o3, o4, o5, o6, o7, o8, o9, Bool.and_self]) ⟨hw.g, hw.e, fun _ h => absurd h List.not_mem_nil, fun _ h => absurd h List.not_mem_nil⟩ (by simp only [bHead, bTail, bSect_nil, List.append_nil, List.append_assoc]))
  have s10 : CutTo ⟨m.types, m.imports, m.funcs, m.tables, m.mems, m.globals, m.exports, m.start, m.elems, [], []⟩ 18 (bSect 10 bCod m.codes) ⟨m.types, m.imports, m.funcs, m.tables, m.mems, m.globals, m.exports, m.start, m.elems, m.codes, []⟩ 20 := cutTo_list (by decide) (by decide) (by decide) o10 (fun t ht h => enc_cod h (hw.c t ht) (by
      have h1 := list_len bCod m.codes 4294967295 (key0 10 bCod m.codes (by omega)) ht
      unfold bCod at h1
      rw [List.length_append] at h1
      omega)) (fun h => enc_mapR h (fun l => (({ (⟨m.types, m.imports, m.funcs, m.tables, m.mems, m.globals, m.exports, m.start, m.elems, [], []⟩ : Mdl) with codes := l } : Mdl), (-1 : Int)))) (fun hz => by rw [empty_list hz]) (key0 10 _ _ (by omega)) (pre_of (by simp only [secO, oSect_nil, o1, o2, o3, o4, o5, o6, o7, o8, o9, o10, Bool.and_self]) ⟨hw.g, hw.e, hw.c, fun _ h => absurd h List.not_mem_nil⟩ (by simp only [bHead, bTail, bSect_nil, List.append_nil, List.append_assoc]))
  have s11 : CutTo ⟨m.types, m.imports, m.funcs, m.tables, m.mems, m.globals, m.exports, m.start, m.elems, m.codes, []⟩ 20 (bSect 11 bDat m.datas) ⟨m.types, m.imports, m.funcs, m.tables, m.mems, m.globals, m.exports, m.start, m.elems, m.codes, m.datas⟩ 22 := cutTo_list (by decide) (by decide) (by decide) o11 (fun t ht h => enc_dat h (hw.d t ht) (by
      have h1 := list_len bDat m.datas 4294967295 (key0 11 bDat m.datas (by omega)) ht
      unfold bDat bStr at h1
      simp only [List.length_append, bl_length] at h1
      omega)) (fun h => enc_mapR h (fun l => (({ (⟨m.types, m.imports, m.funcs, m.tables, m.mems, m.globals, m.exports, m.start, m.elems, m.codes, []⟩ : Mdl) with datas := l } : Mdl), (-1 : Int)))) (fun hz => by rw [empty_list hz]) (key0 11 _ _ (by omega)) (pre_of (by simp only [secO, o1, o2, o3, o4, o5, o6, o7, o8, o9, o10, o11, Bool.and_self]) ⟨hw.g, hw.e, hw.c, hw.d⟩ (by simp only [bHead, bTail, bSect_nil, List.append_nil, List.append_assoc]))
  have := ((((s1.trans s2).trans s3).trans s4).trans s5).trans (((((s6.trans s7).trans s8).trans s9).trans s10).trans s11)
  exact this
/-- A module's bytes cut off are none, or those of some of its sections. -/
theorem takeM_cut {m : Mdl} (ho : oMod m = true) (hw : MdlWf m) (hl : (bMod m).length ≤ 65536) (j : Nat) (hj : j < (bMod m).length) : takeMd (strOfNums ((bMod m).take j)) = .error 2 ∨ ∃ n, takeMd (strOfNums ((bMod m).take j)) = .ok n ∧ oMod n = true ∧ MdlWf n ∧ bMod n = (bMod m).take j := by
  have hs := mod_cuts ho hw hl
  have hz : ¬ 65536 < (strOfNums ((bMod m).take j)).size := by rw [strOfNums_size, List.length_take]; omega
  unfold takeMd
  rw [if_neg hz]
  unfold bMod at hj ⊢
  have h8 : headB.length = 8 := rfl
  rw [List.length_append, h8] at hj
  by_cases hk : j < 8
  · refine .inl ?_
    have : hdR (strOfNums ((headB ++ (bHead m ++ bTail m)).take j)) = .error 2 := by
      unfold hdR
      rw [if_neg]
      intro q
      have h2 := congrArg ByteArray.size q
      rw [ByteArray.size_extract, strOfNums_size, strOfNums_size, List.length_take, h8] at h2
      omega
    unfold modR
    rw [bindR_err this]
    rfl
  · obtain ⟨i, rfl⟩ : ∃ i, j = 8 + i := ⟨j - 8, by omega⟩
    rw [List.take_append, List.take_of_length_le (by rw [h8]; omega), h8, show 8 + i - 8 = i by omega]
    have hh : hdR (strOfNums (headB ++ (bHead m ++ bTail m).take i)) = .ok ((), strOfNums ((bHead m ++ bTail m).take i)) := by
      unfold hdR
      rw [← strOfNums_app]
      have q1 : (strOfNums headB ++ strOfNums ((bHead m ++ bTail m).take i)).extract 0 8 = strOfNums headB := ext_head headB _
      have q2 : (strOfNums headB ++ strOfNums ((bHead m ++ bTail m).take i)).extract 8 (strOfNums headB ++ strOfNums ((bHead m ++ bTail m).take i)).size = strOfNums ((bHead m ++ bTail m).take i) := ext_app headB _
      rw [if_pos q1, q2]
    have hm : modR (strOfNums (headB ++ (bHead m ++ bTail m).take i)) = needR (needR (secsR ((strOfNums ((bHead m ++ bTail m).take i)).size + 1) so0) e1R 2) e2R 2 (strOfNums ((bHead m ++ bTail m).take i)) := by
      unfold modR
      rw [bindR_ok hh]
    rw [hm]
    rcases hs.cut 0 (Int.le_refl _) [] ⟨rfl, ⟨fun _ h => absurd h List.not_mem_nil, fun _ h => absurd h List.not_mem_nil, fun _ h => absurd h List.not_mem_nil, fun _ h => absurd h List.not_mem_nil⟩, rfl⟩ i (by omega) ((strOfNums ((bHead m ++ bTail m).take i)).size + 1) (by rw [strOfNums_size, List.length_take]; omega) with h | ⟨n, l, h, hp⟩
    · refine .inl ?_
      have h1 : needR (secsR ((strOfNums ((bHead m ++ bTail m).take i)).size + 1) so0) e1R 2 (strOfNums ((bHead m ++ bTail m).take i)) = .error 2 := bindR_err h
      have h2 : needR (needR (secsR ((strOfNums ((bHead m ++ bTail m).take i)).size + 1) so0) e1R 2) e2R 2 (strOfNums ((bHead m ++ bTail m).take i)) = .error 2 := bindR_err h1
      rw [h2]
      rfl
    · have h' : secsR ((strOfNums ((bHead m ++ bTail m).take i)).size + 1) so0 (strOfNums ((bHead m ++ bTail m).take i)) = .ok (⟨n, l, -1⟩, strOfNums []) := h
      by_cases e1 : e1R ⟨n, l, -1⟩ = true
      · refine .inr ⟨n, ?_, ?_, hp.w, by rw [hp.b, List.nil_append]⟩
        · have h1 : needR (secsR ((strOfNums ((bHead m ++ bTail m).take i)).size + 1) so0) e1R 2 (strOfNums ((bHead m ++ bTail m).take i)) = .ok (⟨n, l, -1⟩, strOfNums []) := by
            unfold needR
            rw [bindR_ok h']
            show (if e1R ⟨n, l, -1⟩ = true then pureR (Sofar.mk n l (-1)) else failR 2) (strOfNums []) = _
            rw [if_pos e1]
            rfl
          have h2 : needR (needR (secsR ((strOfNums ((bHead m ++ bTail m).take i)).size + 1) so0) e1R 2) e2R 2 (strOfNums ((bHead m ++ bTail m).take i)) = .ok (⟨n, l, -1⟩, strOfNums []) := by
            show bindR _ (fun x => if e2R x = true then pureR x else failR 2) _ = _
            rw [bindR_ok h1]
            rfl
          rw [h2]
          rfl
        · have ho2 := hp.o
          unfold secO at ho2
          unfold oMod
          rw [ho2, Bool.and_true]
          unfold e1R at e1
          have e2 : ((n.codes.length : Int)) = (n.funcs.length : Int) := of_decide_eq_true e1
          rw [e2]
          exact beq_self_eq_true _
      · refine .inl ?_
        have h1 : needR (secsR ((strOfNums ((bHead m ++ bTail m).take i)).size + 1) so0) e1R 2 (strOfNums ((bHead m ++ bTail m).take i)) = .error 2 := by
          unfold needR
          rw [bindR_ok h']
          show (if e1R ⟨n, l, -1⟩ = true then pureR (Sofar.mk n l (-1)) else failR 2) (strOfNums []) = _
          rw [if_neg e1]
          rfl
        have h2 : needR (needR (secsR ((strOfNums ((bHead m ++ bTail m).take i)).size + 1) so0) e1R 2) e2R 2 (strOfNums ((bHead m ++ bTail m).take i)) = .error 2 := bindR_err h1
        rw [h2]
        rfl
end Go.Proofs.YtekonefnniaheaaGreat
namespace Go.Proofs.YtekonefnniaheaaGreat
open Go.RowKit Go.Deep

theorem lay_ways2 (m : Mdl) : layV m = ([], 1) ∨ layV m = ([], 14) ∨ layV m = (bMod m, 0) ∧ oMod m = true ∧ (bMod m).length ≤ 65536 := by
  rw [layV_eq]
  by_cases ho : oMod m = true
  · rw [if_pos ho]
    by_cases hl : 65536 < (bMod m).length
    · rw [if_pos hl]
      exact .inr (.inl rfl)
    · rw [if_neg hl]
      exact .inr (.inr ⟨rfl, ho, by omega⟩)
  · rw [if_neg ho]
    exact .inl rfl
theorem noM_ok : MdlOk noM := ⟨fun _ h => absurd h (Nat.not_lt_zero _), fun _ h => absurd h (Nat.not_lt_zero _), fun _ h => absurd h (Nat.not_lt_zero _), fun _ h => absurd h (Nat.not_lt_zero _)⟩
theorem ext_take (b : List Int) (j : Nat) (hj : j ≤ b.length) : (strOfNums b).extract 0 j = strOfNums (b.take j) := by
  have h := ext_head (b.take j) (strOfNums (b.drop j))
  rw [strOfNums_app, List.take_append_drop, List.length_take, Nat.min_eq_left hj] at h
  exact h
/-- A reading that fails. -/
theorem take_err {s : ByteArray} (hs : s.size ≤ maxLen) (h : takeMd s = .error 2) (w : World) : Calls Tryz.prog 12 #[.string s] w fun e w2 => ∃ yT dT yI dI yF dF yB dB yM dM yG dG yX dX yE dE yC dC yD dD, e = .returned (.tuple #[.agg #[.slice yT 0 dT, .slice yI 0 dI, .slice yF 0 dF, .slice yB 0 dB, .slice yM 0 dM, .slice yG 0 dG, .slice yX 0 dX, .int .i64 0, .slice yE 0 dE, .slice yC 0 dC, .slice yD 0 dD], .int .i64 2]) ∧ Below w.heap.size w w2 ∧ MdlIn w2 noM yT dT yI dI yF dF yB dB yM dM yG dG yX dX yE dE yC dC yD dD := by
  refine (TakeM_any s hs w).mono ?_
  rintro e w2 ⟨vs, f, he, hb, _, ⟨m', hm, _⟩ | ⟨hm, _, hv⟩⟩
  · rw [h] at hm
    cases hm
  · rw [h] at hm
    injection hm with hm
    subst hm
    obtain ⟨yT, dT, yI, dI, yF, dF, yB, dB, yM, dM, yG, dG, yX, dX, yE, dE, yC, dC, yD, dD, rfl, hin⟩ := hv.ex
    exact ⟨yT, dT, yI, dI, yF, dF, yB, dB, yM, dM, yG, dG, yX, dX, yE, dE, yC, dC, yD, dD, he, hb, hin⟩
theorem take_okM {s : ByteArray} {n : Mdl} (hs : s.size ≤ maxLen) (h : takeMd s = .ok n) (w : World) : Calls Tryz.prog 12 #[.string s] w fun e w2 => ∃ yT dT yI dI yF dF yB dB yM dM yG dG yX dX yE dE yC dC yD dD, e = .returned (.tuple #[.agg #[.slice yT n.types.length dT, .slice yI n.imports.length dI, .slice yF n.funcs.length dF, .slice yB n.tables.length dB, .slice yM n.mems.length dM, .slice yG n.globals.length dG, .slice yX n.exports.length dX, .int .i64 n.start, .slice yE n.elems.length dE, .slice yC n.codes.length dC, .slice yD n.datas.length dD], .int .i64 0]) ∧ Below w.heap.size w w2 ∧ MdlIn w2 n yT dT yI dI yF dF yB dB yM dM yG dG yX dX yE dE yC dC yD dD := by
  refine (TakeM_any s hs w).mono ?_
  rintro e w2 ⟨vs, f, he, hb, _, ⟨m', hm, rfl, hv⟩ | ⟨hm, _⟩⟩
  · rw [h] at hm
    injection hm with hm
    subst hm
    obtain ⟨yT, dT, yI, dI, yF, dF, yB, dB, yM, dM, yG, dG, yX, dX, yE, dE, yC, dC, yD, dD, rfl, hin⟩ := hv.ex
    exact ⟨yT, dT, yI, dI, yF, dF, yB, dB, yM, dM, yG, dG, yX, dX, yE, dE, yC, dC, yD, dD, he, hb, hin⟩
  · rw [h] at hm
    cases hm
theorem same_noM {w : World} {yT : Option Addr} {dT : Nat} {yI : Option Addr} {dI : Nat} {yF : Option Addr} {dF : Nat} {yB : Option Addr} {dB : Nat} {yM : Option Addr} {dM : Nat} {yG : Option Addr} {dG : Nat} {yX : Option Addr} {dX : Nat} {yE : Option Addr} {dE : Nat} {yC : Option Addr} {dC : Nat} {yD : Option Addr} {dD : Nat} (h : MdlIn w noM yT dT yI dI yF dF yB dB yM dM yG dG yX dX yE dE yC dC yD dD) : Calls Tryz.prog 13 #[.agg #[.slice yT 0 dT, .slice yI 0 dI, .slice yF 0 dF, .slice yB 0 dB, .slice yM 0 dM, .slice yG 0 dG, .slice yX 0 dX, .int .i64 0, .slice yE 0 dE, .slice yC 0 dC, .slice yD 0 dD], .agg #[.slice none 0 0, .slice none 0 0, .slice none 0 0, .slice none 0 0, .slice none 0 0, .slice none 0 0, .slice none 0 0, .int .i64 0, .slice none 0 0, .slice none 0 0, .slice none 0 0]] w fun e w' => e = .returned (.bool true) ∧ Below w.heap.size w w' :=
  SameM_any noM yT dT yI dI yF dF yB dB yM dM yG dG yX dX yE dE yC dC yD dD none 0 none 0 none 0 none 0 none 0 none 0 none 0 none 0 none 0 none 0 w noM_ok h (noM_in w)
set_option maxRecDepth 100000 in
set_option maxHeartbeats 4000000 in
theorem ModuleCut_walk (m : Mdl) (xT : Option Addr) (cT : Nat) (xI : Option Addr) (cI : Nat) (xF : Option Addr) (cF : Nat) (xB : Option Addr) (cB : Nat) (xM : Option Addr) (cM : Nat) (xG : Option Addr) (cG : Nat) (xX : Option Addr) (cX : Nat) (xE : Option Addr) (cE : Nat) (xC : Option Addr) (cC : Nat) (xD : Option Addr) (cD : Nat) (a : Int) (w : World) (hx : MdlIn w m xT cT xI cI xF cF xB cB xM cM xG cG xX cX xE cE xC cC xD cD) :
    Calls Tryz.prog 7 #[.agg #[.slice xT m.types.length cT, .slice xI m.imports.length cI, .slice xF m.funcs.length cF, .slice xB m.tables.length cB, .slice xM m.mems.length cM, .slice xG m.globals.length cG, .slice xX m.exports.length cX, .int .i64 m.start, .slice xE m.elems.length cE, .slice xC m.codes.length cC, .slice xD m.datas.length cD], .int .i64 a] w fun e w' => e = .returned (.bool true) ∧ Below w.heap.size w w' := by
  have b1 := BlkAt.new w #[.slice xT m.types.length cT, .slice xI m.imports.length cI, .slice xF m.funcs.length cF, .slice xB m.tables.length cB, .slice xM m.mems.length cM, .slice xG m.globals.length cG, .slice xX m.exports.length cX, .int .i64 m.start, .slice xE m.elems.length cE, .slice xC m.codes.length cC, .slice xD m.datas.length cD] 32
  have HB := Lib.hid ((Below.refl w.heap.size w).alloc (Nat.le_refl _) (.cells #[.slice xT m.types.length cT, .slice xI m.imports.length cI, .slice xF m.funcs.length cF, .slice xB m.tables.length cB, .slice xM m.mems.length cM, .slice xG m.globals.length cG, .slice xX m.exports.length cX, .int .i64 m.start, .slice xE m.elems.length cE, .slice xC m.codes.length cC, .slice xD m.datas.length cD] 32))
  have HA := Lib.hid awake6_any
  have HPU := fun (w' : World) (h : Below w.heap.size w w') => PutM_any m xT cT xI cI xF cF xB cB xM cM xG cG xX cX xE cE xC cC xD cD w' (hx.below h)
  have hwf := mdlWf_of hx
  have hb := Below.refl (w.alloc (.cells #[.slice xT m.types.length cT, .slice xI m.imports.length cI, .slice xF m.funcs.length cF, .slice xB m.tables.length cB, .slice xM m.mems.length cM, .slice xG m.globals.length cG, .slice xX m.exports.length cX, .int .i64 m.start, .slice xE m.elems.length cE, .slice xC m.codes.length cC, .slice xD m.datas.length cD] 32)).heap.size (w.alloc (.cells #[.slice xT m.types.length cT, .slice xI m.imports.length cI, .slice xF m.funcs.length cF, .slice xB m.tables.length cB, .slice xM m.mems.length cM, .slice xG m.globals.length cG, .slice xX m.exports.length cX, .int .i64 m.start, .slice xE m.elems.length cE, .slice xC m.codes.length cC, .slice xD m.datas.length cD] 32))
  obtain ⟨g0, g1, g2, g3, g4, g5, g6, g7, g8, g9, g10⟩ := b1.eleven
  clear b1 hx
  rcases lay_ways2 m with hl | hl | ⟨hl, ho, hlen⟩
  · rw [hl, show strOfNums [] = (⟨#[]⟩ : ByteArray) from rfl] at HPU
    have HP := Lib.hid HPU
    clear HPU hl
    go_enter Tryz.func7, Tryz.ntmps7
    go_wp2_with (first
    | (go_at_call 10; refine (HP.out _ (HB.out.trans (hb.mono HB.out.size))).mono ?_; rintro e w2 ⟨rfl, q2⟩; have hb2 := hb.trans (q2.mono hb.size); clear HP q2 hb g0 g1 g2 g3 g4 g5 g6 g7 g8 g9 g10)
    | (go_at_call 9; refine (HA.out _).mono ?_; rintro e w9 ⟨rfl, q9⟩; have hb9 := hb2.trans (q9.mono hb2.size); clear q9))
    all_goals
      go_ret
      exact ⟨rfl, HB.out.trans (hb9.mono HB.out.size)⟩
  · rw [hl, show strOfNums [] = (⟨#[]⟩ : ByteArray) from rfl] at HPU
    have HP := Lib.hid HPU
    clear HPU hl
    go_enter Tryz.func7, Tryz.ntmps7
    go_wp2_with (first
    | (go_at_call 10; refine (HP.out _ (HB.out.trans (hb.mono HB.out.size))).mono ?_; rintro e w2 ⟨rfl, q2⟩; have hb2 := hb.trans (q2.mono hb.size); clear HP q2 hb g0 g1 g2 g3 g4 g5 g6 g7 g8 g9 g10)
    | (go_at_call 9; refine (HA.out _).mono ?_; rintro e w9 ⟨rfl, q9⟩; have hb9 := hb2.trans (q9.mono hb2.size); clear q9))
    all_goals
      go_ret
      exact ⟨rfl, HB.out.trans (hb9.mono HB.out.size)⟩
  · rw [hl] at HPU
    have HP := Lib.hid HPU
    have hcut := takeM_cut ho hwf hlen
    have hex := ext_take (bMod m)
    have hsz := strOfNums_size (bMod m)
    have HB2 := Lib.hid (show (bMod m).length ≤ 65536 from hlen)
    clear HPU hl ho hwf hlen
    revert HP
    generalize strOfNums (bMod m) = S at hex hsz
    intro HP
    by_cases hneg : a < 0
    · clear hcut hex hsz
      go_enter Tryz.func7, Tryz.ntmps7
      go_wp2_with (first
      | (go_at_call 10; refine (HP.out _ (HB.out.trans (hb.mono HB.out.size))).mono ?_; rintro e w2 ⟨rfl, q2⟩; have hb2 := hb.trans (q2.mono hb.size); clear HP q2 hb g0 g1 g2 g3 g4 g5 g6 g7 g8 g9 g10)
      | (go_at_call 9; refine (HA.out _).mono ?_; rintro e w9 ⟨rfl, q9⟩; have hb9 := hb2.trans (q9.mono hb2.size); clear q9))
      all_goals
        go_ret
        exact ⟨rfl, HB.out.trans (hb9.mono HB.out.size)⟩
    obtain ⟨j, rfl⟩ : ∃ j : Nat, a = j := ⟨a.toNat, by omega⟩
    by_cases hge : (S.size : Int) ≤ (j : Int)
    · clear hcut hex hsz
      go_enter Tryz.func7, Tryz.ntmps7
      go_wp2_with (first
      | (go_at_call 10; refine (HP.out _ (HB.out.trans (hb.mono HB.out.size))).mono ?_; rintro e w2 ⟨rfl, q2⟩; have hb2 := hb.trans (q2.mono hb.size); clear HP q2 hb g0 g1 g2 g3 g4 g5 g6 g7 g8 g9 g10)
      | (go_at_call 9; refine (HA.out _).mono ?_; rintro e w9 ⟨rfl, q9⟩; have hb9 := hb2.trans (q9.mono hb2.size); clear q9))
      all_goals
        go_ret
        exact ⟨rfl, HB.out.trans (hb9.mono HB.out.size)⟩
    have hjl : j < (bMod m).length := by omega
    have hjs : j ≤ S.size := by omega
    have hS : S.size ≤ 65536 := by have := HB2.out; omega
    have hmax : (S.extract 0 j).size ≤ maxLen := by rw [ByteArray.size_extract]; unfold maxLen; omega
    rcases hcut j hjl with h | ⟨n, h, hon, hwn, hbn⟩
    · rw [← hex j (by omega)] at h
      have HT := Lib.hid (take_err hmax h)
      clear hcut hex hsz h hmax
      go_enter Tryz.func7, Tryz.ntmps7
      go_wp2_with (first
      | (go_at_call 10; refine (HP.out _ (HB.out.trans (hb.mono HB.out.size))).mono ?_; rintro e w2 ⟨rfl, q2⟩; have hb2 := hb.trans (q2.mono hb.size); clear HP q2 hb g0 g1 g2 g3 g4 g5 g6 g7 g8 g9 g10)
      | (go_at_call 12; refine (HT.out _).mono ?_; rintro e w3 ⟨yT, dT, yI, dI, yF, dF, yB, dB, yM, dM, yG, dG, yX, dX, yE, dE, yC, dC, yD, dD, rfl, q3, hy⟩; have hb3 := hb2.trans (q3.mono hb2.size); have bz := (Below.refl w3.heap.size w3).alloc (Nat.le_refl _) (.cells #[.slice yT 0 dT, .slice yI 0 dI, .slice yF 0 dF, .slice yB 0 dB, .slice yM 0 dM, .slice yG 0 dG, .slice yX 0 dX, .int .i64 0, .slice yE 0 dE, .slice yC 0 dC, .slice yD 0 dD] 32); have hb4 := hb3.trans (bz.mono hb3.size); have HSM := Lib.hid (same_noM (hy.below bz)); clear HT q3 hb2 hb3 bz hy)
      | (go_at_call 13; refine HSM.out.mono ?_; rintro e w5 ⟨rfl, q5⟩; have hb5 := hb4.trans (q5.mono hb4.size); clear HSM q5 hb4)
      | (go_at_call 9; refine (HA.out _).mono ?_; rintro e w9 ⟨rfl, q9⟩; have hb9 := hb5.trans (q9.mono hb5.size); clear q9))
      all_goals
        go_ret
        exact ⟨rfl, HB.out.trans (hb9.mono HB.out.size)⟩
    · have hln : layV n = (bMod n, 0) := by
        rw [layV_eq, if_pos hon, if_neg (by rw [hbn, List.length_take]; have := HB2.out; omega)]
      rw [hbn] at hln
      rw [← hex j (by omega)] at h
      have HT := Lib.hid (take_okM hmax h)
      have HPN :=  fun (yT : Option Addr) (dT : Nat) (yI : Option Addr) (dI : Nat) (yF : Option Addr) (dF : Nat) (yB : Option Addr) (dB : Nat) (yM : Option Addr) (dM : Nat) (yG : Option Addr) (dG : Nat) (yX : Option Addr) (dX : Nat) (yE : Option Addr) (dE : Nat) (yC : Option Addr) (dC : Nat) (yD : Option Addr) (dD : Nat) (w' : World) (h : MdlIn w' n yT dT yI dI yF dF yB dB yM dM yG dG yX dX yE dE yC dC yD dD) => PutM_any n yT dT yI dI yF dF yB dB yM dM yG dG yX dX yE dE yC dC yD dD w' h
      have HPM : Hid (∀ (yT : Option Addr) (dT : Nat) (yI : Option Addr) (dI : Nat) (yF : Option Addr) (dF : Nat) (yB : Option Addr) (dB : Nat) (yM : Option Addr) (dM : Nat) (yG : Option Addr) (dG : Nat) (yX : Option Addr) (dX : Nat) (yE : Option Addr) (dE : Nat) (yC : Option Addr) (dC : Nat) (yD : Option Addr) (dD : Nat) (w' : World), MdlIn w' n yT dT yI dI yF dF yB dB yM dM yG dG yX dX yE dE yC dC yD dD → Calls Tryz.prog 10 #[.agg #[.slice yT n.types.length dT, .slice yI n.imports.length dI, .slice yF n.funcs.length dF, .slice yB n.tables.length dB, .slice yM n.mems.length dM, .slice yG n.globals.length dG, .slice yX n.exports.length dX, .int .i64 n.start, .slice yE n.elems.length dE, .slice yC n.codes.length dC, .slice yD n.datas.length dD]] w' fun e w2 => e = .returned (.tuple #[.string (S.extract 0 j), .int .i64 0]) ∧ Below w'.heap.size w' w2) := Lib.hid fun yT dT yI dI yF dF yB dB yM dM yG dG yX dX yE dE yC dC yD dD w' h => by
        have := HPN yT dT yI dI yF dF yB dB yM dM yG dG yX dX yE dE yC dC yD dD w' h
        rw [hln] at this
        rw [hex j (by omega)]
        exact this
      clear hcut hex hsz h hmax HPN hln hon hwn hbn
      go_enter Tryz.func7, Tryz.ntmps7
      go_wp2_with (first
      | (go_at_call 10; refine (HP.out _ (HB.out.trans (hb.mono HB.out.size))).mono ?_; rintro e w2 ⟨rfl, q2⟩; have hb2 := hb.trans (q2.mono hb.size); clear HP q2 hb g0 g1 g2 g3 g4 g5 g6 g7 g8 g9 g10)
      | (go_at_call 12; refine (HT.out _).mono ?_; rintro e w3 ⟨yT, dT, yI, dI, yF, dF, yB, dB, yM, dM, yG, dG, yX, dX, yE, dE, yC, dC, yD, dD, rfl, q3, hy⟩; have hb3 := hb2.trans (q3.mono hb2.size); have bz := (Below.refl w3.heap.size w3).alloc (Nat.le_refl _) (.cells #[.slice yT n.types.length dT, .slice yI n.imports.length dI, .slice yF n.funcs.length dF, .slice yB n.tables.length dB, .slice yM n.mems.length dM, .slice yG n.globals.length dG, .slice yX n.exports.length dX, .int .i64 n.start, .slice yE n.elems.length dE, .slice yC n.codes.length dC, .slice yD n.datas.length dD] 32); have hb4 := hb3.trans (bz.mono hb3.size); have HPO := Lib.hid (HPM.out yT dT yI dI yF dF yB dB yM dM yG dG yX dX yE dE yC dC yD dD _ (hy.below bz)); clear HT q3 hb2 hb3 bz hy HPM)
      | (go_at_call 10; refine HPO.out.mono ?_; rintro e w5 ⟨rfl, q5⟩; have hb5 := hb4.trans (q5.mono hb4.size); clear HPO q5 hb4)
      | (go_at_call 9; refine (HA.out _).mono ?_; rintro e w9 ⟨rfl, q9⟩; have hb9 := hb5.trans (q9.mono hb5.size); clear q9))
      all_goals
        go_ret
        exact ⟨rfl, HB.out.trans (hb9.mono HB.out.size)⟩
end Go.Proofs.YtekonefnniaheaaGreat
