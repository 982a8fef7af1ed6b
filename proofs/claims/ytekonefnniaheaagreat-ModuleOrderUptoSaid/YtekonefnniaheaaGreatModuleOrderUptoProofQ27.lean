/- Texts of the proof of ModuleOrderUptoProof, part 27. -/
import Derived.IntWalk
import Derived.Test.YtekonefnniaheaaGreatRows
import Derived.Test.YtekonefnniaheaaGreatModuleOrderUptoProofQ1
import Derived.Test.YtekonefnniaheaaGreatModuleOrderUptoProofQ15
import Derived.Test.YtekonefnniaheaaGreatModuleOrderUptoProofQ26
set_option linter.unusedVariables false
set_option linter.unusedVariables false
namespace Go.Proofs.YtekonefnniaheaaGreat
open Go.RowKit Go.Deep
open Leb (byt byt_lt byt_get len7 sum7 putU putS)

def secO (m : Mdl) : Bool := oSect oFT m.types && oSect oImp m.imports && oSect oIdx m.funcs && oSect (fun x : Lim => oLim x.mn x.mx) m.tables && oSect (fun x : Lim => oLim x.mn x.mx) m.mems && (oSect oGlo m.globals && oSect oExp m.exports && oStart m.start && oSect oEle m.elems && oSect oCod m.codes && oSect oDat m.datas)
/-- This module may be laid, and its sections' bytes are these. -/
structure Pre (m : Mdl) (B : List Int) : Prop where
  o : secO m = true
  w : MdlWf m
  b : bHead m ++ bTail m = B
/-- Sections that lead from one module to another; cut off they are none, or lead to some module's bytes. -/
structure CutTo (m : Mdl) (p0 : Int) (b : List Int) (m' : Mdl) (p1 : Int) : Prop where
  to : SecTo m p0 b m' p1
  pre : ∀ B, Pre m B → Pre m' (B ++ b)
  cut : ∀ last, last ≤ p0 → ∀ B, Pre m B → ∀ j, j < b.length → ∀ k, j < k → secsR k ⟨m, last, -1⟩ (strOfNums (b.take j)) = .error 2 ∨ ∃ n l, secsR k ⟨m, last, -1⟩ (strOfNums (b.take j)) = .ok (⟨n, l, -1⟩, strOfNums []) ∧ Pre n (B ++ b.take j)
theorem CutTo.trans {m1 m2 m3 : Mdl} {p0 p1 p2 : Int} {x y : List Int} (h1 : CutTo m1 p0 x m2 p1) (h2 : CutTo m2 p1 y m3 p2) : CutTo m1 p0 (x ++ y) m3 p2 := by
  refine ⟨h1.to.trans h2.to, fun B h => ?_, fun last hl B h j hj k hk => ?_⟩
  · rw [← List.append_assoc]
    exact h2.pre _ (h1.pre _ h)
  · by_cases hx : j < x.length
    · rw [List.take_append_of_le_length (by omega)]
      exact h1.cut last hl B h j hx k hk
    · rw [List.length_append] at hj
      rw [List.take_append, List.take_of_length_le (by omega)]
      obtain ⟨l1, e1, q1⟩ := h1.to last hl
      obtain ⟨k', hk', hq⟩ := q1 k (y.take (j - x.length)) (by rw [strOfNums_size, List.length_append, List.length_take]; omega)
      rw [hq, ← List.append_assoc]
      rw [strOfNums_size, List.length_take] at hk'
      exact h2.cut l1 e1 _ (h1.pre _ h) _ (by omega) k' (by omega)
theorem CutTo.none {m : Mdl} {p0 p1 : Int} (h : p0 ≤ p1) : CutTo m p0 [] m p1 := ⟨SecTo.none h, fun B h => by rwa [List.append_nil], fun _ _ _ _ j hj => absurd hj (by simp)⟩
theorem secs_nil {k : Nat} (hk : 0 < k) (so : Sofar) : secsR k so (strOfNums []) = .ok (so, strOfNums []) := by
  obtain ⟨i, rfl⟩ : ∃ i, k = i + 1 := ⟨k - 1, by omega⟩
  exact secs_end (by rfl)
theorem CutTo.one {m m' : Mdl} {p0 n : Int} {b : List Int} (h0 : 0 < n) (h1 : n ≤ 12) (hp : p0 < placeN n) (h : Enc (contR n m (-1)) (m', -1) b) (hb : b.length ≤ 4294967295) (hpre : ∀ B, Pre m B → Pre m' (B ++ ([n % 256] ++ (putU b.length ++ b)))) : CutTo m p0 ([n % 256] ++ (putU b.length ++ b)) m' (placeN n) := by
  refine ⟨SecTo.one h0 h1 hp h hb, hpre, fun last hl B hB j hj k hk => ?_⟩
  have he := enc_sect (so := ⟨m, last, -1⟩) h0 h1 (by show last < placeN n; omega) h hb
  revert hj he
  generalize [n % 256] ++ (putU b.length ++ b) = bb
  intro hj he
  by_cases hz : j = 0
  · subst hz
    exact .inr ⟨m, last, by rw [List.take_zero]; exact secs_nil hk _, by rw [List.take_zero, List.append_nil]; exact hB⟩
  · obtain ⟨i, rfl⟩ : ∃ i, k = i + 1 := ⟨k - 1, by omega⟩
    refine .inl ?_
    rw [secs_step (by rw [strOfNums_size, List.length_take]; omega), he.2 j hj]
    rfl
end Go.Proofs.YtekonefnniaheaaGreat
set_option linter.unusedVariables false
namespace Go.Proofs.YtekonefnniaheaaGreat
open Go.RowKit Go.Deep

theorem lay_ways2 (m : Mdl) : layV m = ([], 1) ∨ layV m = ([], 14) ∨ layV m = (bMod m, 0) ∧ oMod m = true ∧ (bMod m).length ≤ 65536 := by
  rw [layV_eq]
  by_cases ho : oMod m = true
  · rw [if_pos ho]
    by_cases hl : 65536 < (bMod m).length
    · rw [if_pos hl]
      exact .inr (.inl rfl)
    · rw [if_neg hl]
      exact .inr (.inr ⟨rfl, ho, by omega⟩)
  · rw [if_neg ho]
    exact .inl rfl
theorem noM_ok : MdlOk noM := ⟨fun _ h => absurd h (Nat.not_lt_zero _), fun _ h => absurd h (Nat.not_lt_zero _), fun _ h => absurd h (Nat.not_lt_zero _), fun _ h => absurd h (Nat.not_lt_zero _)⟩
/-- A reading that fails. -/
theorem take_err {s : ByteArray} (hs : s.size ≤ maxLen) (h : takeMd s = .error 2) (w : World) : Calls Tryz.prog 12 #[.string s] w fun e w2 => ∃ yT dT yI dI yF dF yB dB yM dM yG dG yX dX yE dE yC dC yD dD, e = .returned (.tuple #[.agg #[.slice yT 0 dT, .slice yI 0 dI, .slice yF 0 dF, .slice yB 0 dB, .slice yM 0 dM, .slice yG 0 dG, .slice yX 0 dX, .int .i64 0, .slice yE 0 dE, .slice yC 0 dC, .slice yD 0 dD], .int .i64 2]) ∧ Below w.heap.size w w2 ∧ MdlIn w2 noM yT dT yI dI yF dF yB dB yM dM yG dG yX dX yE dE yC dC yD dD := by
  refine (TakeM_any s hs w).mono ?_
  rintro e w2 ⟨vs, f, he, hb, _, ⟨m', hm, _⟩ | ⟨hm, _, hv⟩⟩
  · rw [h] at hm
    cases hm
  · rw [h] at hm
    injection hm with hm
    subst hm
    obtain ⟨yT, dT, yI, dI, yF, dF, yB, dB, yM, dM, yG, dG, yX, dX, yE, dE, yC, dC, yD, dD, rfl, hin⟩ := hv.ex
    exact ⟨yT, dT, yI, dI, yF, dF, yB, dB, yM, dM, yG, dG, yX, dX, yE, dE, yC, dC, yD, dD, he, hb, hin⟩
theorem same_noM {w : World} {yT : Option Addr} {dT : Nat} {yI : Option Addr} {dI : Nat} {yF : Option Addr} {dF : Nat} {yB : Option Addr} {dB : Nat} {yM : Option Addr} {dM : Nat} {yG : Option Addr} {dG : Nat} {yX : Option Addr} {dX : Nat} {yE : Option Addr} {dE : Nat} {yC : Option Addr} {dC : Nat} {yD : Option Addr} {dD : Nat} (h : MdlIn w noM yT dT yI dI yF dF yB dB yM dM yG dG yX dX yE dE yC dC yD dD) : Calls Tryz.prog 13 #[.agg #[.slice yT 0 dT, .slice yI 0 dI, .slice yF 0 dF, .slice yB 0 dB, .slice yM 0 dM, .slice yG 0 dG, .slice yX 0 dX, .int .i64 0, .slice yE 0 dE, .slice yC 0 dC, .slice yD 0 dD], .agg #[.slice none 0 0, .slice none 0 0, .slice none 0 0, .slice none 0 0, .slice none 0 0, .slice none 0 0, .slice none 0 0, .int .i64 0, .slice none 0 0, .slice none 0 0, .slice none 0 0]] w fun e w' => e = .returned (.bool true) ∧ Below w.heap.size w w' :=
  SameM_any noM yT dT yI dI yF dF yB dB yM dM yG dG yX dX yE dE yC dC yD dD none 0 none 0 none 0 none 0 none 0 none 0 none 0 none 0 none 0 none 0 w noM_ok h (noM_in w)
end Go.Proofs.YtekonefnniaheaaGreat
set_option linter.unusedVariables false
namespace Go.Proofs.YtekonefnniaheaaGreat
open Go.RowKit Go.Deep
open Leb (byt byt_lt byt_get len7 sum7 putU putS)

/-- A section of this number, with these bytes within. -/
structure Sec (p : Int × List Int) : Prop where
  h0 : 0 < p.1
  h1 : p.1 ≤ 11
  r : ∀ M, ∃ M', Enc (contR p.1 M (-1)) (M', -1) p.2
  l : p.2.length ≤ 4294967295
def secB (p : Int × List Int) : List Int := [p.1 % 256] ++ (putU p.2.length ++ p.2)
theorem secB_pos (p : Int × List Int) : 0 < (secB p).length := by
  unfold secB
  simp
theorem place_two {n : Int} (h : n ≤ 11) : placeN n = 2 * n := by
  unfold placeN
  exact if_neg (by omega)
def Up (a b : Int × List Int) : Prop := a.1 < b.1
/-- These bytes are sections whose numbers lie in a span, one behind the other. -/
def Cuts (lo hi : Int) (b : List Int) : Prop := ∃ L : List (Int × List Int), b = L.flatMap secB ∧ (∀ p, p ∈ L → Sec p ∧ lo < p.1 ∧ p.1 ≤ hi) ∧ L.Pairwise Up
theorem Cuts.trans {a b c : Int} {x y : List Int} (h1 : Cuts a b x) (h2 : Cuts b c y) (hab : a ≤ b) (hbc : b ≤ c) : Cuts a c (x ++ y) := by
  obtain ⟨L1, rfl, q1, p1⟩ := h1
  obtain ⟨L2, rfl, q2, p2⟩ := h2
  refine ⟨L1 ++ L2, by rw [List.flatMap_append], fun p hp => ?_, List.pairwise_append.2 ⟨p1, p2, fun u hu v hv => ?_⟩⟩
  · rcases List.mem_append.1 hp with h | h
    · obtain ⟨s, g1, g2⟩ := q1 p h
      exact ⟨s, g1, by omega⟩
    · obtain ⟨s, g1, g2⟩ := q2 p h
      exact ⟨s, by omega, g2⟩
  · have := (q1 u hu).2.2
    have := (q2 v hv).2.1
    show u.1 < v.1
    omega
theorem Cuts.none (a b : Int) : Cuts a b [] := ⟨[], rfl, fun _ h => absurd h List.not_mem_nil, List.Pairwise.nil⟩
theorem Cuts.one {n : Int} {c : List Int} (h : Sec (n, c)) : Cuts (n - 1) n ([n % 256] ++ (putU c.length ++ c)) := by
  refine ⟨[(n, c)], by simp [secB], fun p hp => ?_, List.pairwise_singleton _ _⟩
  rw [List.mem_singleton] at hp
  subst hp
  exact ⟨h, by show n - 1 < n; omega, Int.le_refl _⟩
theorem cuts_list {α : Type} {n : Int} {b : α → List Int} {ok : α → Bool} {ts : List α} {R : Rd α} (h0 : 0 < n) (h1 : n ≤ 11) (ho : oSect ok ts = true) (hR : ∀ t, t ∈ ts → ok t = true → Enc R t (b t))
    (hc : Enc (listR 1000 R) ts (bList b ts) → ∀ M, ∃ M', Enc (contR n M (-1)) (M', -1) (bList b ts)) (hb : ¬ ts.length = 0 → (bList b ts).length ≤ 4294967295) : Cuts (n - 1) n (bSect n b ts) := by
  unfold bSect
  unfold oSect at ho
  by_cases hz : ts.length = 0
  · rw [if_pos hz]
    exact Cuts.none _ _
  · rw [if_neg hz] at ho ⊢
    exact Cuts.one ⟨h0, h1, hc (enc_listO (by decide) ho hR), hb hz⟩
set_option maxHeartbeats 2000000 in
/-- A module's bytes behind their head are such sections. -/
theorem mod_cuts2 {m : Mdl} (ho : oMod m = true) (hw : MdlWf m) (hl : (bMod m).length ≤ 65536) : Cuts 0 11 (bHead m ++ bTail m) := by
  unfold oMod at ho
  obtain ⟨_, ho⟩ := and_two ho
  obtain ⟨ha, hb⟩ := and_two ho
  obtain ⟨ha, o5⟩ := and_two ha
  obtain ⟨ha, o4⟩ := and_two ha
  obtain ⟨ha, o3⟩ := and_two ha
  obtain ⟨o1, o2⟩ := and_two ha
  obtain ⟨hb, o11⟩ := and_two hb
  obtain ⟨hb, o10⟩ := and_two hb
  obtain ⟨hb, o9⟩ := and_two hb
  obtain ⟨hb, o8⟩ := and_two hb
  obtain ⟨o6, o7⟩ := and_two hb
  unfold bMod bHead bTail at hl
  simp only [List.length_append] at hl
  have key : ∀ {α : Type} (n : Int) (b : α → List Int) (ts : List α), (bSect n b ts).length ≤ 65536 → ¬ ts.length = 0 → (bList b ts).length ≤ 4294967295 := fun n b ts h hz => Nat.le_trans (sect_len n b ts _ h hz) (by omega)
  have key0 : ∀ {α : Type} (n : Int) (b : α → List Int) (ts : List α), (bSect n b ts).length ≤ 65536 → (bList b ts).length ≤ 4294967295 := fun n b ts h => by
    by_cases hz : ts.length = 0
    · have := empty_list hz
      subst this
      have h0 : (bList b ([] : List _)).length = 1 := by
        unfold bList
        rw [List.length_append, List.flatMap_nil]
        show (putU 0).length + 0 = 1
        rw [putU_zero]
        rfl
      omega
    · exact key n b ts h hz
  have s1 : Cuts 0 1 (bSect 1 bFT m.types) := cuts_list (n := 1) (by decide) (by decide) o1 (fun t _ h => enc_ft h) (fun h M => ⟨_, enc_mapR h (fun l => (({ M with types := l } : Mdl), (-1 : Int)))⟩) (key 1 _ _ (by omega))
  have s2 : Cuts 1 2 (bSect 2 bImp m.imports) := cuts_list (n := 2) (by decide) (by decide) o2 (fun t _ h => enc_imp h) (fun h M => ⟨_, enc_mapR h (fun l => (({ M with imports := l } : Mdl), (-1 : Int)))⟩) (key 2 _ _ (by omega))
  have s3 : Cuts 2 3 (bSect 3 putU m.funcs) := cuts_list (n := 3) (by decide) (by decide) o3 (fun t _ h => enc_idx h) (fun h M => ⟨_, enc_mapR h (fun l => (({ M with funcs := l } : Mdl), (-1 : Int)))⟩) (key 3 _ _ (by omega))
  have s4 : Cuts 3 4 (bSect 4 (fun x : Lim => bTab x.mn x.mx) m.tables) := cuts_list (n := 4) (by decide) (by decide) o4 (fun t _ h => enc_tab h) (fun h M => ⟨_, enc_mapR h (fun l => (({ M with tables := l } : Mdl), (-1 : Int)))⟩) (key 4 _ _ (by omega))
  have s5 : Cuts 4 5 (bSect 5 (fun x : Lim => bLim x.mn x.mx) m.mems) := cuts_list (n := 5) (by decide) (by decide) o5 (fun t _ h => enc_lim h) (fun h M => ⟨_, enc_mapR h (fun l => (({ M with mems := l } : Mdl), (-1 : Int)))⟩) (key 5 _ _ (by omega))
  have s6 : Cuts 5 6 (bSect 6 bGlo m.globals) := cuts_list (n := 6) (by decide) (by decide) o6 (fun t ht h => enc_glo h (hw.g t ht)) (fun h M => ⟨_, enc_mapR h (fun l => (({ M with globals := l } : Mdl), (-1 : Int)))⟩) (key 6 _ _ (by omega))
  have s7 : Cuts 6 7 (bSect 7 bExp m.exports) := cuts_list (n := 7) (by decide) (by decide) o7 (fun t _ h => enc_exp h) (fun h M => ⟨_, enc_mapR h (fun l => (({ M with exports := l } : Mdl), (-1 : Int)))⟩) (key 7 _ _ (by omega))
  have s8 : Cuts 7 8 (bStart m.start) := by
    unfold bStart
    obtain ⟨q1, q2⟩ := and_two o8
    by_cases hs : 0 < m.start
    · rw [if_pos hs] at q2 ⊢
      exact Cuts.one (n := 8) ⟨show (0 : Int) < 8 by decide, show (8 : Int) ≤ 11 by decide, fun M => ⟨_, enc_mapR (enc_idx q2) (fun z => (({ M with start := z + 1 } : Mdl), (-1 : Int)))⟩, by have := Leb.putU_length (m.start - 1); show (putU (m.start - 1)).length ≤ _; omega⟩
    · rw [if_neg hs]
      exact Cuts.none _ _
  have s9 : Cuts 8 9 (bSect 9 bEle m.elems) := cuts_list (n := 9) (by decide) (by decide) o9 (fun t ht h => enc_ele h (hw.e t ht)) (fun h M => ⟨_, enc_mapR h (fun l => (({ M with elems := l } : Mdl), (-1 : Int)))⟩) (key 9 _ _ (by omega))
  have s10 : Cuts 9 10 (bSect 10 bCod m.codes) := cuts_list (n := 10) (by decide) (by decide) o10 (fun t ht h => enc_cod h (hw.c t ht) (by
      have h1 := list_len bCod m.codes 4294967295 (key0 10 bCod m.codes (by omega)) ht
      unfold bCod at h1
      rw [List.length_append] at h1
      omega)) (fun h M => ⟨_, enc_mapR h (fun l => (({ M with codes := l } : Mdl), (-1 : Int)))⟩) (key 10 _ _ (by omega))
  have s11 : Cuts 10 11 (bSect 11 bDat m.datas) := cuts_list (n := 11) (by decide) (by decide) o11 (fun t ht h => enc_dat h (hw.d t ht) (by
      have h1 := list_len bDat m.datas 4294967295 (key0 11 bDat m.datas (by omega)) ht
      unfold bDat bStr at h1
      simp only [List.length_append, bl_length] at h1
      omega)) (fun h M => ⟨_, enc_mapR h (fun l => (({ M with datas := l } : Mdl), (-1 : Int)))⟩) (key 11 _ _ (by omega))
  have t5 : Cuts 0 5 (bHead m) := by
    unfold bHead
    exact (((s1.trans s2 (by decide) (by decide)).trans s3 (by decide) (by decide)).trans s4 (by decide) (by decide)).trans s5 (by decide) (by decide)
  have t11 : Cuts 5 11 (bTail m) := by
    unfold bTail
    exact ((((s6.trans s7 (by decide) (by decide)).trans s8 (by decide) (by decide)).trans s9 (by decide) (by decide)).trans s10 (by decide) (by decide)).trans s11 (by decide) (by decide)
  exact t5.trans t11 (by decide) (by decide)
/-- Sections that stand as they may are read, and the last one's place is known. -/
theorem secs_ok : ∀ (L : List (Int × List Int)) (x : Int × List Int) (last : Int) (M : Mdl), (∀ p, p ∈ L ++ [x] → Sec p ∧ last < placeN p.1) → (L ++ [x]).Pairwise Up → ∃ M', SecOk ⟨M, last, -1⟩ ((L ++ [x]).flatMap secB) ⟨M', placeN x.1, -1⟩ := by
  intro L
  induction L with
  | nil =>
    intro x last M h _
    obtain ⟨hs, hl⟩ := h x (by simp)
    obtain ⟨M', he⟩ := hs.r M
    refine ⟨M', ?_⟩
    have := SecOk.one (enc_sect (so := ⟨M, last, -1⟩) hs.h0 (by have := hs.h1; omega) hl he hs.l) (by simp)
    simpa [secB] using this
  | cons a L ih =>
    intro x last M h hp
    obtain ⟨hs, hl⟩ := h a (by simp)
    obtain ⟨M1, he⟩ := hs.r M
    have h1 := SecOk.one (enc_sect (so := ⟨M, last, -1⟩) hs.h0 (by have := hs.h1; omega) hl he hs.l) (by simp)
    rw [List.cons_append, List.pairwise_cons] at hp
    obtain ⟨M', h2⟩ := ih x (placeN a.1) M1 (fun p hpm => by
      have hsp := (h p (by simp at hpm ⊢; exact .inr hpm)).1
      refine ⟨hsp, ?_⟩
      have h3 : a.1 < p.1 := hp.1 p hpm
      rw [place_two hs.h1, place_two hsp.h1]
      omega) hp.2
    refine ⟨M', ?_⟩
    rw [List.cons_append, List.flatMap_cons]
    exact SecOk.trans h1 h2
/-- A section that stands not behind the last one. -/
theorem sect_bad {M : Mdl} {last : Int} {y : Int × List Int} (hs : Sec y) (hl : ¬ last < placeN y.1) (rest : List Int) : sectR ⟨M, last, -1⟩ (strOfNums (secB y ++ rest)) = .error 2 := by
  obtain ⟨M', he⟩ := hs.r M
  have hin := enc_in he hs.l
  have e1 : Enc byteR y.1 [y.1 % 256] := enc_mod (enc_byte (by have := hs.h0; omega) (by have := hs.h1; omega)) (by have := hs.h0; omega) (by have := hs.h1; omega)
  unfold sectR
  rw [← strOfNums_app, secB, ← strOfNums_app, ByteArray.append_assoc]
  rw [bindR_ok (e1.1 _)]
  show bindR (inR (contR y.1 M (-1))) (fun q => if y.1 = 0 then pureR (Sofar.mk q.1 last q.2) else if last < placeN y.1 then pureR (Sofar.mk q.1 (placeN y.1) q.2) else failR 2) _ = _
  rw [bindR_ok (hin.1 _), if_neg (by have := hs.h0; omega), if_neg hl]
  rfl
/-- Sections the wrong way round, or one twice. -/
theorem takeM_order {L : List (Int × List Int)} {x y : Int × List Int} (rest : List Int) (h : ∀ p, p ∈ L ++ [x] → Sec p) (hp : (L ++ [x]).Pairwise Up) (hy : Sec y) (hyx : y.1 ≤ x.1) (hl : (headB ++ ((L ++ [x]).flatMap secB ++ (secB y ++ rest))).length ≤ 65536) :
    takeMd (strOfNums (headB ++ ((L ++ [x]).flatMap secB ++ (secB y ++ rest)))) = .error 2 := by
  obtain ⟨M', ok⟩ := secs_ok L x 0 noM (fun p hpm => ⟨h p hpm, by
    have := (h p hpm).h0
    rw [place_two (h p hpm).h1]
    omega⟩) hp
  have hbad : sectR ⟨M', placeN x.1, -1⟩ (strOfNums (secB y ++ rest)) = .error 2 := sect_bad hy (by
    rw [place_two hy.h1, place_two (h x (by simp)).h1]
    omega) rest
  have hz : ¬ 65536 < (strOfNums (headB ++ ((L ++ [x]).flatMap secB ++ (secB y ++ rest)))).size := by rw [strOfNums_size]; omega
  unfold takeMd
  rw [if_neg hz]
  revert ok hbad
  generalize (L ++ [x]).flatMap secB = b
  intro ok hbad
  have hh : hdR (strOfNums (headB ++ (b ++ (secB y ++ rest)))) = .ok ((), strOfNums (b ++ (secB y ++ rest))) := by
    unfold hdR
    rw [← strOfNums_app]
    have q1 : (strOfNums headB ++ strOfNums (b ++ (secB y ++ rest))).extract 0 8 = strOfNums headB := ext_head headB _
    have q2 : (strOfNums headB ++ strOfNums (b ++ (secB y ++ rest))).extract 8 (strOfNums headB ++ strOfNums (b ++ (secB y ++ rest))).size = strOfNums (b ++ (secB y ++ rest)) := ext_app headB _
    rw [if_pos q1, q2]
  have hsec : secsR ((strOfNums (b ++ (secB y ++ rest))).size + 1) so0 (strOfNums (b ++ (secB y ++ rest))) = .error 2 := by
    obtain ⟨k', hk', hq⟩ := ok ((strOfNums (b ++ (secB y ++ rest))).size + 1) (secB y ++ rest) (Nat.lt_succ_self _)
    obtain ⟨j, rfl⟩ : ∃ j, k' = j + 1 := ⟨k' - 1, by omega⟩
    have hpos : ¬ (strOfNums (secB y ++ rest)).size = 0 := by
      rw [strOfNums_size, List.length_append]
      have := secB_pos y
      omega
    have hq' : secsR ((strOfNums (b ++ (secB y ++ rest))).size + 1) so0 (strOfNums (b ++ (secB y ++ rest))) = secsR (j + 1) ⟨M', placeN x.1, -1⟩ (strOfNums (secB y ++ rest)) := hq
    rw [hq', secs_step hpos, hbad]
    rfl
  have hm : modR (strOfNums (headB ++ (b ++ (secB y ++ rest)))) = needR (needR (secsR ((strOfNums (b ++ (secB y ++ rest))).size + 1) so0) e1R 2) e2R 2 (strOfNums (b ++ (secB y ++ rest))) := by
    unfold modR
    rw [bindR_ok hh]
  have h1 : needR (secsR ((strOfNums (b ++ (secB y ++ rest))).size + 1) so0) e1R 2 (strOfNums (b ++ (secB y ++ rest))) = .error 2 := bindR_err hsec
  have h2 : needR (needR (secsR ((strOfNums (b ++ (secB y ++ rest))).size + 1) so0) e1R 2) e2R 2 (strOfNums (b ++ (secB y ++ rest))) = .error 2 := bindR_err h1
  rw [hm, h2]
  rfl
end Go.Proofs.YtekonefnniaheaaGreat
set_option linter.unusedVariables false
namespace Go.Proofs.YtekonefnniaheaaGreat
open Go.RowKit Go.Deep
open Leb (byt byt_lt byt_get len7 sum7 putU putS)

def szS : Value → Nat
  | .string s => s.size
  | _ => 0
def secS (p : Int × List Int) : ByteArray := strOfNums (secB p)
theorem one_str (s : ByteArray) : ∀ u ∈ [Value.string s], u.oneCell' = true := by
  intro u hu
  simp at hu
  subst hu
  rfl
/-- A slice that owns these strings. -/
def Strs (base : Nat) (v : Value) (xs : List ByteArray) (w : World) : Prop := w.ownsRow base 9 1 v xs.length (xs.map Value.string)
theorem Strs.snoc {base : Nat} {v : Value} {xs : List ByteArray} {w : World} {d : ByteArray} (h : w.ownsRow base 9 1 v (xs.length + 1) (xs.map Value.string ++ [.string d])) : Strs base v (xs ++ [d]) w := by
  unfold Strs
  simpa using h
theorem Strs.below {base : Nat} {v : Value} {xs : List ByteArray} {w w' : World} (h : Strs base v xs w) (hb : Below w.heap.size w w') : Strs base v xs w' := by
  refine ⟨h.1, ?_⟩
  rcases h.2 with hn | ⟨g, cap, cur, rfl, hg, hgg, rest⟩
  · exact .inl hn
  · exact .inr ⟨g, cap, cur, rfl, hg, (hb.block g (Array.getElem?_eq_some_iff.1 hgg).1).trans hgg, rest⟩
theorem info_str : (Tryz.prog.info? 9).map (fun i => (i.zero, i.size, i.bytes)) = some (some (.string ⟨#[]⟩), 1, 16) := by kernel_rfl
theorem grownS_below {base : Nat} {w wr w1 : World} {v : Value} {ys : List ByteArray} {o : Obj} (hby : Strs base v ys wr) (hbel : Below base w wr) (hbase : base ≤ w.heap.size) (hg : (wr.alloc o).grownBy w1 v.ownBlock) : Below base w w1 :=
  (hbel.alloc (Nat.le_trans hbase hbel.size) o).grown hg (by simp; have := hbel.size; omega) (fun k hk => (World.ownsRow.lt hby k hk).1)
/-- A section is taken as it is. -/
theorem bTup_of {s a b : ByteArray} (h : bytesR s = .ok (a, b)) : bTup s = .tuple #[.string a, .string b, .int .i64 0] := by
  unfold bytesR at h
  unfold bTup
  split at h
  · rename_i h0
    injection h with h
    injection h with h1 h2
    rw [h0, h1, h2]
  · cases h
theorem sec_take {x : Int × List Int} (hx : Sec x) (rest : List Int) {s : ByteArray} (hs : s = strOfNums (secB x ++ rest)) :
    bTup (s.extract 1 s.size) = .tuple #[.string (strOfNums x.2), .string (strOfNums rest), .int .i64 0] ∧ s.extract 0 (s.size - (strOfNums rest).size) = secS x ∧ (strOfNums rest).size < s.size := by
  subst hs
  have hT : (strOfNums (secB x ++ rest)).extract 1 (strOfNums (secB x ++ rest)).size = strOfNums (putU x.2.length ++ x.2) ++ strOfNums rest := by
    have h := ext_app [x.1 % 256] (strOfNums (putU x.2.length ++ x.2) ++ strOfNums rest)
    have e : strOfNums [x.1 % 256] ++ (strOfNums (putU x.2.length ++ x.2) ++ strOfNums rest) = strOfNums (secB x ++ rest) := by
      rw [strOfNums_app, strOfNums_app]
      unfold secB
      simp only [List.append_assoc]
    rw [e] at h
    exact h
  have hE := (enc_bytesN x.2 hx.l).1 (strOfNums rest)
  have hz : (strOfNums (secB x ++ rest)).size = (secB x).length + (strOfNums rest).size := by
    rw [strOfNums_size, List.length_append, strOfNums_size]
  refine ⟨by rw [hT]; exact bTup_of hE, ?_, ?_⟩
  · rw [hz, Nat.add_sub_cancel]
    have h := ext_head (secB x) (strOfNums rest)
    rw [strOfNums_app] at h
    exact h
  · rw [hz]
    have := secB_pos x
    omega
def SecAt (base : Nat) (L : List (Int × List Int)) (w : World) (rest v : Value) (wr : World) : Prop :=
  ∃ L1 L2, L = L1 ++ L2 ∧ rest = .string (strOfNums (L2.flatMap secB)) ∧ Strs base v (L1.map secS) wr ∧ Below base w wr
def GivesSecs (base : Nat) (L : List (Int × List Int)) (w : World) (e : Ending) (w' : World) : Prop :=
  ∃ v, e = .returned v ∧ Strs base v (L.map secS) w' ∧ Below base w w'
theorem Strs.view {base : Nat} {v : Value} {xs : List ByteArray} {w : World} (h : Strs base v xs w) : ∃ a cap, v = .slice a xs.length cap ∧ ∀ i, i < xs.length → ∃ g, a = some ⟨g, 0, none⟩ ∧ w.cell? ⟨g, i, none⟩ = some (.string (xs.getD i ⟨#[]⟩)) := by
  rcases h.2 with ⟨hn, h0⟩ | ⟨g, cap, cur, hn, hb, hg, _⟩
  · exact ⟨none, 0, by rw [hn, h0], fun i hi => absurd hi (by omega)⟩
  · subst hn
    refine ⟨_, cap, rfl, fun i hi => ⟨g, rfl, ?_⟩⟩
    have hc := World.ownsRow.cells h (g := g) rfl i (.string (xs.getD i ⟨#[]⟩)) (by simp [List.getElem?_eq_getElem hi])
    have hadd : (⟨g, 0, none⟩ : Addr).add i = ⟨g, 0 + i, none⟩ := by unfold Addr.add; split <;> simp_all
    rw [hadd, Nat.zero_add] at hc
    exact hc
set_option maxHeartbeats 400000 in
set_option maxRecDepth 100000 in
theorem sections_any (L : List (Int × List Int)) (hs : ∀ p, p ∈ L → Sec p) (s : ByteArray) (hsz : s.size ≤ 65536) (h8 : 8 ≤ s.size) (hL : s.extract 8 s.size = strOfNums (L.flatMap secB)) (w : World) :
    Calls Tryz.prog 14 #[.string s] w fun e w' => GivesSecs w.heap.size L w e w' := by
  obtain ⟨i0, hi, hz0, hz1, hz2⟩ := info_parts info_str
  have HL := Lib.hid hL
  have HS := Lib.hid hs
  have h8i : (8 : Int) ≤ s.size := by omega
  have HZ : Hid ((strOfNums (L.flatMap secB)).size ≤ 65536) := Lib.hid (by rw [← hL, ByteArray.size_extract]; omega)
  have hbase := Below.refl w.heap.size w
  clear hL hs
  go_enter Tryz.func14, Tryz.ntmps14
  go_wp2_with fail
  go_loopw [0, 3] (fun rest v wr => SecAt w.heap.size L w rest v wr) (fun rest _ _ => szS rest)
  case atStart => exact ⟨[], L, rfl, by rw [HL.out], World.ownsRow_nil _ _ _ _, hbase⟩
  case round =>
    obtain ⟨L1, L2, hLL, rfl, hown, hbel⟩ := hrel
    have HLL := Lib.hid hLL
    clear hLL hbase
    have hsl := hbel.size
    cases L2 with
    | nil =>
      have hz : (strOfNums (([] : List (Int × List Int)).flatMap secB)).size = 0 := rfl
      have hown' := hown
      rw [show L1 = L from by rw [HLL.out, List.append_nil]] at hown'
      revert hz
      generalize strOfNums (([] : List (Int × List Int)).flatMap secB) = s0
      intro hz
      have hz1 : ((0 : Int) < s0.size) = False := by
        rw [hz]
        simp
      go_wp2_with fail
      go_ret
      exact ⟨_, rfl, hown', hbel⟩
    | cons x L2 =>
      have hx := HS.out x (by rw [HLL.out]; simp)
      have hsplit : (x :: L2).flatMap secB = secB x ++ L2.flatMap secB := List.flatMap_cons
      obtain ⟨t1, t2, t3⟩ := sec_take hx (L2.flatMap secB) (s := strOfNums ((x :: L2).flatMap secB)) (by rw [hsplit])
      have hlen : (strOfNums ((x :: L2).flatMap secB)).size ≤ 65536 := by
        have h := HZ.out
        rw [HLL.out, List.flatMap_append, strOfNums_size, List.length_append] at h
        rw [strOfNums_size]
        omega
      have hmany : L1.length ≤ 65536 := by
        have h := HZ.out
        rw [HLL.out, List.flatMap_append, strOfNums_size, List.length_append] at h
        have : L1.length ≤ (L1.flatMap secB).length := by
          clear h hown HLL
          induction L1 with
          | nil => exact Nat.zero_le _
          | cons a L1 ih =>
            rw [List.flatMap_cons, List.length_append, List.length_cons]
            have := secB_pos a
            omega
        omega
      have HR : ∀ v wr, Strs w.heap.size v (L1.map secS ++ [secS x]) wr → Below w.heap.size w wr → SecAt w.heap.size L w (.string (strOfNums (L2.flatMap secB))) v wr := fun v wr h1 h2 => ⟨L1 ++ [x], L2, by rw [HLL.out]; simp, rfl, by rw [List.map_append]; exact h1, h2⟩
      have HT : ∀ w2, Calls Tryz.prog 26 #[.string ((strOfNums ((x :: L2).flatMap secB)).extract 1 (strOfNums ((x :: L2).flatMap secB)).size)] w2 fun e w' => e = .returned (.tuple #[.string (strOfNums x.2), .string (strOfNums (L2.flatMap secB)), .int .i64 0]) ∧ Below w2.heap.size w2 w' := fun w2 => by
        have := refTakeBytes_any ((strOfNums ((x :: L2).flatMap secB)).extract 1 (strOfNums ((x :: L2).flatMap secB)).size) (by rw [ByteArray.size_extract]; unfold maxLen; omega) w2
        rw [t1] at this
        exact this
      clear t1 hsplit
      have hll : (L1.map secS).length = L1.length := List.length_map _
      revert HR HT t2 t3 hlen hown hmany
      rw [← hll]
      clear hll HLL
      generalize strOfNums ((x :: L2).flatMap secB) = s0
      generalize strOfNums (L2.flatMap secB) = R
      generalize strOfNums x.2 = C
      generalize secS x = X
      generalize L1.map secS = xs
      intro hown t2 t3 hlen hmany HR' HT'
      have HR := Lib.hid HR'
      have HT := Lib.hid HT'
      have HX := Lib.hid t2
      have hpos : (0 : Int) < s0.size := by omega
      have hsub : R.size ≤ s0.size := by omega
      have q3 : xs.length + 1 ≤ maxLen := by unfold maxLen; omega
      have q4 : (xs.length + 1) * 16 ≤ 140737488355328 := by omega
      clear HR' HT' t2
      go_wp2_with (first
        | (go_at_call 26; refine (HT.out _).mono ?_; rintro e w2 ⟨rfl, hb3⟩; have hown2 := Strs.below hown hb3; have hbel2 := hbel.trans (hb3.mono hsl); have hsl2 := hbel2.size; clear hb3)
        | (at_builtin; refine wpList_append_own _ rfl _ _ 44 rfl w.heap.size 9 i0 (.string ⟨#[]⟩) 1 16 Tryz.underlying44 hi hz0 hz1 hz2 rfl (by decide) _ xs.length (xs.map Value.string) rfl (World.ownsRow.alloc hown2 _) ⟨w2.heap.size, 0, none⟩ 1 1 [.string (s0.extract 0 (s0.size - R.size))] rfl rfl (cell_one_new _ _ _) (one_str _) q3 q4 (le_alloc hsl2) ?_; intro v' w3 hown3 hg3 _; clear q3 q4))
      rw [HX.out] at hown3
      exact ⟨HR.out _ _ (Strs.snoc hown3) (grownS_below hown2 hbel2 (Nat.le_refl _) hg3), by simp [szS]; omega⟩
end Go.Proofs.YtekonefnniaheaaGreat
set_option linter.unusedVariables false
namespace Go.Proofs.YtekonefnniaheaaGreat
open Go.RowKit Go.Deep
open Leb (byt byt_lt byt_get len7 sum7 putU putS)

instance : Inhabited ByteArray := ⟨⟨#[]⟩⟩
/-- What the law's loop has laid behind i rounds. -/
def ptS (xs : List ByteArray) (k : Nat) (tw : Bool) : Nat → ByteArray
  | 0 => strOfNums headB
  | i + 1 => if i = k then (if tw = true then (ptS xs k tw i ++ xs.getD i ⟨#[]⟩) ++ xs.getD i ⟨#[]⟩ else (ptS xs k tw i ++ xs.getD (i + 1) ⟨#[]⟩) ++ xs.getD i ⟨#[]⟩)
    else if i = k + 1 ∧ tw = false then ptS xs k tw i else ptS xs k tw i ++ xs.getD i ⟨#[]⟩
theorem ptS_mono (xs : List ByteArray) (k : Nat) (tw : Bool) (i : Nat) : (ptS xs k tw i).size ≤ (ptS xs k tw (i + 1)).size := by
  rw [ptS]
  split
  · split
    · simp only [ByteArray.size_append]; omega
    · simp only [ByteArray.size_append]; omega
  · split
    · exact Nat.le_refl _
    · simp only [ByteArray.size_append]; omega
theorem ptS_le (xs : List ByteArray) (k : Nat) (tw : Bool) (i d : Nat) : (ptS xs k tw i).size ≤ (ptS xs k tw (i + d)).size := by
  induction d with
  | zero => exact Nat.le_refl _
  | succ d ih => exact Nat.le_trans ih (ptS_mono xs k tw (i + d))
def catS (L : List (Int × List Int)) : ByteArray := strOfNums (L.flatMap secB)
theorem catS_snoc (L : List (Int × List Int)) (x : Int × List Int) : catS L ++ secS x = catS (L ++ [x]) := by
  unfold catS secS
  rw [strOfNums_app, List.flatMap_append]
  simp
theorem getD_at {L1 L2 : List (Int × List Int)} {x : Int × List Int} {n : Nat} (h : n = L1.length) : ((L1 ++ x :: L2).map secS).getD n ⟨#[]⟩ = secS x := by
  subst h
  simp [List.getD_eq_getElem?_getD]
/-- The rounds ahead of the place. -/
theorem ptS_head (L1 L2 : List (Int × List Int)) (tw : Bool) : ∀ i, i ≤ L1.length → ptS ((L1 ++ L2).map secS) L1.length tw i = strOfNums headB ++ catS (L1.take i) := by
  intro i
  induction i with
  | zero =>
    intro _
    show strOfNums headB = strOfNums headB ++ strOfNums []
    exact ByteArray.append_empty.symm
  | succ i ih =>
    intro hi
    rw [ptS, if_neg (by omega), if_neg (by omega), ih (by omega), ByteArray.append_assoc]
    have h1 : L1.take (i + 1) = L1.take i ++ [L1[i]] := List.take_succ_eq_append_getElem (by omega)
    rw [h1, ← catS_snoc]
    congr 2
    rw [List.getD_eq_getElem?_getD, List.getElem?_map, List.getElem?_append_left (by omega), List.getElem?_eq_getElem (by omega)]
    rfl
/-- The rounds behind. -/
theorem ptS_tail (L1 L2 : List (Int × List Int)) (k : Nat) (tw : Bool) (A : ByteArray) (hk : k < L1.length) (hk2 : tw = false → k + 1 < L1.length) (h0 : ptS ((L1 ++ L2).map secS) k tw L1.length = A) : ∀ i, i ≤ L2.length → ptS ((L1 ++ L2).map secS) k tw (L1.length + i) = A ++ catS (L2.take i) := by
  intro i
  induction i with
  | zero =>
    intro _
    show ptS _ _ _ L1.length = A ++ strOfNums []
    rw [h0]
    exact ByteArray.append_empty.symm
  | succ i ih =>
    intro hi
    show ptS _ _ _ ((L1.length + i) + 1) = _
    rw [ptS, if_neg (by omega), if_neg (by rintro ⟨q1, q2⟩; have := hk2 q2; omega), ih (by omega), ByteArray.append_assoc]
    have h1 : L2.take (i + 1) = L2.take i ++ [L2[i]] := List.take_succ_eq_append_getElem (by omega)
    rw [h1, ← catS_snoc]
    congr 2
    rw [List.getD_eq_getElem?_getD, List.getElem?_map, List.getElem?_append_right (by omega), Nat.add_sub_cancel_left, List.getElem?_eq_getElem (by omega)]
    rfl
theorem ptS_twice (L1 L2 : List (Int × List Int)) (x : Int × List Int) : ptS ((L1 ++ x :: L2).map secS) L1.length true (L1 ++ x :: L2).length = strOfNums (headB ++ ((L1 ++ [x]).flatMap secB ++ (secB x ++ L2.flatMap secB))) := by
  have h1 := ptS_head L1 (x :: L2) true L1.length (Nat.le_refl _)
  have h2 : ptS ((L1 ++ x :: L2).map secS) L1.length true (L1.length + 1) = (strOfNums headB ++ catS (L1 ++ [x])) ++ secS x := by
    rw [ptS, if_pos rfl, if_pos rfl, h1, List.take_length, getD_at rfl, ByteArray.append_assoc, ByteArray.append_assoc, ← ByteArray.append_assoc (a := catS L1), catS_snoc]
    rw [ByteArray.append_assoc]
  have e : L1 ++ x :: L2 = (L1 ++ [x]) ++ L2 := by simp
  rw [e] at h2 ⊢
  have h3 := ptS_tail (L1 ++ [x]) L2 L1.length true ((strOfNums headB ++ catS (L1 ++ [x])) ++ secS x) (by simp) (fun q => absurd q (by decide)) (by rw [List.length_append]; exact h2) L2.length (Nat.le_refl _)
  rw [List.length_append, h3, List.take_length]
  unfold catS secS
  simp only [strOfNums_app, List.append_assoc]
theorem ptS_swap (L1 L2 : List (Int × List Int)) (x y : Int × List Int) : ptS ((L1 ++ x :: y :: L2).map secS) L1.length false (L1 ++ x :: y :: L2).length = strOfNums (headB ++ ((L1 ++ [y]).flatMap secB ++ (secB x ++ L2.flatMap secB))) := by
  have h1 := ptS_head L1 (x :: y :: L2) false L1.length (Nat.le_refl _)
  have e2 : L1 ++ x :: y :: L2 = (L1 ++ [x]) ++ y :: L2 := by simp
  have hy : ((L1 ++ x :: y :: L2).map secS).getD (L1.length + 1) ⟨#[]⟩ = secS y := by
    rw [e2]
    exact getD_at (by simp)
  have h2 : ptS ((L1 ++ x :: y :: L2).map secS) L1.length false (L1.length + 1) = (strOfNums headB ++ catS (L1 ++ [y])) ++ secS x := by
    rw [ptS, if_pos rfl, if_neg (by decide), h1, List.take_length, getD_at rfl, hy, ByteArray.append_assoc, ByteArray.append_assoc, ← ByteArray.append_assoc (a := catS L1), catS_snoc]
    rw [ByteArray.append_assoc]
  have h2' : ptS ((L1 ++ x :: y :: L2).map secS) L1.length false (L1.length + 1 + 1) = (strOfNums headB ++ catS (L1 ++ [y])) ++ secS x := by
    rw [ptS, if_neg (by omega), if_pos ⟨rfl, rfl⟩, h2]
  have e : L1 ++ x :: y :: L2 = (L1 ++ [x, y]) ++ L2 := by simp
  rw [e] at h2' ⊢
  have h3 := ptS_tail (L1 ++ [x, y]) L2 L1.length false ((strOfNums headB ++ catS (L1 ++ [y])) ++ secS x) (by simp) (fun _ => by simp) (by rw [List.length_append]; exact h2') L2.length (Nat.le_refl _)
  rw [List.length_append, h3, List.take_length]
  unfold catS secS
  simp only [strOfNums_app, List.append_assoc]
theorem split_two {α : Type} {L : List α} {k : Nat} (h : k + 1 < L.length) : ∃ L1 x y L2, L = L1 ++ x :: y :: L2 ∧ L1.length = k := by
  refine ⟨L.take k, L[k], L[k + 1], L.drop (k + 2), ?_, by rw [List.length_take]; omega⟩
  rw [← List.drop_eq_getElem_cons (by omega), ← List.drop_eq_getElem_cons (by omega), List.take_append_drop]
/-- What the law lays is refused. -/
theorem order_bad {L : List (Int × List Int)} {k : Nat} (tw : Bool) (hk : k + 1 < L.length) (hs : ∀ p, p ∈ L → Sec p) (hp : L.Pairwise Up) (hl : 8 + (L.flatMap secB).length ≤ 30000) :
    takeMd (ptS (L.map secS) k tw L.length) = .error 2 ∧ (ptS (L.map secS) k tw L.length).size ≤ 65536 := by
  obtain ⟨L1, x, y, L2, rfl, rfl⟩ := split_two hk
  have h8 : headB.length = 8 := rfl
  simp only [List.flatMap_append, List.flatMap_cons, List.length_append] at hl
  obtain ⟨p1, p2, p3⟩ := List.pairwise_append.1 hp
  obtain ⟨p4, p5⟩ := List.pairwise_cons.1 p2
  obtain ⟨p6, p7⟩ := List.pairwise_cons.1 p5
  have hxy : x.1 < y.1 := p4 y (by simp)
  cases tw with
  | true =>
    rw [ptS_twice]
    have hlen : (headB ++ ((L1 ++ [x]).flatMap secB ++ (secB x ++ (y :: L2).flatMap secB))).length ≤ 65536 := by
      simp only [List.flatMap_append, List.flatMap_cons, List.flatMap_nil, List.length_append, List.length_nil, h8]
      omega
    refine ⟨takeM_order _ (fun p hpm => hs p ?_) ?_ (hs x (by simp)) (Int.le_refl _) hlen, by rw [strOfNums_size]; exact hlen⟩
    · rcases List.mem_append.1 hpm with h | h
      · simp [h]
      · rw [List.mem_singleton] at h
        simp [h]
    · refine List.pairwise_append.2 ⟨p1, List.pairwise_singleton _ _, fun a ha b hb => ?_⟩
      rw [List.mem_singleton] at hb
      subst hb
      exact p3 a ha b (by simp)
  | false =>
    rw [ptS_swap]
    have hlen : (headB ++ ((L1 ++ [y]).flatMap secB ++ (secB x ++ L2.flatMap secB))).length ≤ 65536 := by
      simp only [List.flatMap_append, List.flatMap_cons, List.flatMap_nil, List.length_append, List.length_nil, h8]
      omega
    refine ⟨takeM_order _ (fun p hpm => hs p ?_) ?_ (hs x (by simp)) (by omega) hlen, by rw [strOfNums_size]; exact hlen⟩
    · rcases List.mem_append.1 hpm with h | h
      · simp [h]
      · rw [List.mem_singleton] at h
        simp [h]
    · refine List.pairwise_append.2 ⟨p1, List.pairwise_singleton _ _, fun a ha b hb => ?_⟩
      rw [List.mem_singleton] at hb
      subst hb
      exact p3 a ha b (by simp)
end Go.Proofs.YtekonefnniaheaaGreat
set_option linter.unusedVariables false
namespace Go.Proofs.YtekonefnniaheaaGreat
open Go.RowKit Go.Deep
open Leb (byt byt_lt byt_get len7 sum7 putU putS)

/-- What sections gives, to be read. -/
def SeenSecs (n : Nat) (xs : List ByteArray) (w : World) (e : Ending) (w' : World) : Prop :=
  ∃ a cap, e = .returned (.slice a n cap) ∧ Below w.heap.size w w' ∧ ∀ i, i < n → ∃ g, a = some ⟨g, 0, none⟩ ∧ w'.cell? ⟨g, i, none⟩ = some (.string (xs.getD i ⟨#[]⟩))
theorem sections_seen (L : List (Int × List Int)) (hs : ∀ p, p ∈ L → Sec p) (s : ByteArray) (hsz : s.size ≤ 65536) (h8 : 8 ≤ s.size) (hL : s.extract 8 s.size = strOfNums (L.flatMap secB)) (w : World) :
    Calls Tryz.prog 14 #[.string s] w fun e w' => SeenSecs L.length (L.map secS) w e w' := by
  refine (sections_any L hs s hsz h8 hL w).mono ?_
  rintro e w' ⟨v, rfl, h1, h2⟩
  obtain ⟨a, cap, rfl, h3⟩ := h1.view
  rw [List.length_map] at h3 ⊢
  exact ⟨a, cap, rfl, h2, h3⟩
theorem secs_many (L : List (Int × List Int)) : L.length ≤ (L.flatMap secB).length := by
  induction L with
  | nil => exact Nat.zero_le _
  | cons x L ih =>
    rw [List.flatMap_cons, List.length_append, List.length_cons]
    have := secB_pos x
    omega
/-- The place among the sections. -/
theorem place_in (a : Int) (n : Nat) (hn : 2 ≤ n) (hn2 : n ≤ 30000) : ∃ k : Nat, k + 1 < n ∧ (wrap64 (wrap64 (a.tmod ((n : Int) - 1) + (n : Int)) - 1)).tmod ((n : Int) - 1) = k := by
  have hq : 0 < (n : Int) - 1 := by omega
  have h0 := Int.tmod_lt_of_pos a hq
  have h1 : -((n : Int) - 1) < a.tmod ((n : Int) - 1) := by
    rcases Int.le_total 0 a with h | h
    · have := Int.tmod_nonneg ((n : Int) - 1) h
      omega
    · have h2 := Int.neg_tmod (a := -a) (b := (n : Int) - 1)
      rw [Int.neg_neg] at h2
      have h3 := Int.tmod_lt_of_pos (-a) hq
      omega
  have hw : wrap64 (wrap64 (a.tmod ((n : Int) - 1) + (n : Int)) - 1) = a.tmod ((n : Int) - 1) + (n : Int) - 1 := by
    unfold wrap64
    omega
  rw [hw]
  have h4 : 0 ≤ a.tmod ((n : Int) - 1) + (n : Int) - 1 := by omega
  have h5 := Int.tmod_nonneg ((n : Int) - 1) h4
  have h6 := Int.tmod_lt_of_pos (a.tmod ((n : Int) - 1) + (n : Int) - 1) hq
  exact ⟨((a.tmod ((n : Int) - 1) + (n : Int) - 1).tmod ((n : Int) - 1)).toNat, by omega, by omega⟩
set_option maxRecDepth 100000 in
set_option maxHeartbeats 4000000 in
theorem ModuleOrder_walk (m : Mdl) (xT : Option Addr) (cT : Nat) (xI : Option Addr) (cI : Nat) (xF : Option Addr) (cF : Nat) (xB : Option Addr) (cB : Nat) (xM : Option Addr) (cM : Nat) (xG : Option Addr) (cG : Nat) (xX : Option Addr) (cX : Nat) (xE : Option Addr) (cE : Nat) (xC : Option Addr) (cC : Nat) (xD : Option Addr) (cD : Nat) (a : Int) (tw : Bool) (ha : -9223372036854775808 ≤ a ∧ a ≤ 9223372036854775807) (w : World) (hx : MdlIn w m xT cT xI cI xF cF xB cB xM cM xG cG xX cX xE cE xC cC xD cD) :
    Calls Tryz.prog 6 #[.agg #[.slice xT m.types.length cT, .slice xI m.imports.length cI, .slice xF m.funcs.length cF, .slice xB m.tables.length cB, .slice xM m.mems.length cM, .slice xG m.globals.length cG, .slice xX m.exports.length cX, .int .i64 m.start, .slice xE m.elems.length cE, .slice xC m.codes.length cC, .slice xD m.datas.length cD], .int .i64 a, .bool tw] w fun e w' => e = .returned (.bool true) ∧ Below w.heap.size w w' := by
  have b1 := BlkAt.new w #[.slice xT m.types.length cT, .slice xI m.imports.length cI, .slice xF m.funcs.length cF, .slice xB m.tables.length cB, .slice xM m.mems.length cM, .slice xG m.globals.length cG, .slice xX m.exports.length cX, .int .i64 m.start, .slice xE m.elems.length cE, .slice xC m.codes.length cC, .slice xD m.datas.length cD] 32
  have HB := Lib.hid ((Below.refl w.heap.size w).alloc (Nat.le_refl _) (.cells #[.slice xT m.types.length cT, .slice xI m.imports.length cI, .slice xF m.funcs.length cF, .slice xB m.tables.length cB, .slice xM m.mems.length cM, .slice xG m.globals.length cG, .slice xX m.exports.length cX, .int .i64 m.start, .slice xE m.elems.length cE, .slice xC m.codes.length cC, .slice xD m.datas.length cD] 32))
  have HA := Lib.hid awake6_any
  have HPU := fun (w' : World) (h : Below w.heap.size w w') => PutM_any m xT cT xI cI xF cF xB cB xM cM xG cG xX cX xE cE xC cC xD cD w' (hx.below h)
  have hwf := mdlWf_of hx
  have hb := Below.refl (w.alloc (.cells #[.slice xT m.types.length cT, .slice xI m.imports.length cI, .slice xF m.funcs.length cF, .slice xB m.tables.length cB, .slice xM m.mems.length cM, .slice xG m.globals.length cG, .slice xX m.exports.length cX, .int .i64 m.start, .slice xE m.elems.length cE, .slice xC m.codes.length cC, .slice xD m.datas.length cD] 32)).heap.size (w.alloc (.cells #[.slice xT m.types.length cT, .slice xI m.imports.length cI, .slice xF m.funcs.length cF, .slice xB m.tables.length cB, .slice xM m.mems.length cM, .slice xG m.globals.length cG, .slice xX m.exports.length cX, .int .i64 m.start, .slice xE m.elems.length cE, .slice xC m.codes.length cC, .slice xD m.datas.length cD] 32))
  obtain ⟨g0, g1, g2, g3, g4, g5, g6, g7, g8, g9, g10⟩ := b1.eleven
  clear b1 hx
  rcases lay_ways2 m with hl | hl | ⟨hl, ho, hlen⟩
  · rw [hl, show strOfNums [] = (⟨#[]⟩ : ByteArray) from rfl] at HPU
    have HP := Lib.hid HPU
    clear HPU hl
    go_enter Tryz.func6, Tryz.ntmps6
    go_wp2_with (first
      | (go_at_call 10; refine (HP.out _ (HB.out.trans (hb.mono HB.out.size))).mono ?_; rintro e w2 ⟨rfl, q2⟩; have hb2 := hb.trans (q2.mono hb.size); clear HP q2 hb g0 g1 g2 g3 g4 g5 g6 g7 g8 g9 g10)
      | (go_at_call 9; refine (HA.out _).mono ?_; rintro e w9 ⟨rfl, q9⟩; have hb9 := hb2.trans (q9.mono hb2.size); clear q9))
    all_goals
      go_ret
      exact ⟨rfl, HB.out.trans (hb9.mono HB.out.size)⟩
  · rw [hl, show strOfNums [] = (⟨#[]⟩ : ByteArray) from rfl] at HPU
    have HP := Lib.hid HPU
    clear HPU hl
    go_enter Tryz.func6, Tryz.ntmps6
    go_wp2_with (first
      | (go_at_call 10; refine (HP.out _ (HB.out.trans (hb.mono HB.out.size))).mono ?_; rintro e w2 ⟨rfl, q2⟩; have hb2 := hb.trans (q2.mono hb.size); clear HP q2 hb g0 g1 g2 g3 g4 g5 g6 g7 g8 g9 g10)
      | (go_at_call 9; refine (HA.out _).mono ?_; rintro e w9 ⟨rfl, q9⟩; have hb9 := hb2.trans (q9.mono hb2.size); clear q9))
    all_goals
      go_ret
      exact ⟨rfl, HB.out.trans (hb9.mono HB.out.size)⟩
  · rw [hl] at HPU
    have HP := Lib.hid HPU
    obtain ⟨L, hL, hSec, hUp⟩ := mod_cuts2 ho hwf hlen
    have hsz := strOfNums_size (bMod m)
    have hcut : (strOfNums (bMod m)).extract 8 (strOfNums (bMod m)).size = strOfNums (L.flatMap secB) := by
      have := ext_app headB (strOfNums (bHead m ++ bTail m))
      rw [strOfNums_app] at this
      rw [← hL]
      exact this
    have hlen8 : (bMod m).length = 8 + (L.flatMap secB).length := by
      unfold bMod
      rw [List.length_append, hL]
      rfl
    clear HPU hl ho hwf hL
    revert HP
    generalize strOfNums (bMod m) = S at hcut hsz
    intro HP
    by_cases hbig : (30000 : Int) < S.size
    · clear hcut hsz hlen hlen8 hUp hSec
      go_enter Tryz.func6, Tryz.ntmps6
      go_wp2_with (first
        | (go_at_call 10; refine (HP.out _ (HB.out.trans (hb.mono HB.out.size))).mono ?_; rintro e w2 ⟨rfl, q2⟩; have hb2 := hb.trans (q2.mono hb.size); clear HP q2 hb g0 g1 g2 g3 g4 g5 g6 g7 g8 g9 g10)
        | (go_at_call 9; refine (HA.out _).mono ?_; rintro e w9 ⟨rfl, q9⟩; have hb9 := hb2.trans (q9.mono hb2.size); clear q9))
      all_goals
        go_ret
        exact ⟨rfl, HB.out.trans (hb9.mono HB.out.size)⟩
    have hS8 : 8 ≤ S.size := by omega
    have HSX := Lib.hid (sections_seen L (fun p hp => (hSec p hp).1) S (by omega) hS8 hcut)
    by_cases h2 : L.length < 2
    · have h2i : (L.length : Int) < 2 := by omega
      clear hcut hsz hlen hlen8 hUp hSec
      go_enter Tryz.func6, Tryz.ntmps6
      go_wp2_with (first
        | (go_at_call 10; refine (HP.out _ (HB.out.trans (hb.mono HB.out.size))).mono ?_; rintro e w2 ⟨rfl, q2⟩; have hb2 := hb.trans (q2.mono hb.size); clear HP q2 hb g0 g1 g2 g3 g4 g5 g6 g7 g8 g9 g10)
        | (go_at_call 14; refine (HSX.out _).mono ?_; rintro e w3 ⟨xL, cL, rfl, q3, hrow⟩; have hb3 := hb2.trans (q3.mono hb2.size); clear HSX q3)
        | (go_at_call 9; refine (HA.out _).mono ?_; rintro e w9 ⟨rfl, q9⟩; have hb9 := hb3.trans (q9.mono hb3.size); clear q9))
      all_goals
        go_ret
        exact ⟨rfl, HB.out.trans (hb9.mono HB.out.size)⟩
    obtain ⟨k, hk, hE⟩ := place_in a L.length (by omega) (by have := secs_many L; omega)
    obtain ⟨hbad, hmx⟩ := order_bad tw hk (fun p hp => (hSec p hp).1) hUp (by omega)
    have hz : ∀ i, i < L.length → ((L.map secS).getD i ⟨#[]⟩).size ≤ 30000 := fun i hi => by
      have h1 : (secB L[i]).length ≤ (L.flatMap secB).length := by
        obtain ⟨x, y, hxy⟩ := List.append_of_mem (List.getElem_mem hi)
        have : (L.flatMap secB).length = (x.flatMap secB).length + ((secB L[i]).length + (y.flatMap secB).length) := by
          conv => lhs; rw [hxy]
          rw [List.flatMap_append, List.flatMap_cons, List.length_append, List.length_append]
        omega
      rw [List.getD_eq_getElem?_getD, List.getElem?_map, List.getElem?_eq_getElem hi]
      show (strOfNums (secB L[i])).size ≤ 30000
      rw [strOfNums_size]
      omega
    have hpz : ∀ i, i ≤ L.length → (ptS (L.map secS) k tw i).size ≤ 65536 := fun i hi => by
      have := ptS_le (L.map secS) k tw i (L.length - i)
      rw [show i + (L.length - i) = L.length by omega] at this
      omega
    have HT := Lib.hid (take_err (by unfold maxLen; omega) hbad)
    have hmany : L.length ≤ 30000 := by
      have := secs_many L
      omega
    clear hcut hsz hlen hlen8 hUp hSec hbad
    revert HSX HT hz hpz hmany hmx hE hk h2
    generalize L.map secS = xs
    generalize L.length = n
    intro HSX h2 hk hE hmx hz hpz HT hmany
    have HE := Lib.hid hE
    have HZ := Lib.hid hz
    have HPZ := Lib.hid hpz
    have h2i : ¬ (n : Int) < 2 := by omega
    clear hE hz hpz
    go_enter Tryz.func6, Tryz.ntmps6
    go_wp2_with (first
      | (go_at_call 10; refine (HP.out _ (HB.out.trans (hb.mono HB.out.size))).mono ?_; rintro e w2 ⟨rfl, q2⟩; have hb2 := hb.trans (q2.mono hb.size); clear HP q2 hb g0 g1 g2 g3 g4 g5 g6 g7 g8 g9 g10)
      | (go_at_call 14; refine (HSX.out _).mono ?_; rintro e w3 ⟨xL, cL, rfl, q3, hrow⟩; have hb3 := hb2.trans (q3.mono hb2.size); clear HSX q3))
    rw [HE.out]
    go_loopw [10, 11] (fun tv iv wr => ∃ i : Nat, iv = .int .i64 i ∧ i ≤ n ∧ tv = .string (ptS xs k tw i) ∧ Below w3.heap.size w3 wr) (fun _ iv _ => n - (intOf iv).toNat)
    case atStart => exact ⟨0, rfl, by omega, rfl, Below.refl _ _⟩
    case round =>
      obtain ⟨i, rfl, hi, rfl, hb4⟩ := hrel
      by_cases hlt : i < n
      · obtain ⟨g, rfl, hc⟩ := hrow i hlt
        have hci := below_cell hb4 hc
        have hX := HZ.out i hlt
        have hP := HPZ.out i hi
        clear hc
        by_cases hik : i = k
        · subst hik
          obtain ⟨g', hg', hc'⟩ := hrow (i + 1) hk
          injection hg' with hg'
          injection hg' with hg'
          subst hg'
          have hci' := below_cell hb4 hc'
          have hY := HZ.out (i + 1) hk
          have hi1 : IntKind.i64.wrap ((i : Int) + 1) = (i : Int) + 1 := IntWalk.i64_in _ (by omega)
          have hi2 : ((i : Int) + 1).toNat = i + 1 := by omega
          have hi3 : (0 : Int) ≤ (i : Int) + 1 := by omega
          have hi4 : ((i : Int) + 1) < n := by omega
          have hin : (i : Int) < n := by omega
          clear hc' hrow
          cases tw with
          | true =>
            have HN : Hid (ptS xs i true (i + 1) = (ptS xs i true i ++ xs.getD i ⟨#[]⟩) ++ xs.getD i ⟨#[]⟩) := Lib.hid (by rw [ptS, if_pos rfl, if_pos rfl])
            clear hi1 hi2 hi3 hi4 hci' hY
            revert hci hX hP HN
            generalize ptS xs i true i = P
            generalize xs.getD i ⟨#[]⟩ = X
            intro hci hX hP HN
            have n1 : ¬ 9223372036854775807 < P.size + X.size := by omega
            have n2 : ¬ 9223372036854775807 < P.size + X.size + X.size := by omega
            have n3 : ¬ 9223372036854775807 < (P ++ X).size + X.size := by rw [ByteArray.size_append]; omega
            go_wp2_with fail
            go_quiet (fail)
            go_wp2
            exact ⟨⟨i + 1, by go_num, by omega, congrArg Value.string HN.out.symm, below_drewN hb4 _⟩, by simp [intOf]; omega⟩
          | false =>
            have HN : Hid (ptS xs i false (i + 1) = (ptS xs i false i ++ xs.getD (i + 1) ⟨#[]⟩) ++ xs.getD i ⟨#[]⟩) := Lib.hid (by rw [ptS, if_pos rfl, if_neg (by decide)])
            revert hci hX hP hci' hY HN
            generalize ptS xs i false i = P
            generalize xs.getD i ⟨#[]⟩ = X
            generalize xs.getD (i + 1) ⟨#[]⟩ = Y
            intro hci hX hP hci' hY HN
            have n1 : ¬ 9223372036854775807 < P.size + Y.size := by omega
            have n2 : ¬ 9223372036854775807 < P.size + Y.size + X.size := by omega
            have n3 : ¬ 9223372036854775807 < (P ++ Y).size + X.size := by rw [ByteArray.size_append]; omega
            go_wp2_with fail
            go_quiet (fail)
            go_wp2
            clear hi1 hi2
            exact ⟨⟨i + 1, by go_num, by omega, congrArg Value.string HN.out.symm, below_drewN hb4 _⟩, by simp [intOf]; omega⟩
        · have e1 : ((i : Int) == (k : Int)) = false := eq_no (by omega)
          have hk1 : IntKind.i64.wrap ((k : Int) + 1) = (k : Int) + 1 := IntWalk.i64_in _ (by omega)
          have hin : (i : Int) < n := by omega
          clear hrow
          by_cases hik2 : i = k + 1 ∧ tw = false
          · obtain ⟨rfl, rfl⟩ := hik2
            have HN : Hid (ptS xs k false (k + 1 + 1) = ptS xs k false (k + 1)) := Lib.hid (by rw [ptS, if_neg (by omega), if_pos ⟨rfl, rfl⟩])
            clear hci hX hP
            go_wp2_with fail
            clear hk1
            exact ⟨⟨k + 1 + 1, by go_num, by omega, congrArg Value.string HN.out.symm, hb4⟩, by simp [intOf]; omega⟩
          · have HN : Hid (ptS xs k tw (i + 1) = ptS xs k tw i ++ xs.getD i ⟨#[]⟩) := Lib.hid (by rw [ptS, if_neg hik, if_neg hik2])
            revert hci hX hP HN
            generalize ptS xs k tw i = P
            generalize xs.getD i ⟨#[]⟩ = X
            intro hci hX hP HN
            have n1 : ¬ 9223372036854775807 < P.size + X.size := by omega
            by_cases hi2 : i = k + 1
            · have ht : tw = true := by
                cases tw with
                | true => rfl
                | false => exact absurd ⟨hi2, rfl⟩ hik2
              subst ht
              clear hik2
              subst hi2
              clear hk1
              go_wp2_with fail
              exact ⟨⟨k + 1 + 1, by go_num, by omega, congrArg Value.string HN.out.symm, hb4⟩, by simp [intOf]; omega⟩
            · have e2 : ((i : Int) == (k : Int) + 1) = false := eq_no (by omega)
              clear hik2
              go_wp2_with fail
              clear hk1
              exact ⟨⟨i + 1, by go_num, by omega, congrArg Value.string HN.out.symm, hb4⟩, by simp [intOf]; omega⟩
      · obtain rfl : i = n := by omega
        have hbc := hb3.trans (hb4.mono hb3.size)
        have hpz := HPZ.out i hi
        clear hrow hb4 hb3 hb2
        revert HT hpz
        generalize ptS xs k tw i = T
        intro HT hpz
        go_wp2_with (first
          | (go_at_call 12; refine (HT.out _).mono ?_; rintro e w5 ⟨yT, dT, yI, dI, yF, dF, yB, dB, yM, dM, yG, dG, yX, dX, yE, dE, yC, dC, yD, dD, rfl, q3, hy⟩; have hb5 := hbc.trans (q3.mono hbc.size); have bz := (Below.refl w5.heap.size w5).alloc (Nat.le_refl _) (.cells #[.slice yT 0 dT, .slice yI 0 dI, .slice yF 0 dF, .slice yB 0 dB, .slice yM 0 dM, .slice yG 0 dG, .slice yX 0 dX, .int .i64 0, .slice yE 0 dE, .slice yC 0 dC, .slice yD 0 dD] 32); have hb6 := hb5.trans (bz.mono hb5.size); have HSM := Lib.hid (same_noM (hy.below bz)); clear HT q3 hb5 bz hy)
          | (go_at_call 13; refine HSM.out.mono ?_; rintro e w7 ⟨rfl, q5⟩; have hb7 := hb6.trans (q5.mono hb6.size); clear HSM q5 hb6)
          | (go_at_call 9; refine (HA.out _).mono ?_; rintro e w9 ⟨rfl, q9⟩; have hb9 := hb7.trans (q9.mono hb7.size); clear q9))
        all_goals
          go_ret
          exact ⟨rfl, HB.out.trans (hb9.mono HB.out.size)⟩
end Go.Proofs.YtekonefnniaheaaGreat
set_option linter.unusedVariables false
namespace Go.Proofs.YtekonefnniaheaaGreat
open Go.RowKit Go.Deep

theorem bulk_one {H : Type} (d : DataW H) : 1 ≤ Rows.uptoBulk d := by
  cases d with
  | lit l => cases l <;> simp [Rows.uptoBulk]
  | _ => simp [Rows.uptoBulk]
theorem bulk_part {H : Type} {d : DataW H} {l : List (DataW H)} (h : d ∈ l) : Rows.uptoBulk d ≤ Rows.uptoBulkAll l := by
  induction l with
  | nil => cases h
  | cons x r ih =>
    rw [Rows.uptoBulkAll]
    rcases List.mem_cons.1 h with rfl | e
    · exact Nat.le_add_right _ _
    · exact Nat.le_trans (ih e) (Nat.le_add_left _ _)
theorem bulk_len {H : Type} (l : List (DataW H)) : l.length ≤ Rows.uptoBulkAll l := by
  induction l with
  | nil => exact Nat.zero_le _
  | cons x r ih =>
    have := bulk_one x
    rw [Rows.uptoBulkAll, List.length_cons]
    omega
theorem meas_bulk {H : Type} : Meas (H := H) Rows.uptoBulk := by
  refine ⟨fun es sp d h => ?_, fun ps d h => ?_, fun es sp => ?_, fun b => ?_⟩
  · have := bulk_part h
    rw [Rows.uptoBulk]
    omega
  · have := bulk_part h
    rw [Rows.uptoBulk]
    omega
  · have := bulk_len es
    rw [Rows.uptoBulk]
    omega
  · rw [Rows.uptoBulk]
    omega
theorem bulk_in {H : Type} {l : List (DataW H)} {d : DataW H} (hk : Rows.uptoSmall H l = true) (h : d ∈ l) : Rows.uptoBulk d ≤ 1048576 :=
  Nat.le_trans (bulk_part h) (of_decide_eq_true hk)
end Go.Proofs.YtekonefnniaheaaGreat
