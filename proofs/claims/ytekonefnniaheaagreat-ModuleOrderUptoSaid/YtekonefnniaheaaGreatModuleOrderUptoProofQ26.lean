/- Texts of the proof of ModuleOrderUptoProof, part 26. -/
import Derived.Test.YtekonefnniaheaaGreatModuleOrderUptoProofQ15
import Derived.Test.YtekonefnniaheaaGreatModuleOrderUptoProofQ17
import Derived.Test.YtekonefnniaheaaGreatModuleOrderUptoProofQ23
import Derived.Test.YtekonefnniaheaaGreatModuleOrderUptoProofQ25
set_option linter.unusedVariables false
set_option linter.unusedVariables false
namespace Go.Proofs.YtekonefnniaheaaGreat
open Go.RowKit Go.Deep
open Leb (putU putS)

/-- A layer that has not too much. -/
def LW (s : Lay) : Prop := s.no = false → s.full = false → s.xs.length ≤ 65536
/-- A step lays these bytes, if they may be. -/
structure Stp (g : Lay → Lay) (b : List Int) (ok : Bool) : Prop where
  no : ∀ s, (g s).no = (s.no || !ok)
  full : ∀ s, LW s → (g s).no = false → (g s).full = (s.full || decide (65536 < s.xs.length + b.length))
  xs : ∀ s, LW s → (g s).no = false → (g s).full = false → (g s).xs = s.xs ++ b
theorem or_no {a b : Bool} (h : (a || b) = false) : a = false ∧ b = false := by cases a <;> cases b <;> simp_all
theorem Stp.lw {g : Lay → Lay} {b : List Int} {ok : Bool} (h : Stp g b ok) {s : Lay} (hs : LW s) : LW (g s) := by
  intro h1 h2
  have h3 := h.full s hs h1
  rw [h2] at h3
  have h4 := (or_no h3.symm).2
  rw [h.xs s hs h1 h2, List.length_append]
  have := of_decide_eq_false h4
  omega
theorem Stp.was {g : Lay → Lay} {b : List Int} {ok : Bool} (h : Stp g b ok) {s : Lay} (h1 : (g s).no = false) : s.no = false ∧ ok = true := by
  rw [h.no] at h1
  obtain ⟨a, c⟩ := or_no h1
  exact ⟨a, by cases ok <;> simp_all⟩
theorem Stp.congr {g : Lay → Lay} {b b' : List Int} {ok ok' : Bool} (h : Stp g b ok) (e : b = b') (e2 : ok = ok') : Stp g b' ok' := by
  subst e e2
  exact h
theorem Stp.of {g g' : Lay → Lay} {b b' : List Int} {ok ok' : Bool} (h : Stp g b ok) (eg : ∀ s, g' s = g s) (e : b = b') (e2 : ok = ok') : Stp g' b' ok' := by
  obtain rfl : g' = g := funext eg
  subst e e2
  exact h
theorem Stp.then {g1 g2 : Lay → Lay} {b1 b2 : List Int} {o1 o2 : Bool} (h1 : Stp g1 b1 o1) (h2 : Stp g2 b2 o2) : Stp (fun s => g2 (g1 s)) (b1 ++ b2) (o1 && o2) := by
  refine ⟨fun s => ?_, fun s hs hn => ?_, fun s hs hn hf => ?_⟩
  · show (g2 (g1 s)).no = _
    rw [h2.no, h1.no]
    cases s.no <;> cases o1 <;> cases o2 <;> rfl
  · have hn1 := (h2.was hn).1
    have e2 := h2.full (g1 s) (h1.lw hs) hn
    have e1 := h1.full s hs hn1
    show (g2 (g1 s)).full = _
    rw [e2]
    by_cases hf1 : (g1 s).full = true
    · rw [hf1] at e1 ⊢
      rw [Bool.true_or]
      by_cases hsf : s.full = true
      · rw [hsf, Bool.true_or]
      · have hsf' : s.full = false := by cases h : s.full <;> simp_all
        rw [hsf', Bool.false_or] at e1 ⊢
        have := of_decide_eq_true e1.symm
        rw [decide_eq_true]
        rw [List.length_append]
        omega
    · have hf1' : (g1 s).full = false := by cases h : (g1 s).full <;> simp_all
      rw [hf1'] at e1 ⊢
      have hsf := (or_no e1.symm).1
      rw [h1.xs s hs hn1 hf1', hsf, Bool.false_or, Bool.false_or, List.length_append, List.length_append, Nat.add_assoc]
  · have hn1 := (h2.was hn).1
    have e2 := h2.full (g1 s) (h1.lw hs) hn
    replace hf : (g2 (g1 s)).full = false := hf
    rw [hf] at e2
    have hf1 := (or_no e2.symm).1
    show (g2 (g1 s)).xs = _
    rw [h2.xs (g1 s) (h1.lw hs) hn hf, h1.xs s hs hn1 hf1, List.append_assoc]
theorem stp_put (b : List Int) : Stp (fun s => putP s b) b true := by
  refine ⟨fun s => ?_, fun s hs hn => ?_, fun s hs hn hf => ?_⟩
  · show (putP s b).no = _
    unfold putP
    split <;> simp
  · show (putP s b).full = _
    unfold putP
    split
    · rename_i h
      rcases h with h | h
      · rw [h]; rfl
      · rw [decide_eq_true h, Bool.or_true]
    · rename_i h
      have h1 : ¬ s.full = true := fun q => h (.inl q)
      have h2 : ¬ 65536 < s.xs.length + b.length := fun q => h (.inr q)
      rw [decide_eq_false h2, Bool.or_false]
  · show (putP s b).xs = _
    replace hf : (putP s b).full = false := hf
    unfold putP at hf ⊢
    split
    · rename_i h
      rw [if_pos h] at hf
      exact absurd hf (by show ¬ true = false; decide)
    · rfl
theorem stp_need (p : Bool) : Stp (fun s => needP s p) [] p := by
  refine ⟨fun s => rfl, fun s hs hn => ?_, fun s hs hn hf => ?_⟩
  · have h1 := (or_no (show (s.no || !p) = false from hn)).1
    show s.full = _
    by_cases hf : s.full = true
    · rw [hf]; rfl
    · have hf' : s.full = false := by cases h : s.full <;> simp_all
      have := hs h1 hf'
      rw [hf', Bool.false_or, decide_eq_false]
      show ¬ 65536 < s.xs.length + 0
      omega
  · show s.xs = s.xs ++ []
    rw [List.append_nil]
theorem stp_id : Stp (fun s => s) [] true := by
  refine (stp_need true).congr rfl rfl |> fun h => ?_
  have e : (fun s : Lay => needP s true) = fun s => s := by
    funext s
    show ({ s with no := s.no || !true } : Lay) = s
    rw [Bool.not_true, Bool.or_false]
  rwa [e] at h
theorem stp_byte (n : Int) : Stp (fun s => byteP s n) [n % 256] true := stp_put _
theorem stp_bytes (b : List Int) : Stp (fun s => bytesP s b) (putU b.length ++ b) true := (stp_put _).then (stp_put _)
theorem stp_as {g : Lay → Lay} {b : List Int} {ok : Bool} (h : Stp g b ok) : Stp (fun s => asB s g) (putU b.length ++ b) ok := by
  have hno : ∀ s, (asB s g).no = (g ⟨[], s.no, s.full⟩).no := fun s => by
    show (bytesP _ _).no = _
    rw [(stp_bytes _).no]
    simp
  have hw : ∀ s : Lay, LW ⟨[], s.no, s.full⟩ := fun s _ _ => Nat.zero_le _
  have key : ∀ s, LW s → (asB s g).no = false → ((g ⟨[], s.no, s.full⟩).full = true ∧ (s.full || decide (65536 < b.length)) = true ∧ (asB s g).full = true) ∨ ((g ⟨[], s.no, s.full⟩).full = false ∧ s.full = false ∧ b.length ≤ 65536 ∧ asB s g = bytesP ⟨s.xs, false, false⟩ b) := fun s hs hn => by
    have hn1 : (g ⟨[], s.no, s.full⟩).no = false := by rw [← hno]; exact hn
    have e1 := h.full _ (hw s) hn1
    replace e1 : (g ⟨[], s.no, s.full⟩).full = (s.full || decide (65536 < 0 + b.length)) := e1
    rw [Nat.zero_add] at e1
    by_cases hf : (g ⟨[], s.no, s.full⟩).full = true
    · refine .inl ⟨hf, by rw [← e1]; exact hf, ?_⟩
      have e2 : (asB s g).full = ((g ⟨[], s.no, s.full⟩).full || _) := (stp_bytes _).full ⟨s.xs, (g ⟨[], s.no, s.full⟩).no, (g ⟨[], s.no, s.full⟩).full⟩ (fun _ q => by rw [show Lay.full _ = true from hf] at q; cases q) hn
      rw [e2, hf, Bool.true_or]
    · have hf' : (g ⟨[], s.no, s.full⟩).full = false := by cases q : (g ⟨[], s.no, s.full⟩).full <;> simp_all
      rw [hf'] at e1
      obtain ⟨e3, e4⟩ := or_no e1.symm
      have hx := h.xs _ (hw s) hn1 hf'
      refine .inr ⟨hf', e3, by have := of_decide_eq_false e4; omega, ?_⟩
      unfold asB
      rw [hn1, hf', hx]
      rfl
  refine ⟨fun s => by show (asB s g).no = _; rw [hno, h.no], fun s hs hn => ?_, fun s hs hn hf => ?_⟩
  · have hn0 : s.no = false := by
      replace hn : (asB s g).no = false := hn
      rw [hno, h.no] at hn
      exact (or_no hn).1
    show (asB s g).full = _
    rcases key s hs hn with ⟨_, h2, h3⟩ | ⟨_, h2, h3, h4⟩
    · rw [h3]
      by_cases hsf : s.full = true
      · rw [hsf]; rfl
      · have hsf' : s.full = false := by cases q : s.full <;> simp_all
        rw [hsf', Bool.false_or] at h2
        have := of_decide_eq_true h2
        rw [hsf', Bool.false_or, decide_eq_true]
        rw [List.length_append]
        omega
    · rw [h4, (stp_bytes b).full ⟨s.xs, false, false⟩ (fun _ _ => hs hn0 h2) (by rw [← h4]; exact hn), h2]
  · have hn0 : s.no = false := by
      replace hn : (asB s g).no = false := hn
      rw [hno, h.no] at hn
      exact (or_no hn).1
    replace hf : (asB s g).full = false := hf
    show (asB s g).xs = _
    rcases key s hs hn with ⟨_, _, h3⟩ | ⟨_, h2, h3, h4⟩
    · rw [h3] at hf
      cases hf
    · rw [h4, (stp_bytes b).xs ⟨s.xs, false, false⟩ (fun _ _ => hs hn0 h2) (by rw [← h4]; exact hn) (by rw [← h4]; exact hf)]
theorem stp_step {α : Type} {f : Lay → α → Lay} {t : α} {b : List Int} {ok : Bool} (h : Stp (fun s => f s t) b ok) : Stp (fun s => stepP f s t) b ok := by
  have e : ∀ s, s.no = false → stepP f s t = f s t := fun s hs => if_neg (by rw [hs]; decide)
  have hn : ∀ s, (stepP f s t).no = (s.no || !ok) := fun s => by
    by_cases q : s.no = true
    · rw [show stepP f s t = s from if_pos q, q]
      rfl
    · have q' : s.no = false := by cases k : s.no <;> simp_all
      rw [e s q']
      exact h.no s
  have hz : ∀ s, (stepP f s t).no = false → s.no = false := fun s q => by
    rw [hn] at q
    exact (or_no q).1
  refine ⟨hn, fun s hs q => ?_, fun s hs q k => ?_⟩
  · show (stepP f s t).full = _
    replace q : (stepP f s t).no = false := q
    have := hz s q
    rw [e s this] at q ⊢
    exact h.full s hs q
  · show (stepP f s t).xs = _
    replace q : (stepP f s t).no = false := q
    replace k : (stepP f s t).full = false := k
    have := hz s q
    rw [e s this] at q k ⊢
    exact h.xs s hs q k
theorem stp_fold {α : Type} {f : Lay → α → Lay} {b : α → List Int} {ok : α → Bool} (h : ∀ t, Stp (fun s => f s t) (b t) (ok t)) : ∀ ts : List α, Stp (fun s => ts.foldl (stepP f) s) (ts.flatMap b) (ts.all ok)
  | [] => stp_id
  | t :: r => ((stp_step (h t)).then (stp_fold h r)).congr (List.flatMap_cons).symm (List.all_cons).symm
theorem stp_list {α : Type} (most : Int) {f : Lay → α → Lay} {b : α → List Int} {ok : α → Bool} (h : ∀ t, Stp (fun s => f s t) (b t) (ok t)) (ts : List α) :
    Stp (fun s => listP most f s ts) (putU ts.length ++ ts.flatMap b) (decide ((ts.length : Int) ≤ most) && ts.all ok) := by
  have := ((stp_need (decide ((ts.length : Int) ≤ most))).then (stp_put (putU ts.length))).then (stp_fold h ts)
  exact this.of (fun s => by simp only [listP]) (by rw [List.nil_append]) (by simp)
/- The bytes of each thing, and whether it may be laid. -/
def oIdx (n : Int) : Bool := decide (0 ≤ n ∧ n ≤ 4294967295)
def oTyp (c : Int) : Bool := decide ((typeV c).2 = 0)
def bTyp (c : Int) : List Int := [c % 256]
def oIns (ls : List Ins) : Bool := decide ((putV ls).2 = 0)
def bIns (ls : List Ins) : List Int := (putV ls).1
def bStr (s : ByteArray) : List Int := putU (bl s).length ++ bl s
def bYes (b : Bool) : List Int := [(if b = true then 1 else 0) % 256]
def oKind (k : Int) : Bool := decide (0 ≤ k ∧ k ≤ 3)
def oLim (mn mx : Int) : Bool := if mx = -1 then oIdx mn else oIdx mn && oIdx mx
def bLim (mn mx : Int) : List Int := if mx = -1 then [0 % 256] ++ putU mn else [1 % 256] ++ putU mn ++ putU mx
def bTab (mn mx : Int) : List Int := [112 % 256] ++ bLim mn mx
def oWhere (n : Int) : Bool := if n = 0 then true else oIdx n
def bWhere (n : Int) : List Int := if n = 0 then [0 % 256] else [2 % 256] ++ putU n
def bList {α : Type} (b : α → List Int) (ts : List α) : List Int := putU ts.length ++ ts.flatMap b
def oList {α : Type} (most : Int) (ok : α → Bool) (ts : List α) : Bool := decide ((ts.length : Int) ≤ most) && ts.all ok
def bFT (t : FT) : List Int := [96 % 256] ++ bList bTyp t.p ++ bList bTyp t.r
def oFT (t : FT) : Bool := oList 32 oTyp t.p && oList 32 oTyp t.r
def bImpK (x : Imp) : List Int := if x.kind = 0 then putU x.t else if x.kind = 1 then bTab x.mn x.mx else if x.kind = 2 then bLim x.mn x.mx else if x.kind = 3 then bTyp x.t ++ bYes x.mu else []
def oImpK (x : Imp) : Bool := if x.kind = 0 then oIdx x.t else if x.kind = 1 then oLim x.mn x.mx else if x.kind = 2 then oLim x.mn x.mx else if x.kind = 3 then oTyp x.t else true
def bImp (x : Imp) : List Int := bStr x.mod ++ bStr x.name ++ [x.kind % 256] ++ bImpK x
def oImp (x : Imp) : Bool := nameB x.mod && nameB x.name && oKind x.kind && oImpK x && ownB x
def bGlo (x : Glo) : List Int := bTyp x.t ++ bYes x.mu ++ bIns [x.init]
def oGlo (x : Glo) : Bool := oTyp x.t && oIns [x.init]
def bExp (x : Exp) : List Int := bStr x.name ++ [x.kind % 256] ++ putU x.i
def oExp (x : Exp) : Bool := nameB x.name && oKind x.kind && oIdx x.i
def bEle (x : Ele) : List Int := (if x.table = 0 then bWhere x.table ++ bIns [x.off] else bWhere x.table ++ bIns [x.off] ++ [0 % 256]) ++ bList putU x.f
def oEle (x : Ele) : Bool := oWhere x.table && oIns [x.off] && oList 1000 oIdx x.f
def bRow (q : Int × Int) : List Int := putU q.1 ++ bTyp q.2
def oRow (q : Int × Int) : Bool := oTyp q.2
def bCodIn (c : Cod) : List Int := bList bRow (rowsL c.locals) ++ bIns c.l
def oCod (c : Cod) : Bool := decide ((c.locals.length : Int) ≤ 256) && (oList 256 oRow (rowsL c.locals) && oIns c.l)
def bCod (c : Cod) : List Int := putU (bCodIn c).length ++ bCodIn c
def bDat (x : Dat) : List Int := bWhere x.mem ++ bIns [x.off] ++ bStr x.b
def oDat (x : Dat) : Bool := oWhere x.mem && oIns [x.off]
theorem stp_index (n : Int) : Stp (fun s => indexP s n) (putU n) (oIdx n) := ((stp_need _).then (stp_put _)).congr rfl (Bool.and_true _)
theorem stp_typ (c : Int) : Stp (fun s => typP s c) (bTyp c) (oTyp c) := ((stp_need _).then (stp_byte _)).congr rfl (Bool.and_true _)
theorem stp_instrs (ls : List Ins) : Stp (fun s => instrsP s ls) (bIns ls) (oIns ls) := ((stp_need _).then (stp_put _)).congr rfl (Bool.and_true _)
theorem stp_name (S : ByteArray) : Stp (fun s => nameP s S) (bStr S) (nameB S) := ((stp_need (nameB S)).then (stp_bytes (bl S))).of (fun s => by simp only [nameP]) (by unfold bStr; rw [List.nil_append]) (Bool.and_true _)
theorem stp_kind (k : Int) : Stp (fun s => kindP s k) [k % 256] (oKind k) := ((stp_need _).then (stp_byte _)).congr rfl (Bool.and_true _)
theorem stp_yes (b : Bool) : Stp (fun s => yesP s b) (bYes b) true := stp_byte _
theorem stp_limits (mn mx : Int) : Stp (fun s => limitsP s mn mx) (bLim mn mx) (oLim mn mx) := by
  unfold limitsP bLim oLim
  by_cases h : mx = -1
  · simp only [if_pos h]
    exact ((stp_byte 0).then (stp_index mn)).congr rfl (Bool.true_and _)
  · simp only [if_neg h]
    exact (((stp_byte 1).then (stp_index mn)).then (stp_index mx)).congr rfl (by rw [Bool.true_and])
theorem stp_table (mn mx : Int) : Stp (fun s => tableP s mn mx) (bTab mn mx) (oLim mn mx) := ((stp_byte 112).then (stp_limits mn mx)).congr rfl (Bool.true_and _)
theorem stp_where (n : Int) : Stp (fun s => whereP s n) (bWhere n) (oWhere n) := by
  unfold whereP bWhere oWhere
  by_cases h : n = 0
  · simp only [if_pos h]
    exact stp_byte 0
  · simp only [if_neg h]
    exact ((stp_byte 2).then (stp_index n)).congr rfl (Bool.true_and _)
theorem stp_ft (t : FT) : Stp (fun s => ftP s t) (bFT t) (oFT t) :=
  (((stp_byte 96).then (stp_list 32 stp_typ t.p)).then (stp_list 32 stp_typ t.r)).congr rfl (by rw [Bool.true_and]; rfl)
theorem stp_impK (x : Imp) : Stp (fun s => impK s x) (bImpK x) (oImpK x) := by
  unfold impK bImpK oImpK
  by_cases h0 : x.kind = 0
  · simp only [if_pos h0]
    exact stp_index _
  · simp only [if_neg h0]
    by_cases h1 : x.kind = 1
    · simp only [if_pos h1]
      exact stp_table _ _
    · simp only [if_neg h1]
      by_cases h2 : x.kind = 2
      · simp only [if_pos h2]
        exact stp_limits _ _
      · simp only [if_neg h2]
        by_cases h3 : x.kind = 3
        · simp only [if_pos h3]
          exact ((stp_typ _).then (stp_yes _)).congr rfl (Bool.and_true _)
        · simp only [if_neg h3]
          exact stp_id
theorem stp_imp (x : Imp) : Stp (fun s => impP s x) (bImp x) (oImp x) :=
  (((((stp_name x.mod).then (stp_name x.name)).then (stp_kind x.kind)).then (stp_impK x)).then (stp_need (ownB x))).congr (by rw [List.append_nil]; rfl) rfl
theorem stp_glo (x : Glo) : Stp (fun s => gloP s x) (bGlo x) (oGlo x) :=
  (((stp_typ x.t).then (stp_yes x.mu)).then (stp_instrs [x.init])).congr rfl (by rw [Bool.and_true]; rfl)
theorem stp_exp (x : Exp) : Stp (fun s => expP s x) (bExp x) (oExp x) := (((stp_name x.name).then (stp_kind x.kind)).then (stp_index x.i)).congr rfl rfl
theorem stp_ele (x : Ele) : Stp (fun s => eleP s x) (bEle x) (oEle x) := by
  unfold eleP bEle oEle
  by_cases h : x.table = 0
  · simp only [if_pos h]
    exact (((stp_where x.table).then (stp_instrs [x.off])).then (stp_list 1000 stp_index x.f)).congr rfl rfl
  · simp only [if_neg h]
    exact ((((stp_where x.table).then (stp_instrs [x.off])).then (stp_byte 0)).then (stp_list 1000 stp_index x.f)).congr rfl (by rw [Bool.and_true]; rfl)
theorem stp_row (q : Int × Int) : Stp (fun s => rowP2 s q) (bRow q) (oRow q) := ((stp_put (putU q.1)).then (stp_typ q.2)).congr rfl (Bool.true_and _)
theorem stp_cod (c : Cod) : Stp (fun s => codP s c) (bCod c) (oCod c) :=
  ((stp_need (decide ((c.locals.length : Int) ≤ 256))).then (stp_as (g := codIn c) (((stp_list 256 stp_row (rowsL c.locals)).then (stp_instrs c.l)).of (fun s => by simp only [codIn]) rfl rfl))).of (fun s => by simp only [codP]) (by unfold bCod bCodIn bList; rw [List.nil_append]) (by unfold oCod oList; rfl)
theorem stp_dat (x : Dat) : Stp (fun s => datP s x) (bDat x) (oDat x) := (((stp_where x.mem).then (stp_instrs [x.off])).then (stp_bytes (bl x.b))).congr rfl (Bool.and_true _)
def bSect {α : Type} (id : Int) (b : α → List Int) (ts : List α) : List Int := if ts.length = 0 then [] else [id % 256] ++ (putU (bList b ts).length ++ bList b ts)
def oSect {α : Type} (ok : α → Bool) (ts : List α) : Bool := if ts.length = 0 then true else oList 1000 ok ts
theorem stp_sect {α : Type} (id : Int) {f : Lay → α → Lay} {b : α → List Int} {ok : α → Bool} (h : ∀ t, Stp (fun s => f s t) (b t) (ok t)) (ts : List α) : Stp (fun s => sectP id f s ts) (bSect id b ts) (oSect ok ts) := by
  unfold sectP bSect oSect
  by_cases h0 : ts.length = 0
  · simp only [if_pos h0]
    exact stp_id
  · simp only [if_neg h0]
    exact ((stp_byte id).then (stp_as (stp_list 1000 h ts))).congr rfl (Bool.true_and _)
def bStart (n : Int) : List Int := if 0 < n then [8 % 256] ++ (putU (putU (n - 1)).length ++ putU (n - 1)) else []
def oStart (n : Int) : Bool := decide (0 ≤ n) && (if 0 < n then oIdx (n - 1) else true)
theorem stp_start (n : Int) : Stp (fun s => startP s n) (bStart n) (oStart n) := by
  unfold startP bStart oStart
  by_cases h : 0 < n
  · simp only [if_pos h]
    exact (((stp_need _).then (stp_byte 8)).then (stp_as (stp_index (n - 1)))).congr rfl (by rw [Bool.and_true])
  · simp only [if_neg h]
    exact (stp_need _).congr rfl (Bool.and_true _).symm
def bHead (m : Mdl) : List Int := bSect 1 bFT m.types ++ bSect 2 bImp m.imports ++ bSect 3 putU m.funcs ++ bSect 4 (fun x : Lim => bTab x.mn x.mx) m.tables ++ bSect 5 (fun x : Lim => bLim x.mn x.mx) m.mems
def bTail (m : Mdl) : List Int := bSect 6 bGlo m.globals ++ bSect 7 bExp m.exports ++ bStart m.start ++ bSect 9 bEle m.elems ++ bSect 10 bCod m.codes ++ bSect 11 bDat m.datas
def bMod (m : Mdl) : List Int := headB ++ (bHead m ++ bTail m)
def oMod (m : Mdl) : Bool := ((m.codes.length : Int) == (m.funcs.length : Int)) && (oSect oFT m.types && oSect oImp m.imports && oSect oIdx m.funcs && oSect (fun x : Lim => oLim x.mn x.mx) m.tables && oSect (fun x : Lim => oLim x.mn x.mx) m.mems && (oSect oGlo m.globals && oSect oExp m.exports && oStart m.start && oSect oEle m.elems && oSect oCod m.codes && oSect oDat m.datas))
theorem stp_mod (m : Mdl) : Stp (modP m) (bMod m) (oMod m) := by
  have h1 := ((((stp_sect 1 stp_ft m.types).then (stp_sect 2 stp_imp m.imports)).then (stp_sect 3 stp_index m.funcs)).then (stp_sect 4 (f := tabP) (b := fun x : Lim => bTab x.mn x.mx) (ok := fun x : Lim => oLim x.mn x.mx) (fun x => stp_table x.mn x.mx) m.tables)).then (stp_sect 5 (f := limP) (b := fun x : Lim => bLim x.mn x.mx) (ok := fun x : Lim => oLim x.mn x.mx) (fun x => stp_limits x.mn x.mx) m.mems)
  have h2 := (((((stp_sect 6 stp_glo m.globals).then (stp_sect 7 stp_exp m.exports)).then (stp_start m.start)).then (stp_sect 9 stp_ele m.elems)).then (stp_sect 10 stp_cod m.codes)).then (stp_sect 11 stp_dat m.datas)
  have h3 := ((stp_put headB).then (stp_need ((m.codes.length : Int) == (m.funcs.length : Int)))).then (h1.then h2)
  exact h3.congr (by rw [List.append_nil]; rfl) (by rw [Bool.true_and]; rfl)
/-- What laying a module comes to, plain. -/
theorem layV_eq (m : Mdl) : layV m = if oMod m = true then (if 65536 < (bMod m).length then ([], 14) else (bMod m, 0)) else ([], 1) := by
  have h := stp_mod m
  have hw : LW ⟨[], false, false⟩ := fun _ _ => Nat.zero_le _
  have h1 := h.no ⟨[], false, false⟩
  unfold layV
  by_cases ho : oMod m = true
  · rw [ho] at h1
    replace h1 : (modP m ⟨[], false, false⟩).no = false := h1
    have h2 := h.full _ hw h1
    replace h2 : (modP m ⟨[], false, false⟩).full = (false || decide (65536 < 0 + (bMod m).length)) := h2
    rw [Bool.false_or, Nat.zero_add] at h2
    rw [if_neg (by rw [h1]; decide), if_pos ho]
    by_cases hl : 65536 < (bMod m).length
    · rw [decide_eq_true hl] at h2
      rw [if_pos h2, if_pos hl]
    · rw [decide_eq_false hl] at h2
      rw [if_neg (by rw [h2]; decide), if_neg hl, h.xs _ hw h1 h2]
      rfl
  · have ho' : oMod m = false := by cases q : oMod m <;> simp_all
    rw [ho'] at h1
    replace h1 : (modP m ⟨[], false, false⟩).no = true := h1
    rw [if_pos h1, if_neg ho]
end Go.Proofs.YtekonefnniaheaaGreat
set_option linter.unusedVariables false
namespace Go.Proofs.YtekonefnniaheaaGreat
open Go.RowKit Go.Deep
open Leb (byt byt_lt byt_get len7 sum7 putU putS)

theorem Enc.congr {X : Type} {R : Rd X} {x : X} {b b' : List Int} (h : Enc R x b) (e : b = b') : Enc R x b' := e ▸ h
theorem enc_bindR {X Y : Type} {R : Rd X} {R2 : X → Rd Y} {x : X} {y : Y} {b1 b2 : List Int} (h1 : Enc R x b1) (h2 : Enc (R2 x) y b2) : Enc (bindR R R2) y (b1 ++ b2) := enc_bind (R2 := fun q => R2 q.1 q.2) h1 h2
theorem enc_pure {X : Type} (x : X) : Enc (pureR x) x [] := enc_ok x
theorem enc_mapR {X Y : Type} {R : Rd X} {x : X} {b : List Int} (h : Enc R x b) (k : X → Y) : Enc (mapR k R) (k x) b := enc_map h k
theorem enc_need {X : Type} {R : Rd X} {x : X} {b : List Int} {p : X → Bool} {e : Int} (h : Enc R x b) (hp : p x = true) : Enc (needR R p e) x b := by
  have := enc_bindR (R2 := fun x => if p x = true then pureR x else failR e) h (y := x) (b2 := []) (by rw [hp]; exact enc_pure x)
  rwa [List.append_nil] at this
theorem enc_byte {c : Int} (h0 : 0 ≤ c) (h1 : c < 256) : Enc byteR c [c] := by
  refine ⟨fun more => ?_, fun k hk => ?_⟩
  · have h : ¬ (strOfNums [c] ++ more).size = 0 := by rw [size_one]; omega
    unfold byteR
    rw [if_neg h, ext_one, byt_one c more h1, show ((c.toNat : Nat) : Int) = c by omega]
  · obtain rfl : k = 0 := by simp at hk; omega
    rfl
theorem enc_mod {R : Rd Int} {c : Int} (h : Enc R c [c]) (h0 : 0 ≤ c) (h1 : c < 256) : Enc R c [c % 256] := h.congr (by rw [Int.emod_eq_of_lt h0 h1])
theorem enc_up {c most : Int} (h0 : 0 ≤ c) (h1 : c < 256) (h : c ≤ most) : Enc (upR most) c [c % 256] := enc_mod (enc_need (enc_byte h0 h1) (decide_eq_true h)) h0 h1
theorem enc_only {c : Int} (h0 : 0 ≤ c) (h1 : c < 256) : Enc (onlyR c) c [c % 256] := enc_mod (enc_need (enc_byte h0 h1) (by simp)) h0 h1
theorem bytesR_eq (s : ByteArray) : bytesR s = (uT s).bind fun q => if q.1 ≤ (q.2.size : Int) then .ok (q.2.extract 0 q.1.toNat, q.2.extract q.1.toNat q.2.size) else .error 2 := by
  unfold bytesR uT bE bA bB
  by_cases hu : okU s = true
  · have hN : uN s = (sum7 s (len7 s 5) : Nat) := by unfold uN; rw [if_pos hu]
    have hR : uR s = s.extract (len7 s 5) s.size := by unfold uR; rw [if_pos hu]
    have hle := Leb.len7_le s 5
    have hz : (s.extract (len7 s 5) s.size).size = s.size - len7 s 5 := by rw [ByteArray.size_extract]; omega
    rw [if_pos hu]
    show _ = if uN s ≤ ((uR s).size : Int) then _ else _
    by_cases hb : sum7 s (len7 s 5) + len7 s 5 ≤ s.size
    · have hk : okB s = true := decide_eq_true ⟨hu, hb⟩
      rw [if_pos hk, if_pos rfl, if_pos hk, if_pos hk, hN, hR, if_pos (by rw [hz]; omega)]
      rfl
    · have hk : okB s = false := decide_eq_false fun q => hb q.2
      rw [hk, hN, hR, if_neg (show ¬ ((sum7 s (len7 s 5) : Nat) : Int) ≤ ((s.extract (len7 s 5) s.size).size : Int) by rw [hz]; omega)]
      rfl
  · have hk : okB s = false := decide_eq_false fun q => hu q.1
    rw [hk, if_neg hu]
    rfl
theorem ext_head (b : List Int) (more : ByteArray) : (strOfNums b ++ more).extract 0 b.length = strOfNums b := by
  rw [← strOfNums_size b]
  exact ByteArray.extract_append_eq_left rfl
theorem enc_bytesN (b : List Int) (hb : b.length ≤ 4294967295) : Enc bytesR (strOfNums b) (putU b.length ++ b) := by
  have h1 := enc_u (n := (b.length : Int)) (by omega) (by omega)
  refine ⟨fun more => ?_, fun k hk => ?_⟩
  · rw [bytesR_eq, nums_app, h1.1]
    show (if (b.length : Int) ≤ ((strOfNums b ++ more).size : Int) then _ else _) = _
    rw [if_pos (by rw [size_nums]; omega)]
    show Except.ok ((strOfNums b ++ more).extract 0 b.length, (strOfNums b ++ more).extract b.length (strOfNums b ++ more).size) = _
    rw [ext_head, ext_app]
  · rw [bytesR_eq]
    by_cases hl : k < (putU (b.length : Int)).length
    · rw [List.take_append_of_le_length (by omega), h1.2 k hl]
      rfl
    · rw [List.take_append, List.take_of_length_le (by omega), ← strOfNums_app, h1.1]
      rw [List.length_append] at hk
      show (if (b.length : Int) ≤ ((strOfNums (b.take _)).size : Int) then _ else _) = _
      rw [if_neg (by rw [strOfNums_size, List.length_take]; omega)]
theorem enc_bytes {s : ByteArray} (h : s.size ≤ 4294967295) : Enc bytesR s (bStr s) := by
  have := enc_bytesN (bl s) (by rw [bl_length]; exact h)
  rwa [bl_back] at this
theorem enc_name {s : ByteArray} (h : nameB s = true) : Enc nameR s (bStr s) := by
  unfold nameB at h
  rw [Bool.and_eq_true] at h
  have h1 := of_decide_eq_true h.1
  exact enc_need (enc_need (enc_bytes (by omega)) h.2) h.1
theorem enc_yes (b : Bool) : Enc yesR b (bYes b) := by
  cases b
  · exact enc_mapR (enc_up (c := 0) (most := 1) (by decide) (by decide) (by decide)) (fun c => c == 1)
  · exact enc_mapR (enc_up (c := 1) (most := 1) (by decide) (by decide) (by decide)) (fun c => c == 1)
theorem enc_idx {n : Int} (h : oIdx n = true) : Enc uT n (putU n) := by
  have := of_decide_eq_true h
  exact enc_u this.1 this.2
theorem typ_is {c : Int} (h : oTyp c = true) : c = 127 ∨ c = 126 ∨ c = 112 := by
  have ht : (typeV c).2 = 0 := of_decide_eq_true h
  rcases typeV_cases c with ⟨h, _⟩ | ⟨h, _⟩ | ⟨h, _⟩ | ⟨h, h2⟩ | ⟨h, h2⟩ | ⟨h, h2⟩ | ⟨h, h2⟩
  · exact .inl h
  · exact .inr (.inl h)
  · exact .inr (.inr h)
  all_goals (rw [h2] at ht; cases ht)
theorem enc_typ {c : Int} (h : oTyp c = true) : Enc yT c (bTyp c) := by
  have hc := typ_is h
  exact enc_mod (enc_y (of_decide_eq_true h)) (by omega) (by omega)
theorem enc_lim {mn mx : Int} (h : oLim mn mx = true) : Enc limR ⟨mn, mx⟩ (bLim mn mx) := by
  unfold oLim at h
  unfold bLim
  by_cases hx : mx = -1
  · subst hx
    rw [if_pos rfl] at h ⊢
    have := enc_bindR (R2 := fun c => bindR uT fun mn => if (c == 1) = true then mapR (fun mx => Lim.mk mn mx) uT else pureR (Lim.mk mn (-1))) (enc_up (c := 0) (most := 1) (by decide) (by decide) (by decide)) (enc_bindR (R2 := fun mn => if ((0 : Int) == 1) = true then mapR (fun mx => Lim.mk mn mx) uT else pureR (Lim.mk mn (-1))) (enc_idx h) (enc_pure (Lim.mk mn (-1))))
    exact this.congr (by rw [List.append_nil])
  · rw [if_neg hx] at h ⊢
    rw [Bool.and_eq_true] at h
    have := enc_bindR (R2 := fun c => bindR uT fun mn => if (c == 1) = true then mapR (fun mx => Lim.mk mn mx) uT else pureR (Lim.mk mn (-1))) (enc_up (c := 1) (most := 1) (by decide) (by decide) (by decide)) (enc_bindR (R2 := fun mn => if ((1 : Int) == 1) = true then mapR (fun mx => Lim.mk mn mx) uT else pureR (Lim.mk mn (-1))) (enc_idx h.1) (enc_mapR (enc_idx h.2) (fun mx => Lim.mk mn mx)))
    exact this.congr (by rw [List.append_assoc])
theorem enc_tab {mn mx : Int} (h : oLim mn mx = true) : Enc tabR ⟨mn, mx⟩ (bTab mn mx) := enc_bindR (R2 := fun _ => limR) (enc_only (c := 112) (by decide) (by decide)) (enc_lim h)
theorem enc_rep {X : Type} {R : Rd X} {b : X → List Int} : ∀ (ts : List X), (∀ t ∈ ts, Enc R t (b t)) → Enc (repR R ts.length) ts (ts.flatMap b)
  | [], _ => enc_pure []
  | t :: r, h => by
    rw [List.flatMap_cons]
    exact enc_bindR (R2 := fun x => mapR (fun l => x :: l) (repR R r.length)) (h t List.mem_cons_self) (enc_mapR (enc_rep r fun u hu => h u (List.mem_cons_of_mem _ hu)) (fun l => t :: l))
theorem enc_list {X : Type} {R : Rd X} {b : X → List Int} {ts : List X} {most : Int} (hm : most ≤ 4294967295) (hl : (ts.length : Int) ≤ most) (h : ∀ t ∈ ts, Enc R t (b t)) : Enc (listR most R) ts (bList b ts) := by
  unfold listR bList
  have h1 : Enc (needR uT (fun n => decide (n ≤ most)) 14) (ts.length : Int) (putU (ts.length : Int)) := enc_need (enc_u (n := (ts.length : Int)) (by omega) (by omega)) (decide_eq_true hl)
  have h2 : Enc (repR R (ts.length : Int).toNat) ts (ts.flatMap b) := by
    rw [Int.toNat_natCast]
    exact enc_rep ts h
  exact enc_bindR h1 h2
theorem enc_listO {X : Type} {R : Rd X} {b : X → List Int} {ok : X → Bool} {ts : List X} {most : Int} (hm : most ≤ 4294967295) (ho : oList most ok ts = true) (h : ∀ t, t ∈ ts → ok t = true → Enc R t (b t)) : Enc (listR most R) ts (bList b ts) := by
  unfold oList at ho
  rw [Bool.and_eq_true] at ho
  exact enc_list hm (of_decide_eq_true ho.1) fun t ht => h t ht (List.all_eq_true.1 ho.2 t ht)
theorem enc_ft {t : FT} (h : oFT t = true) : Enc ftR t (bFT t) := by
  unfold oFT at h
  rw [Bool.and_eq_true] at h
  have h1 := enc_listO (R := yT) (b := bTyp) (by decide) h.1 fun _ _ => enc_typ
  have h2 := enc_listO (R := yT) (b := bTyp) (by decide) h.2 fun _ _ => enc_typ
  have := enc_bindR (R2 := fun _ => bindR (listR 32 yT) fun p => mapR (fun r => FT.mk p r) (listR 32 yT)) (enc_only (c := 96) (by decide) (by decide)) (enc_bindR (R2 := fun p => mapR (fun r => FT.mk p r) (listR 32 yT)) h1 (enc_mapR h2 (fun r => FT.mk t.p r)))
  exact this.congr (by unfold bFT; rw [List.append_assoc])
theorem and_two {a b : Bool} (h : (a && b) = true) : a = true ∧ b = true := by rwa [Bool.and_eq_true] at h
theorem enc_imp {x : Imp} (h : oImp x = true) : Enc impR x (bImp x) := by
  unfold oImp at h
  obtain ⟨h, how⟩ := and_two h
  obtain ⟨h, hk⟩ := and_two h
  obtain ⟨h, hkd⟩ := and_two h
  obtain ⟨hm, hn⟩ := and_two h
  have hkd' : 0 ≤ x.kind ∧ x.kind ≤ 3 := of_decide_eq_true hkd
  have e3 : Enc (impK2 x.mod x.name x.kind) x (bImpK x) := by
    obtain ⟨md, nm, k, t, mu, mn, mx⟩ := x
    unfold impK2 bImpK
    unfold oImpK at hk
    unfold ownB at how
    replace hkd' : 0 ≤ k ∧ k ≤ 3 := hkd'
    dsimp only at hk how ⊢
    by_cases k0 : k = 0
    · simp only [if_pos k0] at hk how ⊢
      obtain ⟨a, c⟩ := and_two how
      obtain ⟨c, d⟩ := and_two c
      have ha : mu = false := by cases mu <;> simp_all
      have hc := of_decide_eq_true c
      have hd := of_decide_eq_true d
      subst k0 ha hc hd
      exact enc_mapR (enc_idx hk) (fun t => Imp.mk md nm 0 t false 0 0)
    · simp only [if_neg k0] at hk how ⊢
      by_cases k3 : k = 3
      · subst k3
        simp only [if_true, if_neg (show ¬ (3 : Int) = 1 by decide), if_neg (show ¬ (3 : Int) = 2 by decide)] at hk how ⊢
        obtain ⟨c, d⟩ := and_two how
        have hc := of_decide_eq_true c
        have hd := of_decide_eq_true d
        subst hc hd
        exact enc_bindR (R2 := fun t => mapR (fun b => Imp.mk md nm 3 t b 0 0) yesR) (enc_typ hk) (enc_mapR (enc_yes mu) (fun b => Imp.mk md nm 3 t b 0 0))
      · simp only [if_neg k3] at how
        obtain ⟨c, d⟩ := and_two how
        have hc := of_decide_eq_true c
        have ha : mu = false := by cases mu <;> simp_all
        subst hc ha
        by_cases k1 : k = 1
        · subst k1
          simp only [if_true] at hk ⊢
          exact enc_mapR (enc_tab hk) (fun l => Imp.mk md nm 1 0 false l.mn l.mx)
        · have k2 : k = 2 := by omega
          subst k2
          simp only [if_true, if_neg (show ¬ (2 : Int) = 1 by decide)] at hk ⊢
          exact enc_mapR (enc_lim hk) (fun l => Imp.mk md nm 2 0 false l.mn l.mx)
  have := enc_bindR (R2 := fun md => bindR nameR fun nm => bindR (upR 3) fun k => impK2 md nm k) (enc_name hm) (enc_bindR (R2 := fun nm => bindR (upR 3) fun k => impK2 x.mod nm k) (enc_name hn) (enc_bindR (R2 := fun k => impK2 x.mod x.name k) (enc_up (c := x.kind) (most := 3) hkd'.1 (by omega) hkd'.2) e3))
  exact this.congr (by unfold bImp; simp only [List.append_assoc])
theorem putV_parts {ls : List Ins} (h : oIns ls = true) : okL 0 ls = true ∧ sizL ls ≤ 8192 ∧ bIns ls = putL ls ++ [11] := by
  have h' : (putV ls).2 = 0 := of_decide_eq_true h
  unfold bIns
  unfold putV at h' ⊢
  by_cases hc : (cP 0 0 ls).2 = true
  · rw [if_pos hc]
    unfold cP at hc
    by_cases hk : okL 0 ls = true ∧ 0 + sizL ls ≤ 8192
    · exact ⟨hk.1, by omega, rfl⟩
    · rw [if_neg hk] at hc
      cases hc
  · rw [if_neg hc] at h'
    cases h'
theorem take_laid {ls : List Ins} (hok : okL 0 ls = true) (hn : sizL ls ≤ 8192) (hw : wfL ls) (more : ByteArray) : takeT (strOfNums (putL ls ++ [11]) ++ more) = .ok (ls, more) := by
  obtain ⟨A, _⟩ := backL 0 (by decide) ls hok hw 0 (by omega)
  unfold takeT
  rw [nums_app]
  obtain ⟨f', h1, h2, h3⟩ := A _ (strOfNums [11] ++ more) (Nat.lt_succ_self _)
  rw [h3, take_stop (by omega) (.inl rfl)]
  show (if (11 : Int) = 11 then Except.ok (ls ++ [], more) else Except.error 2) = _
  rw [if_pos rfl, List.append_nil]
theorem take_cut {ls : List Ins} (hok : okL 0 ls = true) (hn : sizL ls ≤ 8192) (hw : wfL ls) {k : Nat} (hk : k < (putL ls ++ [11]).length) : takeT (strOfNums ((putL ls ++ [11]).take k)) = .error 2 := by
  obtain ⟨_, B⟩ := backL 0 (by decide) ls hok hw 0 (by omega)
  rw [List.length_append, List.length_singleton] at hk
  rw [List.take_append_of_le_length (by omega)]
  unfold takeT
  rw [B _ k (by omega) (by rw [nums_take _ _ (by omega)]; omega)]
  rfl
theorem enc_ins {ls : List Ins} (h : oIns ls = true) (hw : wfL ls) : Enc takeT ls (bIns ls) := by
  obtain ⟨h1, h2, h3⟩ := putV_parts h
  rw [h3]
  exact ⟨fun more => take_laid h1 h2 hw more, fun k hk => take_cut h1 h2 hw hk⟩
end Go.Proofs.YtekonefnniaheaaGreat
set_option linter.unusedVariables false
namespace Go.Proofs.YtekonefnniaheaaGreat
open Go.RowKit Go.Deep
open Leb (byt byt_lt byt_get len7 sum7 putU putS)

theorem enc_const {c : Ins} (h : oIns [c] = true) (hw : wfI c) : Enc constR c (bIns [c]) := by
  have h2 : Enc (if ([c] : List Ins).length = 1 then pureR (([c] : List Ins).getD 0 default) else failR 9) c [] := by
    rw [if_pos (show ([c] : List Ins).length = 1 from rfl)]
    exact enc_pure c
  have := enc_bindR (R2 := fun ls : List Ins => if ls.length = 1 then pureR (ls.getD 0 default) else failR 9) (enc_ins h (wfL_one hw)) h2
  exact this.congr (List.append_nil _)
theorem enc_glo {x : Glo} (h : oGlo x = true) (hw : wfI x.init) : Enc gloR x (bGlo x) := by
  obtain ⟨h1, h2⟩ := and_two h
  have := enc_bindR (R2 := fun t => bindR yesR fun m => mapR (fun c => Glo.mk t m c) constR) (enc_typ h1) (enc_bindR (R2 := fun m => mapR (fun c => Glo.mk x.t m c) constR) (enc_yes x.mu) (enc_mapR (enc_const h2 hw) (fun c => Glo.mk x.t x.mu c)))
  exact this.congr (by unfold bGlo; rw [List.append_assoc])
theorem enc_exp {x : Exp} (h : oExp x = true) : Enc expR x (bExp x) := by
  obtain ⟨h1, h2⟩ := and_two h
  obtain ⟨h0, h1⟩ := and_two h1
  have hk : 0 ≤ x.kind ∧ x.kind ≤ 3 := of_decide_eq_true h1
  have := enc_bindR (R2 := fun nm => bindR (upR 3) fun k => mapR (fun i => Exp.mk nm k i) uT) (enc_name h0) (enc_bindR (R2 := fun k => mapR (fun i => Exp.mk x.name k i) uT) (enc_up (c := x.kind) (most := 3) hk.1 (by omega) hk.2) (enc_mapR (enc_idx h2) (fun i => Exp.mk x.name x.kind i)))
  exact this.congr (by unfold bExp; rw [List.append_assoc])
theorem putU_zero : putU 0 = [0] := by decide
theorem putU_two : putU 2 = [2] := by decide
theorem enc_where {n : Int} (h : oWhere n = true) : Enc whereR (n, !decide (n = 0)) (bWhere n) := by
  unfold oWhere at h
  unfold bWhere
  by_cases h0 : n = 0
  · subst h0
    rw [if_pos rfl]
    have h2 : Enc (if (0 : Int) = 0 then pureR ((0 : Int), false) else if (0 : Int) = 2 then mapR (fun t => (t, true)) uT else failR 2) ((0 : Int), false) [] := by
      rw [if_pos rfl]
      exact enc_pure _
    have := enc_bindR (R2 := fun n => if n = 0 then pureR (0, false) else if n = 2 then mapR (fun t => (t, true)) uT else failR 2) (enc_u (n := 0) (by decide) (by decide)) h2
    exact this.congr (by rw [putU_zero]; rfl)
  · rw [if_neg h0] at h ⊢
    have h2 : Enc (if (2 : Int) = 0 then pureR ((0 : Int), false) else if (2 : Int) = 2 then mapR (fun t => (t, true)) uT else failR 2) (n, true) (putU n) := by
      rw [if_neg (by decide), if_pos rfl]
      exact enc_mapR (enc_idx h) (fun t => (t, true))
    have := enc_bindR (R2 := fun n => if n = 0 then pureR (0, false) else if n = 2 then mapR (fun t => (t, true)) uT else failR 2) (enc_u (n := 2) (by decide) (by decide)) h2
    rw [decide_eq_false h0]
    exact this.congr (by rw [putU_two]; rfl)
theorem enc_ele {x : Ele} (h : oEle x = true) (hw : wfI x.off) : Enc eleR x (bEle x) := by
  obtain ⟨h1, h3⟩ := and_two h
  obtain ⟨h1, h2⟩ := and_two h1
  have e3 := enc_listO (R := uT) (b := putU) (ok := oIdx) (by decide) h3 fun _ _ => enc_idx
  have e2 := enc_const h2 hw
  have e1 := enc_where h1
  have e4 : Enc (formR (!decide (x.table = 0))) () (if x.table = 0 then [] else [0 % 256]) := by
    unfold formR
    by_cases h0 : x.table = 0
    · rw [decide_eq_true h0, if_neg (by decide), if_pos h0]
      exact enc_pure ()
    · rw [decide_eq_false h0, if_pos (by decide), if_neg h0]
      have := enc_mapR (enc_need (p := fun n => n == 0) (e := 2) (enc_u (n := 0) (by decide) (by decide)) (by decide)) (fun _ => ())
      exact this.congr (by rw [putU_zero]; rfl)
  have := enc_bindR (R2 := fun q : Int × Bool => bindR constR fun c => bindR (formR q.2) fun _ => mapR (fun f => Ele.mk q.1 c f) (listR 1000 uT)) e1 (enc_bindR (R2 := fun c => bindR (formR (!decide (x.table = 0))) fun _ => mapR (fun f => Ele.mk x.table c f) (listR 1000 uT)) e2 (enc_bindR (R2 := fun _ => mapR (fun f => Ele.mk x.table x.off f) (listR 1000 uT)) e4 (enc_mapR e3 (fun f => Ele.mk x.table x.off f))))
  refine this.congr ?_
  unfold bEle
  by_cases h0 : x.table = 0
  · simp only [if_pos h0, List.nil_append, List.append_assoc]
  · simp only [if_neg h0, List.append_assoc]
theorem enc_dat {x : Dat} (h : oDat x = true) (hw : wfI x.off) (hb : x.b.size ≤ 4294967295) : Enc datR x (bDat x) := by
  obtain ⟨h1, h2⟩ := and_two h
  have := enc_bindR (R2 := fun q : Int × Bool => bindR constR fun c => mapR (fun b => Dat.mk q.1 c b) bytesR) (enc_where h1) (enc_bindR (R2 := fun c => mapR (fun b => Dat.mk x.mem c b) bytesR) (enc_const h2 hw) (enc_mapR (enc_bytes hb) (fun b => Dat.mk x.mem x.off b)))
  exact this.congr (by unfold bDat; rw [List.append_assoc])
theorem enc_in {X : Type} {R : Rd X} {x : X} {b : List Int} (h : Enc R x b) (hb : b.length ≤ 4294967295) : Enc (inR R) x (putU b.length ++ b) := by
  have h1 := enc_bytesN b hb
  refine ⟨fun more => ?_, fun k hk => ?_⟩
  · unfold inR
    rw [h1.1]
    show ((R (strOfNums b)).bind fun p => if p.2.size = 0 then Except.ok (p.1, more) else .error 2) = _
    have h2 := h.1 ⟨#[]⟩
    rw [show strOfNums b ++ (⟨#[]⟩ : ByteArray) = strOfNums b from ByteArray.append_empty] at h2
    rw [h2]
    rfl
  · unfold inR
    rw [h1.2 k hk]
    rfl
/-- Locals out of rows. -/
def flatN (rs : List (Int × Int)) : List Int := rs.flatMap fun q => List.replicate q.1.toNat q.2
theorem flat_add (rs : List (Int × Int)) (t : Int) (h : ∀ q ∈ rs, 0 ≤ q.1) : flatN (addRow rs t) = flatN rs ++ [t] ∧ ∀ q ∈ addRow rs t, 0 ≤ q.1 := by
  rcases List.eq_nil_or_concat rs with rfl | ⟨r, q, rfl⟩
  · exact ⟨rfl, by intro q hq; rw [show addRow [] t = [(1, t)] from rfl] at hq; rw [List.mem_singleton.1 hq]; show (0 : Int) ≤ 1; omega⟩
  · obtain ⟨n, u⟩ := q
    by_cases e : t = u
    · subst e
      have hn : 0 ≤ n := h (n, t) (by simp)
      rw [List.concat_eq_append, addRow_same]
      refine ⟨?_, fun q hq => ?_⟩
      · unfold flatN
        rw [List.flatMap_append, List.flatMap_append, List.append_assoc]
        congr 1
        simp only [List.flatMap_cons, List.flatMap_nil, List.append_nil]
        rw [show (n + 1).toNat = n.toNat + 1 by omega, List.replicate_succ']
      · rcases List.mem_append.1 hq with h1 | h1
        · exact h q (by simp [h1])
        · rw [List.mem_singleton.1 h1]
          show 0 ≤ n + 1
          omega
    · have ha := addRow_new (rs := r.concat (n, u)) (t := t) (fun q hq => by
        rw [List.concat_eq_append, List.getLast?_append, List.getLast?_singleton] at hq
        simp at hq
        rw [← hq]
        exact e)
      rw [ha]
      refine ⟨?_, fun q hq => ?_⟩
      · unfold flatN
        rw [List.flatMap_append]
        rfl
      · rcases List.mem_append.1 hq with h1 | h1
        · exact h q h1
        · rw [List.mem_singleton.1 h1]
          show (0 : Int) ≤ 1
          omega
theorem flat_rows (ts : List Int) : flatN (rowsL ts) = ts ∧ ∀ q ∈ rowsL ts, 0 ≤ q.1 := by
  suffices H : ∀ (us rs : List Int) (acc : List (Int × Int)), flatN acc = rs → (∀ q ∈ acc, 0 ≤ q.1) → flatN (us.foldl addRow acc) = rs ++ us ∧ ∀ q ∈ us.foldl addRow acc, 0 ≤ q.1 by
    have := H ts [] [] rfl (fun q hq => by cases hq)
    rwa [List.nil_append] at this
  intro us
  induction us with
  | nil => intro rs acc h1 h2; rw [List.append_nil]; exact ⟨h1, h2⟩
  | cons u r ih =>
    intro rs acc h1 h2
    rw [List.foldl_cons]
    obtain ⟨a, b⟩ := flat_add acc u h2
    have := ih (rs ++ [u]) (addRow acc u) (by rw [a, h1]) b
    rwa [List.append_assoc] at this
theorem enc_rows : ∀ (rs : List (Int × Int)) (l : List Int), (∀ q ∈ rs, 0 ≤ q.1) → rs.all oRow = true → l.length + (flatN rs).length ≤ 256 → Enc (rowsR rs.length l) (l ++ flatN rs) (rs.flatMap bRow)
  | [], l, _, _, _ => by
    rw [show l ++ flatN [] = l from List.append_nil _]
    exact enc_pure l
  | q :: r, l, h, ho, hl => by
    rw [List.all_cons, Bool.and_eq_true] at ho
    have hq := h q List.mem_cons_self
    have e : flatN (q :: r) = List.replicate q.1.toNat q.2 ++ flatN r := by unfold flatN; rw [List.flatMap_cons]
    rw [e, List.length_append, List.length_replicate] at hl
    have hm : q.1 ≤ 256 - (l.length : Int) := by omega
    have h3 : Enc (if q.1 ≤ 256 - (l.length : Int) then rowsR r.length (l ++ List.replicate q.1.toNat q.2) else failR 14) ((l ++ List.replicate q.1.toNat q.2) ++ flatN r) (r.flatMap bRow) := by
      rw [if_pos hm]
      exact enc_rows r _ (fun u hu => h u (List.mem_cons_of_mem _ hu)) ho.2 (by rw [List.length_append, List.length_replicate]; omega)
    have := enc_bindR (R2 := fun many => bindR yT fun t => if many ≤ 256 - (l.length : Int) then rowsR r.length (l ++ List.replicate many.toNat t) else failR 14) (enc_u (n := q.1) hq (by omega)) (enc_bindR (R2 := fun t => if q.1 ≤ 256 - (l.length : Int) then rowsR r.length (l ++ List.replicate q.1.toNat t) else failR 14) (enc_typ ho.1) h3)
    rw [e, ← List.append_assoc, List.flatMap_cons]
    exact this.congr (by unfold bRow; rw [List.append_assoc])
theorem enc_loc {ls : List Int} (hl : (ls.length : Int) ≤ 256) (ho : oList 256 oRow (rowsL ls) = true) : Enc locR ls (bList bRow (rowsL ls)) := by
  obtain ⟨h1, h2⟩ := and_two ho
  have h1' : ((rowsL ls).length : Int) ≤ 256 := of_decide_eq_true h1
  obtain ⟨f1, f2⟩ := flat_rows ls
  have hr := enc_rows (rowsL ls) [] f2 h2 (by rw [f1]; simp; omega)
  rw [f1, List.nil_append] at hr
  have hu : Enc uT ((rowsL ls).length : Int) (putU ((rowsL ls).length : Int)) := enc_u (by omega) (by omega)
  have h3 : Enc (rowsR ((rowsL ls).length : Int).toNat []) ls ((rowsL ls).flatMap bRow) := by
    rw [Int.toNat_natCast]
    exact hr
  unfold bList locR
  revert hu h3
  generalize putU ((rowsL ls).length : Int) = b1
  generalize (rowsL ls).flatMap bRow = b2
  generalize ((rowsL ls).length : Int) = n
  intro hu h3
  exact enc_bindR (R2 := fun n => rowsR n.toNat []) hu h3
theorem enc_cod {c : Cod} (h : oCod c = true) (hw : wfL c.l) (hb : (bCodIn c).length ≤ 4294967295) : Enc codR c (bCod c) := by
  obtain ⟨h1, h2⟩ := and_two h
  obtain ⟨h2, h3⟩ := and_two h2
  have := enc_bindR (R2 := fun ls => mapR (fun l => Cod.mk ls l) takeT) (enc_loc (of_decide_eq_true h1) h2) (enc_mapR (enc_ins h3 hw) (fun l => Cod.mk c.locals l))
  exact enc_in this hb
end Go.Proofs.YtekonefnniaheaaGreat
set_option linter.unusedVariables false
namespace Go.Proofs.YtekonefnniaheaaGreat
open Go.RowKit Go.Deep
open Leb (byt byt_lt byt_get len7 sum7 putU putS)

theorem enc_sect {so : Sofar} {n : Int} {q : Mdl × Int} {b : List Int} (h0 : 0 < n) (h1 : n ≤ 12) (hl : so.last < placeN n) (h : Enc (contR n so.m so.d) q b) (hb : b.length ≤ 4294967295) : Enc (sectR so) ⟨q.1, placeN n, q.2⟩ ([n % 256] ++ (putU b.length ++ b)) := by
  have h2 : Enc (if n = 0 then pureR (Sofar.mk q.1 so.last q.2) else if so.last < placeN n then pureR (Sofar.mk q.1 (placeN n) q.2) else failR 2) ⟨q.1, placeN n, q.2⟩ [] := by
    rw [if_neg (by omega), if_pos hl]
    exact enc_pure _
  have hin := enc_in h hb
  revert hin
  generalize putU (b.length : Int) ++ b = bb
  intro hin
  have e1 : Enc byteR n [n % 256] := enc_mod (enc_byte (by omega) (by omega)) (by omega) (by omega)
  have := enc_bindR (R2 := fun n => bindR (inR (contR n so.m so.d)) fun q => if n = 0 then pureR (Sofar.mk q.1 so.last q.2) else if so.last < placeN n then pureR (Sofar.mk q.1 (placeN n) q.2) else failR 2) e1 (enc_bindR (R2 := fun q => if n = 0 then pureR (Sofar.mk q.1 so.last q.2) else if so.last < placeN n then pureR (Sofar.mk q.1 (placeN n) q.2) else failR 2) hin h2)
  exact this.congr (by rw [List.append_nil])
/-- These bytes are sections that lead from here to there. -/
def SecOk (so : Sofar) (b : List Int) (so' : Sofar) : Prop := ∀ (k : Nat) (rest : List Int), (strOfNums (b ++ rest)).size < k → ∃ k', (strOfNums rest).size < k' ∧ secsR k so (strOfNums (b ++ rest)) = secsR k' so' (strOfNums rest)
theorem SecOk.refl (so : Sofar) : SecOk so [] so := fun k rest h => ⟨k, h, rfl⟩
theorem SecOk.trans {a b c : Sofar} {x y : List Int} (h1 : SecOk a x b) (h2 : SecOk b y c) : SecOk a (x ++ y) c := fun k rest h => by
  rw [List.append_assoc] at h
  obtain ⟨k1, e1, q1⟩ := h1 k (y ++ rest) h
  obtain ⟨k2, e2, q2⟩ := h2 k1 rest e1
  exact ⟨k2, e2, by rw [List.append_assoc, q1, q2]⟩
theorem SecOk.one {so so' : Sofar} {b : List Int} (h : Enc (sectR so) so' b) (hb : 0 < b.length) : SecOk so b so' := fun k rest hk => by
  obtain ⟨j, rfl⟩ : ∃ j, k = j + 1 := ⟨k - 1, by omega⟩
  have hz : ¬ (strOfNums (b ++ rest)).size = 0 := by rw [strOfNums_size, List.length_append]; omega
  refine ⟨j, ?_, ?_⟩
  · rw [strOfNums_size, List.length_append] at hk
    rw [strOfNums_size]
    omega
  · rw [secs_step hz, ← strOfNums_app, h.1]
    rfl
/-- Sections that lead from one module to another, from any place before p0 to one not behind p1. -/
def SecTo (m : Mdl) (p0 : Int) (b : List Int) (m' : Mdl) (p1 : Int) : Prop := ∀ last, last ≤ p0 → ∃ last', last' ≤ p1 ∧ SecOk ⟨m, last, -1⟩ b ⟨m', last', -1⟩
theorem SecTo.trans {m1 m2 m3 : Mdl} {p0 p1 p2 : Int} {x y : List Int} (h1 : SecTo m1 p0 x m2 p1) (h2 : SecTo m2 p1 y m3 p2) : SecTo m1 p0 (x ++ y) m3 p2 := fun last hl => by
  obtain ⟨l1, e1, q1⟩ := h1 last hl
  obtain ⟨l2, e2, q2⟩ := h2 l1 e1
  exact ⟨l2, e2, q1.trans q2⟩
theorem SecTo.none {m : Mdl} {p0 p1 : Int} (h : p0 ≤ p1) : SecTo m p0 [] m p1 := fun last hl => ⟨last, by omega, SecOk.refl _⟩
theorem SecTo.one {m m' : Mdl} {p0 n : Int} {b : List Int} (h0 : 0 < n) (h1 : n ≤ 12) (hp : p0 < placeN n) (h : Enc (contR n m (-1)) (m', -1) b) (hb : b.length ≤ 4294967295) : SecTo m p0 ([n % 256] ++ (putU b.length ++ b)) m' (placeN n) := fun last hl =>
  ⟨placeN n, Int.le_refl _, SecOk.one (enc_sect (so := ⟨m, last, -1⟩) h0 h1 (by show last < placeN n; omega) h hb) (by simp)⟩
theorem sect_len {α : Type} (n : Int) (b : α → List Int) (ts : List α) (K : Nat) (h : (bSect n b ts).length ≤ K) (hz : ¬ ts.length = 0) : (bList b ts).length ≤ K := by
  unfold bSect at h
  rw [if_neg hz, List.length_append, List.length_append] at h
  omega
theorem list_len {α : Type} (b : α → List Int) (ts : List α) (K : Nat) (h : (bList b ts).length ≤ K) {t : α} (ht : t ∈ ts) : (b t).length ≤ K := by
  unfold bList at h
  rw [List.length_append] at h
  have : (b t).length ≤ (ts.flatMap b).length := by
    obtain ⟨x, y, rfl⟩ := List.append_of_mem ht
    rw [List.flatMap_append, List.flatMap_cons, List.length_append, List.length_append]
    omega
  omega
/-- What is asked of a module's instructions and texts, that it came in. -/
structure MdlWf (m : Mdl) : Prop where
  g : ∀ x ∈ m.globals, wfI x.init
  e : ∀ x ∈ m.elems, wfI x.off
  c : ∀ x ∈ m.codes, wfL x.l
  d : ∀ x ∈ m.datas, wfI x.off
theorem empty_list {α : Type} {ts : List α} (h : ts.length = 0) : ts = [] := List.eq_nil_of_length_eq_zero h
end Go.Proofs.YtekonefnniaheaaGreat
set_option linter.unusedVariables false
namespace Go.Proofs.YtekonefnniaheaaGreat
open Go.RowKit Go.Deep

def mdA : Mdl := { noM with types := [⟨[127], []⟩] }
theorem ex_layN : layV noM = ([0, 97, 115, 109, 1, 0, 0, 0], 0) := by kernel_rfl
theorem ex_layA : layV mdA = ([0, 97, 115, 109, 1, 0, 0, 0, 1, 5, 1, 96, 1, 127, 0], 0) := by kernel_rfl
theorem ex_strN : strOfNums [0, 97, 115, 109, 1, 0, 0, 0] = ⟨#[0, 97, 115, 109, 1, 0, 0, 0]⟩ := by kernel_rfl
theorem ex_strA6 : strOfNums [0, 97, 115, 109, 1, 0, 0, 0, 1, 5, 1, 96, 1, 127, 0] = ⟨#[0, 97, 115, 109, 1, 0, 0, 0, 1, 5, 1, 96, 1, 127, 0]⟩ := by kernel_rfl
theorem ex_takeM : takeMd ⟨#[0, 97, 115, 109, 1, 0, 0, 0, 1, 5, 1, 96, 1, 127, 0]⟩ = .ok mdA := by kernel_rfl
theorem noM_in (w : World) : MdlIn w noM none 0 none 0 none 0 none 0 none 0 none 0 none 0 none 0 none 0 none 0 :=
  ⟨⟨rfl, Nat.le_refl _, by decide, .inl rfl⟩, ⟨rfl, Nat.le_refl _, by decide, .inl rfl⟩, ⟨rfl, Nat.le_refl _, by decide, .inl rfl, fun i hi => absurd hi (by simp [noM])⟩, ⟨rfl, Nat.le_refl _, by decide, .inl rfl⟩, ⟨rfl, Nat.le_refl _, by decide, .inl rfl⟩, ⟨rfl, Nat.le_refl _, by decide, .inl rfl⟩, ⟨rfl, Nat.le_refl _, by decide, .inl rfl⟩, ⟨rfl, Nat.le_refl _, by decide, .inl rfl⟩, ⟨rfl, Nat.le_refl _, by decide, .inl rfl⟩, ⟨rfl, Nat.le_refl _, by decide, .inl rfl⟩, by decide⟩
theorem exPutN (w : World) : Calls Tryz.prog 10 #[.agg #[.slice none 0 0, .slice none 0 0, .slice none 0 0, .slice none 0 0, .slice none 0 0, .slice none 0 0, .slice none 0 0, .int .i64 0, .slice none 0 0, .slice none 0 0, .slice none 0 0]] w fun e w' => e = .returned (.tuple #[.string ⟨#[0, 97, 115, 109, 1, 0, 0, 0]⟩, .int .i64 0]) ∧ Below w.heap.size w w' := by
  have := PutM_any noM none 0 none 0 none 0 none 0 none 0 none 0 none 0 none 0 none 0 none 0 w (noM_in w)
  rw [ex_layN, ex_strN] at this
  exact this
theorem two_blk (w : World) (X Y : Array Value) (S T : TypeId) : BlkAt ((w.alloc (.cells X S)).alloc (.cells Y T)) w.heap.size X S ∧ BlkAt ((w.alloc (.cells X S)).alloc (.cells Y T)) (w.heap.size + 1) Y T ∧ Below w.heap.size w ((w.alloc (.cells X S)).alloc (.cells Y T)) := by
  have hbp : Below w.heap.size w (w.alloc (.cells X S)) := (Below.refl _ _).alloc (Nat.le_refl _) _
  have hbz : Below (w.alloc (.cells X S)).heap.size (w.alloc (.cells X S)) ((w.alloc (.cells X S)).alloc (.cells Y T)) := (Below.refl _ _).alloc (Nat.le_refl _) _
  have hsz0 : (w.alloc (.cells X S)).heap.size = w.heap.size + 1 := by simp
  exact ⟨(BlkAt.new w X _).below hbz, hsz0 ▸ BlkAt.new (w.alloc (.cells X S)) Y _, hbp.trans (hbz.mono hbp.size)⟩
theorem exPutA6 (w : World) : Calls Tryz.prog 10 #[.agg #[.slice (some ⟨w.heap.size + 1, 0, none⟩) 1 1, .slice none 0 0, .slice none 0 0, .slice none 0 0, .slice none 0 0, .slice none 0 0, .slice none 0 0, .int .i64 0, .slice none 0 0, .slice none 0 0, .slice none 0 0]] ((w.alloc (.cells #[.int .i64 127] 3)).alloc (.cells #[.slice (some ⟨w.heap.size, 0, none⟩) 1 1, .slice none 0 0] 54)) fun e w' => e = .returned (.tuple #[.string ⟨#[0, 97, 115, 109, 1, 0, 0, 0, 1, 5, 1, 96, 1, 127, 0]⟩, .int .i64 0]) ∧ Below w.heap.size w w' := by
  obtain ⟨b1, b2, hb⟩ := two_blk w #[.int .i64 127] #[.slice (some ⟨w.heap.size, 0, none⟩) 1 1, .slice none 0 0] 3 54
  have hn := noM_in ((w.alloc (.cells #[.int .i64 127] 3)).alloc (.cells #[.slice (some ⟨w.heap.size, 0, none⟩) 1 1, .slice none 0 0] 54))
  have := PutM_any mdA (some ⟨w.heap.size + 1, 0, none⟩) 1 none 0 none 0 none 0 none 0 none 0 none 0 none 0 none 0 none 0 _ ⟨⟨rfl, Nat.le_refl _, by decide, .inr ⟨_, _, rfl, fun i hi => by
    have hi0 : i = 0 := by have : i < 1 := hi; omega
    subst hi0
    exact ⟨some ⟨w.heap.size, 0, none⟩, 1, none, 0, ⟨b2.cell 0, b2.cell 1⟩, ⟨rfl, Nat.le_refl _, by decide, .inr ⟨_, _, rfl, fun k hk => by
      have hk0 : k = 0 := by have : k < 1 := hk; omega
      subst hk0
      exact b1.cell 0⟩, fun k hk => by
      have hk0 : k = 0 := by have : k < 1 := hk; omega
      subst hk0
      decide⟩, ⟨rfl, Nat.le_refl _, by decide, .inl rfl, fun k hk => absurd hk (by simp [mdA])⟩⟩⟩⟩, hn.hI, hn.hF, hn.hB, hn.hM, hn.hG, hn.hX, hn.hE, hn.hC, hn.hD, hn.hS⟩
  rw [ex_layA, ex_strA6] at this
  refine this.mono ?_
  rintro e w' ⟨h1, h2⟩
  exact ⟨h1, hb.trans (h2.mono hb.size)⟩
/-- What the reading of the example gives. -/
def ExT (w : World) (e : Ending) (w' : World) : Prop := ∃ (b off cp c : Nat) (xp xI : Option Addr) (cI : Nat) (xF : Option Addr) (cF : Nat) (xB : Option Addr) (cB : Nat) (xM : Option Addr) (cM : Nat) (xG : Option Addr) (cG : Nat) (xX : Option Addr) (cX : Nat) (xE : Option Addr) (cE : Nat) (xC : Option Addr) (cC : Nat) (xD : Option Addr) (cD : Nat), e = .returned (.tuple #[.agg #[.slice (some ⟨b, off, none⟩) 1 c, .slice xI 0 cI, .slice xF 0 cF, .slice xB 0 cB, .slice xM 0 cM, .slice xG 0 cG, .slice xX 0 cX, .int .i64 0, .slice xE 0 cE, .slice xC 0 cC, .slice xD 0 cD], .int .i64 0]) ∧
  Below w.heap.size w w' ∧ w'.cell? ⟨b, off, none⟩ = some (.slice xp 1 cp) ∧ View w' xp 1 [127]
theorem exTakeA (w : World) : Calls Tryz.prog 12 #[.string ⟨#[0, 97, 115, 109, 1, 0, 0, 0, 1, 5, 1, 96, 1, 127, 0]⟩] w fun e w' => ExT w e w' := by
  refine (TakeM_any ⟨#[0, 97, 115, 109, 1, 0, 0, 0, 1, 5, 1, 96, 1, 127, 0]⟩ (by decide) w).mono ?_
  rintro e w' ⟨vs, f, he, hb, _, ⟨m, hm, rfl, hv⟩ | ⟨hm, _⟩⟩
  · rw [ex_takeM] at hm
    injection hm with hm
    subst hm
    obtain ⟨x, c, xI, cI, xF, cF, xB, cB, xM, cM, xG, cG, xX, cX, xE, cE, xC, cC, xD, cD, rfl, hin⟩ := hv.ex
    rcases hin.hT.lie with h0 | ⟨b, off, rfl, hr⟩
    · exact absurd h0 (by decide)
    · obtain ⟨xp, cp, xr, cr, ⟨h1, _⟩, hp, _⟩ := hr 0 (by decide)
      exact ⟨b, off, cp, c, xp, xI, cI, xF, cF, xB, cB, xM, cM, xG, cG, xX, cX, xE, cE, xC, cC, xD, cD, he, hb, h1, hp.view⟩
  · rw [ex_takeM] at hm
    cases hm
theorem exSame (w : World) (xp : Option Addr) (cp : Nat) (hv : View w xp 1 [127]) (X : Array Value) :
    Calls Tryz.prog 15 #[.slice xp 1 cp, .slice (some ⟨w.heap.size + 1, 0, none⟩) 1 1] ((w.alloc (.cells X 32)).alloc (.cells #[.int .i64 127] 3)) fun e w' => e = .returned (.bool true) ∧ Below (w.alloc (.cells X 32)).heap.size (w.alloc (.cells X 32)) w' := by
  obtain ⟨_, b2, hb⟩ := two_blk w X #[.int .i64 127] 32 3
  refine (Same_long xp (some ⟨w.heap.size + 1, 0, none⟩) 1 cp 1 [127] _ (by decide) (hv.below hb) (.inr ⟨_, _, rfl, fun k hk => by
    have hk0 : k = 0 := by omega
    subst hk0
    exact b2.cell 0⟩)).mono ?_
  rintro e w' ⟨rfl, k⟩
  have bz : Below (w.alloc (.cells X 32)).heap.size (w.alloc (.cells X 32)) ((w.alloc (.cells X 32)).alloc (.cells #[.int .i64 127] 3)) := (Below.refl _ _).alloc (Nat.le_refl _) _
  exact ⟨rfl, bz.trans (k.mono bz.size)⟩
set_option maxRecDepth 100000 in
set_option maxHeartbeats 4000000 in
theorem awake6_any (w : World) : Calls Tryz.prog 9 #[] w fun e w' => e = .returned (.bool true) ∧ Below w.heap.size w w' := by
  have HPN := Lib.hid exPutN
  have HPA := Lib.hid exPutA6
  have HTA := Lib.hid exTakeA
  go_enter Tryz.func9, Tryz.ntmps9
  go_wp2_with (first
    | (go_at_call 10; refine (HPN.out _).mono ?_; rintro e w1 ⟨rfl, k1⟩; clear HPN)
    | (go_at_call 10; refine (HPA.out _).mono ?_; rintro e w2 ⟨rfl, k2⟩; have hb2 := k1.trans (k2.mono k1.size); clear HPA k1 k2)
    | (go_at_call 12; refine (HTA.out _).mono ?_; rintro e w3 ⟨b, off, cp, c, xp, xI, cI, xF, cF, xB, cB, xM, cM, xG, cG, xX, cX, xE, cE, xC, cC, xD, cD, rfl, k3, hcell, hview⟩; have hb3 := hb2.trans (k3.mono hb2.size); have bz := (Below.refl w3.heap.size w3).alloc (Nat.le_refl _) (.cells #[.slice (some ⟨b, off, none⟩) 1 c, .slice xI 0 cI, .slice xF 0 cF, .slice xB 0 cB, .slice xM 0 cM, .slice xG 0 cG, .slice xX 0 cX, .int .i64 0, .slice xE 0 cE, .slice xC 0 cC, .slice xD 0 cD] 32); have hcell' := below_cell bz hcell; have HS := Lib.hid (exSame w3 xp cp hview #[.slice (some ⟨b, off, none⟩) 1 c, .slice xI 0 cI, .slice xF 0 cF, .slice xB 0 cB, .slice xM 0 cM, .slice xG 0 cG, .slice xX 0 cX, .int .i64 0, .slice xE 0 cE, .slice xC 0 cC, .slice xD 0 cD]); have hbz := hb3.trans (bz.mono hb3.size); clear HTA k3 hb2 hcell hview hb3 bz)
    | (go_at_call 15; refine HS.out.mono ?_; rintro e w4 ⟨rfl, k4⟩; clear HS))
  go_ret
  exact ⟨rfl, hbz.trans (k4.mono hbz.size)⟩
end Go.Proofs.YtekonefnniaheaaGreat
set_option linter.unusedVariables false
namespace Go.Proofs.YtekonefnniaheaaGreat
open Go.RowKit Go.Deep

theorem at_of {α : Type} [Inhabited α] {ls : List α} {x : α} (h : x ∈ ls) : ∃ i, i < ls.length ∧ ls.getD i default = x := by
  obtain ⟨i, hi, rfl⟩ := List.getElem_of_mem h
  exact ⟨i, hi, by rw [List.getD_eq_getElem?_getD, List.getElem?_eq_getElem hi]; rfl⟩
theorem RowsIn.all {α : Type} [Inhabited α] {sz : Nat} {one : World → Nat → Nat → α → Prop} {w : World} {x : Option Addr} {len cap : Nat} {ts : List α} (h : RowsIn sz one w x len cap ts) {P : α → Prop} (hp : ∀ b o t, one w b o t → P t) : ∀ t ∈ ts, P t := by
  intro t ht
  obtain ⟨i, hi, rfl⟩ := at_of ht
  obtain ⟨b, off, _, h1⟩ := h.at (i := i) (by rw [h.eq]; exact hi)
  exact hp _ _ _ h1
theorem mdlWf_of {m : Mdl} {w : World} {xT : Option Addr} {cT : Nat} {xI : Option Addr} {cI : Nat} {xF : Option Addr} {cF : Nat} {xB : Option Addr} {cB : Nat} {xM : Option Addr} {cM : Nat} {xG : Option Addr} {cG : Nat} {xX : Option Addr} {cX : Nat} {xE : Option Addr} {cE : Nat} {xC : Option Addr} {cC : Nat} {xD : Option Addr} {cD : Nat} (h : MdlIn w m xT cT xI cI xF cF xB cB xM cM xG cG xX cX xE cE xC cC xD cD) : MdlWf m :=
  ⟨h.hG.all (P := fun x => wfI x.init) fun _ _ _ ⟨_, _, _, _, _, _, _, _, _, k⟩ => k, h.hE.all (P := fun x => wfI x.off) fun _ _ _ ⟨_, _, _, _, _, _, _, _, _, _, _, k, _⟩ => k, h.hC.all (P := fun x => wfL x.l) fun _ _ _ ⟨_, _, _, _, _, _, _, k, _⟩ => k, h.hD.all (P := fun x => wfI x.off) fun _ _ _ ⟨_, _, _, _, _, _, _, _, _, k, _⟩ => k⟩
end Go.Proofs.YtekonefnniaheaaGreat
