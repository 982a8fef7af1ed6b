/- Texts of the proof of ModuleOrderUptoProof, part 16. -/
import Derived.Test.YtekonefnniaheaaGreatModuleOrderUptoProofQ3
import Derived.Test.YtekonefnniaheaaGreatModuleOrderUptoProofQ10
import Derived.Test.YtekonefnniaheaaGreatModuleOrderUptoProofQ15
set_option linter.unusedVariables false
namespace Go.Proofs.YtekonefnniaheaaGreat
open Go.RowKit
open Leb (byt len7 lenF sum7 sg7)

/-- There are as many bytes as are told. -/
def okB (s : ByteArray) : Bool := decide (okU s = true ∧ sum7 s (len7 s 5) + len7 s 5 ≤ s.size)
def bA (s : ByteArray) : ByteArray := if okB s then (s.extract (len7 s 5) s.size).extract 0 (sum7 s (len7 s 5)) else ⟨#[]⟩
def bB (s : ByteArray) : ByteArray := if okB s then (s.extract (len7 s 5) s.size).extract (sum7 s (len7 s 5)) (s.extract (len7 s 5) s.size).size else ⟨#[]⟩
def bE (s : ByteArray) : Int := if okB s then 0 else 2
def bTup (s : ByteArray) : Value := .tuple #[.string (bA s), .string (bB s), .int .i64 (bE s)]
theorem bTup_bad {s : ByteArray} (h : okB s = false) : bTup s = .tuple #[.string ⟨#[]⟩, .string ⟨#[]⟩, .int .i64 2] := by
  unfold bTup bA bB bE
  rw [h]
  rfl
theorem bTup_good {s : ByteArray} (h : okB s = true) : bTup s = .tuple #[.string ((s.extract (len7 s 5) s.size).extract 0 (sum7 s (len7 s 5))), .string ((s.extract (len7 s 5) s.size).extract (sum7 s (len7 s 5)) (s.extract (len7 s 5) s.size).size), .int .i64 0] := by
  unfold bTup bA bB bE
  rw [h]
  rfl

theorem TakeBytes_good (s : ByteArray) (hs : s.size ≤ maxLen) (h : okB s = true) (w : World) :
    Calls Tryz.prog 163 #[.string s] w fun e w' => e = .returned (bTup s) ∧ Below w.heap.size w w' := by
  obtain ⟨hu, hle⟩ : okU s = true ∧ sum7 s (len7 s 5) + len7 s 5 ≤ s.size := of_decide_eq_true h
  have HB := bTup_good h
  have HU := uTup_good hu
  have hR : sum7 s (len7 s 5) ≤ (s.extract (len7 s 5) s.size).size := by rw [ByteArray.size_extract]; omega
  have hR2 : (s.extract (len7 s 5) s.size).size ≤ 9223372036854775807 := by
    rw [ByteArray.size_extract]
    unfold maxLen at hs
    omega
  clear h hu hle
  revert HB HU hR hR2
  generalize s.extract (len7 s 5) s.size = R
  generalize sum7 s (len7 s 5) = n
  intro HB' HU' hR hR2
  have HB := Lib.hid HB'
  have HU := Lib.hid HU'
  have hb := Below.refl w.heap.size w
  clear HB' HU'
  go_enter Tryz.func163, Tryz.ntmps163
  go_wp2_with (go_at_call 168; refine (TakeU_any s hs _).mono ?_; rintro e w1 ⟨rfl, k1⟩; replace hb := hb.trans (k1.mono hb.size); clear k1; rw [HU.out])
  go_quiet (fail)
  go_wp2
  go_ret3
  rw [HB.out]
  exact ⟨rfl, below_drewN hb _⟩
theorem TakeBytes_none (s : ByteArray) (hs : s.size ≤ maxLen) (h : okU s = false) (w : World) :
    Calls Tryz.prog 163 #[.string s] w fun e w' => e = .returned (bTup s) ∧ Below w.heap.size w w' := by
  have HB := Lib.hid (bTup_bad (s := s) (decide_eq_false (by rw [h]; exact fun h => absurd h.1 (by decide))))
  have HU := Lib.hid (uTup_bad h)
  have hb := Below.refl w.heap.size w
  clear h
  go_enter Tryz.func163, Tryz.ntmps163
  go_wp2_with (go_at_call 168; refine (TakeU_any s hs _).mono ?_; rintro e w1 ⟨rfl, k1⟩; replace hb := hb.trans (k1.mono hb.size); clear k1; rw [HU.out])
  go_ret3
  rw [HB.out]
  exact ⟨rfl, hb⟩
theorem TakeBytes_few (s : ByteArray) (hs : s.size ≤ maxLen) (hu : okU s = true) (h : s.size < sum7 s (len7 s 5) + len7 s 5) (w : World) :
    Calls Tryz.prog 163 #[.string s] w fun e w' => e = .returned (bTup s) ∧ Below w.heap.size w w' := by
  have HB := Lib.hid (bTup_bad (s := s) (decide_eq_false (by omega)))
  have HU' := uTup_good hu
  have hle := Leb.len7_le s 5
  have hR : (s.extract (len7 s 5) s.size).size < sum7 s (len7 s 5) := by rw [ByteArray.size_extract]; omega
  clear h hu hle
  revert HU' hR
  generalize s.extract (len7 s 5) s.size = R
  generalize sum7 s (len7 s 5) = n
  intro HU' hR
  have HU := Lib.hid HU'
  have hb := Below.refl w.heap.size w
  clear HU'
  go_enter Tryz.func163, Tryz.ntmps163
  go_wp2_with (go_at_call 168; refine (TakeU_any s hs _).mono ?_; rintro e w1 ⟨rfl, k1⟩; replace hb := hb.trans (k1.mono hb.size); clear k1; rw [HU.out])
  go_ret3
  rw [HB.out]
  exact ⟨rfl, hb⟩
theorem TakeBytes_any (s : ByteArray) (hs : s.size ≤ maxLen) (w : World) :
    Calls Tryz.prog 163 #[.string s] w fun e w' => e = .returned (bTup s) ∧ Below w.heap.size w w' := by
  by_cases hu : okU s = true
  · by_cases hle : sum7 s (len7 s 5) + len7 s 5 ≤ s.size
    · exact TakeBytes_good s hs (decide_eq_true ⟨hu, hle⟩) w
    · exact TakeBytes_few s hs hu (by omega) w
  · exact TakeBytes_none s hs (not_true hu) w

theorem refTakeBytes_good (s : ByteArray) (hs : s.size ≤ maxLen) (h : okB s = true) (w : World) :
    Calls Tryz.prog 26 #[.string s] w fun e w' => e = .returned (bTup s) ∧ Below w.heap.size w w' := by
  obtain ⟨hu, hle⟩ : okU s = true ∧ sum7 s (len7 s 5) + len7 s 5 ≤ s.size := of_decide_eq_true h
  have HB := bTup_good h
  have HU := uTup_good hu
  have hR : sum7 s (len7 s 5) ≤ (s.extract (len7 s 5) s.size).size := by rw [ByteArray.size_extract]; omega
  have hR2 : (s.extract (len7 s 5) s.size).size ≤ 9223372036854775807 := by
    rw [ByteArray.size_extract]
    unfold maxLen at hs
    omega
  clear h hu hle
  revert HB HU hR hR2
  generalize s.extract (len7 s 5) s.size = R
  generalize sum7 s (len7 s 5) = n
  intro HB' HU' hR hR2
  have HB := Lib.hid HB'
  have HU := Lib.hid HU'
  have hb := Below.refl w.heap.size w
  clear HB' HU'
  go_enter Tryz.func26, Tryz.ntmps26
  go_wp2_with (go_at_call 72; refine (refTakeU_any s hs _).mono ?_; rintro e w1 ⟨rfl, k1⟩; replace hb := hb.trans (k1.mono hb.size); clear k1; rw [HU.out])
  go_quiet (fail)
  go_wp2
  go_ret3
  rw [HB.out]
  exact ⟨rfl, below_drewN hb _⟩
theorem refTakeBytes_none (s : ByteArray) (hs : s.size ≤ maxLen) (h : okU s = false) (w : World) :
    Calls Tryz.prog 26 #[.string s] w fun e w' => e = .returned (bTup s) ∧ Below w.heap.size w w' := by
  have HB := Lib.hid (bTup_bad (s := s) (decide_eq_false (by rw [h]; exact fun h => absurd h.1 (by decide))))
  have HU := Lib.hid (uTup_bad h)
  have hb := Below.refl w.heap.size w
  clear h
  go_enter Tryz.func26, Tryz.ntmps26
  go_wp2_with (go_at_call 72; refine (refTakeU_any s hs _).mono ?_; rintro e w1 ⟨rfl, k1⟩; replace hb := hb.trans (k1.mono hb.size); clear k1; rw [HU.out])
  go_ret3
  rw [HB.out]
  exact ⟨rfl, hb⟩
theorem refTakeBytes_few (s : ByteArray) (hs : s.size ≤ maxLen) (hu : okU s = true) (h : s.size < sum7 s (len7 s 5) + len7 s 5) (w : World) :
    Calls Tryz.prog 26 #[.string s] w fun e w' => e = .returned (bTup s) ∧ Below w.heap.size w w' := by
  have HB := Lib.hid (bTup_bad (s := s) (decide_eq_false (by omega)))
  have HU' := uTup_good hu
  have hle := Leb.len7_le s 5
  have hR : (s.extract (len7 s 5) s.size).size < sum7 s (len7 s 5) := by rw [ByteArray.size_extract]; omega
  clear h hu hle
  revert HU' hR
  generalize s.extract (len7 s 5) s.size = R
  generalize sum7 s (len7 s 5) = n
  intro HU' hR
  have HU := Lib.hid HU'
  have hb := Below.refl w.heap.size w
  clear HU'
  go_enter Tryz.func26, Tryz.ntmps26
  go_wp2_with (go_at_call 72; refine (refTakeU_any s hs _).mono ?_; rintro e w1 ⟨rfl, k1⟩; replace hb := hb.trans (k1.mono hb.size); clear k1; rw [HU.out])
  go_ret3
  rw [HB.out]
  exact ⟨rfl, hb⟩
theorem refTakeBytes_any (s : ByteArray) (hs : s.size ≤ maxLen) (w : World) :
    Calls Tryz.prog 26 #[.string s] w fun e w' => e = .returned (bTup s) ∧ Below w.heap.size w w' := by
  by_cases hu : okU s = true
  · by_cases hle : sum7 s (len7 s 5) + len7 s 5 ≤ s.size
    · exact refTakeBytes_good s hs (decide_eq_true ⟨hu, hle⟩) w
    · exact refTakeBytes_few s hs hu (by omega) w
  · exact refTakeBytes_none s hs (not_true hu) w
end Go.Proofs.YtekonefnniaheaaGreat
set_option linter.unusedVariables false
namespace Go.Proofs.YtekonefnniaheaaGreat
open Go.RowKit Go.Deep
open Leb (byt byt_lt byt_get putU putS)

/-- What is behind, or the first fault. -/
abbrev St := Except Int ByteArray
abbrev Rd (X : Type) := ByteArray → Except Int (X × ByteArray)
def stR : St → ByteArray
  | .ok r => r
  | .error _ => ⟨#[]⟩
def stF : St → Int
  | .ok _ => 0
  | .error f => f
structure StW (g : St) : Prop where
  ne : ∀ f, g = .error f → f ≠ 0
  sz : (stR g).size ≤ 65536
/-- A reader's outcome: where it goes on, and what holds of what was read. -/
def Out {X : Type} (g : St) (R : Rd X) (g' : St) (P : X → Prop) : Prop :=
  match g with
  | .error f => g' = .error f
  | .ok s => match R s with
    | .error e => g' = .error e
    | .ok q => g' = .ok q.2 ∧ P q.1
theorem out_err' {X : Type} {s : ByteArray} {R : Rd X} {g' : St} {P : X → Prop} {e : Int} (h : R s = .error e) : Out (.ok s) R g' P ↔ g' = .error e := by
  show (match R s with | .error e => g' = .error e | .ok q => g' = .ok q.2 ∧ P q.1) ↔ _
  rw [h]
theorem out_ok {X : Type} {s : ByteArray} {R : Rd X} {g' : St} {P : X → Prop} {q : X × ByteArray} (h : R s = .ok q) : Out (.ok s) R g' P ↔ g' = .ok q.2 ∧ P q.1 := by
  show (match R s with | .error e => g' = .error e | .ok q => g' = .ok q.2 ∧ P q.1) ↔ _
  rw [h]
theorem Out.dead {X : Type} {g g' : St} {R : Rd X} {P : X → Prop} (h : Out g R g' P) (f : Int) (e : g = .error f) : g' = .error f := by
  subst e
  exact h
theorem Out.mono {X : Type} {g g' : St} {R : Rd X} {P Q : X → Prop} (h : Out g R g' P) (k : ∀ x, P x → Q x) : Out g R g' Q := by
  cases g with
  | error f => exact h
  | ok s =>
    cases hR : R s with
    | error e => exact (out_err' hR).2 ((out_err' hR).1 h)
    | ok q => exact (out_ok hR).2 ⟨((out_ok hR).1 h).1, k _ ((out_ok hR).1 h).2⟩
theorem Out.live {X : Type} {g : St} {R : Rd X} {r : ByteArray} {P : X → Prop} (h : Out g R (.ok r) P) : ∃ s x, g = .ok s ∧ R s = .ok (x, r) ∧ P x := by
  cases g with
  | error f => cases h
  | ok s =>
    cases hR : R s with
    | error e => cases (out_err' hR).1 h
    | ok q =>
      obtain ⟨h1, h2⟩ := (out_ok hR).1 h
      injection h1 with h1
      subst h1
      exact ⟨s, q.1, rfl, hR, h2⟩
theorem Out.fault {X : Type} {s : ByteArray} {R : Rd X} {f : Int} {P : X → Prop} (h : Out (.ok s) R (.error f) P) : R s = .error f := by
  cases hR : R s with
  | error e =>
    have h1 := (out_err' hR).1 h
    injection h1 with h1
    rw [h1]
  | ok q => cases ((out_ok hR).1 h).1
def bindR {X Y : Type} (R : Rd X) (R2 : X → Rd Y) : Rd Y := fun s => (R s).bind fun q => R2 q.1 q.2
def pureR {X : Type} (x : X) : Rd X := fun s => .ok (x, s)
def mapR {X Y : Type} (k : X → Y) (R : Rd X) : Rd Y := bindR R fun x => pureR (k x)
def failR {X : Type} (e : Int) : Rd X := fun _ => .error e
def needR {X : Type} (R : Rd X) (p : X → Bool) (e : Int) : Rd X := bindR R fun x => if p x = true then pureR x else failR e
def repR {X : Type} (R : Rd X) : Nat → Rd (List X)
  | 0 => pureR []
  | n + 1 => bindR R fun x => mapR (fun l => x :: l) (repR R n)
theorem Out.pure {X : Type} {g : St} {x : X} {P : X → Prop} (h : P x) : Out g (pureR x) g P := by
  cases g with
  | error f => rfl
  | ok s => exact ⟨rfl, h⟩
theorem bindR_ok {X Y : Type} {R : Rd X} {R2 : X → Rd Y} {s : ByteArray} {q : X × ByteArray} (h : R s = .ok q) : bindR R R2 s = R2 q.1 q.2 := by
  show (R s).bind _ = _
  rw [h]
  rfl
theorem bindR_err {X Y : Type} {R : Rd X} {R2 : X → Rd Y} {s : ByteArray} {e : Int} (h : R s = .error e) : bindR R R2 s = .error e := by
  show (R s).bind _ = _
  rw [h]
  rfl
theorem Out.bind {X Y : Type} {g g1 g2 : St} {R : Rd X} {R2 : X → Rd Y} {P : X → Prop} {Q : Y → Prop} (h1 : Out g R g1 P) (h2 : ∀ x, P x → Out g1 (R2 x) g2 Q) (hd : ∀ f, g1 = .error f → g2 = .error f) : Out g (bindR R R2) g2 Q := by
  cases g with
  | error f => exact hd f h1
  | ok s =>
    cases hR : R s with
    | error e => exact (out_err' (bindR_err hR)).2 (hd e ((out_err' hR).1 h1))
    | ok q =>
      obtain ⟨a, b⟩ := (out_ok hR).1 h1
      have h3 := h2 _ b
      subst a
      cases hR2 : R2 q.1 q.2 with
      | error e => exact (out_err' ((bindR_ok hR).trans hR2)).2 ((out_err' hR2).1 h3)
      | ok p => exact (out_ok ((bindR_ok hR).trans hR2)).2 ((out_ok hR2).1 h3)
/-- A step that goes on with the value that was read. -/
theorem Out.then {X Y : Type} {g g1 g2 : St} {R : Rd X} {R2 : X → Rd Y} {z : X} {Q : Y → Prop} (h1 : Out g R g1 (fun x => z = x)) (h2 : Out g1 (R2 z) g2 Q) : Out g (bindR R R2) g2 Q :=
  h1.bind (fun x e => e ▸ h2) h2.dead
/-- A step whose value is kept for later. -/
theorem Out.keep {X Y : Type} {g g1 g2 : St} {R : Rd X} {R2 : Rd Y} {Z : Type} {k : X → Y → Z} {P : X → Prop} {Q : Y → Prop} {C : Z → Prop} (h1 : Out g R g1 P) (h2 : Out g1 R2 g2 Q) (hc : ∀ x y, P x → Q y → C (k x y)) : Out g (bindR R fun x => mapR (k x) R2) g2 C :=
  h1.bind (fun x hx => h2.bind (fun y hy => Out.pure (hc x y hx hy)) (fun f e => e)) h2.dead
theorem Out.map {X Y : Type} {g g1 : St} {R : Rd X} {k : X → Y} {P : X → Prop} {Q : Y → Prop} (h : Out g R g1 P) (hq : ∀ x, P x → Q (k x)) : Out g (mapR k R) g1 Q :=
  h.bind (fun x hx => Out.pure (hq x hx)) (fun f e => e)
def tookS (g : St) (b : ByteArray) (e : Int) : St :=
  match g with
  | .error f => .error f
  | .ok _ => if e = 0 then .ok b else .error e
def needS (g : St) (p : Bool) (e : Int) : St := if p = true then g else tookS g ⟨#[]⟩ e
theorem Out.took {X : Type} {g : St} {R : Rd X} {x : X} {b : ByteArray} {e : Int} (h : ∀ s, g = .ok s → Fits (R s) x b e) : Out g R (tookS g b e) (fun y => x = y) := by
  cases g with
  | error f => rfl
  | ok s =>
    rcases (h s rfl).cases with ⟨h1, h2⟩ | ⟨h1, h2, h3⟩
    · exact (out_ok h2).2 ⟨if_pos h1, rfl⟩
    · exact (out_err' h3).2 (if_neg h1)
theorem Out.need {X : Type} {g g1 : St} {R : Rd X} {p : X → Bool} {b : Bool} {e : Int} {P : X → Prop} (he : e ≠ 0) (h : Out g R g1 P) (hp : ∀ x, P x → p x = b) : Out g (needR R p e) (needS g1 b e) P := by
  unfold needR
  refine h.bind (fun x hx => ?_) (fun f ef => ?_)
  · rw [hp x hx]
    unfold needS
    cases b with
    | true => exact Out.pure hx
    | false =>
      rw [if_neg (by decide), if_neg (by decide)]
      cases g1 with
      | error f => rfl
      | ok s => exact if_neg he
  · subst ef
    unfold needS
    cases b <;> rfl
theorem needS_dead {g : St} {p : Bool} {e f : Int} (h : g = .error f) : needS g p e = .error f := by
  subst h
  unfold needS
  cases p <;> rfl
theorem StW.took {g : St} (h : StW g) {b : ByteArray} {e : Int} (hb : b.size ≤ 65536) : StW (tookS g b e) := by
  unfold tookS
  cases g with
  | error f => exact h
  | ok s =>
    by_cases he : e = 0
    · simp only [if_pos he]
      exact ⟨fun f q => (by cases q), hb⟩
    · simp only [if_neg he]
      exact ⟨fun f q => by injection q with q; rw [← q]; exact he, by show (0 : Nat) ≤ 65536; omega⟩
theorem StW.need {g : St} (h : StW g) {p : Bool} {e : Int} : StW (needS g p e) := by
  unfold needS
  cases p with
  | true => exact h
  | false => exact h.took (by show (0 : Nat) ≤ 65536; omega)
theorem StW.cases {g : St} (h : StW g) : (∃ s, g = .ok s ∧ s.size ≤ 65536) ∨ ∃ f, g = .error f ∧ f ≠ 0 := by
  cases g with
  | ok s => exact .inl ⟨s, rfl, h.sz⟩
  | error f => exact .inr ⟨f, rfl, h.ne f rfl⟩
/- The readers. -/
def byteR : Rd Int := fun s => if s.size = 0 then .error 2 else .ok ((byt s 0 : Int), s.extract 1 s.size)
def upR (most : Int) : Rd Int := needR byteR (fun c => decide (c ≤ most)) 2
def onlyR (c : Int) : Rd Int := needR byteR (fun x => x == c) 2
def bytesR : Rd ByteArray := fun s => if bE s = 0 then .ok (bA s, bB s) else .error (bE s)
def nameR : Rd ByteArray := needR (needR bytesR validB 2) (fun s => decide (s.size ≤ 100)) 14
def yesR : Rd Bool := mapR (fun c => c == 1) (upR 1)
def limR : Rd Lim := bindR (upR 1) fun c => bindR uT fun mn => if (c == 1) = true then mapR (fun mx => Lim.mk mn mx) uT else pureR (Lim.mk mn (-1))
def tabR : Rd Lim := bindR (onlyR 112) fun _ => limR
def listR {X : Type} (most : Int) (R : Rd X) : Rd (List X) := bindR (needR uT (fun n => decide (n ≤ most)) 14) fun n => repR R n.toNat
def ftR : Rd FT := bindR (onlyR 96) fun _ => bindR (listR 32 yT) fun p => mapR (fun r => FT.mk p r) (listR 32 yT)
def impK2 (md nm : ByteArray) (k : Int) : Rd Imp :=
  if k = 0 then mapR (fun t => Imp.mk md nm k t false 0 0) uT
  else if k = 1 then mapR (fun l => Imp.mk md nm k 0 false l.mn l.mx) tabR
  else if k = 2 then mapR (fun l => Imp.mk md nm k 0 false l.mn l.mx) limR
  else if k = 3 then bindR yT fun t => mapR (fun b => Imp.mk md nm k t b 0 0) yesR
  else pureR (Imp.mk md nm k 0 false 0 0)
def impR : Rd Imp := bindR nameR fun md => bindR nameR fun nm => bindR (upR 3) fun k => impK2 md nm k
def constR : Rd Ins := bindR takeT fun ls => if ls.length = 1 then pureR (ls.getD 0 default) else failR 9
def gloR : Rd Glo := bindR yT fun t => bindR yesR fun m => mapR (fun c => Glo.mk t m c) constR
def expR : Rd Exp := bindR nameR fun nm => bindR (upR 3) fun k => mapR (fun i => Exp.mk nm k i) uT
def whereR : Rd (Int × Bool) := bindR uT fun n => if n = 0 then pureR (0, false) else if n = 2 then mapR (fun t => (t, true)) uT else failR 2
def formR (b : Bool) : Rd Unit := if b = true then mapR (fun _ => ()) (needR uT (fun n => n == 0) 2) else pureR ()
def eleR : Rd Ele := bindR whereR fun q => bindR constR fun c => bindR (formR q.2) fun _ => mapR (fun f => Ele.mk q.1 c f) (listR 1000 uT)
def datR : Rd Dat := bindR whereR fun q => bindR constR fun c => mapR (fun b => Dat.mk q.1 c b) bytesR
def inR {X : Type} (R : Rd X) : Rd X := fun s => (bytesR s).bind fun q => (R q.1).bind fun p => if p.2.size = 0 then .ok (p.1, q.2) else .error 2
def rowsR : Nat → List Int → Rd (List Int)
  | 0, l => pureR l
  | n + 1, l => bindR uT fun many => bindR yT fun t => if many ≤ 256 - (l.length : Int) then rowsR n (l ++ List.replicate many.toNat t) else failR 14
def locR : Rd (List Int) := bindR uT fun n => rowsR n.toNat []
def codR : Rd Cod := inR (bindR locR fun ls => mapR (fun l => Cod.mk ls l) takeT)
def contR (n : Int) (m : Mdl) (d : Int) : Rd (Mdl × Int) :=
  if n = 0 then bindR nameR fun _ => fun _ => .ok ((m, d), ⟨#[]⟩)
  else if n = 1 then mapR (fun l => ({ m with types := l }, d)) (listR 1000 ftR)
  else if n = 2 then mapR (fun l => ({ m with imports := l }, d)) (listR 1000 impR)
  else if n = 3 then mapR (fun l => ({ m with funcs := l }, d)) (listR 1000 uT)
  else if n = 4 then mapR (fun l => ({ m with tables := l }, d)) (listR 1000 tabR)
  else if n = 5 then mapR (fun l => ({ m with mems := l }, d)) (listR 1000 limR)
  else if n = 6 then mapR (fun l => ({ m with globals := l }, d)) (listR 1000 gloR)
  else if n = 7 then mapR (fun l => ({ m with exports := l }, d)) (listR 1000 expR)
  else if n = 8 then mapR (fun z => ({ m with start := z + 1 }, d)) uT
  else if n = 9 then mapR (fun l => ({ m with elems := l }, d)) (listR 1000 eleR)
  else if n = 10 then mapR (fun l => ({ m with codes := l }, d)) (listR 1000 codR)
  else if n = 11 then mapR (fun l => ({ m with datas := l }, d)) (listR 1000 datR)
  else if n = 12 then mapR (fun z => (m, z)) uT
  else failR 2
def placeN (n : Int) : Int := if n = 12 then 19 else 2 * n
/-- A module so far: its place among the sections, how many datas are told. -/
structure Sofar where
  m : Mdl
  last : Int
  d : Int
def sectR (x : Sofar) : Rd Sofar := bindR byteR fun n => bindR (inR (contR n x.m x.d)) fun q => if n = 0 then pureR ⟨q.1, x.last, q.2⟩ else if x.last < placeN n then pureR ⟨q.1, placeN n, q.2⟩ else failR 2
def secsR : Nat → Sofar → Rd Sofar
  | 0, _ => failR 2
  | k + 1, x => fun s => if s.size = 0 then .ok (x, s) else (sectR x s).bind fun q => secsR k q.1 q.2
def noM : Mdl := ⟨[], [], [], [], [], [], [], 0, [], [], []⟩
def hdR : Rd Unit := fun s => if s.extract 0 8 = strOfNums headB then .ok ((), s.extract 8 s.size) else .error 2
end Go.Proofs.YtekonefnniaheaaGreat
set_option linter.unusedVariables false
namespace Go.Proofs.YtekonefnniaheaaGreat
open Go.RowKit Go.Deep
open Leb (byt byt_lt byt_get putU putS)

/-- A taker's cells: what is behind, the first fault, and all else. -/
def tkC (g : St) (x : List Value) : Array Value := (Value.string (stR g) :: Value.int .i64 (stF g) :: x).toArray
structure TmAt (w : World) (t : Nat) (g : St) (x : List Value) : Prop where
  blk : BlkAt w t (tkC g x) 65
  wf : StW g
theorem TmAt.rest {w : World} {t : Nat} {g : St} {x : List Value} (h : TmAt w t g x) : w.cell? ⟨t, 0, none⟩ = some (.string (stR g)) := h.blk.cell 0
theorem TmAt.flt {w : World} {t : Nat} {g : St} {x : List Value} (h : TmAt w t g x) : w.cell? ⟨t, 1, none⟩ = some (.int .i64 (stF g)) := h.blk.cell 1
theorem TmAt.lt {w : World} {t : Nat} {g : St} {x : List Value} (h : TmAt w t g x) : t < w.heap.size := h.blk.lt
theorem TmAt.below {w w' : World} {t : Nat} {g : St} {x : List Value} (h : TmAt w t g x) (hb : Below w.heap.size w w') : TmAt w' t g x := ⟨h.blk.below hb, h.wf⟩
theorem TmAt.two {w : World} {t : Nat} {s : ByteArray} {x : List Value} {b : ByteArray} {e : Int} (h : TmAt w t (.ok s) x) (hb : e ≠ 0 → b = ⟨#[]⟩) (hs : b.size ≤ 65536) :
    TmAt ((w.setCell ⟨t, 0, none⟩ (.string b)).setCell ⟨t, 1, none⟩ (.int .i64 e)) t (tookS (.ok s) b e) x := by
  refine ⟨?_, h.wf.took hs⟩
  have h1 := (h.blk.put 0 (.string b)).put 1 (.int .i64 e)
  have e1 : ((tkC (.ok s) x).setIfInBounds 0 (.string b)).setIfInBounds 1 (.int .i64 e) = tkC (tookS (.ok s) b e) x := by
    unfold tkC tookS
    rw [List.setIfInBounds_toArray, List.setIfInBounds_toArray]
    by_cases he : e = 0
    · subst he
      rfl
    · rw [hb he]
      simp only [if_neg he]
      rfl
  rw [e1] at h1
  exact h1
set_option maxRecDepth 100000 in
theorem tmTook_any (t : Nat) (g : St) (x : List Value) (b : ByteArray) (e : Int) (w : World) (h : TmAt w t g x) (hb : e ≠ 0 → b = ⟨#[]⟩) (hs : b.size ≤ 65536) :
    Calls Tryz.prog 68 #[.pointer (some ⟨t, 0, none⟩), .string b, .int .i64 e] w fun y w' => y = .returned (.tuple #[]) ∧ TmAt w' t (tookS g b e) x ∧ Kept (· = t) w w' := by
  have d0 := h.rest
  have d1 := h.flt
  have z0 := h.blk.frozen 0
  have z1 := h.blk.frozen 1
  rcases h.wf.cases with ⟨s, rfl, _⟩ | ⟨f, rfl, hf⟩
  · have HN := Lib.hid (h.two hb hs)
    have HK : Hid (Kept (· = t) w ((w.setCell ⟨t, 0, none⟩ (.string b)).setCell ⟨t, 1, none⟩ (.int .i64 e))) := Lib.hid (((Kept.refl (· = t) w).set (p := ⟨t, 0, none⟩) rfl _).set (p := ⟨t, 1, none⟩) rfl _)
    replace d1 : w.cell? ⟨t, 1, none⟩ = some (.int .i64 0) := d1
    replace d0 : w.cell? ⟨t, 0, none⟩ = some (.string s) := d0
    clear h hb hs
    go_enter Tryz.func68, Tryz.ntmps68
    go_wp2_with fail
    exact bodyPost_void rfl rfl ⟨rfl, HN.out, HK.out⟩
  · have H := Lib.hid h
    replace d1 : w.cell? ⟨t, 1, none⟩ = some (.int .i64 f) := d1
    have hf2 := eq_no hf
    clear h hb hs hf
    go_enter Tryz.func68, Tryz.ntmps68
    go_wp2_with fail
    exact bodyPost_void rfl rfl ⟨rfl, H.out, Kept.refl _ _⟩
set_option maxRecDepth 100000 in
theorem tmNeed_any (t : Nat) (g : St) (x : List Value) (p : Bool) (e : Int) (w : World) (h : TmAt w t g x) :
    Calls Tryz.prog 69 #[.pointer (some ⟨t, 0, none⟩), .bool p, .int .i64 e] w fun y w' => y = .returned (.tuple #[]) ∧ TmAt w' t (needS g p e) x ∧ Kept (· = t) w w' := by
  have HT := Lib.hid (tmTook_any t g x ⟨#[]⟩ e w h (fun _ => rfl) (by show (0 : Nat) ≤ 65536; omega))
  have H := Lib.hid h
  clear h
  unfold needS
  cases p
  · rw [if_neg (show ¬ false = true by decide)]
    go_enter Tryz.func69, Tryz.ntmps69
    go_wp2_with (go_at_call 68; refine HT.out.mono ?_; rintro y w1 ⟨rfl, h1, h2⟩)
    exact bodyPost_void rfl rfl ⟨rfl, h1, h2⟩
  · rw [if_pos rfl]
    go_enter Tryz.func69, Tryz.ntmps69
    go_wp2_with fail
    exact bodyPost_void rfl rfl ⟨rfl, H.out, Kept.refl _ _⟩
/-- What a step gives that reads a number. -/
def GivesZ (R : Rd Int) (hi : Int) (t : Nat) (g : St) (x : List Value) (w : World) (y : Ending) (w' : World) : Prop :=
  ∃ n g', y = .returned (.int .i64 n) ∧ (0 ≤ n ∧ n ≤ hi) ∧ TmAt w' t g' x ∧ Kept (· = t) w w' ∧ Out g R g' (fun z => n = z)
def GivesB (R : Rd Bool) (t : Nat) (g : St) (x : List Value) (w : World) (y : Ending) (w' : World) : Prop :=
  ∃ b g', y = .returned (.bool b) ∧ TmAt w' t g' x ∧ Kept (· = t) w w' ∧ Out g R g' (fun z => b = z)
def GivesS (R : Rd ByteArray) (t : Nat) (g : St) (x : List Value) (w : World) (y : Ending) (w' : World) : Prop :=
  ∃ s g', y = .returned (.string s) ∧ s.size ≤ 65536 ∧ TmAt w' t g' x ∧ Kept (· = t) w w' ∧ Out g R g' (fun z => s = z)
def GivesU {X : Type} (R : Rd X) (t : Nat) (g : St) (x : List Value) (w : World) (y : Ending) (w' : World) : Prop :=
  ∃ g', y = .returned (.tuple #[]) ∧ TmAt w' t g' x ∧ Kept (· = t) w w' ∧ Out g R g' (fun _ => True)
set_option maxRecDepth 100000 in
set_option maxHeartbeats 1000000 in
theorem tmByte_any (t : Nat) (g : St) (x : List Value) (w : World) (h : TmAt w t g x) :
    Calls Tryz.prog 117 #[.pointer (some ⟨t, 0, none⟩)] w fun y w' => GivesZ byteR 255 t g x w y w' := by
  have d0 := h.rest
  by_cases hs0 : (stR g).size = 0
  · have hse : stR g = ⟨#[]⟩ := ByteArray.size_eq_zero_iff.1 hs0
    have HO : Hid (Out g byteR (tookS g ⟨#[]⟩ 2) (fun z => 0 = z)) := Lib.hid (Out.took fun s hg => by
      subst hg
      unfold byteR
      rw [if_pos (show s.size = 0 from hs0)]
      exact ⟨rfl, by decide, rfl⟩)
    have HT := Lib.hid (tmTook_any t g x ⟨#[]⟩ 2 w h (fun _ => rfl) (by show (0 : Nat) ≤ 65536; omega))
    rw [hse] at d0
    clear h hs0 hse
    go_enter Tryz.func117, Tryz.ntmps117
    go_wp2_with (go_at_call 68; refine HT.out.mono ?_; rintro y w1 ⟨rfl, t1, k1⟩)
    go_ret
    exact ⟨0, _, rfl, ⟨by decide, by decide⟩, t1, k1, HO.out⟩
  · rcases h.wf.cases with ⟨s, rfl, hsz⟩ | ⟨f, rfl, hf⟩
    · replace d0 : w.cell? ⟨t, 0, none⟩ = some (.string s) := d0
      replace hs0 : ¬ s.size = 0 := hs0
      have hpos : 0 < s.size := by omega
      have e3 := byt_get s 0 hpos
      have e5 := byt_lt s 0
      have hnn := toList_some hpos
      have b1' : (1 : Int) ≤ s.size := by omega
      have hm : s.size ≤ 9223372036854775807 := by omega
      have HT := Lib.hid (tmTook_any t (.ok s) x (s.extract 1 s.size) 0 w h (fun q => absurd rfl q) (by rw [ByteArray.size_extract]; omega))
      have HO : Hid (Out (.ok s) byteR (tookS (.ok s) (s.extract 1 s.size) 0) (fun z => (byt s 0 : Int) = z)) := Lib.hid (Out.took fun s' hg => by
        injection hg with hg
        subst hg
        unfold byteR
        rw [if_neg hs0]
        exact ⟨rfl, rfl, rfl⟩)
      have HR : Hid (0 ≤ (byt s 0 : Int) ∧ (byt s 0 : Int) ≤ 255) := Lib.hid ⟨by omega, by omega⟩
      clear h hs0 hsz
      go_enter Tryz.func117, Tryz.ntmps117
      go_wp2_with (go_at_call 68; refine HT.out.mono ?_; rintro y w1 ⟨rfl, t1, k1⟩)
      go_ret
      exact ⟨_, _, rfl, HR.out, t1, k1, HO.out⟩
    · exact absurd rfl hs0
end Go.Proofs.YtekonefnniaheaaGreat
namespace Go.Proofs.YtekonefnniaheaaGreat
open Go.RowKit
open Leb (byt byt_lt byt_get len7 sum7 sg7 putU putS)

theorem uT_only {s r : ByteArray} {n : Int} (h : uT s = .ok (n, r)) : (0 ≤ n ∧ n ≤ 4294967295) ∧ (putU n).length + r.size ≤ s.size := by
  obtain ⟨hok, hn, hr⟩ := uT_ok h
  have h1 := short_U hok
  have h2 := (okU_parts hok).2
  have h3 := (Leb.len7_le s 5).2
  rw [hn] at h1
  rw [← hr, ByteArray.size_extract]
  omega
theorem sT_ok {s r : ByteArray} {most : Nat} {half n : Int} (h : sT s most half = .ok (n, r)) : okS s most half = true ∧ sg7 s (len7 s most) = n ∧ s.extract (len7 s most) s.size = r := by
  unfold sT at h
  split at h
  · rename_i hok
    injection h with h
    injection h with h1 h2
    unfold sN at h1
    unfold sR at h2
    rw [if_pos hok] at h1 h2
    exact ⟨hok, h1, h2⟩
  · cases h
theorem sT_only {s r : ByteArray} {most : Nat} {half n : Int} (h : sT s most half = .ok (n, r)) : (-half ≤ n ∧ n < half) ∧ (putS n).length + r.size ≤ s.size := by
  obtain ⟨hok, hn, hr⟩ := sT_ok h
  obtain ⟨h0, _, h1, h2⟩ := okS_parts hok
  have hb : byt s (len7 s most - 1) < 128 := by
    rcases Leb.len7_prop s most with q | ⟨_, _, _, q, _⟩
    · omega
    · exact q
  have hr2 := Leb.sg7_range s (len7 s most) (by omega) hb
  have h4 : (putS (sg7 s (len7 s most))).length ≤ len7 s most := Leb.putG_short 10 _ _ hr2.1 hr2.2 (by omega)
  have h3 := (Leb.len7_le s most).2
  rw [hn] at h1 h2 h4
  rw [← hr, ByteArray.size_extract]
  omega
theorem yT_only {s r : ByteArray} {t : Int} (h : yT s = .ok (t, r)) : (typeV t).2 = 0 ∧ (t = 127 ∨ t = 126 ∨ t = 112) ∧ 1 + r.size ≤ s.size ∧ ((byt s 0 : Nat) : Int) = t := by
  unfold yT at h
  split at h
  · rename_i he
    injection h with h
    injection h with h1 h2
    unfold tyN at h1
    unfold tyR at h2
    rw [if_pos he] at h1 h2
    have hs : ¬ s.size = 0 := fun q => by unfold tyE at he; rw [if_pos q] at he; cases he
    unfold tyE at he
    rw [if_neg hs] at he
    rw [← h2, ByteArray.size_extract]
    rcases typeV_cases (byt s 0 : Nat) with ⟨a, b⟩ | ⟨a, b⟩ | ⟨a, b⟩ | ⟨a, b⟩ | ⟨a, b⟩ | ⟨a, b⟩ | ⟨a, b⟩
    · rw [b] at h1
      replace h1 : (127 : Int) = t := h1
      subst h1
      exact ⟨by decide, .inl rfl, by omega, a⟩
    · rw [b] at h1
      replace h1 : (126 : Int) = t := h1
      subst h1
      exact ⟨by decide, .inr (.inl rfl), by omega, a⟩
    · rw [b] at h1
      replace h1 : (112 : Int) = t := h1
      subst h1
      exact ⟨by decide, .inr (.inr rfl), by omega, a⟩
    all_goals (rw [b] at he; cases he)
  · cases h
theorem rowsF_only : ∀ (N : Nat) (l0 : List Int) (s : ByteArray) (l : List Int) (r : ByteArray), rowsF N l0 s = some (l, r) → ∃ zs, l = l0 ++ zs ∧ zs.length = N ∧ (∀ z ∈ zs, 0 ≤ z ∧ z ≤ 4294967295) ∧ (zs.flatMap putU).length + r.size ≤ s.size := by
  intro N
  induction N with
  | zero =>
    intro l0 s l r h
    injection h with h
    injection h with h1 h2
    exact ⟨[], by rw [h1, List.append_nil], rfl, fun z hz => absurd hz (by simp), by rw [h2]; simp⟩
  | succ N ih =>
    intro l0 s l r h
    rw [rowsF] at h
    by_cases hu : okU s = true
    · rw [if_pos hu] at h
      obtain ⟨zs, h1, h2, h3, h4⟩ := ih _ _ _ _ h
      have hq : uT s = .ok ((sum7 s (len7 s 5) : Int), s.extract (len7 s 5) s.size) := by unfold uT uN uR; rw [if_pos hu, if_pos hu, if_pos hu]
      obtain ⟨k1, k2⟩ := uT_only hq
      refine ⟨(sum7 s (len7 s 5) : Int) :: zs, by rw [h1, List.append_assoc]; rfl, by rw [List.length_cons, h2], fun z hz => ?_, ?_⟩
      · rcases List.mem_cons.1 hz with rfl | hz
        · exact k1
        · exact h3 z hz
      · rw [List.flatMap_cons, List.length_append]
        omega
    · rw [if_neg hu] at h
      cases h
theorem aT_only {s r : ByteArray} {l : List Int} (h : aT s = .ok (l, r)) : l.length ≤ 1000 ∧ (∀ z ∈ l, 0 ≤ z ∧ z ≤ 4294967295) ∧ (allB l).length + r.size ≤ s.size := by
  unfold aT at h
  split at h
  · rename_i h0
    injection h with h
    by_cases hu : okU s = true
    · by_cases hm : (1000 : Int) < (sum7 s (len7 s 5) : Int)
      · rw [allRes_full hu hm] at h0
        cases h0
      · cases hr : rowsF (sum7 s (len7 s 5)) [] (s.extract (len7 s 5) s.size) with
        | none =>
          rw [allRes_none hu hm hr] at h0
          cases h0
        | some x =>
          obtain ⟨l', r'⟩ := x
          rw [allRes_some hu hm hr] at h
          injection h with h1 h2
          replace h1 : l' = l := h1
          replace h2 : r' = r := h2
          subst h1 h2
          obtain ⟨zs, q1, q2, q3, q4⟩ := rowsF_only _ _ _ _ _ hr
          rw [List.nil_append] at q1
          subst q1
          have hq : uT s = .ok ((sum7 s (len7 s 5) : Int), s.extract (len7 s 5) s.size) := by unfold uT uN uR; rw [if_pos hu, if_pos hu, if_pos hu]
          obtain ⟨k1, k2⟩ := uT_only hq
          refine ⟨by omega, q3, ?_⟩
          unfold allB
          rw [List.length_append, q2]
          omega
    · rw [allRes_bad 1000 (not_true hu)] at h0
      cases h0
  · cases h
theorem putU_pos {n : Int} (h : 0 ≤ n) : 0 < (putU n).length := by
  unfold putU
  rw [if_neg (by omega)]
  by_cases h1 : n < 128
  · rw [Leb.putF_last 9 n h1]; simp
  · rw [Leb.putF_next 9 n (by omega)]; simp
theorem putU_one {n : Int} (h : 0 ≤ n) (h1 : n < 128) : (putU n).length = 1 := by
  unfold putU
  rw [if_neg (by omega), Leb.putF_last 9 n h1]
  rfl
theorem blkT_only {s r : ByteArray} {a : Int} (h : blkT s = .ok (a, r)) : blkB a = true ∧ (-9223372036854775808 ≤ a ∧ a ≤ 9223372036854775807) ∧ (putS a).length + r.size ≤ s.size := by
  have key : ∀ a : Int, a = -64 ∨ a = -1 ∨ a = -2 ∨ a = -16 → blkB a = true ∧ (-9223372036854775808 ≤ a ∧ a ≤ 9223372036854775807) ∧ (putS a).length = 1 := by
    intro a ha
    rcases ha with rfl | rfl | rfl | rfl <;> exact ⟨by decide, by decide, rfl⟩
  unfold blkT at h
  split at h
  · rename_i hin
    split at h
    · injection h with h
      injection h with h1 h2
      subst h1 h2
      obtain ⟨k1, k2, k3⟩ := key (-64) (.inl rfl)
      refine ⟨k1, k2, ?_⟩
      rw [k3, ByteArray.size_extract]
      omega
    · obtain ⟨q, hq, h⟩ := bind_ok h
      obtain ⟨t, r'⟩ := q
      obtain ⟨_, y2, y3, y4⟩ := yT_only hq
      injection h with h
      injection h with h1 h2
      replace h2 : r' = r := h2
      subst h2
      obtain ⟨k1, k2, k3⟩ := key a (by omega)
      exact ⟨k1, k2, by rw [k3]; omega⟩
  · obtain ⟨q, hq, h⟩ := bind_ok h
    obtain ⟨n, r'⟩ := q
    split at h
    · cases h
    · rename_i hneg
      injection h with h
      injection h with h1 h2
      subst h1 h2
      obtain ⟨y1, y2⟩ := sT_only hq
      replace hneg : ¬ n < 0 := hneg
      refine ⟨?_, by omega, y2⟩
      unfold blkB idxB
      rw [decide_eq_true (show 0 ≤ n ∧ n ≤ 4294967295 by omega), Bool.true_or]
theorem opT_only {s r : ByteArray} {op : Int} (h : opT s = .ok (op, r)) : (opB op).length + r.size ≤ s.size := by
  unfold opT at h
  split at h
  · cases h
  rename_i h0
  split at h
  · obtain ⟨q, hq, h⟩ := bind_ok h
    obtain ⟨k, r'⟩ := q
    obtain ⟨y1, y2⟩ := uT_only hq
    injection h with h
    injection h with h1 h2
    replace h1 : 64512 + k = op := h1
    replace h2 : r' = r := h2
    subst h1 h2
    unfold opB
    rw [if_neg (by omega), List.length_cons, show 64512 + k - 64512 = k by omega]
    rw [ByteArray.size_extract] at y2
    omega
  · injection h with h
    injection h with h1 h2
    subst h1 h2
    have := byt_lt s 0
    unfold opB
    rw [if_pos (by omega), ByteArray.size_extract, List.length_singleton]
    omega
theorem placeT_only {s r : ByteArray} {a b m : Int} (h : placeT s = .ok ((a, b, m), r)) : (0 ≤ a ∧ a ≤ 4294967295) ∧ (0 ≤ b ∧ b ≤ 63) ∧ (0 ≤ m ∧ m ≤ 4294967295) ∧ (placeB b m ++ putU a).length + r.size ≤ s.size := by
  unfold placeT at h
  obtain ⟨⟨k, r1⟩, hk, h⟩ := bind_ok h
  have hk := uT_only hk
  have hp := putU_pos hk.1.1
  split at h
  · cases h
  rename_i g1
  replace g1 : ¬ 128 ≤ k := g1
  split at h
  · rename_i g2
    replace g2 : 64 ≤ k := g2
    obtain ⟨⟨x, r2⟩, hx, h⟩ := bind_ok h
    have hx := uT_only (s := r1) hx
    obtain ⟨⟨y, r'⟩, hy, h⟩ := bind_ok h
    have hy := uT_only (s := r2) hy
    simp only [Except.ok.injEq, Prod.mk.injEq] at h
    obtain ⟨⟨rfl, rfl, rfl⟩, rfl⟩ := h
    refine ⟨hy.1, by omega, hx.1, ?_⟩
    have hq := putU_pos hx.1.1
    rw [List.length_append]
    unfold placeB
    split
    · rw [putU_one (n := k - 64) (by omega) (by omega)]
      omega
    · rw [List.length_append, show k - 64 + 64 = k by omega]
      omega
  · rename_i g2
    replace g2 : ¬ 64 ≤ k := g2
    obtain ⟨⟨y, r'⟩, hy, h⟩ := bind_ok h
    have hy := uT_only (s := r1) hy
    simp only [Except.ok.injEq, Prod.mk.injEq] at h
    obtain ⟨⟨rfl, rfl, rfl⟩, rfl⟩ := h
    refine ⟨hy.1, by omega, by decide, ?_⟩
    unfold placeB
    rw [if_pos rfl, List.length_append]
    omega
/-- An instruction's numbers, read, may be. -/
structure NumsGood (op a b m : Int) (n : List Int) (used : Nat) : Prop where
  A : mayAV (shapeV op).1 op a = true
  B : mayBV (shapeV op).1 b = true
  M : mayMV (shapeV op).1 m = true
  N : mayNV (shapeV op).1 n = true
  W : -9223372036854775808 ≤ a ∧ a ≤ 9223372036854775807
  len : (fldB (shapeV op).1 a b m n).length ≤ used
theorem idxB_of {n : Int} (h : 0 ≤ n ∧ n ≤ 4294967295) : idxB n = true := decide_eq_true h
theorem numsT_only {op a b m : Int} {n : List Int} {s r : ByteArray} (her : (shapeV op).2 = 0) (h : numsT op (shapeV op).1 s = .ok ((a, b, m, n), r)) : r.size ≤ s.size ∧ NumsGood op a b m n (s.size - r.size) := by
  have hs : r.size ≤ s.size := numsT_size h
  refine ⟨hs, ?_⟩
  have e10 : (shapeV op).1 = 10 → op = 65 ∨ op = 66 := fun q => shape10 (Prod.ext q her)
  rcases shapeV_in op her with q | q | q | q | q | q | q | q | q | q | q
  all_goals
    rw [q] at h e10
  · rw [show numsT op 1 s = .ok ((0, 0, 0, []), s) from rfl] at h
    simp only [Except.ok.injEq, Prod.mk.injEq] at h
    obtain ⟨⟨rfl, rfl, rfl, rfl⟩, rfl⟩ := h
    exact ⟨by rw [q]; exact rfl, by rw [q]; exact rfl, by rw [q]; exact rfl, by rw [q]; exact rfl, by omega, by rw [q]; show (([] : List Int)).length ≤ _; exact Nat.zero_le _⟩
  · rw [show numsT op 2 s = (blkT s).bind fun q => .ok ((q.1, 0, 0, []), q.2) from rfl] at h
    obtain ⟨⟨x, r'⟩, hx, h⟩ := bind_ok h
    have hx := blkT_only hx
    simp only [Except.ok.injEq, Prod.mk.injEq] at h
    obtain ⟨⟨rfl, rfl, rfl, rfl⟩, rfl⟩ := h
    exact ⟨by rw [q]; exact hx.1, by rw [q]; exact rfl, by rw [q]; exact rfl, by rw [q]; exact rfl, by omega, by rw [q]; show (putS x).length ≤ _; omega⟩
  · rw [show numsT op 3 s = (uT s).bind fun q => .ok ((q.1, 0, 0, []), q.2) from rfl] at h
    obtain ⟨⟨x, r'⟩, hx, h⟩ := bind_ok h
    have hx := uT_only hx
    simp only [Except.ok.injEq, Prod.mk.injEq] at h
    obtain ⟨⟨rfl, rfl, rfl, rfl⟩, rfl⟩ := h
    exact ⟨by rw [q]; exact idxB_of hx.1, by rw [q]; exact rfl, by rw [q]; exact rfl, by rw [q]; exact rfl, by omega, by rw [q]; show (putU x).length ≤ _; omega⟩
  · rw [show numsT op 4 s = (aT s).bind fun q => (uT q.2).bind fun p => .ok ((p.1, 0, 0, q.1), p.2) from rfl] at h
    obtain ⟨⟨ns, r1⟩, hn, h⟩ := bind_ok h
    have hn := aT_only hn
    obtain ⟨⟨x, r'⟩, hx, h⟩ := bind_ok h
    have hx := uT_only (s := r1) hx
    simp only [Except.ok.injEq, Prod.mk.injEq] at h
    obtain ⟨⟨rfl, rfl, rfl, rfl⟩, rfl⟩ := h
    have hall : ns.all idxB = true := List.all_eq_true.2 fun z hz => idxB_of (hn.2.1 z hz)
    exact ⟨by rw [q]; exact idxB_of hx.1, by rw [q]; exact rfl, by rw [q]; exact rfl, by rw [q]; exact (show (decide (ns.length ≤ 1000) && ns.all idxB) = true by rw [decide_eq_true hn.1, hall]; rfl), by omega, by rw [q]; show (allB ns ++ putU x).length ≤ _; rw [List.length_append]; omega⟩
  · rw [show numsT op 5 s = (uT s).bind fun q => (uT q.2).bind fun p => .ok ((q.1, 0, p.1, []), p.2) from rfl] at h
    obtain ⟨⟨x, r1⟩, hx, h⟩ := bind_ok h
    have hx := uT_only hx
    obtain ⟨⟨y, r'⟩, hy, h⟩ := bind_ok h
    have hy := uT_only (s := r1) hy
    simp only [Except.ok.injEq, Prod.mk.injEq] at h
    obtain ⟨⟨rfl, rfl, rfl, rfl⟩, rfl⟩ := h
    exact ⟨by rw [q]; exact idxB_of hx.1, by rw [q]; exact rfl, by rw [q]; exact idxB_of hy.1, by rw [q]; exact rfl, by omega, by rw [q]; show (putU x ++ putU y).length ≤ _; rw [List.length_append]; omega⟩
  · rw [show numsT op 6 s = (typesT s).bind fun q => .ok ((q.1, 0, 0, []), q.2) from rfl] at h
    obtain ⟨⟨x, r'⟩, hx, h⟩ := bind_ok h
    unfold typesT at hx
    obtain ⟨⟨k, r1⟩, hk, hx⟩ := bind_ok hx
    have hk := uT_only hk
    split at hx
    case isFalse => cases hx
    have hx := yT_only (s := r1) hx
    have hp := putU_pos hk.1.1
    simp only [Except.ok.injEq, Prod.mk.injEq] at h
    obtain ⟨⟨rfl, rfl, rfl, rfl⟩, rfl⟩ := h
    exact ⟨by rw [q]; exact (show decide ((typeV x).2 = 0) = true from decide_eq_true hx.1), by rw [q]; exact rfl, by rw [q]; exact rfl, by rw [q]; exact rfl, by omega, by rw [q]; show ([1, x % 256]).length ≤ _; show 2 ≤ _; omega⟩
  · rw [show numsT op 7 s = (placeT s).bind fun q => .ok ((q.1.1, q.1.2.1, q.1.2.2, []), q.2) from rfl] at h
    obtain ⟨⟨⟨x, y, z⟩, r'⟩, hx, h⟩ := bind_ok h
    have hx := placeT_only hx
    simp only [Except.ok.injEq, Prod.mk.injEq] at h
    obtain ⟨⟨rfl, rfl, rfl, rfl⟩, rfl⟩ := h
    exact ⟨by rw [q]; exact idxB_of hx.1, by rw [q]; exact (show (decide (0 ≤ y) && decide (y ≤ 63)) = true by rw [decide_eq_true hx.2.1.1, decide_eq_true hx.2.1.2]; rfl), by rw [q]; exact idxB_of hx.2.2.1, by rw [q]; exact rfl, by omega, by rw [q]; show (placeB y z ++ putU x).length ≤ _; omega⟩
  · rw [show numsT op 8 s = (uT s).bind fun q => .ok ((0, 0, q.1, []), q.2) from rfl] at h
    obtain ⟨⟨x, r'⟩, hx, h⟩ := bind_ok h
    have hx := uT_only hx
    simp only [Except.ok.injEq, Prod.mk.injEq] at h
    obtain ⟨⟨rfl, rfl, rfl, rfl⟩, rfl⟩ := h
    exact ⟨by rw [q]; exact rfl, by rw [q]; exact rfl, by rw [q]; exact idxB_of hx.1, by rw [q]; exact rfl, by omega, by rw [q]; show (putU x).length ≤ _; omega⟩
  · rw [show numsT op 9 s = (uT s).bind fun q => (uT q.2).bind fun p => .ok ((p.1, 0, q.1, []), p.2) from rfl] at h
    obtain ⟨⟨x, r1⟩, hx, h⟩ := bind_ok h
    have hx := uT_only hx
    obtain ⟨⟨y, r'⟩, hy, h⟩ := bind_ok h
    have hy := uT_only (s := r1) hy
    simp only [Except.ok.injEq, Prod.mk.injEq] at h
    obtain ⟨⟨rfl, rfl, rfl, rfl⟩, rfl⟩ := h
    exact ⟨by rw [q]; exact idxB_of hy.1, by rw [q]; exact rfl, by rw [q]; exact idxB_of hx.1, by rw [q]; exact rfl, by omega, by rw [q]; show (putU x ++ putU y).length ≤ _; rw [List.length_append]; omega⟩
  · rw [show numsT op 10 s = (constT op s).bind fun q => .ok ((q.1, 0, 0, []), q.2) from rfl] at h
    obtain ⟨⟨x, r'⟩, hx, h⟩ := bind_ok h
    simp only [Except.ok.injEq, Prod.mk.injEq] at h
    obtain ⟨⟨rfl, rfl, rfl, rfl⟩, rfl⟩ := h
    rcases e10 rfl with rfl | rfl
    · have hx := sT_only (show sT s 5 2147483648 = .ok (x, r') from hx)
      exact ⟨by rw [q]; exact (show (decide ((65 : Int) = 66) || (decide (-2147483648 ≤ x) && decide (x ≤ 2147483647))) = true by rw [decide_eq_true (show -2147483648 ≤ x by omega), decide_eq_true (show x ≤ 2147483647 by omega)]; rfl), by rw [q]; exact rfl, by rw [q]; exact rfl, by rw [q]; exact rfl, by omega, by rw [q]; show (putS x).length ≤ _; omega⟩
    · have hx := sT_only (show sT s 10 9223372036854775808 = .ok (x, r') from hx)
      exact ⟨by rw [q]; exact rfl, by rw [q]; exact rfl, by rw [q]; exact rfl, by rw [q]; exact rfl, by omega, by rw [q]; show (putS x).length ≤ _; omega⟩
  · rw [show numsT op 11 s = (nullT s).bind fun q => .ok ((0, 0, 0, []), q.2) from rfl] at h
    obtain ⟨⟨x, r'⟩, hx, h⟩ := bind_ok h
    unfold nullT at hx
    obtain ⟨⟨k, r1⟩, hk, hx⟩ := bind_ok hx
    have hk := yT_only hk
    split at hx
    case isFalse => cases hx
    injection hx with hx
    injection hx with hx1 hx2
    subst hx1 hx2
    simp only [Except.ok.injEq, Prod.mk.injEq] at h
    obtain ⟨⟨rfl, rfl, rfl, rfl⟩, rfl⟩ := h
    exact ⟨by rw [q]; exact rfl, by rw [q]; exact rfl, by rw [q]; exact rfl, by rw [q]; exact rfl, by omega, by rw [q]; show (([112] : List Int)).length ≤ _; show 1 ≤ _; omega⟩
/-- What a list's reading tells of what it reads. -/
def OnlyL (L : ByteArray → Nat → Nat → LRes) (d : Nat) : Prop := ∀ s n ls la n' r, L s d n = .ok ((ls, la, n'), r) → n ≤ 8192 → okL d ls = true ∧ wfL ls ∧ n' = n + sizL ls ∧ n' ≤ 8192 ∧ (putL ls).length + 1 + r.size ≤ s.size
theorem blockT_only {L : ByteArray → Nat → Nat → LRes} {d : Nat} (hL : OnlyL L (d + 1)) {op a b m : Int} {ns : List Int} {s r : ByteArray} {n n' : Nat} {c : Ins} (h : blockT L op a b m ns s d n = .ok ((c, n'), r)) (hn : n ≤ 8192) :
    ∃ l e, c = .mk op a b m ns l e ∧ okL (d + 1) l = true ∧ okL (d + 1) e = true ∧ wfL l ∧ wfL e ∧ n' = n + sizL l + sizL e ∧ n' ≤ 8192 ∧ (op = 4 ∨ e = []) ∧ (putL l ++ ((if e.length = 0 then [] else 5 :: putL e) ++ [11])).length + r.size ≤ s.size := by
  unfold blockT at h
  obtain ⟨⟨⟨l, la, n1⟩, r1⟩, hl, h⟩ := bind_ok h
  obtain ⟨k1, k2, k3, k4, k5⟩ := hL _ _ _ _ _ _ hl hn
  split at h
  · simp only [Except.ok.injEq, Prod.mk.injEq] at h
    obtain ⟨⟨rfl, rfl⟩, rfl⟩ := h
    refine ⟨l, [], rfl, k1, rfl, k2, by rw [wfL]; trivial, by rw [sizL]; exact k3, k4, .inr rfl, ?_⟩
    rw [if_pos (show ([] : List Ins).length = 0 from rfl), List.nil_append, List.length_append, List.length_singleton]
    omega
  split at h
  · rename_i h4
    obtain ⟨⟨⟨e, la2, n2⟩, r2⟩, he, h⟩ := bind_ok h
    obtain ⟨j1, j2, j3, j4, j5⟩ := hL _ _ _ _ _ _ he k4
    split at h
    · simp only [Except.ok.injEq, Prod.mk.injEq] at h
      obtain ⟨⟨rfl, rfl⟩, rfl⟩ := h
      replace j3 : n2 = n1 + sizL e := j3
      replace j5 : (putL e).length + 1 + r2.size ≤ r1.size := j5
      refine ⟨l, e, rfl, k1, j1, k2, j2, by omega, j4, .inl h4, ?_⟩
      split
      · rw [List.nil_append, List.length_append, List.length_singleton]
        omega
      · rw [List.length_append, List.length_append, List.length_cons, List.length_singleton]
        omega
    · cases h
  · cases h
theorem mayI_of {c : Ins} (her : (shapeV c.op).2 = 0) {u : Nat} (h : NumsGood c.op c.a c.b c.m c.n u) (hl : (shapeV c.op).1 = 2 ∨ c.l = []) (he : c.op = 4 ∨ c.e = []) : mayI c = true := by
  rw [← may_same c her]
  unfold mayPV
  rw [h.A, h.B, h.M, h.N]
  have e1 : (decide ((shapeV c.op).1 = 2) || decide (c.l.length = 0)) = true := by
    rcases hl with q | q
    · rw [decide_eq_true q, Bool.true_or]
    · rw [q, Bool.or_comm]; rfl
  have e2 : (decide (c.op = 4) || decide (c.e.length = 0)) = true := by
    rcases he with q | q
    · rw [decide_eq_true q, Bool.true_or]
    · rw [q, Bool.or_comm]; rfl
  rw [e1, e2]
  rfl
theorem instrT_only {L : ByteArray → Nat → Nat → LRes} {d : Nat} (hL : d < 32 → OnlyL L (d + 1)) {op : Int} {s r : ByteArray} {n n' : Nat} {c : Ins} (h : instrT L op s d n = .ok ((c, n'), r)) :
    okI d c = true ∧ wfI c ∧ n' = n + sizI c ∧ n' ≤ 8192 ∧ c.op = op ∧ (restI c).length + r.size ≤ s.size := by
  unfold instrT at h
  split at h
  · rename_i her
    obtain ⟨⟨⟨a, b, m, ns⟩, r1⟩, hp, h⟩ := bind_ok h
    obtain ⟨hs, hg⟩ := numsT_only her hp
    have hlen := hg.len
    split at h
    · rename_i h8
      split at h
      · rename_i h2
        split at h
        · rename_i h32
          obtain ⟨l, e, rfl, k1, k2, k3, k4, k5, k6, k7, k8⟩ := blockT_only (hL h32) h h8
          have hm : mayI (.mk op a b m ns l e) = true := mayI_of her hg (.inl h2) k7
          refine ⟨?_, ?_, ?_, k6, rfl, ?_⟩
          · rw [okI, hm, if_pos (shapeV_two h2), k1, k2, decide_eq_true (show d ≠ 32 by omega)]
            rfl
          · rw [wfI]
            exact ⟨hg.W, k3, k4⟩
          · rw [sizI]
            omega
          · unfold restI
            show (fldB (shapeV op).1 a b m ns ++ (if (shapeV op).1 = 2 then putL l ++ ((if e.length = 0 then [] else 5 :: putL e) ++ [11]) else [])).length + _ ≤ _
            rw [if_pos h2, List.length_append]
            replace k8 : (putL l ++ ((if e.length = 0 then [] else 5 :: putL e) ++ [11])).length + r.size ≤ r1.size := k8
            omega
        · cases h
      · rename_i h2
        simp only [Except.ok.injEq, Prod.mk.injEq] at h
        obtain ⟨⟨rfl, rfl⟩, rfl⟩ := h
        have hop4 : ¬ (2 ≤ op ∧ op ≤ 4) := fun q => h2 (by rw [shapeV_block q])
        have hm : mayI (.mk op a b m ns [] []) = true := mayI_of her hg (.inr rfl) (.inr rfl)
        refine ⟨?_, ?_, ?_, h8, rfl, ?_⟩
        · rw [okI, hm, if_neg hop4]
          rfl
        · rw [wfI, wfL]
          exact ⟨hg.W, trivial, trivial⟩
        · rw [sizI, sizL]
        · unfold restI
          show (fldB (shapeV op).1 a b m ns ++ (if (shapeV op).1 = 2 then _ else [])).length + _ ≤ _
          rw [if_neg h2, List.append_nil]
          omega
    · cases h
  · cases h
theorem takeL_only (f : Nat) : ∀ d, d ≤ 32 → OnlyL (takeL f) d := by
  induction f with
  | zero => intro d _ s n ls la n' r h; cases h
  | succ f ih =>
    intro d hd s n ls la n' r h hn
    rw [takeL] at h
    obtain ⟨⟨op, r1⟩, ho, h⟩ := bind_ok h
    have ho1 := opT_only ho
    have ho2 := opT_size ho
    split at h
    · simp only [Except.ok.injEq, Prod.mk.injEq] at h
      obtain ⟨⟨rfl, rfl, rfl⟩, rfl⟩ := h
      refine ⟨rfl, by rw [wfL]; trivial, by rw [sizL]; rfl, hn, ?_⟩
      rw [putL, List.length_nil]
      replace ho2 : r1.size < s.size := ho2
      omega
    · obtain ⟨⟨⟨c, n1⟩, r2⟩, hi, h⟩ := bind_ok h
      obtain ⟨k1, k2, k3, k4, k5, k6⟩ := instrT_only (fun h32 => ih (d + 1) (by omega)) hi
      obtain ⟨⟨⟨l2, la2, n2⟩, r3⟩, hr, h⟩ := bind_ok h
      obtain ⟨j1, j2, j3, j4, j5⟩ := ih d hd _ _ _ _ _ _ hr k4
      simp only [Except.ok.injEq, Prod.mk.injEq] at h
      obtain ⟨⟨rfl, rfl, rfl⟩, rfl⟩ := h
      replace j3 : n2 = n1 + sizL l2 := j3
      replace j5 : (putL l2).length + 1 + r3.size ≤ r2.size := j5
      replace k5 : c.op = op := k5
      replace k6 : (restI c).length + r2.size ≤ r1.size := k6
      refine ⟨by rw [okL, k1, j1]; rfl, by rw [wfL]; exact ⟨k2, j2⟩, by rw [sizL]; omega, j4, ?_⟩
      rw [putL, putI_rest, k5, List.length_append, List.length_append]
      omega
/-- What is read may be laid. -/
theorem takeT_only {s r : ByteArray} {ls : List Ins} (h : takeT s = .ok (ls, r)) : okL 0 ls = true ∧ wfL ls ∧ sizL ls ≤ 8192 ∧ (putL ls ++ [11]).length + r.size ≤ s.size := by
  unfold takeT at h
  obtain ⟨⟨⟨l, la, n⟩, r1⟩, hl, h⟩ := bind_ok h
  obtain ⟨k1, k2, k3, k4, k5⟩ := takeL_only _ 0 (by decide) _ _ _ _ _ _ hl (by decide)
  split at h
  · simp only [Except.ok.injEq, Prod.mk.injEq] at h
    obtain ⟨rfl, rfl⟩ := h
    exact ⟨k1, k2, by omega, by rw [List.length_append, List.length_singleton]; omega⟩
  · cases h
end Go.Proofs.YtekonefnniaheaaGreat
