/- Texts of the proof of ModulePutsUptoProof, part 16. -/
import Derived.Test.YtekonefnniaheaaGreatModulePutsUptoProofQ11
import Derived.Test.YtekonefnniaheaaGreatModulePutsUptoProofQ15
set_option linter.unusedVariables false
set_option linter.unusedVariables false
namespace Go.Proofs.YtekonefnniaheaaGreat
open Go.RowKit Go.Deep
open Leb (byt byt_lt byt_get putU putS)

/-- What is behind, or the first fault. -/
abbrev St := Except Int ByteArray
abbrev Rd (X : Type) := ByteArray → Except Int (X × ByteArray)
def stR : St → ByteArray
  | .ok r => r
  | .error _ => ⟨#[]⟩
def stF : St → Int
  | .ok _ => 0
  | .error f => f
structure StW (g : St) : Prop where
  ne : ∀ f, g = .error f → f ≠ 0
  sz : (stR g).size ≤ 65536
/-- A reader's outcome: where it goes on, and what holds of what was read. -/
def Out {X : Type} (g : St) (R : Rd X) (g' : St) (P : X → Prop) : Prop :=
  match g with
  | .error f => g' = .error f
  | .ok s => match R s with
    | .error e => g' = .error e
    | .ok q => g' = .ok q.2 ∧ P q.1
theorem out_err' {X : Type} {s : ByteArray} {R : Rd X} {g' : St} {P : X → Prop} {e : Int} (h : R s = .error e) : Out (.ok s) R g' P ↔ g' = .error e := by
  show (match R s with | .error e => g' = .error e | .ok q => g' = .ok q.2 ∧ P q.1) ↔ _
  rw [h]
theorem out_ok {X : Type} {s : ByteArray} {R : Rd X} {g' : St} {P : X → Prop} {q : X × ByteArray} (h : R s = .ok q) : Out (.ok s) R g' P ↔ g' = .ok q.2 ∧ P q.1 := by
  show (match R s with | .error e => g' = .error e | .ok q => g' = .ok q.2 ∧ P q.1) ↔ _
  rw [h]
theorem Out.dead {X : Type} {g g' : St} {R : Rd X} {P : X → Prop} (h : Out g R g' P) (f : Int) (e : g = .error f) : g' = .error f := by
  subst e
  exact h
theorem Out.mono {X : Type} {g g' : St} {R : Rd X} {P Q : X → Prop} (h : Out g R g' P) (k : ∀ x, P x → Q x) : Out g R g' Q := by
  cases g with
  | error f => exact h
  | ok s =>
    cases hR : R s with
    | error e => exact (out_err' hR).2 ((out_err' hR).1 h)
    | ok q => exact (out_ok hR).2 ⟨((out_ok hR).1 h).1, k _ ((out_ok hR).1 h).2⟩
theorem Out.live {X : Type} {g : St} {R : Rd X} {r : ByteArray} {P : X → Prop} (h : Out g R (.ok r) P) : ∃ s x, g = .ok s ∧ R s = .ok (x, r) ∧ P x := by
  cases g with
  | error f => cases h
  | ok s =>
    cases hR : R s with
    | error e => cases (out_err' hR).1 h
    | ok q =>
      obtain ⟨h1, h2⟩ := (out_ok hR).1 h
      injection h1 with h1
      subst h1
      exact ⟨s, q.1, rfl, hR, h2⟩
theorem Out.fault {X : Type} {s : ByteArray} {R : Rd X} {f : Int} {P : X → Prop} (h : Out (.ok s) R (.error f) P) : R s = .error f := by
  cases hR : R s with
  | error e =>
    have h1 := (out_err' hR).1 h
    injection h1 with h1
    rw [h1]
  | ok q => cases ((out_ok hR).1 h).1
def bindR {X Y : Type} (R : Rd X) (R2 : X → Rd Y) : Rd Y := fun s => (R s).bind fun q => R2 q.1 q.2
def pureR {X : Type} (x : X) : Rd X := fun s => .ok (x, s)
def mapR {X Y : Type} (k : X → Y) (R : Rd X) : Rd Y := bindR R fun x => pureR (k x)
def failR {X : Type} (e : Int) : Rd X := fun _ => .error e
def needR {X : Type} (R : Rd X) (p : X → Bool) (e : Int) : Rd X := bindR R fun x => if p x = true then pureR x else failR e
def repR {X : Type} (R : Rd X) : Nat → Rd (List X)
  | 0 => pureR []
  | n + 1 => bindR R fun x => mapR (fun l => x :: l) (repR R n)
theorem Out.pure {X : Type} {g : St} {x : X} {P : X → Prop} (h : P x) : Out g (pureR x) g P := by
  cases g with
  | error f => rfl
  | ok s => exact ⟨rfl, h⟩
theorem bindR_ok {X Y : Type} {R : Rd X} {R2 : X → Rd Y} {s : ByteArray} {q : X × ByteArray} (h : R s = .ok q) : bindR R R2 s = R2 q.1 q.2 := by
  show (R s).bind _ = _
  rw [h]
  rfl
theorem bindR_err {X Y : Type} {R : Rd X} {R2 : X → Rd Y} {s : ByteArray} {e : Int} (h : R s = .error e) : bindR R R2 s = .error e := by
  show (R s).bind _ = _
  rw [h]
  rfl
theorem Out.bind {X Y : Type} {g g1 g2 : St} {R : Rd X} {R2 : X → Rd Y} {P : X → Prop} {Q : Y → Prop} (h1 : Out g R g1 P) (h2 : ∀ x, P x → Out g1 (R2 x) g2 Q) (hd : ∀ f, g1 = .error f → g2 = .error f) : Out g (bindR R R2) g2 Q := by
  cases g with
  | error f => exact hd f h1
  | ok s =>
    cases hR : R s with
    | error e => exact (out_err' (bindR_err hR)).2 (hd e ((out_err' hR).1 h1))
    | ok q =>
      obtain ⟨a, b⟩ := (out_ok hR).1 h1
      have h3 := h2 _ b
      subst a
      cases hR2 : R2 q.1 q.2 with
      | error e => exact (out_err' ((bindR_ok hR).trans hR2)).2 ((out_err' hR2).1 h3)
      | ok p => exact (out_ok ((bindR_ok hR).trans hR2)).2 ((out_ok hR2).1 h3)
/-- A step that goes on with the value that was read. -/
theorem Out.then {X Y : Type} {g g1 g2 : St} {R : Rd X} {R2 : X → Rd Y} {z : X} {Q : Y → Prop} (h1 : Out g R g1 (fun x => z = x)) (h2 : Out g1 (R2 z) g2 Q) : Out g (bindR R R2) g2 Q :=
  h1.bind (fun x e => e ▸ h2) h2.dead
/-- A step whose value is kept for later. -/
theorem Out.keep {X Y : Type} {g g1 g2 : St} {R : Rd X} {R2 : Rd Y} {Z : Type} {k : X → Y → Z} {P : X → Prop} {Q : Y → Prop} {C : Z → Prop} (h1 : Out g R g1 P) (h2 : Out g1 R2 g2 Q) (hc : ∀ x y, P x → Q y → C (k x y)) : Out g (bindR R fun x => mapR (k x) R2) g2 C :=
  h1.bind (fun x hx => h2.bind (fun y hy => Out.pure (hc x y hx hy)) (fun f e => e)) h2.dead
theorem Out.map {X Y : Type} {g g1 : St} {R : Rd X} {k : X → Y} {P : X → Prop} {Q : Y → Prop} (h : Out g R g1 P) (hq : ∀ x, P x → Q (k x)) : Out g (mapR k R) g1 Q :=
  h.bind (fun x hx => Out.pure (hq x hx)) (fun f e => e)
def tookS (g : St) (b : ByteArray) (e : Int) : St :=
  match g with
  | .error f => .error f
  | .ok _ => if e = 0 then .ok b else .error e
def needS (g : St) (p : Bool) (e : Int) : St := if p = true then g else tookS g ⟨#[]⟩ e
theorem Out.took {X : Type} {g : St} {R : Rd X} {x : X} {b : ByteArray} {e : Int} (h : ∀ s, g = .ok s → Fits (R s) x b e) : Out g R (tookS g b e) (fun y => x = y) := by
  cases g with
  | error f => rfl
  | ok s =>
    rcases (h s rfl).cases with ⟨h1, h2⟩ | ⟨h1, h2, h3⟩
    · exact (out_ok h2).2 ⟨if_pos h1, rfl⟩
    · exact (out_err' h3).2 (if_neg h1)
theorem Out.need {X : Type} {g g1 : St} {R : Rd X} {p : X → Bool} {b : Bool} {e : Int} {P : X → Prop} (he : e ≠ 0) (h : Out g R g1 P) (hp : ∀ x, P x → p x = b) : Out g (needR R p e) (needS g1 b e) P := by
  unfold needR
  refine h.bind (fun x hx => ?_) (fun f ef => ?_)
  · rw [hp x hx]
    unfold needS
    cases b with
    | true => exact Out.pure hx
    | false =>
      rw [if_neg (by decide), if_neg (by decide)]
      cases g1 with
      | error f => rfl
      | ok s => exact if_neg he
  · subst ef
    unfold needS
    cases b <;> rfl
theorem needS_dead {g : St} {p : Bool} {e f : Int} (h : g = .error f) : needS g p e = .error f := by
  subst h
  unfold needS
  cases p <;> rfl
theorem StW.took {g : St} (h : StW g) {b : ByteArray} {e : Int} (hb : b.size ≤ 65536) : StW (tookS g b e) := by
  unfold tookS
  cases g with
  | error f => exact h
  | ok s =>
    by_cases he : e = 0
    · simp only [if_pos he]
      exact ⟨fun f q => (by cases q), hb⟩
    · simp only [if_neg he]
      exact ⟨fun f q => by injection q with q; rw [← q]; exact he, by show (0 : Nat) ≤ 65536; omega⟩
theorem StW.need {g : St} (h : StW g) {p : Bool} {e : Int} : StW (needS g p e) := by
  unfold needS
  cases p with
  | true => exact h
  | false => exact h.took (by show (0 : Nat) ≤ 65536; omega)
theorem StW.cases {g : St} (h : StW g) : (∃ s, g = .ok s ∧ s.size ≤ 65536) ∨ ∃ f, g = .error f ∧ f ≠ 0 := by
  cases g with
  | ok s => exact .inl ⟨s, rfl, h.sz⟩
  | error f => exact .inr ⟨f, rfl, h.ne f rfl⟩
/- The readers. -/
def byteR : Rd Int := fun s => if s.size = 0 then .error 2 else .ok ((byt s 0 : Int), s.extract 1 s.size)
def upR (most : Int) : Rd Int := needR byteR (fun c => decide (c ≤ most)) 2
def onlyR (c : Int) : Rd Int := needR byteR (fun x => x == c) 2
def bytesR : Rd ByteArray := fun s => if bE s = 0 then .ok (bA s, bB s) else .error (bE s)
def nameR : Rd ByteArray := needR (needR bytesR validB 2) (fun s => decide (s.size ≤ 100)) 14
def yesR : Rd Bool := mapR (fun c => c == 1) (upR 1)
def limR : Rd Lim := bindR (upR 1) fun c => bindR uT fun mn => if (c == 1) = true then mapR (fun mx => Lim.mk mn mx) uT else pureR (Lim.mk mn (-1))
def tabR : Rd Lim := bindR (onlyR 112) fun _ => limR
def listR {X : Type} (most : Int) (R : Rd X) : Rd (List X) := bindR (needR uT (fun n => decide (n ≤ most)) 14) fun n => repR R n.toNat
def ftR : Rd FT := bindR (onlyR 96) fun _ => bindR (listR 32 yT) fun p => mapR (fun r => FT.mk p r) (listR 32 yT)
def impK2 (md nm : ByteArray) (k : Int) : Rd Imp :=
  if k = 0 then mapR (fun t => Imp.mk md nm k t false 0 0) uT
  else if k = 1 then mapR (fun l => Imp.mk md nm k 0 false l.mn l.mx) tabR
  else if k = 2 then mapR (fun l => Imp.mk md nm k 0 false l.mn l.mx) limR
  else if k = 3 then bindR yT fun t => mapR (fun b => Imp.mk md nm k t b 0 0) yesR
  else pureR (Imp.mk md nm k 0 false 0 0)
def impR : Rd Imp := bindR nameR fun md => bindR nameR fun nm => bindR (upR 3) fun k => impK2 md nm k
def constR : Rd Ins := bindR takeT fun ls => if ls.length = 1 then pureR (ls.getD 0 default) else failR 9
def gloR : Rd Glo := bindR yT fun t => bindR yesR fun m => mapR (fun c => Glo.mk t m c) constR
def expR : Rd Exp := bindR nameR fun nm => bindR (upR 3) fun k => mapR (fun i => Exp.mk nm k i) uT
def whereR : Rd (Int × Bool) := bindR uT fun n => if n = 0 then pureR (0, false) else if n = 2 then mapR (fun t => (t, true)) uT else failR 2
def formR (b : Bool) : Rd Unit := if b = true then mapR (fun _ => ()) (needR uT (fun n => n == 0) 2) else pureR ()
def eleR : Rd Ele := bindR whereR fun q => bindR constR fun c => bindR (formR q.2) fun _ => mapR (fun f => Ele.mk q.1 c f) (listR 1000 uT)
def datR : Rd Dat := bindR whereR fun q => bindR constR fun c => mapR (fun b => Dat.mk q.1 c b) bytesR
def inR {X : Type} (R : Rd X) : Rd X := fun s => (bytesR s).bind fun q => (R q.1).bind fun p => if p.2.size = 0 then .ok (p.1, q.2) else .error 2
def rowsR : Nat → List Int → Rd (List Int)
  | 0, l => pureR l
  | n + 1, l => bindR uT fun many => bindR yT fun t => if many ≤ 256 - (l.length : Int) then rowsR n (l ++ List.replicate many.toNat t) else failR 14
def locR : Rd (List Int) := bindR uT fun n => rowsR n.toNat []
def codR : Rd Cod := inR (bindR locR fun ls => mapR (fun l => Cod.mk ls l) takeT)
def contR (n : Int) (m : Mdl) (d : Int) : Rd (Mdl × Int) :=
  if n = 0 then bindR nameR fun _ => fun _ => .ok ((m, d), ⟨#[]⟩)
  else if n = 1 then mapR (fun l => ({ m with types := l }, d)) (listR 1000 ftR)
  else if n = 2 then mapR (fun l => ({ m with imports := l }, d)) (listR 1000 impR)
  else if n = 3 then mapR (fun l => ({ m with funcs := l }, d)) (listR 1000 uT)
  else if n = 4 then mapR (fun l => ({ m with tables := l }, d)) (listR 1000 tabR)
  else if n = 5 then mapR (fun l => ({ m with mems := l }, d)) (listR 1000 limR)
  else if n = 6 then mapR (fun l => ({ m with globals := l }, d)) (listR 1000 gloR)
  else if n = 7 then mapR (fun l => ({ m with exports := l }, d)) (listR 1000 expR)
  else if n = 8 then mapR (fun z => ({ m with start := z + 1 }, d)) uT
  else if n = 9 then mapR (fun l => ({ m with elems := l }, d)) (listR 1000 eleR)
  else if n = 10 then mapR (fun l => ({ m with codes := l }, d)) (listR 1000 codR)
  else if n = 11 then mapR (fun l => ({ m with datas := l }, d)) (listR 1000 datR)
  else if n = 12 then mapR (fun z => (m, z)) uT
  else failR 2
def placeN (n : Int) : Int := if n = 12 then 19 else 2 * n
/-- A module so far: its place among the sections, how many datas are told. -/
structure Sofar where
  m : Mdl
  last : Int
  d : Int
def sectR (x : Sofar) : Rd Sofar := bindR byteR fun n => bindR (inR (contR n x.m x.d)) fun q => if n = 0 then pureR ⟨q.1, x.last, q.2⟩ else if x.last < placeN n then pureR ⟨q.1, placeN n, q.2⟩ else failR 2
def secsR : Nat → Sofar → Rd Sofar
  | 0, _ => failR 2
  | k + 1, x => fun s => if s.size = 0 then .ok (x, s) else (sectR x s).bind fun q => secsR k q.1 q.2
def noM : Mdl := ⟨[], [], [], [], [], [], [], 0, [], [], []⟩
def hdR : Rd Unit := fun s => if s.extract 0 8 = strOfNums headB then .ok ((), s.extract 8 s.size) else .error 2
end Go.Proofs.YtekonefnniaheaaGreat
set_option linter.unusedVariables false
namespace Go.Proofs.YtekonefnniaheaaGreat
open Go.RowKit Go.Deep
open Leb (byt byt_lt byt_get putU putS)

/-- A taker's cells: what is behind, the first fault, and all else. -/
def tkC (g : St) (x : List Value) : Array Value := (Value.string (stR g) :: Value.int .i64 (stF g) :: x).toArray
structure TmAt (w : World) (t : Nat) (g : St) (x : List Value) : Prop where
  blk : BlkAt w t (tkC g x) 65
  wf : StW g
theorem TmAt.rest {w : World} {t : Nat} {g : St} {x : List Value} (h : TmAt w t g x) : w.cell? ⟨t, 0, none⟩ = some (.string (stR g)) := h.blk.cell 0
theorem TmAt.flt {w : World} {t : Nat} {g : St} {x : List Value} (h : TmAt w t g x) : w.cell? ⟨t, 1, none⟩ = some (.int .i64 (stF g)) := h.blk.cell 1
theorem TmAt.lt {w : World} {t : Nat} {g : St} {x : List Value} (h : TmAt w t g x) : t < w.heap.size := h.blk.lt
theorem TmAt.below {w w' : World} {t : Nat} {g : St} {x : List Value} (h : TmAt w t g x) (hb : Below w.heap.size w w') : TmAt w' t g x := ⟨h.blk.below hb, h.wf⟩
theorem TmAt.two {w : World} {t : Nat} {s : ByteArray} {x : List Value} {b : ByteArray} {e : Int} (h : TmAt w t (.ok s) x) (hb : e ≠ 0 → b = ⟨#[]⟩) (hs : b.size ≤ 65536) :
    TmAt ((w.setCell ⟨t, 0, none⟩ (.string b)).setCell ⟨t, 1, none⟩ (.int .i64 e)) t (tookS (.ok s) b e) x := by
  refine ⟨?_, h.wf.took hs⟩
  have h1 := (h.blk.put 0 (.string b)).put 1 (.int .i64 e)
  have e1 : ((tkC (.ok s) x).setIfInBounds 0 (.string b)).setIfInBounds 1 (.int .i64 e) = tkC (tookS (.ok s) b e) x := by
    unfold tkC tookS
    rw [List.setIfInBounds_toArray, List.setIfInBounds_toArray]
    by_cases he : e = 0
    · subst he
      rfl
    · rw [hb he]
      simp only [if_neg he]
      rfl
  rw [e1] at h1
  exact h1
set_option maxRecDepth 100000 in
theorem tmTook_any (t : Nat) (g : St) (x : List Value) (b : ByteArray) (e : Int) (w : World) (h : TmAt w t g x) (hb : e ≠ 0 → b = ⟨#[]⟩) (hs : b.size ≤ 65536) :
    Calls Tryz.prog 68 #[.pointer (some ⟨t, 0, none⟩), .string b, .int .i64 e] w fun y w' => y = .returned (.tuple #[]) ∧ TmAt w' t (tookS g b e) x ∧ Kept (· = t) w w' := by
  have d0 := h.rest
  have d1 := h.flt
  have z0 := h.blk.frozen 0
  have z1 := h.blk.frozen 1
  rcases h.wf.cases with ⟨s, rfl, _⟩ | ⟨f, rfl, hf⟩
  · have HN := Lib.hid (h.two hb hs)
    have HK : Hid (Kept (· = t) w ((w.setCell ⟨t, 0, none⟩ (.string b)).setCell ⟨t, 1, none⟩ (.int .i64 e))) := Lib.hid (((Kept.refl (· = t) w).set (p := ⟨t, 0, none⟩) rfl _).set (p := ⟨t, 1, none⟩) rfl _)
    replace d1 : w.cell? ⟨t, 1, none⟩ = some (.int .i64 0) := d1
    replace d0 : w.cell? ⟨t, 0, none⟩ = some (.string s) := d0
    clear h hb hs
    go_enter Tryz.func68, Tryz.ntmps68
    go_wp2_with fail
    exact bodyPost_void rfl rfl ⟨rfl, HN.out, HK.out⟩
  · have H := Lib.hid h
    replace d1 : w.cell? ⟨t, 1, none⟩ = some (.int .i64 f) := d1
    have hf2 := eq_no hf
    clear h hb hs hf
    go_enter Tryz.func68, Tryz.ntmps68
    go_wp2_with fail
    exact bodyPost_void rfl rfl ⟨rfl, H.out, Kept.refl _ _⟩
set_option maxRecDepth 100000 in
theorem tmNeed_any (t : Nat) (g : St) (x : List Value) (p : Bool) (e : Int) (w : World) (h : TmAt w t g x) :
    Calls Tryz.prog 69 #[.pointer (some ⟨t, 0, none⟩), .bool p, .int .i64 e] w fun y w' => y = .returned (.tuple #[]) ∧ TmAt w' t (needS g p e) x ∧ Kept (· = t) w w' := by
  have HT := Lib.hid (tmTook_any t g x ⟨#[]⟩ e w h (fun _ => rfl) (by show (0 : Nat) ≤ 65536; omega))
  have H := Lib.hid h
  clear h
  unfold needS
  cases p
  · rw [if_neg (show ¬ false = true by decide)]
    go_enter Tryz.func69, Tryz.ntmps69
    go_wp2_with (go_at_call 68; refine HT.out.mono ?_; rintro y w1 ⟨rfl, h1, h2⟩)
    exact bodyPost_void rfl rfl ⟨rfl, h1, h2⟩
  · rw [if_pos rfl]
    go_enter Tryz.func69, Tryz.ntmps69
    go_wp2_with fail
    exact bodyPost_void rfl rfl ⟨rfl, H.out, Kept.refl _ _⟩
/-- What a step gives that reads a number. -/
def GivesZ (R : Rd Int) (hi : Int) (t : Nat) (g : St) (x : List Value) (w : World) (y : Ending) (w' : World) : Prop :=
  ∃ n g', y = .returned (.int .i64 n) ∧ (0 ≤ n ∧ n ≤ hi) ∧ TmAt w' t g' x ∧ Kept (· = t) w w' ∧ Out g R g' (fun z => n = z)
def GivesS (R : Rd ByteArray) (t : Nat) (g : St) (x : List Value) (w : World) (y : Ending) (w' : World) : Prop :=
  ∃ s g', y = .returned (.string s) ∧ s.size ≤ 65536 ∧ TmAt w' t g' x ∧ Kept (· = t) w w' ∧ Out g R g' (fun z => s = z)
def GivesU {X : Type} (R : Rd X) (t : Nat) (g : St) (x : List Value) (w : World) (y : Ending) (w' : World) : Prop :=
  ∃ g', y = .returned (.tuple #[]) ∧ TmAt w' t g' x ∧ Kept (· = t) w w' ∧ Out g R g' (fun _ => True)
set_option maxRecDepth 100000 in
set_option maxHeartbeats 1000000 in
theorem tmByte_any (t : Nat) (g : St) (x : List Value) (w : World) (h : TmAt w t g x) :
    Calls Tryz.prog 117 #[.pointer (some ⟨t, 0, none⟩)] w fun y w' => GivesZ byteR 255 t g x w y w' := by
  have d0 := h.rest
  by_cases hs0 : (stR g).size = 0
  · have hse : stR g = ⟨#[]⟩ := ByteArray.size_eq_zero_iff.1 hs0
    have HO : Hid (Out g byteR (tookS g ⟨#[]⟩ 2) (fun z => 0 = z)) := Lib.hid (Out.took fun s hg => by
      subst hg
      unfold byteR
      rw [if_pos (show s.size = 0 from hs0)]
      exact ⟨rfl, by decide, rfl⟩)
    have HT := Lib.hid (tmTook_any t g x ⟨#[]⟩ 2 w h (fun _ => rfl) (by show (0 : Nat) ≤ 65536; omega))
    rw [hse] at d0
    clear h hs0 hse
    go_enter Tryz.func117, Tryz.ntmps117
    go_wp2_with (go_at_call 68; refine HT.out.mono ?_; rintro y w1 ⟨rfl, t1, k1⟩)
    go_ret
    exact ⟨0, _, rfl, ⟨by decide, by decide⟩, t1, k1, HO.out⟩
  · rcases h.wf.cases with ⟨s, rfl, hsz⟩ | ⟨f, rfl, hf⟩
    · replace d0 : w.cell? ⟨t, 0, none⟩ = some (.string s) := d0
      replace hs0 : ¬ s.size = 0 := hs0
      have hpos : 0 < s.size := by omega
      have e3 := byt_get s 0 hpos
      have e5 := byt_lt s 0
      have hnn := toList_some hpos
      have b1' : (1 : Int) ≤ s.size := by omega
      have hm : s.size ≤ 9223372036854775807 := by omega
      have HT := Lib.hid (tmTook_any t (.ok s) x (s.extract 1 s.size) 0 w h (fun q => absurd rfl q) (by rw [ByteArray.size_extract]; omega))
      have HO : Hid (Out (.ok s) byteR (tookS (.ok s) (s.extract 1 s.size) 0) (fun z => (byt s 0 : Int) = z)) := Lib.hid (Out.took fun s' hg => by
        injection hg with hg
        subst hg
        unfold byteR
        rw [if_neg hs0]
        exact ⟨rfl, rfl, rfl⟩)
      have HR : Hid (0 ≤ (byt s 0 : Int) ∧ (byt s 0 : Int) ≤ 255) := Lib.hid ⟨by omega, by omega⟩
      clear h hs0 hsz
      go_enter Tryz.func117, Tryz.ntmps117
      go_wp2_with (go_at_call 68; refine HT.out.mono ?_; rintro y w1 ⟨rfl, t1, k1⟩)
      go_ret
      exact ⟨_, _, rfl, HR.out, t1, k1, HO.out⟩
    · exact absurd rfl hs0
end Go.Proofs.YtekonefnniaheaaGreat
namespace Go.Proofs.YtekonefnniaheaaGreat
open Go.RowKit
open Leb (byt byt_lt byt_get len7 sum7 sg7 putU putS)

theorem yT_only {s r : ByteArray} {t : Int} (h : yT s = .ok (t, r)) : (typeV t).2 = 0 ∧ (t = 127 ∨ t = 126 ∨ t = 112) ∧ 1 + r.size ≤ s.size ∧ ((byt s 0 : Nat) : Int) = t := by
  unfold yT at h
  split at h
  · rename_i he
    injection h with h
    injection h with h1 h2
    unfold tyN at h1
    unfold tyR at h2
    rw [if_pos he] at h1 h2
    have hs : ¬ s.size = 0 := fun q => by unfold tyE at he; rw [if_pos q] at he; cases he
    unfold tyE at he
    rw [if_neg hs] at he
    rw [← h2, ByteArray.size_extract]
    rcases typeV_cases (byt s 0 : Nat) with ⟨a, b⟩ | ⟨a, b⟩ | ⟨a, b⟩ | ⟨a, b⟩ | ⟨a, b⟩ | ⟨a, b⟩ | ⟨a, b⟩
    · rw [b] at h1
      replace h1 : (127 : Int) = t := h1
      subst h1
      exact ⟨by decide, .inl rfl, by omega, a⟩
    · rw [b] at h1
      replace h1 : (126 : Int) = t := h1
      subst h1
      exact ⟨by decide, .inr (.inl rfl), by omega, a⟩
    · rw [b] at h1
      replace h1 : (112 : Int) = t := h1
      subst h1
      exact ⟨by decide, .inr (.inr rfl), by omega, a⟩
    all_goals (rw [b] at he; cases he)
  · cases h
end Go.Proofs.YtekonefnniaheaaGreat
set_option linter.unusedVariables false
namespace Go.Proofs.YtekonefnniaheaaGreat
open Go.RowKit Go.Deep
open Leb (byt byt_lt byt_get putU putS)

theorem fits_b (s : ByteArray) : Fits (bytesR s) (bA s) (bB s) (bE s) := by
  unfold bytesR Fits
  by_cases h : bE s = 0
  · rw [if_pos h]
    exact ⟨h, rfl, rfl⟩
  · rw [if_neg h]
    refine ⟨rfl, h, ?_⟩
    unfold bE at h
    unfold bB
    by_cases hk : okB s = true
    · rw [if_pos hk] at h
      exact absurd rfl h
    · rw [if_neg hk]
theorem fits_zero {X : Type} {res : Except Int (X × ByteArray)} {x : X} {r : ByteArray} {f : Int} (h : Fits res x r f) (hf : f ≠ 0) : r = ⟨#[]⟩ := by
  rcases h.cases with ⟨h0, _⟩ | ⟨_, h1, _⟩
  · exact absurd h0 hf
  · exact h1
theorem uR_le (s : ByteArray) : (uR s).size ≤ s.size := by
  unfold uR
  split
  · rw [ByteArray.size_extract]; omega
  · exact Nat.zero_le _
theorem bA_le (s : ByteArray) : (bA s).size ≤ s.size := by
  unfold bA
  split
  · rw [ByteArray.size_extract, ByteArray.size_extract]; omega
  · exact Nat.zero_le _
theorem bB_le (s : ByteArray) : (bB s).size ≤ s.size := by
  unfold bB
  split
  · rw [ByteArray.size_extract, ByteArray.size_extract]; omega
  · exact Nat.zero_le _
theorem tyR_le (s : ByteArray) : (tyR s).size ≤ s.size := by
  unfold tyR
  split
  · rw [ByteArray.size_extract]; omega
  · exact Nat.zero_le _
theorem tyN_range (s : ByteArray) : 0 ≤ tyN s ∧ tyN s ≤ 255 := by
  by_cases h : tyE s = 0
  · have h1 : yT s = .ok (tyN s, tyR s) := if_pos h
    have := (yT_only h1).2.1
    omega
  · have h1 : tyN s = 0 := if_neg h
    omega
set_option maxRecDepth 100000 in
set_option maxHeartbeats 1000000 in
theorem tmNumber_any (t : Nat) (g : St) (x : List Value) (w : World) (h : TmAt w t g x) :
    Calls Tryz.prog 141 #[.pointer (some ⟨t, 0, none⟩)] w fun y w' => GivesZ uT 4294967295 t g x w y w' := by
  have d0 := h.rest
  have hsz := h.wf.sz
  have HU := Lib.hid (fun w => TakeU_any (stR g) (by unfold maxLen; omega) w)
  unfold uTup at HU
  have HO : Hid (Out g uT (tookS g (uR (stR g)) (uE (stR g))) (fun z => uN (stR g) = z)) := Lib.hid (Out.took fun s hg => by subst hg; exact fits_u s)
  have HZ : Hid (uE (stR g) ≠ 0 → uR (stR g) = ⟨#[]⟩) := Lib.hid (fits_zero (fits_u (stR g)))
  have HL : Hid ((uR (stR g)).size ≤ 65536) := Lib.hid (Nat.le_trans (uR_le _) hsz)
  have HR := Lib.hid (uN_range (stR g))
  have H := Lib.hid h
  clear h hsz
  revert HU HO HZ HL HR
  generalize uN (stR g) = n
  generalize uR (stR g) = r2
  generalize uE (stR g) = e2
  intro HU HO HZ HL HR
  go_enter Tryz.func141, Tryz.ntmps141
  go_wp2_with (first
    | (go_at_call 168; refine (HU.out _).mono ?_; rintro y w1 ⟨rfl, hb1⟩)
    | (go_at_call 68; refine (tmTook_any t g x r2 e2 _ (H.out.below hb1) HZ.out HL.out).mono ?_; rintro y w2 ⟨rfl, t2, k2⟩))
  go_ret
  exact ⟨n, _, rfl, HR.out, t2, (Kept.of_below hb1).trans k2, HO.out⟩
set_option maxRecDepth 100000 in
set_option maxHeartbeats 1000000 in
theorem tmBytes_any (t : Nat) (g : St) (x : List Value) (w : World) (h : TmAt w t g x) :
    Calls Tryz.prog 134 #[.pointer (some ⟨t, 0, none⟩)] w fun y w' => GivesS bytesR t g x w y w' := by
  have d0 := h.rest
  have hsz := h.wf.sz
  have HU := Lib.hid (fun w => TakeBytes_any (stR g) (by unfold maxLen; omega) w)
  unfold bTup at HU
  have HO : Hid (Out g bytesR (tookS g (bB (stR g)) (bE (stR g))) (fun z => bA (stR g) = z)) := Lib.hid (Out.took fun s hg => by subst hg; exact fits_b s)
  have HZ : Hid (bE (stR g) ≠ 0 → bB (stR g) = ⟨#[]⟩) := Lib.hid (fits_zero (fits_b (stR g)))
  have HL : Hid ((bB (stR g)).size ≤ 65536) := Lib.hid (Nat.le_trans (bB_le _) hsz)
  have HR : Hid ((bA (stR g)).size ≤ 65536) := Lib.hid (Nat.le_trans (bA_le _) hsz)
  have H := Lib.hid h
  clear h hsz
  revert HU HO HZ HL HR
  generalize bA (stR g) = n
  generalize bB (stR g) = r2
  generalize bE (stR g) = e2
  intro HU HO HZ HL HR
  go_enter Tryz.func134, Tryz.ntmps134
  go_wp2_with (first
    | (go_at_call 163; refine (HU.out _).mono ?_; rintro y w1 ⟨rfl, hb1⟩)
    | (go_at_call 68; refine (tmTook_any t g x r2 e2 _ (H.out.below hb1) HZ.out HL.out).mono ?_; rintro y w2 ⟨rfl, t2, k2⟩))
  go_ret
  exact ⟨n, _, rfl, HR.out, t2, (Kept.of_below hb1).trans k2, HO.out⟩
set_option maxRecDepth 100000 in
set_option maxHeartbeats 1000000 in
theorem tmTyp_any (t : Nat) (g : St) (x : List Value) (w : World) (h : TmAt w t g x) :
    Calls Tryz.prog 165 #[.pointer (some ⟨t, 0, none⟩)] w fun y w' => GivesZ yT 255 t g x w y w' := by
  have d0 := h.rest
  have hsz := h.wf.sz
  have HU := Lib.hid (fun w => takeType_any (stR g) (by unfold maxLen; omega) w)
  rw [typeTup_eq] at HU
  have HO : Hid (Out g yT (tookS g (tyR (stR g)) (tyE (stR g))) (fun z => tyN (stR g) = z)) := Lib.hid (Out.took fun s hg => by subst hg; exact fits_y s)
  have HZ : Hid (tyE (stR g) ≠ 0 → tyR (stR g) = ⟨#[]⟩) := Lib.hid (fits_zero (fits_y (stR g)))
  have HL : Hid ((tyR (stR g)).size ≤ 65536) := Lib.hid (Nat.le_trans (tyR_le _) hsz)
  have HR := Lib.hid (tyN_range (stR g))
  have H := Lib.hid h
  clear h hsz
  revert HU HO HZ HL HR
  generalize tyN (stR g) = n
  generalize tyR (stR g) = r2
  generalize tyE (stR g) = e2
  intro HU HO HZ HL HR
  go_enter Tryz.func165, Tryz.ntmps165
  go_wp2_with (first
    | (go_at_call 185; refine (HU.out _).mono ?_; rintro y w1 ⟨rfl, hb1⟩)
    | (go_at_call 68; refine (tmTook_any t g x r2 e2 _ (H.out.below hb1) HZ.out HL.out).mono ?_; rintro y w2 ⟨rfl, t2, k2⟩))
  go_ret
  exact ⟨n, _, rfl, HR.out, t2, (Kept.of_below hb1).trans k2, HO.out⟩
set_option maxRecDepth 100000 in
theorem tmOnly_any (t : Nat) (g : St) (x : List Value) (c : Int) (w : World) (h : TmAt w t g x) :
    Calls Tryz.prog 164 #[.pointer (some ⟨t, 0, none⟩), .int .i64 c] w fun y w' => GivesU (onlyR c) t g x w y w' := by
  have HB := Lib.hid (tmByte_any t g x w h)
  clear h
  go_enter Tryz.func164, Tryz.ntmps164
  go_wp2_with (first
    | (go_at_call 117; refine HB.out.mono ?_; rintro y w1 ⟨n, g1, rfl, hn, t1, k1, o1⟩; have O1 := Lib.hid o1; clear o1)
    | (go_at_call 69; refine (tmNeed_any t g1 x (n == c) 2 _ t1).mono ?_; rintro y w2 ⟨rfl, t2, k2⟩))
  exact bodyPost_void rfl rfl ⟨_, rfl, t2, k1.trans k2, (O1.out.need (by decide) (fun z e => by subst e; rfl)).mono fun _ _ => trivial⟩
end Go.Proofs.YtekonefnniaheaaGreat
set_option linter.unusedVariables false
namespace Go.Proofs.YtekonefnniaheaaGreat
open Go.RowKit Go.Deep

section
variable {α : Type}
/-- Values that are a thing, whatever happens to other blocks than these. -/
def Val (E : World → Nat → Nat → α → Prop) (P : Nat → Prop) (w : World) (us : List Value) (a : α) : Prop := ∀ W, Agree P w W → ∀ b o, CellsAt W b o us → E W b o a
theorem Val.next {E : World → Nat → Nat → α → Prop} {P Q : Nat → Prop} {w w1 : World} {us : List Value} {a : α} (h : Val E P w us a) (h1 : Agree P w w1) (hz : w.heap.size ≤ w1.heap.size) (hq : ∀ k, P k → k < w.heap.size → Q k) : Val E Q w1 us a :=
  fun W hW => h W (hW.next h1 hz hq)
theorem Val.after {E : World → Nat → Nat → α → Prop} {B B' t : Nat} {w w1 : World} {us : List Value} {a : α} (h : Val E (B ≤ ·) w us a) (k : Kept (· = t) w w1) (ht : t < B) (hB : B' ≤ B) : Val E (B' ≤ ·) w1 us a :=
  h.next (k.agree fun i hi _ q => by omega) k.size fun i hi _ => Nat.le_trans hB hi
inductive ElsV (E : World → Nat → Nat → α → Prop) (m : Nat) (P : Nat → Prop) (w : World) : List α → List Value → Prop
  | nil : ElsV E m P w [] []
  | cons {a : α} {us : List Value} {ls : List α} {vs : List Value} : us.length = m → Val E P w us a → ElsV E m P w ls vs → ElsV E m P w (a :: ls) (us ++ vs)
theorem ElsV.next {E : World → Nat → Nat → α → Prop} {m : Nat} {P Q : Nat → Prop} {w w1 : World} {ls : List α} {vs : List Value} (h : ElsV E m P w ls vs) (h1 : Agree P w w1) (hz : w.heap.size ≤ w1.heap.size) (hq : ∀ k, P k → k < w.heap.size → Q k) : ElsV E m Q w1 ls vs := by
  induction h with
  | nil => exact .nil
  | cons e a _ ih => exact .cons e (a.next h1 hz hq) ih
theorem ElsV.snoc {E : World → Nat → Nat → α → Prop} {m : Nat} {P : Nat → Prop} {w : World} {ls : List α} {vs : List Value} {a : α} {us : List Value} (h : ElsV E m P w ls vs) (e : us.length = m) (hi : Val E P w us a) : ElsV E m P w (ls ++ [a]) (vs ++ us) := by
  induction h with
  | nil => simpa using ElsV.cons e hi .nil
  | cons e2 a2 _ ih =>
    rw [List.cons_append, List.append_assoc]
    exact .cons e2 a2 ih
theorem ElsV.length {E : World → Nat → Nat → α → Prop} {m : Nat} {P : Nat → Prop} {w : World} {ls : List α} {vs : List Value} (h : ElsV E m P w ls vs) : vs.length = ls.length * m := by
  induction h with
  | nil => simp
  | cons e a _ ih =>
    rw [List.length_append, e, ih, List.length_cons, Nat.succ_mul]
    omega
theorem ElsV.rows [Inhabited α] {E : World → Nat → Nat → α → Prop} {m : Nat} {P : Nat → Prop} {w W : World} {ls : List α} {vs : List Value} (h : ElsV E m P w ls vs) (ha : Agree P w W) (g off : Nat) (hc : ∀ j v, vs[j]? = some v → W.cell? ⟨g, off + j, none⟩ = some v) :
    ∀ i, i < ls.length → E W g (off + i * m) (ls.getD i default) := by
  induction h generalizing off with
  | nil => intro i hi; exact absurd hi (by simp)
  | @cons a us ls vs e v _ ih =>
    intro i hi
    cases i with
    | zero =>
      rw [Nat.zero_mul, Nat.add_zero]
      refine v W ha g off fun j u hj => hc j u ?_
      rw [List.getElem?_append_left (List.getElem?_eq_some_iff.1 hj).1]
      exact hj
    | succ k =>
      have := ih (off + m) (fun j u hj => by
        rw [Nat.add_assoc]
        refine hc (m + j) u ?_
        rw [List.getElem?_append_right (by omega), e, Nat.add_sub_cancel_left]
        exact hj) k (by rw [List.length_cons] at hi; omega)
      rw [show off + (k + 1) * m = off + m + k * m by rw [Nat.succ_mul]; omega]
      simpa using this
/-- A slice that a call has made so far, and what lies in it. -/
def RowV (E : World → Nat → Nat → α → Prop) (m : Nat) (T : TypeId) (B : Nat) (w : World) (v : Value) (ls : List α) : Prop := ∃ vs, w.ownsRow B T m v ls.length vs ∧ ElsV E m (fun k => B ≤ k ∧ some k ≠ v.ownBlock) w ls vs
/-- A slice of things, whatever happens to older blocks. -/
def SlV [Inhabited α] (E : World → Nat → Nat → α → Prop) (m B : Nat) (w : World) (a : Option Addr) (len cap : Nat) (ls : List α) : Prop := ∀ W, Agree (B ≤ ·) w W → RowsIn m E W a len cap ls
theorem SlV.after [Inhabited α] {E : World → Nat → Nat → α → Prop} {m B B' t : Nat} {w w1 : World} {a : Option Addr} {len cap : Nat} {ls : List α} (h : SlV E m B w a len cap ls) (k : Kept (· = t) w w1) (ht : t < B) (hB : B' ≤ B) : SlV E m B' w1 a len cap ls :=
  fun W hW => h W (hW.next (k.agree fun i hi _ q => by omega) k.size fun i hi _ => Nat.le_trans hB hi)
theorem SlV.now [Inhabited α] {E : World → Nat → Nat → α → Prop} {m B : Nat} {w : World} {a : Option Addr} {len cap : Nat} {ls : List α} (h : SlV E m B w a len cap ls) : RowsIn m E w a len cap ls := h w (Agree.refl _ _)
theorem slV_nil [Inhabited α] (E : World → Nat → Nat → α → Prop) (m B : Nat) (w : World) : SlV E m B w none 0 0 ([] : List α) := fun _ _ => ⟨rfl, Nat.le_refl _, by decide, .inl rfl⟩
theorem RowV.own [Inhabited α] {E : World → Nat → Nat → α → Prop} {m : Nat} {T : TypeId} {B : Nat} {w : World} {a : Option Addr} {len cap : Nat} {ls : List α} (h : RowV E m T B w (.slice a len cap) ls) : SlV E m B w a len cap ls := by
  obtain ⟨vs, hown, hel⟩ := h
  intro W hW
  rcases hown.2 with ⟨hn, h0⟩ | ⟨g, cap', cur, hn, hb, hg, hcap, htop, hcs, htk⟩
  · have hl : ls = [] := List.length_eq_zero_iff.1 h0
    injection hn with h1 h2 h3
    subst h1 h2 h3 hl
    exact ⟨rfl, Nat.le_refl _, by decide, .inl rfl⟩
  · injection hn with h1 h2 h3
    subst h1 h2 h3
    unfold maxLen at htop
    refine ⟨rfl, hcap, by omega, .inr ⟨g, 0, rfl, ?_⟩⟩
    have hgl : g < w.heap.size := (Array.getElem?_eq_some_iff.1 hg).1
    have hg' := (hW g hb hgl).trans hg
    refine hel.rows (fun k hk hl => hW k hk.1 hl) g 0 fun j v hj => ?_
    unfold World.cell?
    rw [hg']
    show cur[0 + j]? = some v
    rw [Nat.zero_add, ← hj, ← htk, List.getElem?_take, if_pos, Array.getElem?_toList]
    have := (List.getElem?_eq_some_iff.1 hj).1
    rw [hel.length] at this
    exact this
theorem rowK_lt {T : TypeId} {m B : Nat} {v : Value} {n : Nat} {vs : List Value} {w : World} (h : w.ownsRow B T m v n vs) : ∀ k, v.ownBlock = some k → B ≤ k ∧ k < w.heap.size := fun k hk => World.ownsRow.lt h k hk
theorem rowK_kept {T : TypeId} {m : Nat} {F : Nat → Prop} {B : Nat} {v : Value} {n : Nat} {vs : List Value} {w w' : World} (h : w.ownsRow B T m v n vs) (hk : Kept F w w') (hf : ∀ k, k < w.heap.size → F k → k < B) : w'.ownsRow B T m v n vs := by
  refine ⟨h.1, ?_⟩
  rcases h.2 with hn | ⟨g, cap, cur, rfl, hg, hgg, rest⟩
  · exact .inl hn
  · exact .inr ⟨g, cap, cur, rfl, hg, hk.cells hgg (fun q => by have := hf g (Array.getElem?_eq_some_iff.1 hgg).1 q; omega), rest⟩
/-- One thing more, behind those that there were. -/
theorem rowV_snoc {E : World → Nat → Nat → α → Prop} {m : Nat} {T : TypeId} {B : Nat} {v : Value} {ls : List α} {vs : List Value} {w w4 w5 : World} {o : Obj} {g cap : Nat} {i : α} {us : List Value}
    (hown : w.ownsRow B T m v ls.length vs) (hel : ElsV E m (fun k => B ≤ k ∧ some k ≠ v.ownBlock) w ls vs) (hag : Agree (fun k => B ≤ k ∧ some k ≠ v.ownBlock) w w4) (hz : w.heap.size ≤ w4.heap.size)
    (hum : us.length = m) (hi : Val E (w.heap.size ≤ ·) w4 us i) (hown5 : w5.ownsRow B T m (.slice (some ⟨g, 0, none⟩) (ls.length + 1) cap) (ls.length + 1) (vs ++ us)) (hg : (w4.alloc o).grownBy w5 v.ownBlock) (hat : v.ownBlock = some g ∨ g = (w4.alloc o).heap.size) (hB : B ≤ w.heap.size) :
    RowV E m T B w5 (.slice (some ⟨g, 0, none⟩) (ls.length + 1) cap) (ls ++ [i]) := by
  have hlt := rowK_lt hown
  have hza : (w4.alloc o).heap.size = w4.heap.size + 1 := by simp
  have hs5 := hg.size
  have hag5 : ∀ k, k < w4.heap.size → some k ≠ v.ownBlock → w5.heap[k]? = w4.heap[k]? := fun k hk hne => (hg.block k (by omega) hne).trans (heap_alloc_old w4 o hk)
  refine ⟨vs ++ us, by rw [List.length_append, List.length_singleton]; exact hown5, ?_⟩
  refine ElsV.snoc (hel.next (Q := fun k => B ≤ k ∧ some k ≠ (Value.slice (some ⟨g, 0, none⟩) (ls.length + 1) cap).ownBlock) (fun k hk hl => (hag5 k (by omega) hk.2).trans (hag k hk hl)) (by omega) fun k hk hl => ⟨hk.1, ?_⟩) hum (hi.next (fun k hk hl => hag5 k hl ?_) (by omega) fun k hk hl => ⟨by omega, ?_⟩)
  · show some k ≠ some g
    rcases hat with h | h
    · exact fun q => hk.2 (by rw [q, h])
    · exact fun q => by have := Option.some.inj q; omega
  · exact fun q => by have := hlt k q.symm; omega
  · show some k ≠ some g
    rcases hat with h | h
    · exact fun q => by have := Option.some.inj q; have := hlt g h; omega
    · exact fun q => by have := Option.some.inj q; omega
/-- A round's append, as the list's relation needs it. -/
theorem rowV_step {E : World → Nat → Nat → α → Prop} {m : Nat} {T : TypeId} {t : Nat} {v : Value} {ls : List α} {vs us : List Value} {w wr w4 w5 : World} {o : Obj} {gb cap : Nat} {g2 : St} {x : List Value} (ht : t < w.heap.size)
    (hown : wr.ownsRow w.heap.size T m v ls.length vs) (hel : ElsV E m (fun k => w.heap.size ≤ k ∧ some k ≠ v.ownBlock) wr ls vs) (kp : Kept (· = t) w wr) (k4 : Kept (· = t) wr w4) (t4 : TmAt w4 t g2 x)
    (hown5 : w5.ownsRow w.heap.size T m (.slice (some ⟨gb, 0, none⟩) (ls.length + 1) cap) (ls.length + 1) (vs ++ us)) (hg : (w4.alloc o).grownBy w5 v.ownBlock) (hat : v.ownBlock = some gb ∨ gb = (w4.alloc o).heap.size) (hum : us.length = m) :
    TmAt w5 t g2 x ∧ Kept (· = t) w w5 ∧ ∀ a, Val E (wr.heap.size ≤ ·) w4 us a → RowV E m T w.heap.size w5 (.slice (some ⟨gb, 0, none⟩) (ls.length + 1) cap) (ls ++ [a]) := by
  have hlt := rowK_lt hown
  have hzp := kp.size
  have hz4 := k4.size
  have hba : Below w4.heap.size w4 (w4.alloc o) := (Below.refl _ _).alloc (Nat.le_refl _) _
  have KG : Kept (fun k => some k = v.ownBlock) (w4.alloc o) w5 := ⟨hg.os, hg.tape, hg.output, hg.size, fun k hk hf => hg.block k hk hf⟩
  have hne : ¬ some t = v.ownBlock := fun q => by have := hlt t q.symm; omega
  refine ⟨⟨(t4.below hba).blk.kept KG hne, t4.wf⟩, kp.then ((k4.mono (G := fun k => k = t ∨ some k = v.ownBlock) fun _ q => .inl q).trans ((Kept.of_below hba).trans (KG.mono fun _ q => .inr q))) (by
    rintro j hj (q | q)
    · exact q
    · have := hlt j q.symm; omega), fun a ha => ?_⟩
  exact rowV_snoc hown hel (k4.agree fun k hk _ q => by omega) hz4 hum ha hown5 hg hat hzp
/-- Where a list's loop stands. -/
def LRel (E : World → Nat → Nat → α → Prop) (m : Nat) (T : TypeId) (R : Rd α) (N t : Nat) (x : List Value) (g0 : St) (w : World) (lv iv : Value) (wr : World) : Prop :=
  ∃ (i : Nat) (a : Option Addr) (len cap : Nat) (g : St), iv = .int .i64 i ∧ i ≤ N ∧ lv = .slice a len cap ∧ TmAt wr t g x ∧ Kept (· = t) w wr ∧
    ((∃ s s0 ls, g = .ok s ∧ g0 = .ok s0 ∧ N ≤ 1000 ∧ len = i ∧ ls.length = i ∧ RowV E m T w.heap.size wr lv ls ∧ repR R N s0 = (repR R (N - i) s).bind fun q => .ok (ls ++ q.1, q.2)) ∨
     (∃ f, g = .error f ∧ f ≠ 0 ∧ Out g0 (repR R N) (.error f) (fun _ => False)))
/-- What a list's reading gives. -/
def GivesLs [Inhabited α] (E : World → Nat → Nat → α → Prop) (m : Nat) (R : Rd (List α)) (t : Nat) (g : St) (x : List Value) (w : World) (y : Ending) (w' : World) : Prop :=
  ∃ a len cap g', y = .returned (.slice a len cap) ∧ TmAt w' t g' x ∧ Kept (· = t) w w' ∧ Out g R g' (fun l => SlV E m w.heap.size w' a len cap l)
theorem out_any {X : Type} {g : St} {R : Rd X} {f : Int} {P Q : X → Prop} (h : Out g R (.error f) P) : Out g R (.error f) Q := by
  cases g with
  | error f' => exact h
  | ok s => exact (out_err' h.fault).2 rfl
theorem lrel_start {E : World → Nat → Nat → α → Prop} {m : Nat} {T : TypeId} {R : Rd α} {N t : Nat} {x : List Value} {g1 : St} {w wr : World} {most : Int} (hm : most ≤ 1000) (t1 : TmAt wr t (needS g1 (decide ((N : Int) ≤ most)) 14) x) (k : Kept (· = t) w wr) :
    LRel E m T R N t x (needS g1 (decide ((N : Int) ≤ most)) 14) w (.slice none 0 0) (.int .i64 ((0 : Nat) : Int)) wr := by
  refine ⟨0, none, 0, 0, _, rfl, Nat.zero_le _, rfl, t1, k, ?_⟩
  rcases t1.wf.cases with ⟨s, hs, _⟩ | ⟨f, hf, hf0⟩
  · refine .inl ⟨s, s, [], hs, hs, ?_, rfl, rfl, ⟨[], World.ownsRow_nil _ _ _ _, .nil⟩, ?_⟩
    · by_cases h : (N : Int) ≤ most
      · omega
      · exfalso
        rw [decide_eq_false h] at hs
        unfold needS tookS at hs
        rw [if_neg (by decide)] at hs
        cases g1 with
        | error f => cases hs
        | ok s' => simp at hs
    · rw [Nat.sub_zero]
      cases hR : repR R N s with
      | error e => rfl
      | ok q => rfl
  · refine .inr ⟨f, hf, hf0, ?_⟩
    rw [hf]
    rfl
theorem lrel_next {E : World → Nat → Nat → α → Prop} {m : Nat} {T : TypeId} {R : Rd α} {N t i : Nat} {x : List Value} {g2 : St} {w w5 : World} {gb cap : Nat} {s s0 : ByteArray} {ls : List α} {P : α → Prop}
    (hi : i < N) (hN : N ≤ 1000) (hl : ls.length = i) (hR : repR R N s0 = (repR R (N - i) s).bind fun q => .ok (ls ++ q.1, q.2)) (o : Out (.ok s) R g2 P)
    (t5 : TmAt w5 t g2 x) (k5 : Kept (· = t) w w5) (hP : ∀ a, P a → RowV E m T w.heap.size w5 (.slice (some ⟨gb, 0, none⟩) (ls.length + 1) cap) (ls ++ [a])) :
    LRel E m T R N t x (.ok s0) w (.slice (some ⟨gb, 0, none⟩) (ls.length + 1) cap) (.int .i64 ((i + 1 : Nat) : Int)) w5 := by
  refine ⟨i + 1, _, _, _, g2, rfl, by omega, rfl, t5, k5, ?_⟩
  obtain ⟨j, hj⟩ : ∃ j, N - i = j + 1 := ⟨N - i - 1, by omega⟩
  rw [hj] at hR
  rcases t5.wf.cases with ⟨s2, rfl, _⟩ | ⟨f, rfl, hf0⟩
  · obtain ⟨s', a, hs', hRa, hPa⟩ := o.live
    injection hs' with hs'
    subst hs'
    refine .inl ⟨s2, s0, ls ++ [a], rfl, rfl, hN, by omega, by rw [List.length_append, List.length_singleton]; omega, hP a hPa, ?_⟩
    rw [hR, show N - (i + 1) = j by omega]
    show ((R s).bind fun q => mapR (fun l => q.1 :: l) (repR R j) q.2).bind _ = _
    rw [hRa]
    show ((repR R j s2).bind fun q => pureR (a :: q.1) q.2).bind _ = _
    cases repR R j s2 with
    | error e => rfl
    | ok q =>
      show Except.ok (ls ++ (a :: q.1), q.2) = Except.ok ((ls ++ [a]) ++ q.1, q.2)
      rw [List.append_assoc]
      rfl
  · refine .inr ⟨f, rfl, hf0, ?_⟩
    have hf := o.fault
    refine (out_err' ?_).2 rfl
    rw [hR]
    show ((R s).bind fun q => mapR (fun l => q.1 :: l) (repR R j) q.2).bind _ = _
    rw [hf]
    rfl
theorem lrel_end [Inhabited α] {E : World → Nat → Nat → α → Prop} {m : Nat} {T : TypeId} {R : Rd α} {N : Nat} {g0 g : St} {w wr : World} {a : Option Addr} {len cap : Nat}
    (h : (∃ s s0 ls, g = .ok s ∧ g0 = .ok s0 ∧ N ≤ 1000 ∧ len = N ∧ ls.length = N ∧ RowV E m T w.heap.size wr (.slice a len cap) ls ∧ repR R N s0 = (repR R (N - N) s).bind fun q => .ok (ls ++ q.1, q.2)) ∨
     (∃ f, g = .error f ∧ f ≠ 0 ∧ Out g0 (repR R N) (.error f) (fun _ => False))) :
    Out g0 (repR R N) g (fun l => SlV E m w.heap.size wr a len cap l) := by
  rcases h with ⟨s, s0, ls, rfl, rfl, _, _, _, hrow, hR⟩ | ⟨f, rfl, _, ho⟩
  · rw [Nat.sub_self] at hR
    replace hR : repR R N s0 = .ok (ls ++ [], s) := hR
    rw [List.append_nil] at hR
    exact (out_ok hR).2 ⟨rfl, hrow.own⟩
  · exact out_any ho
end
end Go.Proofs.YtekonefnniaheaaGreat
set_option linter.unusedVariables false
namespace Go.Proofs.YtekonefnniaheaaGreat
open Go.RowKit Go.Deep
theorem newsL (w : World) (T : TypeId) (cs : List Value) : ∀ j u, cs[j]? = some u → (w.alloc (.cells cs.toArray T)).cell? ((⟨w.heap.size, 0, none⟩ : Addr).add j) = some u := by
  intro j u hj
  have hadd : (⟨w.heap.size, 0, none⟩ : Addr).add j = ⟨w.heap.size, j, none⟩ := by unfold Addr.add; split <;> simp_all
  rw [hadd, (BlkAt.new w cs.toArray T).cell j, List.getElem?_toArray]
  exact hj
def intE (W : World) (b o : Nat) (z : Int) : Prop := W.cell? ⟨b, o, none⟩ = some (.int .i64 z) ∧ -9223372036854775808 ≤ z ∧ z ≤ 9223372036854775807
theorem val_int {P : Nat → Prop} {w : World} {z : Int} (h : -9223372036854775808 ≤ z ∧ z ≤ 9223372036854775807) : Val intE P w [.int .i64 z] z := fun W _ b o hc => ⟨hc 0 _ rfl, h⟩
theorem RowsIn.ints {W : World} {a : Option Addr} {len cap : Nat} {zs : List Int} (h : RowsIn 1 intE W a len cap zs) : IntsIn W a len cap zs := by
  refine ⟨h.eq, h.le, h.top, ?_, fun i hi => ?_⟩
  · rcases h.lie with h0 | ⟨b, off, ha, hc⟩
    · exact .inl h0
    · refine .inr ⟨b, off, ha, fun i hi => ?_⟩
      have := (hc i (by rw [← h.eq]; exact hi)).1
      rwa [Nat.mul_one] at this
  · rcases h.lie with h0 | ⟨b, off, ha, hc⟩
    · have := h.eq
      omega
    · exact (hc i hi).2
theorem info_yT : (Tryz.prog.info? 3).map (fun i => (i.zero, i.size, i.bytes)) = some (some (.int .i64 0), 1, 8) := by kernel_rfl
set_option maxRecDepth 100000 in
set_option maxHeartbeats 4000000 in
theorem tmList_yT (t : Nat) (g : St) (x : List Value) (most : Int) (hm : most ≤ 1000) (w : World) (h : TmAt w t g x) :
    Calls Tryz.prog 140 #[.pointer (some ⟨t, 0, none⟩), .int .i64 most, .func (.func 165) #[.pointer (some ⟨t, 0, none⟩)] #[]] w fun y w' => GivesLs intE 1 (listR most yT) t g x w y w' := by
  obtain ⟨ti, hi0, hz0, hz1, hz2⟩ := info_parts info_yT
  have HB := Lib.hid (tmNumber_any t g x w h)
  have HT := Lib.hid h.lt
  have HM := Lib.hid hm
  clear h hm
  go_enter Tryz.func140, Tryz.ntmps140
  go_wp2_with (first
    | (go_at_call 141; refine HB.out.mono ?_; rintro y w1 ⟨n, g1, rfl, hn, t1, k1, o1⟩; have O1 := Lib.hid o1; clear o1 HB; obtain ⟨N, hN⟩ := Int.eq_ofNat_of_zero_le hn.1; subst hN; have HNN := Lib.hid hn.2; clear hn)
    | (go_at_call 69; refine (tmNeed_any t g1 x (decide ((N : Int) ≤ most)) 14 _ t1).mono ?_; rintro y w2 ⟨rfl, t2, k2⟩))
  have HO : Hid (Out g (needR uT (fun n => decide (n ≤ most)) 14) (needS g1 (decide ((N : Int) ≤ most)) 14) (fun z => (N : Int) = z)) := Lib.hid (O1.out.need (by decide) (fun z e => by subst e; rfl))
  have HS := Lib.hid (lrel_start (E := intE) (m := 1) (T := 3) (R := yT) (N := N) HM.out t2 (k1.trans k2))
  revert HO HS
  generalize needS g1 (decide ((N : Int) ≤ most)) 14 = g0
  intro HO HS
  have HEND : Hid (∀ g' (P : List Int → Prop), Out g0 (repR yT N) g' P → Out g (listR most yT) g' P) := Lib.hid fun g' P h => Out.then HO.out h
  clear HO O1 t1 t2 k1 k2
  go_loopw [8, 17] (fun lv iv wr => LRel intE 1 3 yT N t x g0 w lv iv wr) (fun _ iv _ => N - (intOf iv).toNat)
  case atStart => exact HS.out
  case round =>
    clear HS
    obtain ⟨i, a, len, cap, gi, rfl, hi, rfl, t1, kp, hst⟩ := hrel
    have HST := Lib.hid hst
    have HI := Lib.hid hi
    have HNI := HNN.out
    have hflt := t1.flt
    clear hst
    by_cases hlt : i < N
    · rcases HST.out with ⟨s, s0, ls, rfl, hg0, hN, rfl, hl, ⟨vs, hown, hel⟩, hR⟩ | ⟨f, rfl, hf0, ho⟩
      · replace hflt : wr.cell? ⟨t, 1, none⟩ = some (.int .i64 0) := hflt
        have HG0 := Lib.hid hg0
        have HNK := Lib.hid hN
        have HL := Lib.hid hl
        have HR := Lib.hid hR
        have HEL := Lib.hid hel
        have HOWN := Lib.hid hown
        have HKP := Lib.hid kp
        have q3 : len + 1 ≤ maxLen := by unfold maxLen; omega
        have q4 : (len + 1) * 8 ≤ 140737488355328 := by omega
        have hzz := kp.size
        clear hg0 hN hl hR hel hown kp HST
        go_wp2_with (first
          | (go_at_call 165; refine (tmTyp_any t _ x _ t1).mono ?_; rintro y w4 ⟨z0, g2, rfl, hz, t4, k4, o4⟩; have O4 := Lib.hid o4; have HZ := Lib.hid hz; clear o4 hz; have hown4 := rowK_kept HOWN.out k4 (by intro j _ q; have := HT.out; omega); rw [HL.out] at hown4; have hz4 := k4.size)
          | (at_builtin; refine wpList_append_lies _ rfl _ _ 24 rfl w.heap.size 3 ti _ 1 8 Tryz.underlying24 hi0 hz0 hz1 hz2 rfl (by decide) _ len vs rfl (World.ownsRow.alloc hown4 _) ⟨w4.heap.size, 0, none⟩ 1 1 [.int .i64 z0] rfl rfl (newsL w4 _ [.int .i64 z0]) (by intro u hu; simp only [List.mem_cons, List.not_mem_nil, or_false] at hu; rcases hu with rfl <;> rfl) (by decide) q3 q4 (le_alloc (show w.heap.size ≤ w4.heap.size by omega)) _ rfl ?_; intro gb cap5 w5 hown5 hg5 hat5 hlt5))
        have hO : Out (.ok s) yT g2 (fun a => Val intE (wr.heap.size ≤ ·) w4 [.int .i64 z0] a) := O4.out.mono fun a e => by
          subst e
          exact val_int (by have := HZ.out; omega)
        have hown0 := HOWN.out
        have hown6 := hown5
        have hll := HL.out
        rw [← hll] at hown6
        obtain ⟨t5, k5, hP⟩ := rowV_step HT.out hown0 HEL.out HKP.out k4 t4 hown6 hg5 hat5 rfl
        have HNX := lrel_next (E := intE) (m := 1) (T := 3) hlt HNK.out hll HR.out hO t5 k5 hP
        rw [HG0.out]
        rw [hll] at HNX
        have hlw : IntKind.i64.wrap ((len : Int) + 1) = ((len + 1 : Nat) : Int) := by
          rw [IntKind.wrap_i64]; omega
        refine ⟨?_, ?_⟩
        · first | exact HNX | (rw [hlw]; exact HNX) | (rw [show ((len : Int) + 1) = ((len + 1 : Nat) : Int) by omega]; exact HNX)
        · simp [intOf]; omega
      · replace hflt : wr.cell? ⟨t, 1, none⟩ = some (.int .i64 f) := hflt
        have e1 : (f != 0) = true := by simpa using hf0
        have HOO := Lib.hid ho
        clear hf0 ho HST
        go_wp2_with fail
        go_ret
        exact ⟨_, _, _, _, rfl, t1, kp, HEND.out _ _ (out_any HOO.out)⟩
    · have hie : i = N := by omega
      subst hie
      go_wp2_with fail
      go_ret
      exact ⟨_, _, _, _, rfl, t1, kp, HEND.out _ _ (lrel_end HST.out)⟩
end Go.Proofs.YtekonefnniaheaaGreat
set_option linter.unusedVariables false
namespace Go.Proofs.YtekonefnniaheaaGreat
open Go.RowKit Go.Deep

theorem TmAt.set {w : World} {t b : Nat} {g : St} {x : List Value} (h : TmAt w t g x) (hne : t ≠ b) (i : Nat) (v : Value) : TmAt (w.setCell ⟨b, i, none⟩ v) t g x := ⟨h.blk.other hne i v, h.wf⟩
theorem Kept.clean {t : Nat} {w w' : World} (h : Kept (fun k => k = t ∨ w.heap.size ≤ k) w w') : Kept (· = t) w w' :=
  ⟨h.os, h.tape, h.output, h.size, fun k hk hf => h.block k hk (by rintro (q | q); exact hf q; omega)⟩
theorem BlkAt.cells2 {w : World} {b : Nat} {c0 c1 : Value} {T : TypeId} (h : BlkAt w b #[c0, c1] T) : w.cell? ⟨b, 0, none⟩ = some c0 ∧ w.cell? ⟨b, 1, none⟩ = some c1 := ⟨h.cell 0, h.cell 1⟩
end Go.Proofs.YtekonefnniaheaaGreat
set_option linter.unusedVariables false
namespace Go.Proofs.YtekonefnniaheaaGreat
open Go.RowKit Go.Deep
theorem SlV.later {α : Type} [Inhabited α] {E : World → Nat → Nat → α → Prop} {m B B' : Nat} {F : Nat → Prop} {w w1 : World} {a : Option Addr} {len cap : Nat} {ls : List α} (h : SlV E m B w a len cap ls) (k : Kept F w w1) (hF : ∀ i, F i → i < B) (hB : B' ≤ B) : SlV E m B' w1 a len cap ls :=
  fun W hW => h W (hW.next (k.agree fun i hi _ q => by have := hF i q; omega) k.size fun i hi _ => Nat.le_trans hB hi)
theorem Val.later {α : Type} {E : World → Nat → Nat → α → Prop} {B B' : Nat} {F : Nat → Prop} {w w1 : World} {us : List Value} {a : α} (h : Val E (B ≤ ·) w us a) (k : Kept F w w1) (hF : ∀ i, F i → i < B) (hB : B' ≤ B) : Val E (B' ≤ ·) w1 us a :=
  h.next (k.agree fun i hi _ q => by have := hF i q; omega) k.size fun i hi _ => Nat.le_trans hB hi
theorem val_ft {B : Nat} {w : World} {a0 a1 : Option Addr} {l0 c0 l1 c1 : Nat} {p r : List Int} (h0 : SlV intE 1 B w a0 l0 c0 p) (h1 : SlV intE 1 B w a1 l1 c1 r) : Val ftE (B ≤ ·) w [.slice a0 l0 c0, .slice a1 l1 c1] ⟨p, r⟩ := by
  have e0 := h0.now.eq
  have e1 := h1.now.eq
  subst e0 e1
  exact fun W hW b o hc => ⟨a0, c0, a1, c1, ⟨hc 0 _ rfl, hc 1 _ rfl⟩, (h0 W hW).ints, (h1 W hW).ints⟩
def GivesFt (t : Nat) (g : St) (x : List Value) (w : World) (y : Ending) (w' : World) : Prop :=
  ∃ z0 z1 z2 z3 z4 z5 g', y = .returned (.agg #[.slice z0 z1 z2, .slice z3 z4 z5]) ∧ TmAt w' t g' x ∧ Kept (· = t) w w' ∧ Out g ftR g' (fun a => Val ftE (w.heap.size ≤ ·) w' [.slice z0 z1 z2, .slice z3 z4 z5] a)
set_option maxRecDepth 100000 in
set_option maxHeartbeats 4000000 in
theorem tmFuncType_any (t : Nat) (g : St) (x : List Value) (w : World) (h : TmAt w t g x) :
    Calls Tryz.prog 137 #[.pointer (some ⟨t, 0, none⟩)] w fun y w' => GivesFt t g x w y w' := by
  have ht := h.lt
  have hba : Below w.heap.size w (w.alloc (.cells #[.slice none 0 0, .slice none 0 0] 54)) := (Below.refl _ _).alloc (Nat.le_refl _) _
  have hs0 : (w.alloc (.cells #[.slice none 0 0, .slice none 0 0] 54)).heap.size = w.heap.size + 1 := by simp
  have ts0 := h.below hba
  have rs0 := BlkAt.new w #[.slice none 0 0, .slice none 0 0] 54
  have K0 : Hid (Kept (fun k => k = t ∨ w.heap.size ≤ k) w (w.alloc (.cells #[.slice none 0 0, .slice none 0 0] 54))) := Lib.hid (Kept.of_below hba)
  have HB := Lib.hid (tmOnly_any t g x 96 _ ts0)
  clear h hba
  go_enter Tryz.func137, Tryz.ntmps137
  go_wp2_with (first
    | (go_at_call 164; refine HB.out.mono ?_; rintro y w1 ⟨g1, rfl, t1, k1, o1⟩; have O1 := Lib.hid o1; clear o1 HB; have hz1 := k1.size; have r1 := rs0.kept k1 (by omega)
       have hb1 : Below w1.heap.size w1 (w1.alloc (.cells #[.slice none 0 0, .slice none 0 0] 54)) := (Below.refl _ _).alloc (Nat.le_refl _) _
       have hs1 : (w1.alloc (.cells #[.slice none 0 0, .slice none 0 0] 54)).heap.size = w1.heap.size + 1 := by simp
       have t1' := t1.below hb1
       have r1' := r1.below hb1
       have v1' := BlkAt.new w1 #[.slice none 0 0, .slice none 0 0] 54)
    | (go_at_call 140; refine (tmList_yT t _ x 32 (by decide) _ t1').mono ?_; rintro y w2 ⟨z0, z1, z2, g2, rfl, t2, k2, o2⟩; have O2 := Lib.hid o2; clear o2; have hz2 := k2.size; have r2 := r1'.kept k2 (by omega); have v2 := v1'.kept k2 (by omega); obtain ⟨cv2_0, cv2_1⟩ := BlkAt.cells2 v2; have fv2_0 := v2.frozen 0
       have ts2 := t2.set (b := w1.heap.size) (by have := t1.lt; omega) 0 (.slice z0 z1 z2)
       have vs2 : BlkAt (w2.setCell ⟨w1.heap.size, 0, none⟩ (.slice z0 z1 z2)) w1.heap.size #[.slice z0 z1 z2, .slice none 0 0] 54 := v2.put 0 (.slice z0 z1 z2)
       have rs2 := r2.other (b' := w1.heap.size) (by omega) 0 (.slice z0 z1 z2)
       clear t1')
    | (go_at_call 140; refine (tmList_yT t _ x 32 (by decide) _ ts2).mono ?_; rintro y w3 ⟨z3, z4, z5, g3, rfl, t3, k3, o3⟩; have O3 := Lib.hid o3; clear o3; have hz3 := k3.size; have r3 := rs2.kept k3 (by omega); have v3 := vs2.kept k3 (by have := t1.lt; omega); obtain ⟨cv3_0, cv3_1⟩ := BlkAt.cells2 v3; have fv3_1 := v3.frozen 1; obtain ⟨cr3_0, cr3_1⟩ := BlkAt.cells2 r3; have fr3_0 := r3.frozen 0; have fr3_1 := r3.frozen 1
       clear ts2))
  have htl := t1.lt
  have TF := ((t3.set (b := w1.heap.size) (by omega) 1 (.slice z3 z4 z5)).set (b := w.heap.size) (by omega) 0 (.slice z0 z1 z2)).set (b := w.heap.size) (by omega) 1 (.slice z3 z4 z5)
  have KL : Kept (fun k => k = t ∨ k = w1.heap.size ∨ k = w.heap.size) w3 (((w3.setCell ⟨w1.heap.size, 1, none⟩ (.slice z3 z4 z5)).setCell ⟨w.heap.size, 0, none⟩ (.slice z0 z1 z2)).setCell ⟨w.heap.size, 1, none⟩ (.slice z3 z4 z5)) := (((Kept.refl _ w3).set (p := ⟨w1.heap.size, 1, none⟩) (.inr (.inl rfl)) _).set (p := ⟨w.heap.size, 0, none⟩) (.inr (.inr rfl)) _).set (p := ⟨w.heap.size, 1, none⟩) (.inr (.inr rfl)) _
  have KM : Kept (fun k => k = t ∨ k = w1.heap.size ∨ k = w.heap.size) w2 w3 := ((Kept.refl _ w2).set (p := ⟨w1.heap.size, 0, none⟩) (.inr (.inl rfl)) _).trans (k3.mono fun _ q => .inl q)
  have KA : Kept (fun k => k = t ∨ w.heap.size ≤ k) w w2 := ((K0.out.trans (k1.mono fun _ q => .inl q)).trans (Kept.of_below hb1)).trans (k2.mono fun _ q => .inl q)
  have KF := KA.trans ((KM.trans KL).mono (by rintro k (q | q | q); exact .inl q; exact .inr (by omega); exact .inr (by omega)))
  have hzs : (w2.setCell ⟨w1.heap.size, 0, none⟩ (.slice z0 z1 z2)).heap.size = w2.heap.size := by simp [World.setCell]
  refine bodyPost_ret (v := .agg #[.slice z0 z1 z2, .slice z3 z4 z5]) (by simp [results, Tryz.results137, go_sem, cr3_0, cr3_1]) rfl ⟨z0, z1, z2, z3, z4, z5, _, rfl, TF, KF.clean, ?_⟩
  have o23 := O2.out.keep (k := FT.mk) O3.out (C := fun a => Val ftE (w.heap.size ≤ ·) (((w3.setCell ⟨w1.heap.size, 1, none⟩ (.slice z3 z4 z5)).setCell ⟨w.heap.size, 0, none⟩ (.slice z0 z1 z2)).setCell ⟨w.heap.size, 1, none⟩ (.slice z3 z4 z5)) [.slice z0 z1 z2, .slice z3 z4 z5] a)
    (fun p r hp hr => val_ft (hp.later (KM.trans KL) (by rintro i (q | q | q) <;> omega) (by omega)) (hr.later KL (by rintro i (q | q | q) <;> omega) (by omega)))
  exact O1.out.bind (fun _ _ => o23) o23.dead
end Go.Proofs.YtekonefnniaheaaGreat
