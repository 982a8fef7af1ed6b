/- Texts of the proof of ModuleOrderUptoProof, part 17. -/
import Derived.Test.YtekonefnniaheaaGreatModuleOrderUptoProofQ16
set_option linter.unusedVariables false
set_option linter.unusedVariables false
namespace Go.Proofs.YtekonefnniaheaaGreat
open Go.RowKit Go.Deep
open Leb (byt byt_lt byt_get putU putS)

theorem fits_b (s : ByteArray) : Fits (bytesR s) (bA s) (bB s) (bE s) := by
  unfold bytesR Fits
  by_cases h : bE s = 0
  · rw [if_pos h]
    exact ⟨h, rfl, rfl⟩
  · rw [if_neg h]
    refine ⟨rfl, h, ?_⟩
    unfold bE at h
    unfold bB
    by_cases hk : okB s = true
    · rw [if_pos hk] at h
      exact absurd rfl h
    · rw [if_neg hk]
theorem fits_zero {X : Type} {res : Except Int (X × ByteArray)} {x : X} {r : ByteArray} {f : Int} (h : Fits res x r f) (hf : f ≠ 0) : r = ⟨#[]⟩ := by
  rcases h.cases with ⟨h0, _⟩ | ⟨_, h1, _⟩
  · exact absurd h0 hf
  · exact h1
theorem uR_le (s : ByteArray) : (uR s).size ≤ s.size := by
  unfold uR
  split
  · rw [ByteArray.size_extract]; omega
  · exact Nat.zero_le _
theorem bA_le (s : ByteArray) : (bA s).size ≤ s.size := by
  unfold bA
  split
  · rw [ByteArray.size_extract, ByteArray.size_extract]; omega
  · exact Nat.zero_le _
theorem bB_le (s : ByteArray) : (bB s).size ≤ s.size := by
  unfold bB
  split
  · rw [ByteArray.size_extract, ByteArray.size_extract]; omega
  · exact Nat.zero_le _
theorem tyR_le (s : ByteArray) : (tyR s).size ≤ s.size := by
  unfold tyR
  split
  · rw [ByteArray.size_extract]; omega
  · exact Nat.zero_le _
theorem tyN_range (s : ByteArray) : 0 ≤ tyN s ∧ tyN s ≤ 255 := by
  by_cases h : tyE s = 0
  · have h1 : yT s = .ok (tyN s, tyR s) := if_pos h
    have := (yT_only h1).2.1
    omega
  · have h1 : tyN s = 0 := if_neg h
    omega
set_option maxRecDepth 100000 in
set_option maxHeartbeats 1000000 in
theorem tmNumber_any (t : Nat) (g : St) (x : List Value) (w : World) (h : TmAt w t g x) :
    Calls Tryz.prog 141 #[.pointer (some ⟨t, 0, none⟩)] w fun y w' => GivesZ uT 4294967295 t g x w y w' := by
  have d0 := h.rest
  have hsz := h.wf.sz
  have HU := Lib.hid (fun w => TakeU_any (stR g) (by unfold maxLen; omega) w)
  unfold uTup at HU
  have HO : Hid (Out g uT (tookS g (uR (stR g)) (uE (stR g))) (fun z => uN (stR g) = z)) := Lib.hid (Out.took fun s hg => by subst hg; exact fits_u s)
  have HZ : Hid (uE (stR g) ≠ 0 → uR (stR g) = ⟨#[]⟩) := Lib.hid (fits_zero (fits_u (stR g)))
  have HL : Hid ((uR (stR g)).size ≤ 65536) := Lib.hid (Nat.le_trans (uR_le _) hsz)
  have HR := Lib.hid (uN_range (stR g))
  have H := Lib.hid h
  clear h hsz
  revert HU HO HZ HL HR
  generalize uN (stR g) = n
  generalize uR (stR g) = r2
  generalize uE (stR g) = e2
  intro HU HO HZ HL HR
  go_enter Tryz.func141, Tryz.ntmps141
  go_wp2_with (first
    | (go_at_call 168; refine (HU.out _).mono ?_; rintro y w1 ⟨rfl, hb1⟩)
    | (go_at_call 68; refine (tmTook_any t g x r2 e2 _ (H.out.below hb1) HZ.out HL.out).mono ?_; rintro y w2 ⟨rfl, t2, k2⟩))
  go_ret
  exact ⟨n, _, rfl, HR.out, t2, (Kept.of_below hb1).trans k2, HO.out⟩
set_option maxRecDepth 100000 in
set_option maxHeartbeats 1000000 in
theorem tmBytes_any (t : Nat) (g : St) (x : List Value) (w : World) (h : TmAt w t g x) :
    Calls Tryz.prog 134 #[.pointer (some ⟨t, 0, none⟩)] w fun y w' => GivesS bytesR t g x w y w' := by
  have d0 := h.rest
  have hsz := h.wf.sz
  have HU := Lib.hid (fun w => TakeBytes_any (stR g) (by unfold maxLen; omega) w)
  unfold bTup at HU
  have HO : Hid (Out g bytesR (tookS g (bB (stR g)) (bE (stR g))) (fun z => bA (stR g) = z)) := Lib.hid (Out.took fun s hg => by subst hg; exact fits_b s)
  have HZ : Hid (bE (stR g) ≠ 0 → bB (stR g) = ⟨#[]⟩) := Lib.hid (fits_zero (fits_b (stR g)))
  have HL : Hid ((bB (stR g)).size ≤ 65536) := Lib.hid (Nat.le_trans (bB_le _) hsz)
  have HR : Hid ((bA (stR g)).size ≤ 65536) := Lib.hid (Nat.le_trans (bA_le _) hsz)
  have H := Lib.hid h
  clear h hsz
  revert HU HO HZ HL HR
  generalize bA (stR g) = n
  generalize bB (stR g) = r2
  generalize bE (stR g) = e2
  intro HU HO HZ HL HR
  go_enter Tryz.func134, Tryz.ntmps134
  go_wp2_with (first
    | (go_at_call 163; refine (HU.out _).mono ?_; rintro y w1 ⟨rfl, hb1⟩)
    | (go_at_call 68; refine (tmTook_any t g x r2 e2 _ (H.out.below hb1) HZ.out HL.out).mono ?_; rintro y w2 ⟨rfl, t2, k2⟩))
  go_ret
  exact ⟨n, _, rfl, HR.out, t2, (Kept.of_below hb1).trans k2, HO.out⟩
set_option maxRecDepth 100000 in
set_option maxHeartbeats 1000000 in
theorem tmTyp_any (t : Nat) (g : St) (x : List Value) (w : World) (h : TmAt w t g x) :
    Calls Tryz.prog 165 #[.pointer (some ⟨t, 0, none⟩)] w fun y w' => GivesZ yT 255 t g x w y w' := by
  have d0 := h.rest
  have hsz := h.wf.sz
  have HU := Lib.hid (fun w => takeType_any (stR g) (by unfold maxLen; omega) w)
  rw [typeTup_eq] at HU
  have HO : Hid (Out g yT (tookS g (tyR (stR g)) (tyE (stR g))) (fun z => tyN (stR g) = z)) := Lib.hid (Out.took fun s hg => by subst hg; exact fits_y s)
  have HZ : Hid (tyE (stR g) ≠ 0 → tyR (stR g) = ⟨#[]⟩) := Lib.hid (fits_zero (fits_y (stR g)))
  have HL : Hid ((tyR (stR g)).size ≤ 65536) := Lib.hid (Nat.le_trans (tyR_le _) hsz)
  have HR := Lib.hid (tyN_range (stR g))
  have H := Lib.hid h
  clear h hsz
  revert HU HO HZ HL HR
  generalize tyN (stR g) = n
  generalize tyR (stR g) = r2
  generalize tyE (stR g) = e2
  intro HU HO HZ HL HR
  go_enter Tryz.func165, Tryz.ntmps165
  go_wp2_with (first
    | (go_at_call 185; refine (HU.out _).mono ?_; rintro y w1 ⟨rfl, hb1⟩)
    | (go_at_call 68; refine (tmTook_any t g x r2 e2 _ (H.out.below hb1) HZ.out HL.out).mono ?_; rintro y w2 ⟨rfl, t2, k2⟩))
  go_ret
  exact ⟨n, _, rfl, HR.out, t2, (Kept.of_below hb1).trans k2, HO.out⟩
set_option maxRecDepth 100000 in
theorem tmUpTo_any (t : Nat) (g : St) (x : List Value) (most : Int) (w : World) (h : TmAt w t g x) :
    Calls Tryz.prog 169 #[.pointer (some ⟨t, 0, none⟩), .int .i64 most] w fun y w' => GivesZ (upR most) 255 t g x w y w' := by
  have HB := Lib.hid (tmByte_any t g x w h)
  clear h
  go_enter Tryz.func169, Tryz.ntmps169
  go_wp2_with (first
    | (go_at_call 117; refine HB.out.mono ?_; rintro y w1 ⟨n, g1, rfl, hn, t1, k1, o1⟩; have O1 := Lib.hid o1; clear o1)
    | (go_at_call 69; refine (tmNeed_any t g1 x (decide (n ≤ most)) 2 _ t1).mono ?_; rintro y w2 ⟨rfl, t2, k2⟩))
  go_ret
  exact ⟨n, _, rfl, hn, t2, k1.trans k2, O1.out.need (by decide) (fun z e => by subst e; rfl)⟩
set_option maxRecDepth 100000 in
theorem tmOnly_any (t : Nat) (g : St) (x : List Value) (c : Int) (w : World) (h : TmAt w t g x) :
    Calls Tryz.prog 164 #[.pointer (some ⟨t, 0, none⟩), .int .i64 c] w fun y w' => GivesU (onlyR c) t g x w y w' := by
  have HB := Lib.hid (tmByte_any t g x w h)
  clear h
  go_enter Tryz.func164, Tryz.ntmps164
  go_wp2_with (first
    | (go_at_call 117; refine HB.out.mono ?_; rintro y w1 ⟨n, g1, rfl, hn, t1, k1, o1⟩; have O1 := Lib.hid o1; clear o1)
    | (go_at_call 69; refine (tmNeed_any t g1 x (n == c) 2 _ t1).mono ?_; rintro y w2 ⟨rfl, t2, k2⟩))
  exact bodyPost_void rfl rfl ⟨_, rfl, t2, k1.trans k2, (O1.out.need (by decide) (fun z e => by subst e; rfl)).mono fun _ _ => trivial⟩
set_option maxRecDepth 100000 in
theorem tmKind_any (t : Nat) (g : St) (x : List Value) (w : World) (h : TmAt w t g x) :
    Calls Tryz.prog 166 #[.pointer (some ⟨t, 0, none⟩)] w fun y w' => GivesZ (upR 3) 255 t g x w y w' := by
  have HB := Lib.hid (tmUpTo_any t g x 3 w h)
  clear h
  go_enter Tryz.func166, Tryz.ntmps166
  go_wp2_with (go_at_call 169; refine HB.out.mono ?_; rintro y w1 ⟨n, g1, rfl, hn, t1, k1, o1⟩; have O1 := Lib.hid o1; clear o1)
  go_ret
  exact ⟨n, _, rfl, hn, t1, k1, O1.out⟩
set_option maxRecDepth 100000 in
theorem tmYes_any (t : Nat) (g : St) (x : List Value) (w : World) (h : TmAt w t g x) :
    Calls Tryz.prog 167 #[.pointer (some ⟨t, 0, none⟩)] w fun y w' => GivesB yesR t g x w y w' := by
  have HB := Lib.hid (tmUpTo_any t g x 1 w h)
  clear h
  go_enter Tryz.func167, Tryz.ntmps167
  go_wp2_with (go_at_call 169; refine HB.out.mono ?_; rintro y w1 ⟨n, g1, rfl, hn, t1, k1, o1⟩; have O1 := Lib.hid o1; clear o1)
  go_ret
  exact ⟨_, _, rfl, t1, k1, O1.out.map fun z e => by subst e; rfl⟩
set_option maxRecDepth 100000 in
theorem tmName_any (t : Nat) (g : St) (x : List Value) (w : World) (h : TmAt w t g x) :
    Calls Tryz.prog 135 #[.pointer (some ⟨t, 0, none⟩)] w fun y w' => GivesS nameR t g x w y w' := by
  have HB := Lib.hid (tmBytes_any t g x w h)
  clear h
  go_enter Tryz.func135, Tryz.ntmps135
  go_wp2_with (first
    | (go_at_call 134; refine HB.out.mono ?_; rintro y w1 ⟨s, g1, rfl, hs, t1, k1, o1⟩; have O1 := Lib.hid o1; clear o1 HB)
    | (go_at_call 124; refine (Valid_any s _).mono ?_; rintro y w2 ⟨rfl, kb⟩; have t2 := t1.below kb; have k2 := k1.trans (Kept.of_below kb); clear t1)
    | (go_at_call 69; refine (tmNeed_any t g1 x (validB s) 2 _ t2).mono ?_; rintro y w3 ⟨rfl, t3, k3⟩; have k4 := k2.trans k3; clear t2)
    | (go_at_call 69; refine (tmNeed_any t _ x (decide ((s.size : Int) ≤ 100)) 14 _ t3).mono ?_; rintro y w4 ⟨rfl, t5, k5⟩))
  go_ret
  refine ⟨s, _, rfl, hs, t5, k4.trans k5, (O1.out.need (by decide) (fun z e => by subst e; rfl)).need (by decide) (fun z e => ?_)⟩
  subst e
  exact decide_eq_decide.2 (by omega)
def GivesW (R : Rd (Int × Bool)) (t : Nat) (g : St) (x : List Value) (w : World) (y : Ending) (w' : World) : Prop :=
  ∃ n b g', y = .returned (.tuple #[.int .i64 n, .bool b]) ∧ (0 ≤ n ∧ n ≤ 4294967295) ∧ TmAt w' t g' x ∧ Kept (· = t) w w' ∧ Out g R g' (fun z => (n, b) = z)
theorem out_fail {X Y : Type} {g g1 : St} {R : Rd X} {P : X → Prop} {R2 : X → Rd Y} {e : Int} {Q : Y → Prop} (he : e ≠ 0) (h : Out g R g1 P) (h2 : ∀ x, P x → R2 x = failR e) : Out g (bindR R R2) (needS g1 false e) Q :=
  h.bind (fun x hx => by
    rw [h2 x hx]
    cases g1 with
    | error f => rfl
    | ok s => exact if_neg he) (fun f ef => by subst ef; rfl)
set_option maxRecDepth 100000 in
set_option maxHeartbeats 1000000 in
theorem tmWhere_any (t : Nat) (g : St) (x : List Value) (w : World) (h : TmAt w t g x) :
    Calls Tryz.prog 171 #[.pointer (some ⟨t, 0, none⟩)] w fun y w' => GivesW whereR t g x w y w' := by
  have HB := Lib.hid (tmNumber_any t g x w h)
  clear h
  go_enter Tryz.func171, Tryz.ntmps171
  go_wp2_with (first
    | (go_at_call 141; refine HB.out.mono ?_; rintro y w1 ⟨n, g1, rfl, hn, t1, k1, o1⟩; have O1 := Lib.hid o1; clear o1 HB)
    | (go_at_call 141; refine (tmNumber_any t g1 x _ t1).mono ?_; rintro y w2 ⟨n2, g2, rfl, hn2, t2, k2, o2⟩; have O2 := Lib.hid o2; clear o2 t1)
    | (go_at_call 69; refine (tmNeed_any t _ x false 2 _ t1).mono ?_; rintro y w2 ⟨rfl, t2, k2⟩))
  · have h0 : n = 0 := by
      have h : (n == 0) = true := by assumption
      simpa using h
    subst h0
    go_ret2
    refine ⟨0, false, _, rfl, ⟨by decide, by decide⟩, t1, k1, O1.out.then ?_⟩
    show Out g1 (if (0 : Int) = 0 then pureR (0, false) else _) g1 _
    rw [if_pos rfl]
    exact Out.pure rfl
  · have h0 : n = 2 := by
      have h : (n == 2) = true := by assumption
      simpa using h
    subst h0
    go_ret2
    refine ⟨n2, true, _, rfl, hn2, t2, k1.trans k2, O1.out.then ?_⟩
    show Out g1 (if (2 : Int) = 0 then _ else if (2 : Int) = 2 then mapR (fun t => (t, true)) uT else _) g2 _
    rw [if_neg (by decide), if_pos rfl]
    exact O2.out.map fun z e => by subst e; rfl
  · have h0 : ¬ n = 0 := by
      have h : (n == 0) = false := by assumption
      simpa using h
    have h2 : ¬ n = 2 := by
      have h : (n == 2) = false := by assumption
      simpa using h
    go_ret2
    refine ⟨0, false, _, rfl, ⟨by decide, by decide⟩, t2, k1.trans k2, out_fail (by decide) O1.out fun z e => ?_⟩
    subst e
    show (if n = 0 then _ else if n = 2 then _ else failR 2) = _
    rw [if_neg h0, if_neg h2]
end Go.Proofs.YtekonefnniaheaaGreat
set_option linter.unusedVariables false
namespace Go.Proofs.YtekonefnniaheaaGreat
open Go.RowKit Go.Deep

section
variable {α : Type}
/-- Values that are a thing, whatever happens to other blocks than these. -/
def Val (E : World → Nat → Nat → α → Prop) (P : Nat → Prop) (w : World) (us : List Value) (a : α) : Prop := ∀ W, Agree P w W → ∀ b o, CellsAt W b o us → E W b o a
theorem Val.next {E : World → Nat → Nat → α → Prop} {P Q : Nat → Prop} {w w1 : World} {us : List Value} {a : α} (h : Val E P w us a) (h1 : Agree P w w1) (hz : w.heap.size ≤ w1.heap.size) (hq : ∀ k, P k → k < w.heap.size → Q k) : Val E Q w1 us a :=
  fun W hW => h W (hW.next h1 hz hq)
theorem Val.after {E : World → Nat → Nat → α → Prop} {B B' t : Nat} {w w1 : World} {us : List Value} {a : α} (h : Val E (B ≤ ·) w us a) (k : Kept (· = t) w w1) (ht : t < B) (hB : B' ≤ B) : Val E (B' ≤ ·) w1 us a :=
  h.next (k.agree fun i hi _ q => by omega) k.size fun i hi _ => Nat.le_trans hB hi
inductive ElsV (E : World → Nat → Nat → α → Prop) (m : Nat) (P : Nat → Prop) (w : World) : List α → List Value → Prop
  | nil : ElsV E m P w [] []
  | cons {a : α} {us : List Value} {ls : List α} {vs : List Value} : us.length = m → Val E P w us a → ElsV E m P w ls vs → ElsV E m P w (a :: ls) (us ++ vs)
theorem ElsV.next {E : World → Nat → Nat → α → Prop} {m : Nat} {P Q : Nat → Prop} {w w1 : World} {ls : List α} {vs : List Value} (h : ElsV E m P w ls vs) (h1 : Agree P w w1) (hz : w.heap.size ≤ w1.heap.size) (hq : ∀ k, P k → k < w.heap.size → Q k) : ElsV E m Q w1 ls vs := by
  induction h with
  | nil => exact .nil
  | cons e a _ ih => exact .cons e (a.next h1 hz hq) ih
theorem ElsV.snoc {E : World → Nat → Nat → α → Prop} {m : Nat} {P : Nat → Prop} {w : World} {ls : List α} {vs : List Value} {a : α} {us : List Value} (h : ElsV E m P w ls vs) (e : us.length = m) (hi : Val E P w us a) : ElsV E m P w (ls ++ [a]) (vs ++ us) := by
  induction h with
  | nil => simpa using ElsV.cons e hi .nil
  | cons e2 a2 _ ih =>
    rw [List.cons_append, List.append_assoc]
    exact .cons e2 a2 ih
theorem ElsV.length {E : World → Nat → Nat → α → Prop} {m : Nat} {P : Nat → Prop} {w : World} {ls : List α} {vs : List Value} (h : ElsV E m P w ls vs) : vs.length = ls.length * m := by
  induction h with
  | nil => simp
  | cons e a _ ih =>
    rw [List.length_append, e, ih, List.length_cons, Nat.succ_mul]
    omega
theorem ElsV.rows [Inhabited α] {E : World → Nat → Nat → α → Prop} {m : Nat} {P : Nat → Prop} {w W : World} {ls : List α} {vs : List Value} (h : ElsV E m P w ls vs) (ha : Agree P w W) (g off : Nat) (hc : ∀ j v, vs[j]? = some v → W.cell? ⟨g, off + j, none⟩ = some v) :
    ∀ i, i < ls.length → E W g (off + i * m) (ls.getD i default) := by
  induction h generalizing off with
  | nil => intro i hi; exact absurd hi (by simp)
  | @cons a us ls vs e v _ ih =>
    intro i hi
    cases i with
    | zero =>
      rw [Nat.zero_mul, Nat.add_zero]
      refine v W ha g off fun j u hj => hc j u ?_
      rw [List.getElem?_append_left (List.getElem?_eq_some_iff.1 hj).1]
      exact hj
    | succ k =>
      have := ih (off + m) (fun j u hj => by
        rw [Nat.add_assoc]
        refine hc (m + j) u ?_
        rw [List.getElem?_append_right (by omega), e, Nat.add_sub_cancel_left]
        exact hj) k (by rw [List.length_cons] at hi; omega)
      rw [show off + (k + 1) * m = off + m + k * m by rw [Nat.succ_mul]; omega]
      simpa using this
/-- A slice that a call has made so far, and what lies in it. -/
def RowV (E : World → Nat → Nat → α → Prop) (m : Nat) (T : TypeId) (B : Nat) (w : World) (v : Value) (ls : List α) : Prop := ∃ vs, w.ownsRow B T m v ls.length vs ∧ ElsV E m (fun k => B ≤ k ∧ some k ≠ v.ownBlock) w ls vs
/-- A slice of things, whatever happens to older blocks. -/
def SlV [Inhabited α] (E : World → Nat → Nat → α → Prop) (m B : Nat) (w : World) (a : Option Addr) (len cap : Nat) (ls : List α) : Prop := ∀ W, Agree (B ≤ ·) w W → RowsIn m E W a len cap ls
theorem SlV.after [Inhabited α] {E : World → Nat → Nat → α → Prop} {m B B' t : Nat} {w w1 : World} {a : Option Addr} {len cap : Nat} {ls : List α} (h : SlV E m B w a len cap ls) (k : Kept (· = t) w w1) (ht : t < B) (hB : B' ≤ B) : SlV E m B' w1 a len cap ls :=
  fun W hW => h W (hW.next (k.agree fun i hi _ q => by omega) k.size fun i hi _ => Nat.le_trans hB hi)
theorem SlV.now [Inhabited α] {E : World → Nat → Nat → α → Prop} {m B : Nat} {w : World} {a : Option Addr} {len cap : Nat} {ls : List α} (h : SlV E m B w a len cap ls) : RowsIn m E w a len cap ls := h w (Agree.refl _ _)
theorem slV_nil [Inhabited α] (E : World → Nat → Nat → α → Prop) (m B : Nat) (w : World) : SlV E m B w none 0 0 ([] : List α) := fun _ _ => ⟨rfl, Nat.le_refl _, by decide, .inl rfl⟩
theorem RowV.own [Inhabited α] {E : World → Nat → Nat → α → Prop} {m : Nat} {T : TypeId} {B : Nat} {w : World} {a : Option Addr} {len cap : Nat} {ls : List α} (h : RowV E m T B w (.slice a len cap) ls) : SlV E m B w a len cap ls := by
  obtain ⟨vs, hown, hel⟩ := h
  intro W hW
  rcases hown.2 with ⟨hn, h0⟩ | ⟨g, cap', cur, hn, hb, hg, hcap, htop, hcs, htk⟩
  · have hl : ls = [] := List.length_eq_zero_iff.1 h0
    injection hn with h1 h2 h3
    subst h1 h2 h3 hl
    exact ⟨rfl, Nat.le_refl _, by decide, .inl rfl⟩
  · injection hn with h1 h2 h3
    subst h1 h2 h3
    unfold maxLen at htop
    refine ⟨rfl, hcap, by omega, .inr ⟨g, 0, rfl, ?_⟩⟩
    have hgl : g < w.heap.size := (Array.getElem?_eq_some_iff.1 hg).1
    have hg' := (hW g hb hgl).trans hg
    refine hel.rows (fun k hk hl => hW k hk.1 hl) g 0 fun j v hj => ?_
    unfold World.cell?
    rw [hg']
    show cur[0 + j]? = some v
    rw [Nat.zero_add, ← hj, ← htk, List.getElem?_take, if_pos, Array.getElem?_toList]
    have := (List.getElem?_eq_some_iff.1 hj).1
    rw [hel.length] at this
    exact this
theorem rowK_lt {T : TypeId} {m B : Nat} {v : Value} {n : Nat} {vs : List Value} {w : World} (h : w.ownsRow B T m v n vs) : ∀ k, v.ownBlock = some k → B ≤ k ∧ k < w.heap.size := fun k hk => World.ownsRow.lt h k hk
theorem rowK_kept {T : TypeId} {m : Nat} {F : Nat → Prop} {B : Nat} {v : Value} {n : Nat} {vs : List Value} {w w' : World} (h : w.ownsRow B T m v n vs) (hk : Kept F w w') (hf : ∀ k, k < w.heap.size → F k → k < B) : w'.ownsRow B T m v n vs := by
  refine ⟨h.1, ?_⟩
  rcases h.2 with hn | ⟨g, cap, cur, rfl, hg, hgg, rest⟩
  · exact .inl hn
  · exact .inr ⟨g, cap, cur, rfl, hg, hk.cells hgg (fun q => by have := hf g (Array.getElem?_eq_some_iff.1 hgg).1 q; omega), rest⟩
/-- One thing more, behind those that there were. -/
theorem rowV_snoc {E : World → Nat → Nat → α → Prop} {m : Nat} {T : TypeId} {B : Nat} {v : Value} {ls : List α} {vs : List Value} {w w4 w5 : World} {o : Obj} {g cap : Nat} {i : α} {us : List Value}
    (hown : w.ownsRow B T m v ls.length vs) (hel : ElsV E m (fun k => B ≤ k ∧ some k ≠ v.ownBlock) w ls vs) (hag : Agree (fun k => B ≤ k ∧ some k ≠ v.ownBlock) w w4) (hz : w.heap.size ≤ w4.heap.size)
    (hum : us.length = m) (hi : Val E (w.heap.size ≤ ·) w4 us i) (hown5 : w5.ownsRow B T m (.slice (some ⟨g, 0, none⟩) (ls.length + 1) cap) (ls.length + 1) (vs ++ us)) (hg : (w4.alloc o).grownBy w5 v.ownBlock) (hat : v.ownBlock = some g ∨ g = (w4.alloc o).heap.size) (hB : B ≤ w.heap.size) :
    RowV E m T B w5 (.slice (some ⟨g, 0, none⟩) (ls.length + 1) cap) (ls ++ [i]) := by
  have hlt := rowK_lt hown
  have hza : (w4.alloc o).heap.size = w4.heap.size + 1 := by simp
  have hs5 := hg.size
  have hag5 : ∀ k, k < w4.heap.size → some k ≠ v.ownBlock → w5.heap[k]? = w4.heap[k]? := fun k hk hne => (hg.block k (by omega) hne).trans (heap_alloc_old w4 o hk)
  refine ⟨vs ++ us, by rw [List.length_append, List.length_singleton]; exact hown5, ?_⟩
  refine ElsV.snoc (hel.next (Q := fun k => B ≤ k ∧ some k ≠ (Value.slice (some ⟨g, 0, none⟩) (ls.length + 1) cap).ownBlock) (fun k hk hl => (hag5 k (by omega) hk.2).trans (hag k hk hl)) (by omega) fun k hk hl => ⟨hk.1, ?_⟩) hum (hi.next (fun k hk hl => hag5 k hl ?_) (by omega) fun k hk hl => ⟨by omega, ?_⟩)
  · show some k ≠ some g
    rcases hat with h | h
    · exact fun q => hk.2 (by rw [q, h])
    · exact fun q => by have := Option.some.inj q; omega
  · exact fun q => by have := hlt k q.symm; omega
  · show some k ≠ some g
    rcases hat with h | h
    · exact fun q => by have := Option.some.inj q; have := hlt g h; omega
    · exact fun q => by have := Option.some.inj q; omega
/-- A round's append, as the list's relation needs it. -/
theorem rowV_step {E : World → Nat → Nat → α → Prop} {m : Nat} {T : TypeId} {t : Nat} {v : Value} {ls : List α} {vs us : List Value} {w wr w4 w5 : World} {o : Obj} {gb cap : Nat} {g2 : St} {x : List Value} (ht : t < w.heap.size)
    (hown : wr.ownsRow w.heap.size T m v ls.length vs) (hel : ElsV E m (fun k => w.heap.size ≤ k ∧ some k ≠ v.ownBlock) wr ls vs) (kp : Kept (· = t) w wr) (k4 : Kept (· = t) wr w4) (t4 : TmAt w4 t g2 x)
    (hown5 : w5.ownsRow w.heap.size T m (.slice (some ⟨gb, 0, none⟩) (ls.length + 1) cap) (ls.length + 1) (vs ++ us)) (hg : (w4.alloc o).grownBy w5 v.ownBlock) (hat : v.ownBlock = some gb ∨ gb = (w4.alloc o).heap.size) (hum : us.length = m) :
    TmAt w5 t g2 x ∧ Kept (· = t) w w5 ∧ ∀ a, Val E (wr.heap.size ≤ ·) w4 us a → RowV E m T w.heap.size w5 (.slice (some ⟨gb, 0, none⟩) (ls.length + 1) cap) (ls ++ [a]) := by
  have hlt := rowK_lt hown
  have hzp := kp.size
  have hz4 := k4.size
  have hba : Below w4.heap.size w4 (w4.alloc o) := (Below.refl _ _).alloc (Nat.le_refl _) _
  have KG : Kept (fun k => some k = v.ownBlock) (w4.alloc o) w5 := ⟨hg.os, hg.tape, hg.output, hg.size, fun k hk hf => hg.block k hk hf⟩
  have hne : ¬ some t = v.ownBlock := fun q => by have := hlt t q.symm; omega
  refine ⟨⟨(t4.below hba).blk.kept KG hne, t4.wf⟩, kp.then ((k4.mono (G := fun k => k = t ∨ some k = v.ownBlock) fun _ q => .inl q).trans ((Kept.of_below hba).trans (KG.mono fun _ q => .inr q))) (by
    rintro j hj (q | q)
    · exact q
    · have := hlt j q.symm; omega), fun a ha => ?_⟩
  exact rowV_snoc hown hel (k4.agree fun k hk _ q => by omega) hz4 hum ha hown5 hg hat hzp
/-- Where a list's loop stands. -/
def LRel (E : World → Nat → Nat → α → Prop) (m : Nat) (T : TypeId) (R : Rd α) (N t : Nat) (x : List Value) (g0 : St) (w : World) (lv iv : Value) (wr : World) : Prop :=
  ∃ (i : Nat) (a : Option Addr) (len cap : Nat) (g : St), iv = .int .i64 i ∧ i ≤ N ∧ lv = .slice a len cap ∧ TmAt wr t g x ∧ Kept (· = t) w wr ∧
    ((∃ s s0 ls, g = .ok s ∧ g0 = .ok s0 ∧ N ≤ 1000 ∧ len = i ∧ ls.length = i ∧ RowV E m T w.heap.size wr lv ls ∧ repR R N s0 = (repR R (N - i) s).bind fun q => .ok (ls ++ q.1, q.2)) ∨
     (∃ f, g = .error f ∧ f ≠ 0 ∧ Out g0 (repR R N) (.error f) (fun _ => False)))
/-- What a list's reading gives. -/
def GivesLs [Inhabited α] (E : World → Nat → Nat → α → Prop) (m : Nat) (R : Rd (List α)) (t : Nat) (g : St) (x : List Value) (w : World) (y : Ending) (w' : World) : Prop :=
  ∃ a len cap g', y = .returned (.slice a len cap) ∧ TmAt w' t g' x ∧ Kept (· = t) w w' ∧ Out g R g' (fun l => SlV E m w.heap.size w' a len cap l)
theorem out_any {X : Type} {g : St} {R : Rd X} {f : Int} {P Q : X → Prop} (h : Out g R (.error f) P) : Out g R (.error f) Q := by
  cases g with
  | error f' => exact h
  | ok s => exact (out_err' h.fault).2 rfl
theorem lrel_start {E : World → Nat → Nat → α → Prop} {m : Nat} {T : TypeId} {R : Rd α} {N t : Nat} {x : List Value} {g1 : St} {w wr : World} {most : Int} (hm : most ≤ 1000) (t1 : TmAt wr t (needS g1 (decide ((N : Int) ≤ most)) 14) x) (k : Kept (· = t) w wr) :
    LRel E m T R N t x (needS g1 (decide ((N : Int) ≤ most)) 14) w (.slice none 0 0) (.int .i64 ((0 : Nat) : Int)) wr := by
  refine ⟨0, none, 0, 0, _, rfl, Nat.zero_le _, rfl, t1, k, ?_⟩
  rcases t1.wf.cases with ⟨s, hs, _⟩ | ⟨f, hf, hf0⟩
  · refine .inl ⟨s, s, [], hs, hs, ?_, rfl, rfl, ⟨[], World.ownsRow_nil _ _ _ _, .nil⟩, ?_⟩
    · by_cases h : (N : Int) ≤ most
      · omega
      · exfalso
        rw [decide_eq_false h] at hs
        unfold needS tookS at hs
        rw [if_neg (by decide)] at hs
        cases g1 with
        | error f => cases hs
        | ok s' => simp at hs
    · rw [Nat.sub_zero]
      cases hR : repR R N s with
      | error e => rfl
      | ok q => rfl
  · refine .inr ⟨f, hf, hf0, ?_⟩
    rw [hf]
    rfl
theorem lrel_next {E : World → Nat → Nat → α → Prop} {m : Nat} {T : TypeId} {R : Rd α} {N t i : Nat} {x : List Value} {g2 : St} {w w5 : World} {gb cap : Nat} {s s0 : ByteArray} {ls : List α} {P : α → Prop}
    (hi : i < N) (hN : N ≤ 1000) (hl : ls.length = i) (hR : repR R N s0 = (repR R (N - i) s).bind fun q => .ok (ls ++ q.1, q.2)) (o : Out (.ok s) R g2 P)
    (t5 : TmAt w5 t g2 x) (k5 : Kept (· = t) w w5) (hP : ∀ a, P a → RowV E m T w.heap.size w5 (.slice (some ⟨gb, 0, none⟩) (ls.length + 1) cap) (ls ++ [a])) :
    LRel E m T R N t x (.ok s0) w (.slice (some ⟨gb, 0, none⟩) (ls.length + 1) cap) (.int .i64 ((i + 1 : Nat) : Int)) w5 := by
  refine ⟨i + 1, _, _, _, g2, rfl, by omega, rfl, t5, k5, ?_⟩
  obtain ⟨j, hj⟩ : ∃ j, N - i = j + 1 := ⟨N - i - 1, by omega⟩
  rw [hj] at hR
  rcases t5.wf.cases with ⟨s2, rfl, _⟩ | ⟨f, rfl, hf0⟩
  · obtain ⟨s', a, hs', hRa, hPa⟩ := o.live
    injection hs' with hs'
    subst hs'
    refine .inl ⟨s2, s0, ls ++ [a], rfl, rfl, hN, by omega, by rw [List.length_append, List.length_singleton]; omega, hP a hPa, ?_⟩
    rw [hR, show N - (i + 1) = j by omega]
    show ((R s).bind fun q => mapR (fun l => q.1 :: l) (repR R j) q.2).bind _ = _
    rw [hRa]
    show ((repR R j s2).bind fun q => pureR (a :: q.1) q.2).bind _ = _
    cases repR R j s2 with
    | error e => rfl
    | ok q =>
      show Except.ok (ls ++ (a :: q.1), q.2) = Except.ok ((ls ++ [a]) ++ q.1, q.2)
      rw [List.append_assoc]
      rfl
  · refine .inr ⟨f, rfl, hf0, ?_⟩
    have hf := o.fault
    refine (out_err' ?_).2 rfl
    rw [hR]
    show ((R s).bind fun q => mapR (fun l => q.1 :: l) (repR R j) q.2).bind _ = _
    rw [hf]
    rfl
theorem lrel_end [Inhabited α] {E : World → Nat → Nat → α → Prop} {m : Nat} {T : TypeId} {R : Rd α} {N : Nat} {g0 g : St} {w wr : World} {a : Option Addr} {len cap : Nat}
    (h : (∃ s s0 ls, g = .ok s ∧ g0 = .ok s0 ∧ N ≤ 1000 ∧ len = N ∧ ls.length = N ∧ RowV E m T w.heap.size wr (.slice a len cap) ls ∧ repR R N s0 = (repR R (N - N) s).bind fun q => .ok (ls ++ q.1, q.2)) ∨
     (∃ f, g = .error f ∧ f ≠ 0 ∧ Out g0 (repR R N) (.error f) (fun _ => False))) :
    Out g0 (repR R N) g (fun l => SlV E m w.heap.size wr a len cap l) := by
  rcases h with ⟨s, s0, ls, rfl, rfl, _, _, _, hrow, hR⟩ | ⟨f, rfl, _, ho⟩
  · rw [Nat.sub_self] at hR
    replace hR : repR R N s0 = .ok (ls ++ [], s) := hR
    rw [List.append_nil] at hR
    exact (out_ok hR).2 ⟨rfl, hrow.own⟩
  · exact out_any ho
end
end Go.Proofs.YtekonefnniaheaaGreat
set_option linter.unusedVariables false
namespace Go.Proofs.YtekonefnniaheaaGreat
open Go.RowKit Go.Deep
theorem newsL (w : World) (T : TypeId) (cs : List Value) : ∀ j u, cs[j]? = some u → (w.alloc (.cells cs.toArray T)).cell? ((⟨w.heap.size, 0, none⟩ : Addr).add j) = some u := by
  intro j u hj
  have hadd : (⟨w.heap.size, 0, none⟩ : Addr).add j = ⟨w.heap.size, j, none⟩ := by unfold Addr.add; split <;> simp_all
  rw [hadd, (BlkAt.new w cs.toArray T).cell j, List.getElem?_toArray]
  exact hj
def intE (W : World) (b o : Nat) (z : Int) : Prop := W.cell? ⟨b, o, none⟩ = some (.int .i64 z) ∧ -9223372036854775808 ≤ z ∧ z ≤ 9223372036854775807
theorem val_int {P : Nat → Prop} {w : World} {z : Int} (h : -9223372036854775808 ≤ z ∧ z ≤ 9223372036854775807) : Val intE P w [.int .i64 z] z := fun W _ b o hc => ⟨hc 0 _ rfl, h⟩
theorem RowsIn.ints {W : World} {a : Option Addr} {len cap : Nat} {zs : List Int} (h : RowsIn 1 intE W a len cap zs) : IntsIn W a len cap zs := by
  refine ⟨h.eq, h.le, h.top, ?_, fun i hi => ?_⟩
  · rcases h.lie with h0 | ⟨b, off, ha, hc⟩
    · exact .inl h0
    · refine .inr ⟨b, off, ha, fun i hi => ?_⟩
      have := (hc i (by rw [← h.eq]; exact hi)).1
      rwa [Nat.mul_one] at this
  · rcases h.lie with h0 | ⟨b, off, ha, hc⟩
    · have := h.eq
      omega
    · exact (hc i hi).2
theorem info_uT : (Tryz.prog.info? 3).map (fun i => (i.zero, i.size, i.bytes)) = some (some (.int .i64 0), 1, 8) := by kernel_rfl
set_option maxRecDepth 100000 in
set_option maxHeartbeats 4000000 in
theorem tmList_uT (t : Nat) (g : St) (x : List Value) (most : Int) (hm : most ≤ 1000) (w : World) (h : TmAt w t g x) :
    Calls Tryz.prog 140 #[.pointer (some ⟨t, 0, none⟩), .int .i64 most, .func (.func 141) #[.pointer (some ⟨t, 0, none⟩)] #[]] w fun y w' => GivesLs intE 1 (listR most uT) t g x w y w' := by
  obtain ⟨ti, hi0, hz0, hz1, hz2⟩ := info_parts info_uT
  have HB := Lib.hid (tmNumber_any t g x w h)
  have HT := Lib.hid h.lt
  have HM := Lib.hid hm
  clear h hm
  go_enter Tryz.func140, Tryz.ntmps140
  go_wp2_with (first
    | (go_at_call 141; refine HB.out.mono ?_; rintro y w1 ⟨n, g1, rfl, hn, t1, k1, o1⟩; have O1 := Lib.hid o1; clear o1 HB; obtain ⟨N, hN⟩ := Int.eq_ofNat_of_zero_le hn.1; subst hN; have HNN := Lib.hid hn.2; clear hn)
    | (go_at_call 69; refine (tmNeed_any t g1 x (decide ((N : Int) ≤ most)) 14 _ t1).mono ?_; rintro y w2 ⟨rfl, t2, k2⟩))
  have HO : Hid (Out g (needR uT (fun n => decide (n ≤ most)) 14) (needS g1 (decide ((N : Int) ≤ most)) 14) (fun z => (N : Int) = z)) := Lib.hid (O1.out.need (by decide) (fun z e => by subst e; rfl))
  have HS := Lib.hid (lrel_start (E := intE) (m := 1) (T := 3) (R := uT) (N := N) HM.out t2 (k1.trans k2))
  revert HO HS
  generalize needS g1 (decide ((N : Int) ≤ most)) 14 = g0
  intro HO HS
  have HEND : Hid (∀ g' (P : List Int → Prop), Out g0 (repR uT N) g' P → Out g (listR most uT) g' P) := Lib.hid fun g' P h => Out.then HO.out h
  clear HO O1 t1 t2 k1 k2
  go_loopw [8, 17] (fun lv iv wr => LRel intE 1 3 uT N t x g0 w lv iv wr) (fun _ iv _ => N - (intOf iv).toNat)
  case atStart => exact HS.out
  case round =>
    clear HS
    obtain ⟨i, a, len, cap, gi, rfl, hi, rfl, t1, kp, hst⟩ := hrel
    have HST := Lib.hid hst
    have HI := Lib.hid hi
    have HNI := HNN.out
    have hflt := t1.flt
    clear hst
    by_cases hlt : i < N
    · rcases HST.out with ⟨s, s0, ls, rfl, hg0, hN, rfl, hl, ⟨vs, hown, hel⟩, hR⟩ | ⟨f, rfl, hf0, ho⟩
      · replace hflt : wr.cell? ⟨t, 1, none⟩ = some (.int .i64 0) := hflt
        have HG0 := Lib.hid hg0
        have HNK := Lib.hid hN
        have HL := Lib.hid hl
        have HR := Lib.hid hR
        have HEL := Lib.hid hel
        have HOWN := Lib.hid hown
        have HKP := Lib.hid kp
        have q3 : len + 1 ≤ maxLen := by unfold maxLen; omega
        have q4 : (len + 1) * 8 ≤ 140737488355328 := by omega
        have hzz := kp.size
        clear hg0 hN hl hR hel hown kp HST
        go_wp2_with (first
          | (go_at_call 141; refine (tmNumber_any t _ x _ t1).mono ?_; rintro y w4 ⟨z0, g2, rfl, hz, t4, k4, o4⟩; have O4 := Lib.hid o4; have HZ := Lib.hid hz; clear o4 hz; have hown4 := rowK_kept HOWN.out k4 (by intro j _ q; have := HT.out; omega); rw [HL.out] at hown4; have hz4 := k4.size)
          | (at_builtin; refine wpList_append_lies _ rfl _ _ 24 rfl w.heap.size 3 ti _ 1 8 Tryz.underlying24 hi0 hz0 hz1 hz2 rfl (by decide) _ len vs rfl (World.ownsRow.alloc hown4 _) ⟨w4.heap.size, 0, none⟩ 1 1 [.int .i64 z0] rfl rfl (newsL w4 _ [.int .i64 z0]) (by intro u hu; simp only [List.mem_cons, List.not_mem_nil, or_false] at hu; rcases hu with rfl <;> rfl) (by decide) q3 q4 (le_alloc (show w.heap.size ≤ w4.heap.size by omega)) _ rfl ?_; intro gb cap5 w5 hown5 hg5 hat5 hlt5))
        have hO : Out (.ok s) uT g2 (fun a => Val intE (wr.heap.size ≤ ·) w4 [.int .i64 z0] a) := O4.out.mono fun a e => by
          subst e
          exact val_int (by have := HZ.out; omega)
        have hown0 := HOWN.out
        have hown6 := hown5
        have hll := HL.out
        rw [← hll] at hown6
        obtain ⟨t5, k5, hP⟩ := rowV_step HT.out hown0 HEL.out HKP.out k4 t4 hown6 hg5 hat5 rfl
        have HNX := lrel_next (E := intE) (m := 1) (T := 3) hlt HNK.out hll HR.out hO t5 k5 hP
        rw [HG0.out]
        rw [hll] at HNX
        have hlw : IntKind.i64.wrap ((len : Int) + 1) = ((len + 1 : Nat) : Int) := by
          rw [IntKind.wrap_i64]; omega
        refine ⟨?_, ?_⟩
        · first | exact HNX | (rw [hlw]; exact HNX) | (rw [show ((len : Int) + 1) = ((len + 1 : Nat) : Int) by omega]; exact HNX)
        · simp [intOf]; omega
      · replace hflt : wr.cell? ⟨t, 1, none⟩ = some (.int .i64 f) := hflt
        have e1 : (f != 0) = true := by simpa using hf0
        have HOO := Lib.hid ho
        clear hf0 ho HST
        go_wp2_with fail
        go_ret
        exact ⟨_, _, _, _, rfl, t1, kp, HEND.out _ _ (out_any HOO.out)⟩
    · have hie : i = N := by omega
      subst hie
      go_wp2_with fail
      go_ret
      exact ⟨_, _, _, _, rfl, t1, kp, HEND.out _ _ (lrel_end HST.out)⟩
theorem info_yT : (Tryz.prog.info? 3).map (fun i => (i.zero, i.size, i.bytes)) = some (some (.int .i64 0), 1, 8) := by kernel_rfl
set_option maxRecDepth 100000 in
set_option maxHeartbeats 4000000 in
theorem tmList_yT (t : Nat) (g : St) (x : List Value) (most : Int) (hm : most ≤ 1000) (w : World) (h : TmAt w t g x) :
    Calls Tryz.prog 140 #[.pointer (some ⟨t, 0, none⟩), .int .i64 most, .func (.func 165) #[.pointer (some ⟨t, 0, none⟩)] #[]] w fun y w' => GivesLs intE 1 (listR most yT) t g x w y w' := by
  obtain ⟨ti, hi0, hz0, hz1, hz2⟩ := info_parts info_yT
  have HB := Lib.hid (tmNumber_any t g x w h)
  have HT := Lib.hid h.lt
  have HM := Lib.hid hm
  clear h hm
  go_enter Tryz.func140, Tryz.ntmps140
  go_wp2_with (first
    | (go_at_call 141; refine HB.out.mono ?_; rintro y w1 ⟨n, g1, rfl, hn, t1, k1, o1⟩; have O1 := Lib.hid o1; clear o1 HB; obtain ⟨N, hN⟩ := Int.eq_ofNat_of_zero_le hn.1; subst hN; have HNN := Lib.hid hn.2; clear hn)
    | (go_at_call 69; refine (tmNeed_any t g1 x (decide ((N : Int) ≤ most)) 14 _ t1).mono ?_; rintro y w2 ⟨rfl, t2, k2⟩))
  have HO : Hid (Out g (needR uT (fun n => decide (n ≤ most)) 14) (needS g1 (decide ((N : Int) ≤ most)) 14) (fun z => (N : Int) = z)) := Lib.hid (O1.out.need (by decide) (fun z e => by subst e; rfl))
  have HS := Lib.hid (lrel_start (E := intE) (m := 1) (T := 3) (R := yT) (N := N) HM.out t2 (k1.trans k2))
  revert HO HS
  generalize needS g1 (decide ((N : Int) ≤ most)) 14 = g0
  intro HO HS
  have HEND : Hid (∀ g' (P : List Int → Prop), Out g0 (repR yT N) g' P → Out g (listR most yT) g' P) := Lib.hid fun g' P h => Out.then HO.out h
  clear HO O1 t1 t2 k1 k2
  go_loopw [8, 17] (fun lv iv wr => LRel intE 1 3 yT N t x g0 w lv iv wr) (fun _ iv _ => N - (intOf iv).toNat)
  case atStart => exact HS.out
  case round =>
    clear HS
    obtain ⟨i, a, len, cap, gi, rfl, hi, rfl, t1, kp, hst⟩ := hrel
    have HST := Lib.hid hst
    have HI := Lib.hid hi
    have HNI := HNN.out
    have hflt := t1.flt
    clear hst
    by_cases hlt : i < N
    · rcases HST.out with ⟨s, s0, ls, rfl, hg0, hN, rfl, hl, ⟨vs, hown, hel⟩, hR⟩ | ⟨f, rfl, hf0, ho⟩
      · replace hflt : wr.cell? ⟨t, 1, none⟩ = some (.int .i64 0) := hflt
        have HG0 := Lib.hid hg0
        have HNK := Lib.hid hN
        have HL := Lib.hid hl
        have HR := Lib.hid hR
        have HEL := Lib.hid hel
        have HOWN := Lib.hid hown
        have HKP := Lib.hid kp
        have q3 : len + 1 ≤ maxLen := by unfold maxLen; omega
        have q4 : (len + 1) * 8 ≤ 140737488355328 := by omega
        have hzz := kp.size
        clear hg0 hN hl hR hel hown kp HST
        go_wp2_with (first
          | (go_at_call 165; refine (tmTyp_any t _ x _ t1).mono ?_; rintro y w4 ⟨z0, g2, rfl, hz, t4, k4, o4⟩; have O4 := Lib.hid o4; have HZ := Lib.hid hz; clear o4 hz; have hown4 := rowK_kept HOWN.out k4 (by intro j _ q; have := HT.out; omega); rw [HL.out] at hown4; have hz4 := k4.size)
          | (at_builtin; refine wpList_append_lies _ rfl _ _ 24 rfl w.heap.size 3 ti _ 1 8 Tryz.underlying24 hi0 hz0 hz1 hz2 rfl (by decide) _ len vs rfl (World.ownsRow.alloc hown4 _) ⟨w4.heap.size, 0, none⟩ 1 1 [.int .i64 z0] rfl rfl (newsL w4 _ [.int .i64 z0]) (by intro u hu; simp only [List.mem_cons, List.not_mem_nil, or_false] at hu; rcases hu with rfl <;> rfl) (by decide) q3 q4 (le_alloc (show w.heap.size ≤ w4.heap.size by omega)) _ rfl ?_; intro gb cap5 w5 hown5 hg5 hat5 hlt5))
        have hO : Out (.ok s) yT g2 (fun a => Val intE (wr.heap.size ≤ ·) w4 [.int .i64 z0] a) := O4.out.mono fun a e => by
          subst e
          exact val_int (by have := HZ.out; omega)
        have hown0 := HOWN.out
        have hown6 := hown5
        have hll := HL.out
        rw [← hll] at hown6
        obtain ⟨t5, k5, hP⟩ := rowV_step HT.out hown0 HEL.out HKP.out k4 t4 hown6 hg5 hat5 rfl
        have HNX := lrel_next (E := intE) (m := 1) (T := 3) hlt HNK.out hll HR.out hO t5 k5 hP
        rw [HG0.out]
        rw [hll] at HNX
        have hlw : IntKind.i64.wrap ((len : Int) + 1) = ((len + 1 : Nat) : Int) := by
          rw [IntKind.wrap_i64]; omega
        refine ⟨?_, ?_⟩
        · first | exact HNX | (rw [hlw]; exact HNX) | (rw [show ((len : Int) + 1) = ((len + 1 : Nat) : Int) by omega]; exact HNX)
        · simp [intOf]; omega
      · replace hflt : wr.cell? ⟨t, 1, none⟩ = some (.int .i64 f) := hflt
        have e1 : (f != 0) = true := by simpa using hf0
        have HOO := Lib.hid ho
        clear hf0 ho HST
        go_wp2_with fail
        go_ret
        exact ⟨_, _, _, _, rfl, t1, kp, HEND.out _ _ (out_any HOO.out)⟩
    · have hie : i = N := by omega
      subst hie
      go_wp2_with fail
      go_ret
      exact ⟨_, _, _, _, rfl, t1, kp, HEND.out _ _ (lrel_end HST.out)⟩
end Go.Proofs.YtekonefnniaheaaGreat
set_option linter.unusedVariables false
namespace Go.Proofs.YtekonefnniaheaaGreat
open Go.RowKit Go.Deep

theorem TmAt.set {w : World} {t b : Nat} {g : St} {x : List Value} (h : TmAt w t g x) (hne : t ≠ b) (i : Nat) (v : Value) : TmAt (w.setCell ⟨b, i, none⟩ v) t g x := ⟨h.blk.other hne i v, h.wf⟩
theorem Kept.clean {t : Nat} {w w' : World} (h : Kept (fun k => k = t ∨ w.heap.size ≤ k) w w') : Kept (· = t) w w' :=
  ⟨h.os, h.tape, h.output, h.size, fun k hk hf => h.block k hk (by rintro (q | q); exact hf q; omega)⟩
theorem BlkAt.cells2 {w : World} {b : Nat} {c0 c1 : Value} {T : TypeId} (h : BlkAt w b #[c0, c1] T) : w.cell? ⟨b, 0, none⟩ = some c0 ∧ w.cell? ⟨b, 1, none⟩ = some c1 := ⟨h.cell 0, h.cell 1⟩
theorem BlkAt.cells3 {w : World} {b : Nat} {c0 c1 c2 : Value} {T : TypeId} (h : BlkAt w b #[c0, c1, c2] T) : w.cell? ⟨b, 0, none⟩ = some c0 ∧ w.cell? ⟨b, 1, none⟩ = some c1 ∧ w.cell? ⟨b, 2, none⟩ = some c2 := ⟨h.cell 0, h.cell 1, h.cell 2⟩
theorem BlkAt.cells7 {w : World} {b : Nat} {c0 c1 c2 c3 c4 c5 c6 : Value} {T : TypeId} (h : BlkAt w b #[c0, c1, c2, c3, c4, c5, c6] T) : w.cell? ⟨b, 0, none⟩ = some c0 ∧ w.cell? ⟨b, 1, none⟩ = some c1 ∧ w.cell? ⟨b, 2, none⟩ = some c2 ∧ w.cell? ⟨b, 3, none⟩ = some c3 ∧ w.cell? ⟨b, 4, none⟩ = some c4 ∧ w.cell? ⟨b, 5, none⟩ = some c5 ∧ w.cell? ⟨b, 6, none⟩ = some c6 := ⟨h.cell 0, h.cell 1, h.cell 2, h.cell 3, h.cell 4, h.cell 5, h.cell 6⟩
theorem BlkAt.cells9 {w : World} {b : Nat} {c0 c1 c2 c3 c4 c5 c6 c7 c8 : Value} {T : TypeId} (h : BlkAt w b #[c0, c1, c2, c3, c4, c5, c6, c7, c8] T) : w.cell? ⟨b, 0, none⟩ = some c0 ∧ w.cell? ⟨b, 1, none⟩ = some c1 ∧ w.cell? ⟨b, 2, none⟩ = some c2 ∧ w.cell? ⟨b, 3, none⟩ = some c3 ∧ w.cell? ⟨b, 4, none⟩ = some c4 ∧ w.cell? ⟨b, 5, none⟩ = some c5 ∧ w.cell? ⟨b, 6, none⟩ = some c6 ∧ w.cell? ⟨b, 7, none⟩ = some c7 ∧ w.cell? ⟨b, 8, none⟩ = some c8 := ⟨h.cell 0, h.cell 1, h.cell 2, h.cell 3, h.cell 4, h.cell 5, h.cell 6, h.cell 7, h.cell 8⟩

/-- What a step gives that reads limits. -/
def GivesLim (R : Rd Lim) (t : Nat) (g : St) (x : List Value) (w : World) (y : Ending) (w' : World) : Prop :=
  ∃ z0 z1 g', y = .returned (.agg #[.int .i64 z0, .int .i64 z1]) ∧ ((-1 ≤ z0 ∧ z0 ≤ 4294967295) ∧ -1 ≤ z1 ∧ z1 ≤ 4294967295) ∧ TmAt w' t g' x ∧ Kept (· = t) w w' ∧ Out g R g' (fun l => l = ⟨z0, z1⟩)
set_option maxRecDepth 100000 in
set_option maxHeartbeats 4000000 in
theorem tmLimits_any (t : Nat) (g : St) (x : List Value) (w : World) (h : TmAt w t g x) :
    Calls Tryz.prog 144 #[.pointer (some ⟨t, 0, none⟩)] w fun y w' => GivesLim limR t g x w y w' := by
  have ht := h.lt
  have hba : Below w.heap.size w (w.alloc (.cells #[.int .i64 0, .int .i64 0] 83)) := (Below.refl _ _).alloc (Nat.le_refl _) _
  have hs0 : (w.alloc (.cells #[.int .i64 0, .int .i64 0] 83)).heap.size = w.heap.size + 1 := by simp
  have ts0 := h.below hba
  have rs0 := BlkAt.new w #[.int .i64 0, .int .i64 0] 83
  have K0 : Hid (Kept (fun k => k = t ∨ w.heap.size ≤ k) w (w.alloc (.cells #[.int .i64 0, .int .i64 0] 83))) := Lib.hid (Kept.of_below hba)
  have HB := Lib.hid (tmUpTo_any t g x 1 _ ts0)
  clear h hba
  go_enter Tryz.func144, Tryz.ntmps144
  go_wp2_with (first
    | (go_at_call 169; refine HB.out.mono ?_; rintro y w1 ⟨c, g1, rfl, hc, t1, k1, o1⟩; have O1 := Lib.hid o1; clear o1 HB; have hz1 := k1.size; have r1 := rs0.kept k1 (by omega); have HN := Lib.hid (tmNumber_any t g1 x _ t1))
    | (go_at_call 141; refine HN.out.mono ?_; rintro y w2 ⟨n, g2, rfl, hn, t2, k2, o2⟩; have O2 := Lib.hid o2; clear o2 HN; have hz2 := k2.size; have r2 := r1.kept k2 (by omega); have hb2 : Below w2.heap.size w2 (w2.alloc (.cells #[.int .i64 n, .int .i64 (-1)] 83)) := (Below.refl _ _).alloc (Nat.le_refl _) _; have t2' := t2.below hb2; have r2' := r2.below hb2; obtain ⟨cr2_0, cr2_1⟩ := BlkAt.cells2 r2'; have fr2_0 := r2'.frozen 0; have fr2_1 := r2'.frozen 1; have v2 := BlkAt.new w2 #[.int .i64 n, .int .i64 (-1)] 83; have HN3 := Lib.hid (tmNumber_any t g2 x _ t2'))
    | (go_at_call 141; refine HN3.out.mono ?_; rintro y w3 ⟨mx, g3, rfl, hmx, t3, k3, o3⟩; have O3 := Lib.hid o3; clear o3 HN3; have r3 := r2'.kept k3 (by omega); have v3 := v2.kept k3 (by omega); obtain ⟨cr3_0, cr3_1⟩ := BlkAt.cells2 r3; have fr3_0 := r3.frozen 0; have fr3_1 := r3.frozen 1; obtain ⟨cv3_0, cv3_1⟩ := BlkAt.cells2 v3; have fv3_1 := v3.frozen 1))
  · have h1 : c = 1 := by
      have h : (c == 1) = true := by assumption
      simpa using h
    subst h1
    have TF := ((t3.set (b := w2.heap.size) (by have := t2.lt; omega) 1 (.int .i64 mx)).set (b := w.heap.size) (by omega) 0 (.int .i64 n)).set (b := w.heap.size) (by omega) 1 (.int .i64 mx)
    have KF := (((((((K0.out.trans (k1.mono fun _ q => .inl q)).trans (k2.mono fun _ q => .inl q)).trans (Kept.of_below hb2)).trans (k3.mono fun _ q => .inl q)).set (p := ⟨w2.heap.size, 1, none⟩) (.inr (by show w.heap.size ≤ w2.heap.size; omega)) (.int .i64 mx)).set (p := ⟨w.heap.size, 0, none⟩) (.inr (Nat.le_refl _)) (.int .i64 n)).set (p := ⟨w.heap.size, 1, none⟩) (.inr (Nat.le_refl _)) (.int .i64 mx))
    refine bodyPost_ret (v := .agg #[.int .i64 n, .int .i64 mx]) (by simp [results, Tryz.results144, go_sem, cr3_0, cr3_1]) rfl ⟨n, mx, _, rfl, ⟨⟨by omega, by omega⟩, by omega, by omega⟩, TF, KF.clean, O1.out.then (O2.out.then ?_)⟩
    show Out g2 (if ((1 : Int) == 1) = true then mapR (fun mx => Lim.mk n mx) uT else pureR (Lim.mk n (-1))) g3 _
    rw [if_pos (by decide)]
    exact O3.out.map fun z e => by subst e; rfl
  · have h1 : (c == 1) = false := by assumption
    have TF := (t2'.set (b := w.heap.size) (by omega) 0 (.int .i64 n)).set (b := w.heap.size) (by omega) 1 (.int .i64 (-1))
    have KF := (((((K0.out.trans (k1.mono fun _ q => .inl q)).trans (k2.mono fun _ q => .inl q)).trans (Kept.of_below hb2)).set (p := ⟨w.heap.size, 0, none⟩) (.inr (Nat.le_refl _)) (.int .i64 n)).set (p := ⟨w.heap.size, 1, none⟩) (.inr (Nat.le_refl _)) (.int .i64 (-1)))
    refine bodyPost_ret (v := .agg #[.int .i64 n, .int .i64 (-1)]) (by simp [results, Tryz.results144, go_sem, cr2_0, cr2_1]) rfl ⟨n, -1, _, rfl, ⟨⟨by omega, by omega⟩, by omega, by omega⟩, TF, KF.clean, O1.out.then (O2.out.then ?_)⟩
    show Out g2 (if (c == 1) = true then mapR (fun mx => Lim.mk n mx) uT else pureR (Lim.mk n (-1))) g2 _
    rw [if_neg (by rw [h1]; decide)]
    exact Out.pure rfl
set_option maxRecDepth 100000 in
theorem tmTable_any (t : Nat) (g : St) (x : List Value) (w : World) (h : TmAt w t g x) :
    Calls Tryz.prog 143 #[.pointer (some ⟨t, 0, none⟩)] w fun y w' => GivesLim tabR t g x w y w' := by
  have ht := h.lt
  have hba : Below w.heap.size w (w.alloc (.cells #[.int .i64 0, .int .i64 0] 83)) := (Below.refl _ _).alloc (Nat.le_refl _) _
  have hs0 : (w.alloc (.cells #[.int .i64 0, .int .i64 0] 83)).heap.size = w.heap.size + 1 := by simp
  have ts0 := h.below hba
  have rs0 := BlkAt.new w #[.int .i64 0, .int .i64 0] 83
  have K0 : Hid (Kept (fun k => k = t ∨ w.heap.size ≤ k) w (w.alloc (.cells #[.int .i64 0, .int .i64 0] 83))) := Lib.hid (Kept.of_below hba)
  have HB := Lib.hid (tmOnly_any t g x 112 _ ts0)
  clear h hba
  go_enter Tryz.func143, Tryz.ntmps143
  go_wp2_with (first
    | (go_at_call 164; refine HB.out.mono ?_; rintro y w1 ⟨g1, rfl, t1, k1, o1⟩; have O1 := Lib.hid o1; clear o1 HB; have hz1 := k1.size; have r1 := rs0.kept k1 (by omega))
    | (go_at_call 144; refine (tmLimits_any t g1 x _ t1).mono ?_; rintro y w2 ⟨z0, z1, g2, rfl, hzz, t2, k2, o2⟩; have O2 := Lib.hid o2; clear o2; have HZ := Lib.hid hzz; clear hzz; have r2 := r1.kept k2 (by omega); obtain ⟨cr2_0, cr2_1⟩ := BlkAt.cells2 r2; have fr2_0 := r2.frozen 0; have fr2_1 := r2.frozen 1))
  have TF := (t2.set (b := w.heap.size) (by omega) 0 (.int .i64 z0)).set (b := w.heap.size) (by omega) 1 (.int .i64 z1)
  have KF := ((((K0.out.trans (k1.mono fun _ q => .inl q)).trans (k2.mono fun _ q => .inl q)).set (p := ⟨w.heap.size, 0, none⟩) (.inr (Nat.le_refl _)) (.int .i64 z0)).set (p := ⟨w.heap.size, 1, none⟩) (.inr (Nat.le_refl _)) (.int .i64 z1))
  refine bodyPost_ret (v := .agg #[.int .i64 z0, .int .i64 z1]) (by simp [results, Tryz.results143, go_sem, cr2_0, cr2_1]) rfl ⟨z0, z1, _, rfl, HZ.out, TF, KF.clean, O1.out.bind (fun _ _ => O2.out) O2.out.dead⟩
theorem val_lim {P : Nat → Prop} {w : World} {z0 z1 : Int} (h : (-1 ≤ z0 ∧ z0 ≤ 4294967295) ∧ -1 ≤ z1 ∧ z1 ≤ 4294967295) : Val limE P w [.int .i64 z0, .int .i64 z1] ⟨z0, z1⟩ :=
  fun W _ b o hc => ⟨⟨hc 0 _ rfl, hc 1 _ rfl⟩, by show z0 ≤ _; omega, by show z1 ≤ _; omega⟩
end Go.Proofs.YtekonefnniaheaaGreat
