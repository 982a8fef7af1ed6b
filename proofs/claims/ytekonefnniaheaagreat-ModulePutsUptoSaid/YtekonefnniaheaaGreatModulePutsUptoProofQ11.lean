/- Texts of the proof of ModulePutsUptoProof, part 11. -/
import Derived.Test.YtekonefnniaheaaGreatModulePutsUptoProofQ7
import Derived.Test.YtekonefnniaheaaGreatModulePutsUptoProofQ8
import Derived.Test.YtekonefnniaheaaGreatModulePutsUptoProofQ9
import Derived.Test.YtekonefnniaheaaGreatModulePutsUptoProofQ10
namespace Go.Proofs.YtekonefnniaheaaGreat
open Go.RowKit Go.Deep
open Leb (putU putS)

theorem BlkAt.two {w : World} {b : Nat} {c0 c1 : Value} {T : TypeId} (h : BlkAt w b #[c0, c1] T) : w.cell? ⟨b, 0, none⟩ = some c0 ∧ w.cell? ⟨b, 1, none⟩ = some c1 := ⟨h.cell 0, h.cell 1⟩
theorem BlkAt.three {w : World} {b : Nat} {c0 c1 c2 : Value} {T : TypeId} (h : BlkAt w b #[c0, c1, c2] T) : w.cell? ⟨b, 0, none⟩ = some c0 ∧ w.cell? ⟨b, 1, none⟩ = some c1 ∧ w.cell? ⟨b, 2, none⟩ = some c2 := ⟨h.cell 0, h.cell 1, h.cell 2⟩
theorem BlkAt.seven' {w : World} {b : Nat} {c0 c1 c2 c3 c4 c5 c6 : Value} {T : TypeId} (h : BlkAt w b #[c0, c1, c2, c3, c4, c5, c6] T) :
    w.cell? ⟨b, 0, none⟩ = some c0 ∧ w.cell? ⟨b, 1, none⟩ = some c1 ∧ w.cell? ⟨b, 2, none⟩ = some c2 ∧ w.cell? ⟨b, 3, none⟩ = some c3 ∧ w.cell? ⟨b, 4, none⟩ = some c4 ∧ w.cell? ⟨b, 5, none⟩ = some c5 ∧ w.cell? ⟨b, 6, none⟩ = some c6 :=
  ⟨h.cell 0, h.cell 1, h.cell 2, h.cell 3, h.cell 4, h.cell 5, h.cell 6⟩
theorem BlkAt.nine {w : World} {b : Nat} {c0 c1 c2 c3 c4 c5 c6 c7 c8 : Value} {T : TypeId} (h : BlkAt w b #[c0, c1, c2, c3, c4, c5, c6, c7, c8] T) :
    w.cell? ⟨b, 0, none⟩ = some c0 ∧ w.cell? ⟨b, 1, none⟩ = some c1 ∧ w.cell? ⟨b, 2, none⟩ = some c2 ∧ w.cell? ⟨b, 3, none⟩ = some c3 ∧ w.cell? ⟨b, 4, none⟩ = some c4 ∧ w.cell? ⟨b, 5, none⟩ = some c5 ∧ w.cell? ⟨b, 6, none⟩ = some c6 ∧ w.cell? ⟨b, 7, none⟩ = some c7 ∧ w.cell? ⟨b, 8, none⟩ = some c8 :=
  ⟨h.cell 0, h.cell 1, h.cell 2, h.cell 3, h.cell 4, h.cell 5, h.cell 6, h.cell 7, h.cell 8⟩
def kindP (s : Lay) (k : Int) : Lay := byteP (needP s (decide (0 ≤ k ∧ k ≤ 3))) k
def yesP (s : Lay) (b : Bool) : Lay := byteP s (if b = true then 1 else 0)
def typP (s : Lay) (c : Int) : Lay := byteP (needP s (decide ((typeV c).2 = 0))) c
def instrsP (s : Lay) (ls : List Ins) : Lay := putP (needP s (decide ((putV ls).2 = 0))) (putV ls).1
def constP (s : Lay) (c : Ins) : Lay := instrsP s [c]
def limitsP (s : Lay) (mn mx : Int) : Lay := if mx = -1 then indexP (byteP s 0) mn else indexP (indexP (byteP s 1) mn) mx
def tableP (s : Lay) (mn mx : Int) : Lay := limitsP (byteP s 112) mn mx
def whereP (s : Lay) (n : Int) : Lay := if n = 0 then byteP s 0 else indexP (byteP s 2) n
def rowP (s : Lay) (many typ : Int) : Lay := typP (putP s (putU many)) typ
/-- Is a text one? -/
def validF : Nat → List Int → Bool
  | 0, l => l.isEmpty
  | f + 1, l => l.isEmpty || (Utf.hitB 0 l 1 && validF f (l.drop 1)) || (Utf.hitB 0 l 2 && validF f (l.drop 2)) || (Utf.hitB 0 l 3 && validF f (l.drop 3)) || (Utf.hitB 0 l 4 && validF f (l.drop 4))
def validB (s : ByteArray) : Bool := validF s.size (bl s)
def nameB (s : ByteArray) : Bool := decide (s.size ≤ 100) && validB s
def nameP (s : Lay) (S : ByteArray) : Lay := bytesP (needP s (nameB S)) (bl S)
theorem validF_yes : ∀ (f : Nat) (l : List Int), validF f l = true → ∃ ps, Utf.Reads 0 l ps := by
  intro f
  induction f with
  | zero =>
    intro l h
    have : l = [] := by simpa [validF] using h
    subst this
    exact ⟨[], rfl, rfl, rfl⟩
  | succ f ih =>
    intro l h
    have key : ∀ k, 1 ≤ k → Utf.hitB 0 l k = true → validF f (l.drop k) = true → ∃ ps, Utf.Reads 0 l ps := by
      intro k hk h1 h2
      obtain ⟨hne, hl⟩ := Utf.hit_yes hk h1
      obtain ⟨ps, _, h4, h5⟩ := ih _ h2
      refine ⟨Utf.guessL 0 l k :: ps, rfl, ?_, ?_⟩
      · unfold Utf.allW at h4 ⊢
        rw [List.all_cons, h4, Bool.and_true]
        exact decide_eq_true hne
      · rw [Utf.catL_cons, h5]
        exact hl.symm
    unfold validF at h
    simp only [Bool.or_eq_true, Bool.and_eq_true] at h
    rcases h with (((h | ⟨h1, h2⟩) | ⟨h1, h2⟩) | ⟨h1, h2⟩) | ⟨h1, h2⟩
    · have : l = [] := by simpa using h
      subst this
      exact ⟨[], rfl, rfl, rfl⟩
    · exact key 1 (by decide) h1 h2
    · exact key 2 (by decide) h1 h2
    · exact key 3 (by decide) h1 h2
    · exact key 4 (by decide) h1 h2
theorem validF_of : ∀ (ps : List Int) (f : Nat), (Utf.catL 0 ps).length ≤ f → Utf.allW 0 ps = true → validF f (Utf.catL 0 ps) = true := by
  intro ps
  induction ps with
  | nil =>
    intro f _ _
    cases f <;> rfl
  | cons p ps ih =>
    intro f hf ha
    obtain ⟨h1, h2⟩ := Utf.allW_cons ha
    rw [Utf.catL_cons] at hf ⊢
    have hit := Utf.hit_of (Utf.catL 0 ps) h1
    have h4 := Utf.oneL_length 0 p
    have hpos : 0 < (Utf.oneL 0 p).length := List.length_pos_iff.2 h1
    rw [List.length_append] at hf
    obtain ⟨g, rfl⟩ : ∃ g, f = g + 1 := ⟨f - 1, by omega⟩
    have hr := ih g (by omega) h2
    have hdrop : (Utf.oneL 0 p ++ Utf.catL 0 ps).drop (Utf.oneL 0 p).length = Utf.catL 0 ps := List.drop_left
    unfold validF
    simp only [Bool.or_eq_true, Bool.and_eq_true]
    have hc : (Utf.oneL 0 p).length = 1 ∨ (Utf.oneL 0 p).length = 2 ∨ (Utf.oneL 0 p).length = 3 ∨ (Utf.oneL 0 p).length = 4 := by omega
    rcases hc with h | h | h | h
    all_goals rw [h] at hit hdrop
    · exact .inl (.inl (.inl (.inr ⟨hit, by rw [hdrop]; exact hr⟩)))
    · exact .inl (.inl (.inr ⟨hit, by rw [hdrop]; exact hr⟩))
    · exact .inl (.inr ⟨hit, by rw [hdrop]; exact hr⟩)
    · exact .inr ⟨hit, by rw [hdrop]; exact hr⟩
theorem validB_iff (s : ByteArray) : validB s = true ↔ ∃ ps, Utf.Reads 0 (bl s) ps := by
  constructor
  · exact validF_yes _ _
  · rintro ⟨ps, _, h1, h2⟩
    unfold validB
    rw [← h2]
    exact validF_of ps _ (by rw [h2, bl_length]; exact Nat.le_refl _) h1
theorem Valid_any (s : ByteArray) (w : World) : Calls Tryz.prog 124 #[.string s] w fun e w' => e = .returned (.bool (validB s)) ∧ Below w.heap.size w w' := by
  refine (valid_any s w).mono ?_
  rintro e w' ⟨b, rfl, hb, h | h⟩
  · rw [h.1, (validB_iff s).2 h.2]
    exact ⟨rfl, hb⟩
  · have : validB s = false := not_true fun q => by
      obtain ⟨ps, hp⟩ := (validB_iff s).1 q
      exact h.2 ps hp
    rw [h.1, this]
    exact ⟨rfl, hb⟩
theorem bl_nums {b : List Int} (h : ∀ z ∈ b, 0 ≤ z ∧ z < 256) : bl (strOfNums b) = b := bl_str b fun z hz => by have := h z hz; omega
/-- put of bytes -/
theorem lyPut_nums (W0 : World) (l : Nat) (s : Lay) (v : Value) (b : List Int) (w : World) (h : LyAt W0 l s v w) (hb : ∀ z ∈ b, 0 ≤ z ∧ z < 256) :
    Calls Tryz.prog 27 #[.pointer (some ⟨l, 0, none⟩), .string (strOfNums b)] w fun e w' => Does W0 l (putP s b) w e w' := by
  have := lyPut_any W0 l s v (strOfNums b) w h
  rwa [bl_nums hb] at this

set_option maxRecDepth 100000 in
theorem lyByte_any (W0 : World) (l : Nat) (s : Lay) (v : Value) (n : Int) (w : World) (h : LyAt W0 l s v w) :
    Calls Tryz.prog 73 #[.pointer (some ⟨l, 0, none⟩), .int .i64 n] w fun e w' => Does W0 l (byteP s n) w e w' := by
  have hu : IntKind.u8.wrap n = n % 256 := by
    simp [IntKind.wrap, IntKind.signed, IntKind.bits]
  have hcv := one_conv (n % 256) w
  have st0 := h.alloc (.cells #[.int .u8 (n % 256)] 5)
  have kp0 := h.alloc_keep (.cells #[.int .u8 (n % 256)] 5)
  have HB : Hid (∀ z ∈ [n % 256], 0 ≤ z ∧ z < 256) := Lib.hid (by intro z hz; rw [List.mem_singleton.1 hz]; omega)
  unfold byteP
  clear h
  go_enter Tryz.func73, Tryz.ntmps73
  go_wp2_with (go_at_call 27; refine (lyPut_nums W0 l s _ [n % 256] _ st0 HB.out).mono ?_; rintro e w1 ⟨rfl, ⟨v1, st1⟩, kk1⟩)
  exact bodyPost_void rfl rfl ⟨rfl, ⟨_, st1⟩, kp0.trans kk1⟩
set_option maxRecDepth 100000 in
set_option maxHeartbeats 2000000 in
theorem lyBytes_any (W0 : World) (l : Nat) (s : Lay) (v : Value) (S : ByteArray) (w : World) (h : LyAt W0 l s v w) (hS : S.size ≤ maxLen) :
    Calls Tryz.prog 107 #[.pointer (some ⟨l, 0, none⟩), .string S] w fun e w' => Does W0 l (bytesP s (bl S)) w e w' := by
  have st0 := h
  have kp0 := KeepL.refl l w
  unfold bytesP
  rw [bl_length]
  have HS1 : Hid ((S.size : Int) ≤ 9223372036854775807) := Lib.hid (by unfold maxLen at hS; omega)
  clear hS
  clear h 
  go_enter Tryz.func107, Tryz.ntmps107
  go_wp2_with (first | (go_at_call 86; refine (PutU_any (S.size : Int) _ HS1.out).mono ?_; rintro e w1 ⟨rfl, hb1⟩; have st1 := st0.next hb1; have kk1 := KeepL.of_below st0.lt hb1; have kp1 := kp0.trans kk1; clear st0 kp0) | (go_at_call 27; refine (lyPut_nums W0 l s _ (putU (S.size : Int)) _ st1 (Leb.putU_byte _)).mono ?_; rintro e w2 ⟨rfl, ⟨v2, st2⟩, kk2⟩; have kp2 := kp1.trans kk2; clear st1 kp1) | (go_at_call 27; refine (lyPut_any W0 l _ _ S _ st2).mono ?_; rintro e w3 ⟨rfl, ⟨v3, st3⟩, kk3⟩; have kp3 := kp2.trans kk3; clear st2 kp2))
  first | exact bodyPost_void rfl rfl ⟨rfl, ⟨_, st3⟩, kp3⟩ | exact bodyPost_voidr rfl rfl ⟨rfl, ⟨_, st3⟩, kp3⟩
set_option maxRecDepth 100000 in
set_option maxHeartbeats 2000000 in
theorem lyIndex_any (W0 : World) (l : Nat) (s : Lay) (v : Value) (n : Int) (w : World) (h : LyAt W0 l s v w) (hn : n ≤ 9223372036854775807) :
    Calls Tryz.prog 34 #[.pointer (some ⟨l, 0, none⟩), .int .i64 n] w fun e w' => Does W0 l (indexP s n) w e w' := by
  have st0 := h
  have kp0 := KeepL.refl l w
  unfold indexP
  by_cases hcfalse : n < 0
  · have t1 : ¬ (0 : Int) ≤ n := by omega
    have HD : decide (0 ≤ n ∧ n ≤ 4294967295) = false := decide_eq_false (by omega)
    rw [HD]
    clear h HD hcfalse
    go_enter Tryz.func34, Tryz.ntmps34
    go_wp2_with (first | (go_at_call 28; refine (lyNeed_any W0 l s _ false _ st0).mono ?_; rintro e w1 ⟨rfl, ⟨v1, st1⟩, kk1⟩; have kp1 := kp0.trans kk1; clear st0 kp0) | (go_at_call 86; refine (PutU_any n _ hn).mono ?_; rintro e w2 ⟨rfl, hb2⟩; have st2 := st1.next hb2; have kk2 := KeepL.of_below st1.lt hb2; have kp2 := kp1.trans kk2; clear st1 kp1) | (go_at_call 27; refine (lyPut_nums W0 l _ _ (putU n) _ st2 (Leb.putU_byte _)).mono ?_; rintro e w3 ⟨rfl, ⟨v3, st3⟩, kk3⟩; have kp3 := kp2.trans kk3; clear st2 kp2))
    first | exact bodyPost_void rfl rfl ⟨rfl, ⟨_, st3⟩, kp3⟩ | exact bodyPost_voidr rfl rfl ⟨rfl, ⟨_, st3⟩, kp3⟩
  by_cases hcfalse : 4294967295 < n
  · have t1 : (0 : Int) ≤ n := by omega
    have t2 : ¬ n ≤ (4294967295 : Int) := by omega
    have HD : decide (0 ≤ n ∧ n ≤ 4294967295) = false := decide_eq_false (by omega)
    rw [HD]
    clear h HD hcfalse
    go_enter Tryz.func34, Tryz.ntmps34
    go_wp2_with (first | (go_at_call 28; refine (lyNeed_any W0 l s _ false _ st0).mono ?_; rintro e w1 ⟨rfl, ⟨v1, st1⟩, kk1⟩; have kp1 := kp0.trans kk1; clear st0 kp0) | (go_at_call 86; refine (PutU_any n _ hn).mono ?_; rintro e w2 ⟨rfl, hb2⟩; have st2 := st1.next hb2; have kk2 := KeepL.of_below st1.lt hb2; have kp2 := kp1.trans kk2; clear st1 kp1) | (go_at_call 27; refine (lyPut_nums W0 l _ _ (putU n) _ st2 (Leb.putU_byte _)).mono ?_; rintro e w3 ⟨rfl, ⟨v3, st3⟩, kk3⟩; have kp3 := kp2.trans kk3; clear st2 kp2))
    first | exact bodyPost_void rfl rfl ⟨rfl, ⟨_, st3⟩, kp3⟩ | exact bodyPost_voidr rfl rfl ⟨rfl, ⟨_, st3⟩, kp3⟩
  have t1 : (0 : Int) ≤ n := by omega
  have t2 : n ≤ (4294967295 : Int) := by omega
  have HD : decide (0 ≤ n ∧ n ≤ 4294967295) = true := decide_eq_true (by omega)
  rw [HD]
  clear h HD hcfalse
  go_enter Tryz.func34, Tryz.ntmps34
  go_wp2_with (first | (go_at_call 28; refine (lyNeed_any W0 l s _ true _ st0).mono ?_; rintro e w1 ⟨rfl, ⟨v1, st1⟩, kk1⟩; have kp1 := kp0.trans kk1; clear st0 kp0) | (go_at_call 86; refine (PutU_any n _ hn).mono ?_; rintro e w2 ⟨rfl, hb2⟩; have st2 := st1.next hb2; have kk2 := KeepL.of_below st1.lt hb2; have kp2 := kp1.trans kk2; clear st1 kp1) | (go_at_call 27; refine (lyPut_nums W0 l _ _ (putU n) _ st2 (Leb.putU_byte _)).mono ?_; rintro e w3 ⟨rfl, ⟨v3, st3⟩, kk3⟩; have kp3 := kp2.trans kk3; clear st2 kp2))
  first | exact bodyPost_void rfl rfl ⟨rfl, ⟨_, st3⟩, kp3⟩ | exact bodyPost_voidr rfl rfl ⟨rfl, ⟨_, st3⟩, kp3⟩
set_option maxRecDepth 100000 in
set_option maxHeartbeats 2000000 in
theorem lyKind_any (W0 : World) (l : Nat) (s : Lay) (v : Value) (n : Int) (w : World) (h : LyAt W0 l s v w) (hn : n ≤ 9223372036854775807) :
    Calls Tryz.prog 82 #[.pointer (some ⟨l, 0, none⟩), .int .i64 n] w fun e w' => Does W0 l (kindP s n) w e w' := by
  have st0 := h
  have kp0 := KeepL.refl l w
  unfold kindP
  by_cases hcfalse : n < 0
  · have t1 : ¬ (0 : Int) ≤ n := by omega
    have HD : decide (0 ≤ n ∧ n ≤ 3) = false := decide_eq_false (by omega)
    rw [HD]
    clear h HD hcfalse
    go_enter Tryz.func82, Tryz.ntmps82
    go_wp2_with (first | (go_at_call 28; refine (lyNeed_any W0 l s _ false _ st0).mono ?_; rintro e w1 ⟨rfl, ⟨v1, st1⟩, kk1⟩; have kp1 := kp0.trans kk1; clear st0 kp0) | (go_at_call 73; refine (lyByte_any W0 l _ _ n _ st1).mono ?_; rintro e w2 ⟨rfl, ⟨v2, st2⟩, kk2⟩; have kp2 := kp1.trans kk2; clear st1 kp1))
    first | exact bodyPost_void rfl rfl ⟨rfl, ⟨_, st2⟩, kp2⟩ | exact bodyPost_voidr rfl rfl ⟨rfl, ⟨_, st2⟩, kp2⟩
  by_cases hcfalse : 3 < n
  · have t1 : (0 : Int) ≤ n := by omega
    have t2 : ¬ n ≤ (3 : Int) := by omega
    have HD : decide (0 ≤ n ∧ n ≤ 3) = false := decide_eq_false (by omega)
    rw [HD]
    clear h HD hcfalse
    go_enter Tryz.func82, Tryz.ntmps82
    go_wp2_with (first | (go_at_call 28; refine (lyNeed_any W0 l s _ false _ st0).mono ?_; rintro e w1 ⟨rfl, ⟨v1, st1⟩, kk1⟩; have kp1 := kp0.trans kk1; clear st0 kp0) | (go_at_call 73; refine (lyByte_any W0 l _ _ n _ st1).mono ?_; rintro e w2 ⟨rfl, ⟨v2, st2⟩, kk2⟩; have kp2 := kp1.trans kk2; clear st1 kp1))
    first | exact bodyPost_void rfl rfl ⟨rfl, ⟨_, st2⟩, kp2⟩ | exact bodyPost_voidr rfl rfl ⟨rfl, ⟨_, st2⟩, kp2⟩
  have t1 : (0 : Int) ≤ n := by omega
  have t2 : n ≤ (3 : Int) := by omega
  have HD : decide (0 ≤ n ∧ n ≤ 3) = true := decide_eq_true (by omega)
  rw [HD]
  clear h HD hcfalse
  go_enter Tryz.func82, Tryz.ntmps82
  go_wp2_with (first | (go_at_call 28; refine (lyNeed_any W0 l s _ true _ st0).mono ?_; rintro e w1 ⟨rfl, ⟨v1, st1⟩, kk1⟩; have kp1 := kp0.trans kk1; clear st0 kp0) | (go_at_call 73; refine (lyByte_any W0 l _ _ n _ st1).mono ?_; rintro e w2 ⟨rfl, ⟨v2, st2⟩, kk2⟩; have kp2 := kp1.trans kk2; clear st1 kp1))
  first | exact bodyPost_void rfl rfl ⟨rfl, ⟨_, st2⟩, kp2⟩ | exact bodyPost_voidr rfl rfl ⟨rfl, ⟨_, st2⟩, kp2⟩
set_option maxRecDepth 100000 in
set_option maxHeartbeats 2000000 in
theorem lyYes_any (W0 : World) (l : Nat) (s : Lay) (v : Value) (b : Bool) (w : World) (h : LyAt W0 l s v w) :
    Calls Tryz.prog 83 #[.pointer (some ⟨l, 0, none⟩), .bool b] w fun e w' => Does W0 l (yesP s b) w e w' := by
  have st0 := h
  have kp0 := KeepL.refl l w
  unfold yesP
  cases b with
  | true =>
    rw [if_pos rfl]
    clear h 
    go_enter Tryz.func83, Tryz.ntmps83
    go_wp2_with (first | (go_at_call 73; refine (lyByte_any W0 l _ _ (1) _ st0).mono ?_; rintro e w1 ⟨rfl, ⟨v1, st1⟩, kk1⟩; have kp1 := kp0.trans kk1; clear st0 kp0))
    first | exact bodyPost_void rfl rfl ⟨rfl, ⟨_, st1⟩, kp1⟩ | exact bodyPost_voidr rfl rfl ⟨rfl, ⟨_, st1⟩, kp1⟩
  | false =>
    rw [if_neg (by decide)]
    clear h 
    go_enter Tryz.func83, Tryz.ntmps83
    go_wp2_with (first | (go_at_call 73; refine (lyByte_any W0 l _ _ (0) _ st0).mono ?_; rintro e w1 ⟨rfl, ⟨v1, st1⟩, kk1⟩; have kp1 := kp0.trans kk1; clear st0 kp0))
    first | exact bodyPost_void rfl rfl ⟨rfl, ⟨_, st1⟩, kp1⟩ | exact bodyPost_voidr rfl rfl ⟨rfl, ⟨_, st1⟩, kp1⟩
set_option maxRecDepth 100000 in
set_option maxHeartbeats 2000000 in
theorem lyWhere_any (W0 : World) (l : Nat) (s : Lay) (v : Value) (n : Int) (w : World) (h : LyAt W0 l s v w) (hn : n ≤ 9223372036854775807) :
    Calls Tryz.prog 97 #[.pointer (some ⟨l, 0, none⟩), .int .i64 n] w fun e w' => Does W0 l (whereP s n) w e w' := by
  have st0 := h
  have kp0 := KeepL.refl l w
  unfold whereP
  by_cases h0 : n = 0
  ·
    rw [if_pos h0]
    subst h0
    clear h 
    go_enter Tryz.func97, Tryz.ntmps97
    go_wp2_with (first | (go_at_call 73; refine (lyByte_any W0 l _ _ (0) _ st0).mono ?_; rintro e w1 ⟨rfl, ⟨v1, st1⟩, kk1⟩; have kp1 := kp0.trans kk1; clear st0 kp0))
    first | exact bodyPost_void rfl rfl ⟨rfl, ⟨_, st1⟩, kp1⟩ | exact bodyPost_voidr rfl rfl ⟨rfl, ⟨_, st1⟩, kp1⟩
  ·
    rw [if_neg h0]
    have t0 := eq_no h0
    clear h0
    clear h 
    go_enter Tryz.func97, Tryz.ntmps97
    go_wp2_with (first | (go_at_call 73; refine (lyByte_any W0 l _ _ (2) _ st0).mono ?_; rintro e w1 ⟨rfl, ⟨v1, st1⟩, kk1⟩; have kp1 := kp0.trans kk1; clear st0 kp0) | (go_at_call 34; refine (lyIndex_any W0 l _ _ (n) _ st1 hn).mono ?_; rintro e w2 ⟨rfl, ⟨v2, st2⟩, kk2⟩; have kp2 := kp1.trans kk2; clear st1 kp1))
    first | exact bodyPost_void rfl rfl ⟨rfl, ⟨_, st2⟩, kp2⟩ | exact bodyPost_voidr rfl rfl ⟨rfl, ⟨_, st2⟩, kp2⟩
set_option maxRecDepth 100000 in
set_option maxHeartbeats 2000000 in
theorem lyTyp_any (W0 : World) (l : Nat) (s : Lay) (v : Value) (c : Int) (w : World) (h : LyAt W0 l s v w) :
    Calls Tryz.prog 78 #[.pointer (some ⟨l, 0, none⟩), .int .i64 c] w fun e w' => Does W0 l (typP s c) w e w' := by
  have st0 := h
  have kp0 := KeepL.refl l w
  unfold typP
  have HT := Lib.hid (fun w => type_any c w)
  have HD : decide ((typeV c).2 = 0) = ((typeV c).2 == 0) := by by_cases q : (typeV c).2 = 0 <;> simp [q]
  rw [HD]
  revert HT
  generalize (typeV c).1 = t
  generalize (typeV c).2 = f
  intro HT
  clear h 
  go_enter Tryz.func78, Tryz.ntmps78
  go_wp2_with (first | (go_at_call 123; refine (HT.out _).mono ?_; rintro e w9 ⟨rfl, rfl⟩) | (go_at_call 28; refine (lyNeed_any W0 l s _ (f == 0) _ st0).mono ?_; rintro e w1 ⟨rfl, ⟨v1, st1⟩, kk1⟩; have kp1 := kp0.trans kk1; clear st0 kp0) | (go_at_call 73; refine (lyByte_any W0 l _ _ (c) _ st1).mono ?_; rintro e w2 ⟨rfl, ⟨v2, st2⟩, kk2⟩; have kp2 := kp1.trans kk2; clear st1 kp1))
  first | exact bodyPost_void rfl rfl ⟨rfl, ⟨_, st2⟩, kp2⟩ | exact bodyPost_voidr rfl rfl ⟨rfl, ⟨_, st2⟩, kp2⟩
set_option maxRecDepth 100000 in
set_option maxHeartbeats 2000000 in
theorem lyName_any (W0 : World) (l : Nat) (s : Lay) (v : Value) (S : ByteArray) (w : World) (h : LyAt W0 l s v w) (hS : S.size ≤ maxLen) :
    Calls Tryz.prog 81 #[.pointer (some ⟨l, 0, none⟩), .string S] w fun e w' => Does W0 l (nameP s S) w e w' := by
  have st0 := h
  have kp0 := KeepL.refl l w
  unfold nameP nameB
  have HS := Lib.hid hS
  by_cases hc : 100 < S.size
  · have t1 : ¬ (S.size : Int) ≤ 100 := by omega
    rw [decide_eq_false (by omega), Bool.false_and]
    clear h hc hS
    go_enter Tryz.func81, Tryz.ntmps81
    go_wp2_with (first | (go_at_call 28; refine (lyNeed_any W0 l s _ false _ st0).mono ?_; rintro e w1 ⟨rfl, ⟨v1, st1⟩, kk1⟩; have kp1 := kp0.trans kk1; clear st0 kp0) | (go_at_call 107; refine (lyBytes_any W0 l _ _ S _ st1 HS.out).mono ?_; rintro e w2 ⟨rfl, ⟨v2, st2⟩, kk2⟩; have kp2 := kp1.trans kk2; clear st1 kp1))
    first | exact bodyPost_void rfl rfl ⟨rfl, ⟨_, st2⟩, kp2⟩ | exact bodyPost_voidr rfl rfl ⟨rfl, ⟨_, st2⟩, kp2⟩
  · have t1 : (S.size : Int) ≤ 100 := by omega
    rw [decide_eq_true (by omega), Bool.true_and]
    have HV := Lib.hid (Valid_any S)
    revert HV
    generalize validB S = b
    intro HV
    clear h hc hS
    go_enter Tryz.func81, Tryz.ntmps81
    go_wp2_with (first | (go_at_call 124; refine (HV.out _).mono ?_; rintro e w1 ⟨rfl, hb1⟩; have st1 := st0.next hb1; have kk1 := KeepL.of_below st0.lt hb1; have kp1 := kp0.trans kk1; clear st0 kp0) | (go_at_call 28; refine (lyNeed_any W0 l s _ b _ st1).mono ?_; rintro e w2 ⟨rfl, ⟨v2, st2⟩, kk2⟩; have kp2 := kp1.trans kk2; clear st1 kp1) | (go_at_call 107; refine (lyBytes_any W0 l _ _ S _ st2 HS.out).mono ?_; rintro e w3 ⟨rfl, ⟨v3, st3⟩, kk3⟩; have kp3 := kp2.trans kk3; clear st2 kp2))
    first | exact bodyPost_void rfl rfl ⟨rfl, ⟨_, st3⟩, kp3⟩ | exact bodyPost_voidr rfl rfl ⟨rfl, ⟨_, st3⟩, kp3⟩
set_option maxRecDepth 100000 in
set_option maxHeartbeats 2000000 in
theorem lyLimits_any (W0 : World) (l : Nat) (s : Lay) (v : Value) (mn mx : Int) (w : World) (h : LyAt W0 l s v w) (hmn : mn ≤ 9223372036854775807) (hmx : mx ≤ 9223372036854775807) :
    Calls Tryz.prog 37 #[.pointer (some ⟨l, 0, none⟩), .agg #[.int .i64 mn, .int .i64 mx]] w fun e w' => Does W0 l (limitsP s mn mx) w e w' := by
  have st0 := h.alloc (.cells #[.int .i64 mn, .int .i64 mx] 83)
  have kp0 := h.alloc_keep (.cells #[.int .i64 mn, .int .i64 mx] 83)
  have bx0 := h.own #[.int .i64 mn, .int .i64 mx] 83
  obtain ⟨bxc0_0, bxc0_1⟩ := bx0.blk.two
  unfold limitsP
  by_cases h0 : mx = -1
  ·
    rw [if_pos h0]
    have t0 : (mx == -1) = true := by simpa using h0
    clear h0
    clear h 
    go_enter Tryz.func37, Tryz.ntmps37
    go_wp2_with (first | (go_at_call 73; refine (lyByte_any W0 l _ _ (0) _ st0).mono ?_; rintro e w1 ⟨rfl, ⟨v1, st1⟩, kk1⟩; have kp1 := kp0.trans kk1; have bx1 := bx0.keep kk1; obtain ⟨bxc1_0, bxc1_1⟩ := bx1.blk.two; clear st0 kp0) | (go_at_call 34; refine (lyIndex_any W0 l _ _ (mn) _ st1 hmn).mono ?_; rintro e w2 ⟨rfl, ⟨v2, st2⟩, kk2⟩; have kp2 := kp1.trans kk2; have bx2 := bx1.keep kk2; obtain ⟨bxc2_0, bxc2_1⟩ := bx2.blk.two; clear st1 kp1))
    first | exact bodyPost_void rfl rfl ⟨rfl, ⟨_, st2⟩, kp2⟩ | exact bodyPost_voidr rfl rfl ⟨rfl, ⟨_, st2⟩, kp2⟩
  ·
    rw [if_neg h0]
    have t0 := eq_no h0
    clear h0
    clear h 
    go_enter Tryz.func37, Tryz.ntmps37
    go_wp2_with (first | (go_at_call 73; refine (lyByte_any W0 l _ _ (1) _ st0).mono ?_; rintro e w1 ⟨rfl, ⟨v1, st1⟩, kk1⟩; have kp1 := kp0.trans kk1; have bx1 := bx0.keep kk1; obtain ⟨bxc1_0, bxc1_1⟩ := bx1.blk.two; clear st0 kp0) | (go_at_call 34; refine (lyIndex_any W0 l _ _ (mn) _ st1 hmn).mono ?_; rintro e w2 ⟨rfl, ⟨v2, st2⟩, kk2⟩; have kp2 := kp1.trans kk2; have bx2 := bx1.keep kk2; obtain ⟨bxc2_0, bxc2_1⟩ := bx2.blk.two; clear st1 kp1) | (go_at_call 34; refine (lyIndex_any W0 l _ _ (mx) _ st2 hmx).mono ?_; rintro e w3 ⟨rfl, ⟨v3, st3⟩, kk3⟩; have kp3 := kp2.trans kk3; have bx3 := bx2.keep kk3; obtain ⟨bxc3_0, bxc3_1⟩ := bx3.blk.two; clear st2 kp2))
    first | exact bodyPost_void rfl rfl ⟨rfl, ⟨_, st3⟩, kp3⟩ | exact bodyPost_voidr rfl rfl ⟨rfl, ⟨_, st3⟩, kp3⟩
set_option maxRecDepth 100000 in
set_option maxHeartbeats 2000000 in
theorem lyTable_any (W0 : World) (l : Nat) (s : Lay) (v : Value) (mn mx : Int) (w : World) (h : LyAt W0 l s v w) (hmn : mn ≤ 9223372036854775807) (hmx : mx ≤ 9223372036854775807) :
    Calls Tryz.prog 36 #[.pointer (some ⟨l, 0, none⟩), .agg #[.int .i64 mn, .int .i64 mx]] w fun e w' => Does W0 l (tableP s mn mx) w e w' := by
  have st0 := h.alloc (.cells #[.int .i64 mn, .int .i64 mx] 83)
  have kp0 := h.alloc_keep (.cells #[.int .i64 mn, .int .i64 mx] 83)
  have bx0 := h.own #[.int .i64 mn, .int .i64 mx] 83
  obtain ⟨bxc0_0, bxc0_1⟩ := bx0.blk.two
  unfold tableP
  clear h 
  go_enter Tryz.func36, Tryz.ntmps36
  go_wp2_with (first | (go_at_call 73; refine (lyByte_any W0 l _ _ (112) _ st0).mono ?_; rintro e w1 ⟨rfl, ⟨v1, st1⟩, kk1⟩; have kp1 := kp0.trans kk1; have bx1 := bx0.keep kk1; obtain ⟨bxc1_0, bxc1_1⟩ := bx1.blk.two; clear st0 kp0) | (go_at_call 37; refine (lyLimits_any W0 l _ _ mn mx _ st1 hmn hmx).mono ?_; rintro e w2 ⟨rfl, ⟨v2, st2⟩, kk2⟩; have kp2 := kp1.trans kk2; have bx2 := bx1.keep kk2; obtain ⟨bxc2_0, bxc2_1⟩ := bx2.blk.two; clear st1 kp1))
  first | exact bodyPost_void rfl rfl ⟨rfl, ⟨_, st2⟩, kp2⟩ | exact bodyPost_voidr rfl rfl ⟨rfl, ⟨_, st2⟩, kp2⟩
set_option maxRecDepth 100000 in
set_option maxHeartbeats 2000000 in
theorem lyRow_any (W0 : World) (l : Nat) (s : Lay) (v : Value) (many typ : Int) (w : World) (h : LyAt W0 l s v w) (hm : many ≤ 9223372036854775807) :
    Calls Tryz.prog 103 #[.pointer (some ⟨l, 0, none⟩), .agg #[.int .i64 many, .int .i64 typ]] w fun e w' => Does W0 l (rowP s many typ) w e w' := by
  have st0 := h.alloc (.cells #[.int .i64 many, .int .i64 typ] 136)
  have kp0 := h.alloc_keep (.cells #[.int .i64 many, .int .i64 typ] 136)
  have bx0 := h.own #[.int .i64 many, .int .i64 typ] 136
  obtain ⟨bxc0_0, bxc0_1⟩ := bx0.blk.two
  unfold rowP
  clear h 
  go_enter Tryz.func103, Tryz.ntmps103
  go_wp2_with (first | (go_at_call 86; refine (PutU_any many _ hm).mono ?_; rintro e w1 ⟨rfl, hb1⟩; have st1 := st0.next hb1; have kk1 := KeepL.of_below st0.lt hb1; have kp1 := kp0.trans kk1; have bx1 := bx0.keep kk1; obtain ⟨bxc1_0, bxc1_1⟩ := bx1.blk.two; clear st0 kp0) | (go_at_call 27; refine (lyPut_nums W0 l _ _ (putU many) _ st1 (Leb.putU_byte _)).mono ?_; rintro e w2 ⟨rfl, ⟨v2, st2⟩, kk2⟩; have kp2 := kp1.trans kk2; have bx2 := bx1.keep kk2; obtain ⟨bxc2_0, bxc2_1⟩ := bx2.blk.two; clear st1 kp1) | (go_at_call 78; refine (lyTyp_any W0 l _ _ typ _ st2).mono ?_; rintro e w3 ⟨rfl, ⟨v3, st3⟩, kk3⟩; have kp3 := kp2.trans kk3; have bx3 := bx2.keep kk3; obtain ⟨bxc3_0, bxc3_1⟩ := bx3.blk.two; clear st2 kp2))
  first | exact bodyPost_void rfl rfl ⟨rfl, ⟨_, st3⟩, kp3⟩ | exact bodyPost_voidr rfl rfl ⟨rfl, ⟨_, st3⟩, kp3⟩
end Go.Proofs.YtekonefnniaheaaGreat
/- What is laid is read as it was, and cut off it is none: numbers, rows, types. -/
namespace Go.Proofs.YtekonefnniaheaaGreat
open Go.RowKit
open Leb (byt byt_lt byt_get len7 sum7 sg7 putU putS)

/-- These bytes are read as x, with whatever behind them; cut off they have no end. -/
def Enc {X : Type} (R : ByteArray → Except Int (X × ByteArray)) (x : X) (b : List Int) : Prop :=
  (∀ more, R (strOfNums b ++ more) = .ok (x, more)) ∧ ∀ k, k < b.length → R (strOfNums (b.take k)) = .error 2
theorem nums_app (x y : List Int) (more : ByteArray) : strOfNums (x ++ y) ++ more = strOfNums x ++ (strOfNums y ++ more) := by
  rw [← strOfNums_app, ByteArray.append_assoc]
theorem nums_nil (more : ByteArray) : strOfNums [] ++ more = more := ByteArray.empty_append
theorem enc_bind {X Y : Type} {R : ByteArray → Except Int (X × ByteArray)} {R2 : X × ByteArray → Except Int (Y × ByteArray)} {x : X} {y : Y} {b1 b2 : List Int} (h1 : Enc R x b1) (h2 : Enc (fun s => R2 (x, s)) y b2) : Enc (fun s => (R s).bind R2) y (b1 ++ b2) := by
  refine ⟨fun more => ?_, fun k hk => ?_⟩
  · show (R (strOfNums (b1 ++ b2) ++ more)).bind R2 = _
    rw [nums_app, h1.1]
    exact h2.1 more
  · show (R (strOfNums ((b1 ++ b2).take k))).bind R2 = _
    by_cases hl : k < b1.length
    · rw [List.take_append_of_le_length (by omega), h1.2 k hl]
      rfl
    · rw [List.take_append, List.take_of_length_le (by omega), ← strOfNums_app, h1.1]
      rw [List.length_append] at hk
      exact h2.2 (k - b1.length) (by omega)
theorem enc_ok {X : Type} (x : X) : Enc (fun s => (.ok (x, s) : Except Int (X × ByteArray))) x [] :=
  ⟨fun more => by rw [nums_nil], fun _ hk => absurd hk (by simp)⟩
/-- Bytes that are laid, cut off. -/
theorem laid_cut {l : List Int} {more : ByteArray} (h : Leb.Laid l more) {k : Nat} (hk : k < l.length) (most : Nat) : len7 (strOfNums (l.take k)) most = 0 := by
  rcases Leb.len7_prop (strOfNums (l.take k)) most with h0 | ⟨h1, h2, h3, h4, _⟩
  · exact h0
  · exfalso
    have hs : (strOfNums (l.take k)).size = k := by rw [strOfNums_size, List.length_take]; omega
    rw [hs] at h3
    have hb := h.others (len7 (strOfNums (l.take k)) most - 1) (by omega)
    have e : byt (strOfNums (l.take k)) (len7 (strOfNums (l.take k)) most - 1) = byt (strOfNums l ++ more) (len7 (strOfNums (l.take k)) most - 1) := by
      have hj : len7 (strOfNums (l.take k)) most - 1 < k := by omega
      revert hj
      generalize len7 (strOfNums (l.take k)) most - 1 = j
      intro hj
      unfold byt
      rw [ByteArray.data_append, Array.toList_append, strOfNums_data, strOfNums_data]
      rw [List.getD_eq_getElem?_getD, List.getD_eq_getElem?_getD, List.getElem?_append_left (by rw [List.length_map]; omega)]
      rw [List.map_take, List.getElem?_take, if_pos (by omega)]
    omega
theorem uT_of {s r : ByteArray} {n : Int} (h : uTup s = .tuple #[.int .i64 n, .string r, .int .i64 0]) : uT s = .ok (n, r) := by
  unfold uTup at h
  simp only [Value.tuple.injEq, Array.mk.injEq, List.cons.injEq, Value.int.injEq, Value.string.injEq, true_and, and_true] at h
  obtain ⟨h1, h2, h3⟩ := h
  have hok : okU s = true := by
    unfold uE at h3
    split at h3
    · assumption
    · cases h3
  unfold uT
  rw [if_pos hok, h1, h2]
theorem uT_none {s : ByteArray} (h : len7 s 5 = 0) : uT s = .error 2 := by
  unfold uT
  rw [okU_none h]
  rfl
theorem enc_u {n : Int} (h0 : 0 ≤ n) (h1 : n ≤ 4294967295) : Enc uT n (putU n) :=
  ⟨fun more => uT_of (back_U more h0 (by omega)), fun _ hk => uT_none (laid_cut (Leb.putU_laid n ⟨#[]⟩ h0 (by omega)).1 hk 5)⟩
theorem byt_one (c : Int) (more : ByteArray) (h1 : c < 256) : byt (strOfNums [c] ++ more) 0 = c.toNat := Leb.byt_head c [] more h1
theorem ext_one (c : Int) (more : ByteArray) : (strOfNums [c] ++ more).extract 1 (strOfNums [c] ++ more).size = more := ext_app [c] more
theorem size_one (c : Int) (more : ByteArray) : (strOfNums [c] ++ more).size = 1 + more.size := by rw [Leb.size_app]; rfl
end Go.Proofs.YtekonefnniaheaaGreat

/- What is laid is read as it was, and cut off it is none: an opcode, an instruction's numbers. -/
namespace Go.Proofs.YtekonefnniaheaaGreat
open Go.RowKit
open Leb (byt byt_lt byt_get len7 sum7 sg7 putU putS)

/-- The opcodes that there are. -/
theorem ops_in {op : Int} (h : (shapeV op).2 = 0) : (0 ≤ op ∧ op ≤ 255 ∧ op ≠ 252 ∧ op ≠ 11 ∧ op ≠ 5) ∨ (64512 ≤ op ∧ op ≤ 65000) := by
  by_cases hm : op ∈ nameOps
  · have key : ∀ op ∈ nameOps, (0 ≤ op ∧ op ≤ 255 ∧ op ≠ 252 ∧ op ≠ 11 ∧ op ≠ 5) ∨ (64512 ≤ op ∧ op ≤ 65000) := by decide
    exact key op hm
  · rw [shapeV_other hm] at h
    by_cases hs : 0 < (Num.sig op).1
    · rcases Num.sig_cases op with ⟨h, k⟩ | ⟨h, h', k⟩ | ⟨h, k⟩ | ⟨h, k⟩ | ⟨h, k⟩ | ⟨h, k⟩ | ⟨h, h', k⟩ | ⟨h, h', k⟩ | ⟨h, k⟩ | ⟨h, k⟩ | ⟨h, h', k⟩ | ⟨h, h', k⟩ | ⟨h, h', k⟩ | ⟨h, h', k⟩ | ⟨h, k⟩
      all_goals first
        | (left; omega)
        | (exfalso
           unfold Num.sigTup Num.tup3 at k
           simp only [Value.tuple.injEq, Array.mk.injEq, List.cons.injEq, Value.int.injEq, true_and] at k
           omega)
    rw [if_neg hs] at h
    by_cases hw : 0 < (Mem.width op).1
    · have hm2 : op ∈ Mem.wOps := by
        by_cases q : op ∈ Mem.wOps
        · exact q
        · unfold Mem.width at hw
          rw [if_neg q] at hw
          exact absurd hw (by decide)
      have key : ∀ op ∈ Mem.wOps, (0 ≤ op ∧ op ≤ 255 ∧ op ≠ 252 ∧ op ≠ 11 ∧ op ≠ 5) ∨ (64512 ≤ op ∧ op ≤ 65000) := by decide
      exact key op hm2
    rw [if_neg hw] at h
    split at h
    · cases h
    split at h
    · cases h
    · cases h
end Go.Proofs.YtekonefnniaheaaGreat

/- What is laid is read as it was, and cut off it is none: instructions. -/
namespace Go.Proofs.YtekonefnniaheaaGreat
open Go.RowKit
open Leb (byt byt_lt byt_get len7 sum7 sg7 putU putS)

theorem size_nums (l : List Int) (more : ByteArray) : (strOfNums l ++ more).size = l.length + more.size := Leb.size_app l more
end Go.Proofs.YtekonefnniaheaaGreat
namespace Go.Proofs.YtekonefnniaheaaGreat
open Go.RowKit Go.Deep
open Leb (putU putS)

mutual
theorem putI_byte : ∀ c : Ins, ∀ z ∈ putI c, 0 ≤ z ∧ z < 256
  | .mk op a b m n l e => by
    have h1 := putL_byte l
    have h2 := putL_byte e
    rw [putI]
    refine app_byte (opB_byte op) (app_byte (fldB_byte _ a b m n) ?_)
    split
    · refine app_byte h1 (app_byte ?_ (by intro z hz; rw [List.mem_singleton.1 hz]; omega))
      split
      · intro z hz; cases hz
      · intro z hz
        rcases List.mem_cons.1 hz with rfl | q
        · omega
        · exact h2 z q
    · intro z hz; cases hz
theorem putL_byte : ∀ l : List Ins, ∀ z ∈ putL l, 0 ≤ z ∧ z < 256
  | [] => by intro z hz; rw [putL] at hz; cases hz
  | c :: r => by
    rw [putL]
    exact app_byte (putI_byte c) (putL_byte r)
end
theorem putV_byte (ls : List Ins) : ∀ z ∈ (putV ls).1, 0 ≤ z ∧ z < 256 := by
  unfold putV
  split
  · exact app_byte (putL_byte ls) (by intro z hz; rw [List.mem_singleton.1 hz]; omega)
  · intro z hz; cases hz
/-- An instruction's parts, as they lie in a world. -/
structure InsV (W0 : World) (c : Ins) (xn : Option Addr) (nc : Nat) (xl : Option Addr) (lc : Nat) (xe : Option Addr) (ec : Nat) : Prop where
  n : View W0 xn c.n.length c.n
  nle : c.n.length ≤ nc ∧ nc ≤ 9223372036854775807
  l : InsIn W0 xl c.l.length lc c.l
  e : InsIn W0 xe c.e.length ec c.e
theorem InsV.lies {W0 w : World} {c : Ins} {xn xl xe : Option Addr} {nc lc ec b : Nat} {T : TypeId} (h : InsV W0 c xn nc xl lc xe ec) (hb : Below W0.heap.size W0 w) (hc : BlkAt w b #[.int .i64 c.op, .int .i64 c.a, .int .i64 c.b, .int .i64 c.m, .slice xn c.n.length nc, .slice xl c.l.length lc, .slice xe c.e.length ec] T) :
    InsIn w (some ⟨b, 0, none⟩) 1 1 [c] := by
  obtain ⟨h0, h1, h2, h3, h4, h5, h6⟩ := hc.seven'
  refine ⟨rfl, Nat.le_refl _, by decide, ?_⟩
  unfold LiesL
  refine ⟨b, 0, rfl, ?_, by unfold LiesL; trivial⟩
  have hl := h.l.below hb
  have he := h.e.below hb
  have hn := h.n.below hb
  have hnl := h.nle
  cases c with
  | mk op a b' m n l e =>
    unfold LiesI
    exact ⟨h0, h1, h2, h3, ⟨xn, nc, h4, hn, hnl.1, hnl.2⟩, ⟨xl, lc, h5, hl.lies, hl.le, hl.top⟩, ⟨xe, ec, h6, he.lies, he.le, he.top⟩⟩
theorem wfL_one {c : Ins} (h : wfI c) : wfL [c] := by
  rw [wfL, wfL]
  exact ⟨h, trivial⟩
structure Imp where
  mod : ByteArray
  name : ByteArray
  kind : Int
  t : Int
  mu : Bool
  mn : Int
  mx : Int
structure Exp where
  name : ByteArray
  kind : Int
  i : Int
structure Glo where
  t : Int
  mu : Bool
  init : Ins
structure Dat where
  mem : Int
  off : Ins
  b : ByteArray
def ownB (x : Imp) : Bool := if x.kind = 0 then !x.mu && (decide (x.mn = 0) && decide (x.mx = 0)) else if x.kind = 3 then decide (x.mn = 0) && decide (x.mx = 0) else decide (x.t = 0) && !x.mu
def impK (s : Lay) (x : Imp) : Lay := if x.kind = 0 then indexP s x.t else if x.kind = 1 then tableP s x.mn x.mx else if x.kind = 2 then limitsP s x.mn x.mx else if x.kind = 3 then yesP (typP s x.t) x.mu else s
def impP (s : Lay) (x : Imp) : Lay := needP (impK (kindP (nameP (nameP s x.mod) x.name) x.kind) x) (ownB x)
def expP (s : Lay) (x : Exp) : Lay := indexP (kindP (nameP s x.name) x.kind) x.i
def gloP (s : Lay) (x : Glo) : Lay := constP (yesP (typP s x.t) x.mu) x.init
def datP (s : Lay) (x : Dat) : Lay := bytesP (constP (whereP s x.mem) x.off) (bl x.b)

set_option maxRecDepth 100000 in
set_option maxHeartbeats 2000000 in
theorem lyInstrs_any (W0 : World) (l : Nat) (s : Lay) (v : Value) (x : Option Addr) (len cap : Nat) (ls : List Ins) (w : World) (h : LyAt W0 l s v w) (hin : InsIn w x len cap ls) (hwf : wfL ls) :
    Calls Tryz.prog 104 #[.pointer (some ⟨l, 0, none⟩), .slice x len cap] w fun e w' => Does W0 l (instrsP s ls) w e w' := by
  have st0 := h
  have kp0 := KeepL.refl l w
  unfold instrsP
  have HT := Lib.hid (Put_any ls x len cap w hin hwf)
  have HB := Lib.hid (putV_byte ls)
  have HD : decide ((putV ls).2 = 0) = ((putV ls).2 == 0) := by by_cases q : (putV ls).2 = 0 <;> simp [q]
  rw [HD]
  clear hin hwf
  revert HT HB
  generalize (putV ls).1 = t
  generalize (putV ls).2 = f
  intro HT HB
  clear h 
  go_enter Tryz.func104, Tryz.ntmps104
  go_wp2_with (first | (go_at_call 126; refine (HT.out).mono ?_; rintro e w1 ⟨rfl, hb1⟩; have st1 := st0.next hb1; have kk1 := KeepL.of_below st0.lt hb1; have kp1 := kp0.trans kk1; clear st0 kp0) | (go_at_call 28; refine (lyNeed_any W0 l s _ (f == 0) _ st1).mono ?_; rintro e w2 ⟨rfl, ⟨v2, st2⟩, kk2⟩; have kp2 := kp1.trans kk2; clear st1 kp1) | (go_at_call 27; refine (lyPut_nums W0 l _ _ t _ st2 HB.out).mono ?_; rintro e w3 ⟨rfl, ⟨v3, st3⟩, kk3⟩; have kp3 := kp2.trans kk3; clear st2 kp2))
  first | exact bodyPost_void rfl rfl ⟨rfl, ⟨_, st3⟩, kp3⟩ | exact bodyPost_voidr rfl rfl ⟨rfl, ⟨_, st3⟩, kp3⟩
set_option maxRecDepth 100000 in
set_option maxHeartbeats 2000000 in
theorem lyConst_any (W0 : World) (l : Nat) (s : Lay) (v : Value) (c : Ins) (xn : Option Addr) (nc : Nat) (xl : Option Addr) (lc : Nat) (xe : Option Addr) (ec : Nat) (w : World) (h : LyAt W0 l s v w) (hc : InsV W0 c xn nc xl lc xe ec) (hwf : wfI c) :
    Calls Tryz.prog 91 #[.pointer (some ⟨l, 0, none⟩), .agg #[.int .i64 c.op, .int .i64 c.a, .int .i64 c.b, .int .i64 c.m, .slice xn c.n.length nc, .slice xl c.l.length lc, .slice xe c.e.length ec]] w fun e w' => Does W0 l (constP s c) w e w' := by
  have sta := h.alloc (.cells #[.int .i64 c.op, .int .i64 c.a, .int .i64 c.b, .int .i64 c.m, .slice xn c.n.length nc, .slice xl c.l.length lc, .slice xe c.e.length ec] 50)
  have st0 := sta.alloc (.cells #[.int .i64 c.op, .int .i64 c.a, .int .i64 c.b, .int .i64 c.m, .slice xn c.n.length nc, .slice xl c.l.length lc, .slice xe c.e.length ec] 50)
  have kp0 := (h.alloc_keep (.cells #[.int .i64 c.op, .int .i64 c.a, .int .i64 c.b, .int .i64 c.m, .slice xn c.n.length nc, .slice xl c.l.length lc, .slice xe c.e.length ec] 50)).trans (sta.alloc_keep (.cells #[.int .i64 c.op, .int .i64 c.a, .int .i64 c.b, .int .i64 c.m, .slice xn c.n.length nc, .slice xl c.l.length lc, .slice xe c.e.length ec] 50))
  have bk := BlkAt.new w #[.int .i64 c.op, .int .i64 c.a, .int .i64 c.b, .int .i64 c.m, .slice xn c.n.length nc, .slice xl c.l.length lc, .slice xe c.e.length ec] 50
  obtain ⟨c0, c1, c2, c3, c4, c5, c6⟩ := bk.seven'
  have hsz : (w.alloc (.cells #[.int .i64 c.op, .int .i64 c.a, .int .i64 c.b, .int .i64 c.m, .slice xn c.n.length nc, .slice xl c.l.length lc, .slice xe c.e.length ec] 50)).heap.size = w.heap.size + 1 := by simp
  have HI : InsIn ((w.alloc (.cells #[.int .i64 c.op, .int .i64 c.a, .int .i64 c.b, .int .i64 c.m, .slice xn c.n.length nc, .slice xl c.l.length lc, .slice xe c.e.length ec] 50)).alloc (.cells #[.int .i64 c.op, .int .i64 c.a, .int .i64 c.b, .int .i64 c.m, .slice xn c.n.length nc, .slice xl c.l.length lc, .slice xe c.e.length ec] 50)) (some ⟨w.heap.size + 1, 0, none⟩) 1 1 [c] := hc.lies st0.below (hsz ▸ BlkAt.new (w.alloc (.cells #[.int .i64 c.op, .int .i64 c.a, .int .i64 c.b, .int .i64 c.m, .slice xn c.n.length nc, .slice xl c.l.length lc, .slice xe c.e.length ec] 50)) #[.int .i64 c.op, .int .i64 c.a, .int .i64 c.b, .int .i64 c.m, .slice xn c.n.length nc, .slice xl c.l.length lc, .slice xe c.e.length ec] 50)
  have HH := Lib.hid HI
  have HW := Lib.hid (wfL_one hwf)
  unfold constP
  clear h hc hwf sta HI hsz
  go_enter Tryz.func91, Tryz.ntmps91
  go_wp2_with (go_at_call 104; refine (lyInstrs_any W0 l s _ _ _ _ [c] _ st0 HH.out HW.out).mono ?_; rintro e w1 ⟨rfl, ⟨v1, st1⟩, kk1⟩)
  exact bodyPost_void rfl rfl ⟨rfl, ⟨_, st1⟩, kp0.trans kk1⟩
set_option maxRecDepth 100000 in
set_option maxHeartbeats 2000000 in
theorem lyExport_any (W0 : World) (l : Nat) (s : Lay) (v : Value) (x : Exp) (w : World) (h : LyAt W0 l s v w) (hS : x.name.size ≤ maxLen) (hk : x.kind ≤ 9223372036854775807) (hi : x.i ≤ 9223372036854775807) :
    Calls Tryz.prog 41 #[.pointer (some ⟨l, 0, none⟩), .agg #[.string x.name, .int .i64 x.kind, .int .i64 x.i]] w fun e w' => Does W0 l (expP s x) w e w' := by
  have st0 := h.alloc (.cells #[.string x.name, .int .i64 x.kind, .int .i64 x.i] 95)
  have kp0 := h.alloc_keep (.cells #[.string x.name, .int .i64 x.kind, .int .i64 x.i] 95)
  have bx0 := h.own #[.string x.name, .int .i64 x.kind, .int .i64 x.i] 95
  obtain ⟨bxc0_0, bxc0_1, bxc0_2⟩ := bx0.blk.three
  unfold expP
  have HS := Lib.hid hS
  clear hS
  clear h 
  go_enter Tryz.func41, Tryz.ntmps41
  go_wp2_with (first | (go_at_call 81; refine (lyName_any W0 l s _ x.name _ st0 HS.out).mono ?_; rintro e w1 ⟨rfl, ⟨v1, st1⟩, kk1⟩; have kp1 := kp0.trans kk1; have bx1 := bx0.keep kk1; obtain ⟨bxc1_0, bxc1_1, bxc1_2⟩ := bx1.blk.three; clear st0 kp0) | (go_at_call 82; refine (lyKind_any W0 l _ _ x.kind _ st1 hk).mono ?_; rintro e w2 ⟨rfl, ⟨v2, st2⟩, kk2⟩; have kp2 := kp1.trans kk2; have bx2 := bx1.keep kk2; obtain ⟨bxc2_0, bxc2_1, bxc2_2⟩ := bx2.blk.three; clear st1 kp1) | (go_at_call 34; refine (lyIndex_any W0 l _ _ x.i _ st2 hi).mono ?_; rintro e w3 ⟨rfl, ⟨v3, st3⟩, kk3⟩; have kp3 := kp2.trans kk3; have bx3 := bx2.keep kk3; obtain ⟨bxc3_0, bxc3_1, bxc3_2⟩ := bx3.blk.three; clear st2 kp2))
  first | exact bodyPost_void rfl rfl ⟨rfl, ⟨_, st3⟩, kp3⟩ | exact bodyPost_voidr rfl rfl ⟨rfl, ⟨_, st3⟩, kp3⟩
set_option maxRecDepth 100000 in
set_option maxHeartbeats 2000000 in
theorem lyGlobal_any (W0 : World) (l : Nat) (s : Lay) (v : Value) (x : Glo) (xn : Option Addr) (nc : Nat) (xl : Option Addr) (lc : Nat) (xe : Option Addr) (ec : Nat) (w : World) (h : LyAt W0 l s v w) (hc : InsV W0 x.init xn nc xl lc xe ec) (hwf : wfI x.init) :
    Calls Tryz.prog 39 #[.pointer (some ⟨l, 0, none⟩), .agg #[.int .i64 x.t, .bool x.mu, .int .i64 x.init.op, .int .i64 x.init.a, .int .i64 x.init.b, .int .i64 x.init.m, .slice xn x.init.n.length nc, .slice xl x.init.l.length lc, .slice xe x.init.e.length ec]] w fun e w' => Does W0 l (gloP s x) w e w' := by
  have st0 := h.alloc (.cells #[.int .i64 x.t, .bool x.mu, .int .i64 x.init.op, .int .i64 x.init.a, .int .i64 x.init.b, .int .i64 x.init.m, .slice xn x.init.n.length nc, .slice xl x.init.l.length lc, .slice xe x.init.e.length ec] 68)
  have kp0 := h.alloc_keep (.cells #[.int .i64 x.t, .bool x.mu, .int .i64 x.init.op, .int .i64 x.init.a, .int .i64 x.init.b, .int .i64 x.init.m, .slice xn x.init.n.length nc, .slice xl x.init.l.length lc, .slice xe x.init.e.length ec] 68)
  have bx0 := h.own #[.int .i64 x.t, .bool x.mu, .int .i64 x.init.op, .int .i64 x.init.a, .int .i64 x.init.b, .int .i64 x.init.m, .slice xn x.init.n.length nc, .slice xl x.init.l.length lc, .slice xe x.init.e.length ec] 68
  obtain ⟨bxc0_0, bxc0_1, bxc0_2, bxc0_3, bxc0_4, bxc0_5, bxc0_6, bxc0_7, bxc0_8⟩ := bx0.blk.nine
  unfold gloP
  have HC := Lib.hid hc
  have HW := Lib.hid hwf
  clear hc hwf
  clear h 
  go_enter Tryz.func39, Tryz.ntmps39
  go_wp2_with (first | (go_at_call 78; refine (lyTyp_any W0 l s _ x.t _ st0).mono ?_; rintro e w1 ⟨rfl, ⟨v1, st1⟩, kk1⟩; have kp1 := kp0.trans kk1; have bx1 := bx0.keep kk1; obtain ⟨bxc1_0, bxc1_1, bxc1_2, bxc1_3, bxc1_4, bxc1_5, bxc1_6, bxc1_7, bxc1_8⟩ := bx1.blk.nine; clear st0 kp0) | (go_at_call 83; refine (lyYes_any W0 l _ _ x.mu _ st1).mono ?_; rintro e w2 ⟨rfl, ⟨v2, st2⟩, kk2⟩; have kp2 := kp1.trans kk2; have bx2 := bx1.keep kk2; obtain ⟨bxc2_0, bxc2_1, bxc2_2, bxc2_3, bxc2_4, bxc2_5, bxc2_6, bxc2_7, bxc2_8⟩ := bx2.blk.nine; clear st1 kp1) | (go_at_call 91; refine (lyConst_any W0 l _ _ x.init xn nc xl lc xe ec _ st2 HC.out HW.out).mono ?_; rintro e w3 ⟨rfl, ⟨v3, st3⟩, kk3⟩; have kp3 := kp2.trans kk3; have bx3 := bx2.keep kk3; obtain ⟨bxc3_0, bxc3_1, bxc3_2, bxc3_3, bxc3_4, bxc3_5, bxc3_6, bxc3_7, bxc3_8⟩ := bx3.blk.nine; clear st2 kp2))
  first | exact bodyPost_void rfl rfl ⟨rfl, ⟨_, st3⟩, kp3⟩ | exact bodyPost_voidr rfl rfl ⟨rfl, ⟨_, st3⟩, kp3⟩
set_option maxRecDepth 100000 in
set_option maxHeartbeats 2000000 in
theorem lyData_any (W0 : World) (l : Nat) (s : Lay) (v : Value) (x : Dat) (xn : Option Addr) (nc : Nat) (xl : Option Addr) (lc : Nat) (xe : Option Addr) (ec : Nat) (w : World) (h : LyAt W0 l s v w) (hc : InsV W0 x.off xn nc xl lc xe ec) (hwf : wfI x.off) (hS : x.b.size ≤ maxLen) (hm : x.mem ≤ 9223372036854775807) :
    Calls Tryz.prog 48 #[.pointer (some ⟨l, 0, none⟩), .agg #[.int .i64 x.mem, .int .i64 x.off.op, .int .i64 x.off.a, .int .i64 x.off.b, .int .i64 x.off.m, .slice xn x.off.n.length nc, .slice xl x.off.l.length lc, .slice xe x.off.e.length ec, .string x.b]] w fun e w' => Does W0 l (datP s x) w e w' := by
  have st0 := h.alloc (.cells #[.int .i64 x.mem, .int .i64 x.off.op, .int .i64 x.off.a, .int .i64 x.off.b, .int .i64 x.off.m, .slice xn x.off.n.length nc, .slice xl x.off.l.length lc, .slice xe x.off.e.length ec, .string x.b] 52)
  have kp0 := h.alloc_keep (.cells #[.int .i64 x.mem, .int .i64 x.off.op, .int .i64 x.off.a, .int .i64 x.off.b, .int .i64 x.off.m, .slice xn x.off.n.length nc, .slice xl x.off.l.length lc, .slice xe x.off.e.length ec, .string x.b] 52)
  have bx0 := h.own #[.int .i64 x.mem, .int .i64 x.off.op, .int .i64 x.off.a, .int .i64 x.off.b, .int .i64 x.off.m, .slice xn x.off.n.length nc, .slice xl x.off.l.length lc, .slice xe x.off.e.length ec, .string x.b] 52
  obtain ⟨bxc0_0, bxc0_1, bxc0_2, bxc0_3, bxc0_4, bxc0_5, bxc0_6, bxc0_7, bxc0_8⟩ := bx0.blk.nine
  unfold datP
  have HC := Lib.hid hc
  have HW := Lib.hid hwf
  have HS := Lib.hid hS
  clear hc hwf hS
  clear h 
  go_enter Tryz.func48, Tryz.ntmps48
  go_wp2_with (first | (go_at_call 97; refine (lyWhere_any W0 l s _ x.mem _ st0 hm).mono ?_; rintro e w1 ⟨rfl, ⟨v1, st1⟩, kk1⟩; have kp1 := kp0.trans kk1; have bx1 := bx0.keep kk1; obtain ⟨bxc1_0, bxc1_1, bxc1_2, bxc1_3, bxc1_4, bxc1_5, bxc1_6, bxc1_7, bxc1_8⟩ := bx1.blk.nine; clear st0 kp0) | (go_at_call 91; refine (lyConst_any W0 l _ _ x.off xn nc xl lc xe ec _ st1 HC.out HW.out).mono ?_; rintro e w2 ⟨rfl, ⟨v2, st2⟩, kk2⟩; have kp2 := kp1.trans kk2; have bx2 := bx1.keep kk2; obtain ⟨bxc2_0, bxc2_1, bxc2_2, bxc2_3, bxc2_4, bxc2_5, bxc2_6, bxc2_7, bxc2_8⟩ := bx2.blk.nine; clear st1 kp1) | (go_at_call 107; refine (lyBytes_any W0 l _ _ x.b _ st2 HS.out).mono ?_; rintro e w3 ⟨rfl, ⟨v3, st3⟩, kk3⟩; have kp3 := kp2.trans kk3; have bx3 := bx2.keep kk3; obtain ⟨bxc3_0, bxc3_1, bxc3_2, bxc3_3, bxc3_4, bxc3_5, bxc3_6, bxc3_7, bxc3_8⟩ := bx3.blk.nine; clear st2 kp2))
  first | exact bodyPost_void rfl rfl ⟨rfl, ⟨_, st3⟩, kp3⟩ | exact bodyPost_voidr rfl rfl ⟨rfl, ⟨_, st3⟩, kp3⟩
set_option maxRecDepth 100000 in
set_option maxHeartbeats 2000000 in
theorem onlyOwn_any (x : Imp) (w : World) :
    Calls Tryz.prog 84 #[.agg #[.string x.mod, .string x.name, .int .i64 x.kind, .int .i64 x.t, .bool x.mu, .int .i64 x.mn, .int .i64 x.mx]] w fun e w' => e = .returned (.bool (ownB x)) ∧ Below w.heap.size w w' := by
  obtain ⟨c0, c1, c2, c3, c4, c5, c6⟩ := (BlkAt.new w #[.string x.mod, .string x.name, .int .i64 x.kind, .int .i64 x.t, .bool x.mu, .int .i64 x.mn, .int .i64 x.mx] 85).seven'
  obtain ⟨mod, name, kind, t, mu, mn, mx⟩ := x
  unfold ownB
  simp only at *
  by_cases h0 : kind = 0
  · subst h0
    rw [if_pos rfl]
    cases mu
    all_goals
      go_enter Tryz.func84, Tryz.ntmps84
      go_wp2_with fail
      all_goals
        go_ret
        refine ⟨?_, (Below.refl _ _).alloc (Nat.le_refl _) _⟩
        simp_all
  rw [if_neg h0]
  have k0 := eq_no h0
  clear h0
  by_cases h3 : kind = 3
  · subst h3
    rw [if_pos rfl]
    clear k0
    go_enter Tryz.func84, Tryz.ntmps84
    go_wp2_with fail
    all_goals
      go_ret
      refine ⟨?_, (Below.refl _ _).alloc (Nat.le_refl _) _⟩
      simp_all
  · rw [if_neg h3]
    have k3 := eq_no h3
    clear h3
    cases mu
    all_goals
      go_enter Tryz.func84, Tryz.ntmps84
      go_wp2_with fail
      all_goals
        go_ret
        refine ⟨?_, (Below.refl _ _).alloc (Nat.le_refl _) _⟩
        simp_all
set_option maxRecDepth 100000 in
set_option maxHeartbeats 2000000 in
theorem lyImport_any (W0 : World) (l : Nat) (s : Lay) (v : Value) (x : Imp) (w : World) (h : LyAt W0 l s v w) (hS1 : x.mod.size ≤ maxLen) (hS2 : x.name.size ≤ maxLen) (hk : x.kind ≤ 9223372036854775807) (ht : x.t ≤ 9223372036854775807) (hmn : x.mn ≤ 9223372036854775807) (hmx : x.mx ≤ 9223372036854775807) :
    Calls Tryz.prog 32 #[.pointer (some ⟨l, 0, none⟩), .agg #[.string x.mod, .string x.name, .int .i64 x.kind, .int .i64 x.t, .bool x.mu, .int .i64 x.mn, .int .i64 x.mx]] w fun e w' => Does W0 l (impP s x) w e w' := by
  have st0 := h.alloc (.cells #[.string x.mod, .string x.name, .int .i64 x.kind, .int .i64 x.t, .bool x.mu, .int .i64 x.mn, .int .i64 x.mx] 85)
  have kp0 := h.alloc_keep (.cells #[.string x.mod, .string x.name, .int .i64 x.kind, .int .i64 x.t, .bool x.mu, .int .i64 x.mn, .int .i64 x.mx] 85)
  have bx0 := h.own #[.string x.mod, .string x.name, .int .i64 x.kind, .int .i64 x.t, .bool x.mu, .int .i64 x.mn, .int .i64 x.mx] 85
  obtain ⟨bxc0_0, bxc0_1, bxc0_2, bxc0_3, bxc0_4, bxc0_5, bxc0_6⟩ := bx0.blk.seven'
  unfold impP impK
  have HS1 := Lib.hid hS1
  have HS2 := Lib.hid hS2
  by_cases h0 : x.kind = 0
  ·
    rw [if_pos h0]
    have k0 : (x.kind == 0) = true := by simpa using h0
    clear h0
    clear hS1 hS2
    clear h 
    go_enter Tryz.func32, Tryz.ntmps32
    go_wp2_with (first | (go_at_call 81; refine (lyName_any W0 l s _ x.mod _ st0 HS1.out).mono ?_; rintro e w1 ⟨rfl, ⟨v1, st1⟩, kk1⟩; have kp1 := kp0.trans kk1; have bx1 := bx0.keep kk1; obtain ⟨bxc1_0, bxc1_1, bxc1_2, bxc1_3, bxc1_4, bxc1_5, bxc1_6⟩ := bx1.blk.seven'; clear st0 kp0) | (go_at_call 81; refine (lyName_any W0 l _ _ x.name _ st1 HS2.out).mono ?_; rintro e w2 ⟨rfl, ⟨v2, st2⟩, kk2⟩; have kp2 := kp1.trans kk2; have bx2 := bx1.keep kk2; obtain ⟨bxc2_0, bxc2_1, bxc2_2, bxc2_3, bxc2_4, bxc2_5, bxc2_6⟩ := bx2.blk.seven'; clear st1 kp1) | (go_at_call 82; refine (lyKind_any W0 l _ _ x.kind _ st2 hk).mono ?_; rintro e w3 ⟨rfl, ⟨v3, st3⟩, kk3⟩; have kp3 := kp2.trans kk3; have bx3 := bx2.keep kk3; obtain ⟨bxc3_0, bxc3_1, bxc3_2, bxc3_3, bxc3_4, bxc3_5, bxc3_6⟩ := bx3.blk.seven'; clear st2 kp2) | (go_at_call 34; refine (lyIndex_any W0 l _ _ x.t _ st3 ht).mono ?_; rintro e w4 ⟨rfl, ⟨v4, st4⟩, kk4⟩; have kp4 := kp3.trans kk4; have bx4 := bx3.keep kk4; obtain ⟨bxc4_0, bxc4_1, bxc4_2, bxc4_3, bxc4_4, bxc4_5, bxc4_6⟩ := bx4.blk.seven'; clear st3 kp3) | (go_at_call 84; refine (onlyOwn_any x _).mono ?_; rintro e w5 ⟨rfl, hb5⟩; have st5 := st4.next hb5; have kk5 := KeepL.of_below st4.lt hb5; have kp5 := kp4.trans kk5; have bx5 := bx4.keep kk5; obtain ⟨bxc5_0, bxc5_1, bxc5_2, bxc5_3, bxc5_4, bxc5_5, bxc5_6⟩ := bx5.blk.seven'; clear st4 kp4) | (go_at_call 28; refine (lyNeed_any W0 l _ _ (ownB x) _ st5).mono ?_; rintro e w6 ⟨rfl, ⟨v6, st6⟩, kk6⟩; have kp6 := kp5.trans kk6; have bx6 := bx5.keep kk6; obtain ⟨bxc6_0, bxc6_1, bxc6_2, bxc6_3, bxc6_4, bxc6_5, bxc6_6⟩ := bx6.blk.seven'; clear st5 kp5))
    first | exact bodyPost_void rfl rfl ⟨rfl, ⟨_, st6⟩, kp6⟩ | exact bodyPost_voidr rfl rfl ⟨rfl, ⟨_, st6⟩, kp6⟩
  rw [if_neg h0]
  have k0 := eq_no h0
  clear h0
  by_cases h1 : x.kind = 1
  ·
    rw [if_pos h1]
    have k1 : (x.kind == 1) = true := by simpa using h1
    clear h1
    clear hS1 hS2
    clear h 
    go_enter Tryz.func32, Tryz.ntmps32
    go_wp2_with (first | (go_at_call 81; refine (lyName_any W0 l s _ x.mod _ st0 HS1.out).mono ?_; rintro e w1 ⟨rfl, ⟨v1, st1⟩, kk1⟩; have kp1 := kp0.trans kk1; have bx1 := bx0.keep kk1; obtain ⟨bxc1_0, bxc1_1, bxc1_2, bxc1_3, bxc1_4, bxc1_5, bxc1_6⟩ := bx1.blk.seven'; clear st0 kp0) | (go_at_call 81; refine (lyName_any W0 l _ _ x.name _ st1 HS2.out).mono ?_; rintro e w2 ⟨rfl, ⟨v2, st2⟩, kk2⟩; have kp2 := kp1.trans kk2; have bx2 := bx1.keep kk2; obtain ⟨bxc2_0, bxc2_1, bxc2_2, bxc2_3, bxc2_4, bxc2_5, bxc2_6⟩ := bx2.blk.seven'; clear st1 kp1) | (go_at_call 82; refine (lyKind_any W0 l _ _ x.kind _ st2 hk).mono ?_; rintro e w3 ⟨rfl, ⟨v3, st3⟩, kk3⟩; have kp3 := kp2.trans kk3; have bx3 := bx2.keep kk3; obtain ⟨bxc3_0, bxc3_1, bxc3_2, bxc3_3, bxc3_4, bxc3_5, bxc3_6⟩ := bx3.blk.seven'; clear st2 kp2) | (go_at_call 36; refine (lyTable_any W0 l _ _ x.mn x.mx _ st3 hmn hmx).mono ?_; rintro e w4 ⟨rfl, ⟨v4, st4⟩, kk4⟩; have kp4 := kp3.trans kk4; have bx4 := bx3.keep kk4; obtain ⟨bxc4_0, bxc4_1, bxc4_2, bxc4_3, bxc4_4, bxc4_5, bxc4_6⟩ := bx4.blk.seven'; clear st3 kp3) | (go_at_call 84; refine (onlyOwn_any x _).mono ?_; rintro e w5 ⟨rfl, hb5⟩; have st5 := st4.next hb5; have kk5 := KeepL.of_below st4.lt hb5; have kp5 := kp4.trans kk5; have bx5 := bx4.keep kk5; obtain ⟨bxc5_0, bxc5_1, bxc5_2, bxc5_3, bxc5_4, bxc5_5, bxc5_6⟩ := bx5.blk.seven'; clear st4 kp4) | (go_at_call 28; refine (lyNeed_any W0 l _ _ (ownB x) _ st5).mono ?_; rintro e w6 ⟨rfl, ⟨v6, st6⟩, kk6⟩; have kp6 := kp5.trans kk6; have bx6 := bx5.keep kk6; obtain ⟨bxc6_0, bxc6_1, bxc6_2, bxc6_3, bxc6_4, bxc6_5, bxc6_6⟩ := bx6.blk.seven'; clear st5 kp5))
    first | exact bodyPost_void rfl rfl ⟨rfl, ⟨_, st6⟩, kp6⟩ | exact bodyPost_voidr rfl rfl ⟨rfl, ⟨_, st6⟩, kp6⟩
  rw [if_neg h1]
  have k1 := eq_no h1
  clear h1
  by_cases h2 : x.kind = 2
  ·
    rw [if_pos h2]
    have k2 : (x.kind == 2) = true := by simpa using h2
    clear h2
    clear hS1 hS2
    clear h 
    go_enter Tryz.func32, Tryz.ntmps32
    go_wp2_with (first | (go_at_call 81; refine (lyName_any W0 l s _ x.mod _ st0 HS1.out).mono ?_; rintro e w1 ⟨rfl, ⟨v1, st1⟩, kk1⟩; have kp1 := kp0.trans kk1; have bx1 := bx0.keep kk1; obtain ⟨bxc1_0, bxc1_1, bxc1_2, bxc1_3, bxc1_4, bxc1_5, bxc1_6⟩ := bx1.blk.seven'; clear st0 kp0) | (go_at_call 81; refine (lyName_any W0 l _ _ x.name _ st1 HS2.out).mono ?_; rintro e w2 ⟨rfl, ⟨v2, st2⟩, kk2⟩; have kp2 := kp1.trans kk2; have bx2 := bx1.keep kk2; obtain ⟨bxc2_0, bxc2_1, bxc2_2, bxc2_3, bxc2_4, bxc2_5, bxc2_6⟩ := bx2.blk.seven'; clear st1 kp1) | (go_at_call 82; refine (lyKind_any W0 l _ _ x.kind _ st2 hk).mono ?_; rintro e w3 ⟨rfl, ⟨v3, st3⟩, kk3⟩; have kp3 := kp2.trans kk3; have bx3 := bx2.keep kk3; obtain ⟨bxc3_0, bxc3_1, bxc3_2, bxc3_3, bxc3_4, bxc3_5, bxc3_6⟩ := bx3.blk.seven'; clear st2 kp2) | (go_at_call 37; refine (lyLimits_any W0 l _ _ x.mn x.mx _ st3 hmn hmx).mono ?_; rintro e w4 ⟨rfl, ⟨v4, st4⟩, kk4⟩; have kp4 := kp3.trans kk4; have bx4 := bx3.keep kk4; obtain ⟨bxc4_0, bxc4_1, bxc4_2, bxc4_3, bxc4_4, bxc4_5, bxc4_6⟩ := bx4.blk.seven'; clear st3 kp3) | (go_at_call 84; refine (onlyOwn_any x _).mono ?_; rintro e w5 ⟨rfl, hb5⟩; have st5 := st4.next hb5; have kk5 := KeepL.of_below st4.lt hb5; have kp5 := kp4.trans kk5; have bx5 := bx4.keep kk5; obtain ⟨bxc5_0, bxc5_1, bxc5_2, bxc5_3, bxc5_4, bxc5_5, bxc5_6⟩ := bx5.blk.seven'; clear st4 kp4) | (go_at_call 28; refine (lyNeed_any W0 l _ _ (ownB x) _ st5).mono ?_; rintro e w6 ⟨rfl, ⟨v6, st6⟩, kk6⟩; have kp6 := kp5.trans kk6; have bx6 := bx5.keep kk6; obtain ⟨bxc6_0, bxc6_1, bxc6_2, bxc6_3, bxc6_4, bxc6_5, bxc6_6⟩ := bx6.blk.seven'; clear st5 kp5))
    first | exact bodyPost_void rfl rfl ⟨rfl, ⟨_, st6⟩, kp6⟩ | exact bodyPost_voidr rfl rfl ⟨rfl, ⟨_, st6⟩, kp6⟩
  rw [if_neg h2]
  have k2 := eq_no h2
  clear h2
  by_cases h3 : x.kind = 3
  ·
    rw [if_pos h3]
    have k3 : (x.kind == 3) = true := by simpa using h3
    clear h3
    clear hS1 hS2
    clear h 
    go_enter Tryz.func32, Tryz.ntmps32
    go_wp2_with (first | (go_at_call 81; refine (lyName_any W0 l s _ x.mod _ st0 HS1.out).mono ?_; rintro e w1 ⟨rfl, ⟨v1, st1⟩, kk1⟩; have kp1 := kp0.trans kk1; have bx1 := bx0.keep kk1; obtain ⟨bxc1_0, bxc1_1, bxc1_2, bxc1_3, bxc1_4, bxc1_5, bxc1_6⟩ := bx1.blk.seven'; clear st0 kp0) | (go_at_call 81; refine (lyName_any W0 l _ _ x.name _ st1 HS2.out).mono ?_; rintro e w2 ⟨rfl, ⟨v2, st2⟩, kk2⟩; have kp2 := kp1.trans kk2; have bx2 := bx1.keep kk2; obtain ⟨bxc2_0, bxc2_1, bxc2_2, bxc2_3, bxc2_4, bxc2_5, bxc2_6⟩ := bx2.blk.seven'; clear st1 kp1) | (go_at_call 82; refine (lyKind_any W0 l _ _ x.kind _ st2 hk).mono ?_; rintro e w3 ⟨rfl, ⟨v3, st3⟩, kk3⟩; have kp3 := kp2.trans kk3; have bx3 := bx2.keep kk3; obtain ⟨bxc3_0, bxc3_1, bxc3_2, bxc3_3, bxc3_4, bxc3_5, bxc3_6⟩ := bx3.blk.seven'; clear st2 kp2) | (go_at_call 78; refine (lyTyp_any W0 l _ _ x.t _ st3).mono ?_; rintro e w4 ⟨rfl, ⟨v4, st4⟩, kk4⟩; have kp4 := kp3.trans kk4; have bx4 := bx3.keep kk4; obtain ⟨bxc4_0, bxc4_1, bxc4_2, bxc4_3, bxc4_4, bxc4_5, bxc4_6⟩ := bx4.blk.seven'; clear st3 kp3) | (go_at_call 83; refine (lyYes_any W0 l _ _ x.mu _ st4).mono ?_; rintro e w5 ⟨rfl, ⟨v5, st5⟩, kk5⟩; have kp5 := kp4.trans kk5; have bx5 := bx4.keep kk5; obtain ⟨bxc5_0, bxc5_1, bxc5_2, bxc5_3, bxc5_4, bxc5_5, bxc5_6⟩ := bx5.blk.seven'; clear st4 kp4) | (go_at_call 84; refine (onlyOwn_any x _).mono ?_; rintro e w6 ⟨rfl, hb6⟩; have st6 := st5.next hb6; have kk6 := KeepL.of_below st5.lt hb6; have kp6 := kp5.trans kk6; have bx6 := bx5.keep kk6; obtain ⟨bxc6_0, bxc6_1, bxc6_2, bxc6_3, bxc6_4, bxc6_5, bxc6_6⟩ := bx6.blk.seven'; clear st5 kp5) | (go_at_call 28; refine (lyNeed_any W0 l _ _ (ownB x) _ st6).mono ?_; rintro e w7 ⟨rfl, ⟨v7, st7⟩, kk7⟩; have kp7 := kp6.trans kk7; have bx7 := bx6.keep kk7; obtain ⟨bxc7_0, bxc7_1, bxc7_2, bxc7_3, bxc7_4, bxc7_5, bxc7_6⟩ := bx7.blk.seven'; clear st6 kp6))
    first | exact bodyPost_void rfl rfl ⟨rfl, ⟨_, st7⟩, kp7⟩ | exact bodyPost_voidr rfl rfl ⟨rfl, ⟨_, st7⟩, kp7⟩
  rw [if_neg h3]
  have k3 := eq_no h3
  clear h3
  ·
    clear hS1 hS2
    clear h 
    go_enter Tryz.func32, Tryz.ntmps32
    go_wp2_with (first | (go_at_call 81; refine (lyName_any W0 l s _ x.mod _ st0 HS1.out).mono ?_; rintro e w1 ⟨rfl, ⟨v1, st1⟩, kk1⟩; have kp1 := kp0.trans kk1; have bx1 := bx0.keep kk1; obtain ⟨bxc1_0, bxc1_1, bxc1_2, bxc1_3, bxc1_4, bxc1_5, bxc1_6⟩ := bx1.blk.seven'; clear st0 kp0) | (go_at_call 81; refine (lyName_any W0 l _ _ x.name _ st1 HS2.out).mono ?_; rintro e w2 ⟨rfl, ⟨v2, st2⟩, kk2⟩; have kp2 := kp1.trans kk2; have bx2 := bx1.keep kk2; obtain ⟨bxc2_0, bxc2_1, bxc2_2, bxc2_3, bxc2_4, bxc2_5, bxc2_6⟩ := bx2.blk.seven'; clear st1 kp1) | (go_at_call 82; refine (lyKind_any W0 l _ _ x.kind _ st2 hk).mono ?_; rintro e w3 ⟨rfl, ⟨v3, st3⟩, kk3⟩; have kp3 := kp2.trans kk3; have bx3 := bx2.keep kk3; obtain ⟨bxc3_0, bxc3_1, bxc3_2, bxc3_3, bxc3_4, bxc3_5, bxc3_6⟩ := bx3.blk.seven'; clear st2 kp2) | (go_at_call 84; refine (onlyOwn_any x _).mono ?_; rintro e w4 ⟨rfl, hb4⟩; have st4 := st3.next hb4; have kk4 := KeepL.of_below st3.lt hb4; have kp4 := kp3.trans kk4; have bx4 := bx3.keep kk4; obtain ⟨bxc4_0, bxc4_1, bxc4_2, bxc4_3, bxc4_4, bxc4_5, bxc4_6⟩ := bx4.blk.seven'; clear st3 kp3) | (go_at_call 28; refine (lyNeed_any W0 l _ _ (ownB x) _ st4).mono ?_; rintro e w5 ⟨rfl, ⟨v5, st5⟩, kk5⟩; have kp5 := kp4.trans kk5; have bx5 := bx4.keep kk5; obtain ⟨bxc5_0, bxc5_1, bxc5_2, bxc5_3, bxc5_4, bxc5_5, bxc5_6⟩ := bx5.blk.seven'; clear st4 kp4))
    first | exact bodyPost_void rfl rfl ⟨rfl, ⟨_, st5⟩, kp5⟩ | exact bodyPost_voidr rfl rfl ⟨rfl, ⟨_, st5⟩, kp5⟩
end Go.Proofs.YtekonefnniaheaaGreat
