/- Texts of the proof of ModuleOrderUptoProof, part 9. -/
import Derived.Test.YtekonefnniaheaaGreatModuleOrderUptoProofQ7
import Derived.Test.YtekonefnniaheaaGreatModuleOrderUptoProofQ8
namespace Go.Proofs.YtekonefnniaheaaGreat
open Go.RowKit Go.Deep
open Leb (putU putS)

theorem BlkAt.two {w : World} {b : Nat} {c0 c1 : Value} {T : TypeId} (h : BlkAt w b #[c0, c1] T) : w.cell? ⟨b, 0, none⟩ = some c0 ∧ w.cell? ⟨b, 1, none⟩ = some c1 := ⟨h.cell 0, h.cell 1⟩
theorem BlkAt.three {w : World} {b : Nat} {c0 c1 c2 : Value} {T : TypeId} (h : BlkAt w b #[c0, c1, c2] T) : w.cell? ⟨b, 0, none⟩ = some c0 ∧ w.cell? ⟨b, 1, none⟩ = some c1 ∧ w.cell? ⟨b, 2, none⟩ = some c2 := ⟨h.cell 0, h.cell 1, h.cell 2⟩
theorem BlkAt.seven' {w : World} {b : Nat} {c0 c1 c2 c3 c4 c5 c6 : Value} {T : TypeId} (h : BlkAt w b #[c0, c1, c2, c3, c4, c5, c6] T) :
    w.cell? ⟨b, 0, none⟩ = some c0 ∧ w.cell? ⟨b, 1, none⟩ = some c1 ∧ w.cell? ⟨b, 2, none⟩ = some c2 ∧ w.cell? ⟨b, 3, none⟩ = some c3 ∧ w.cell? ⟨b, 4, none⟩ = some c4 ∧ w.cell? ⟨b, 5, none⟩ = some c5 ∧ w.cell? ⟨b, 6, none⟩ = some c6 :=
  ⟨h.cell 0, h.cell 1, h.cell 2, h.cell 3, h.cell 4, h.cell 5, h.cell 6⟩
theorem BlkAt.nine {w : World} {b : Nat} {c0 c1 c2 c3 c4 c5 c6 c7 c8 : Value} {T : TypeId} (h : BlkAt w b #[c0, c1, c2, c3, c4, c5, c6, c7, c8] T) :
    w.cell? ⟨b, 0, none⟩ = some c0 ∧ w.cell? ⟨b, 1, none⟩ = some c1 ∧ w.cell? ⟨b, 2, none⟩ = some c2 ∧ w.cell? ⟨b, 3, none⟩ = some c3 ∧ w.cell? ⟨b, 4, none⟩ = some c4 ∧ w.cell? ⟨b, 5, none⟩ = some c5 ∧ w.cell? ⟨b, 6, none⟩ = some c6 ∧ w.cell? ⟨b, 7, none⟩ = some c7 ∧ w.cell? ⟨b, 8, none⟩ = some c8 :=
  ⟨h.cell 0, h.cell 1, h.cell 2, h.cell 3, h.cell 4, h.cell 5, h.cell 6, h.cell 7, h.cell 8⟩
def kindP (s : Lay) (k : Int) : Lay := byteP (needP s (decide (0 ≤ k ∧ k ≤ 3))) k
def yesP (s : Lay) (b : Bool) : Lay := byteP s (if b = true then 1 else 0)
def typP (s : Lay) (c : Int) : Lay := byteP (needP s (decide ((typeV c).2 = 0))) c
def instrsP (s : Lay) (ls : List Ins) : Lay := putP (needP s (decide ((putV ls).2 = 0))) (putV ls).1
def constP (s : Lay) (c : Ins) : Lay := instrsP s [c]
def limitsP (s : Lay) (mn mx : Int) : Lay := if mx = -1 then indexP (byteP s 0) mn else indexP (indexP (byteP s 1) mn) mx
def tableP (s : Lay) (mn mx : Int) : Lay := limitsP (byteP s 112) mn mx
def whereP (s : Lay) (n : Int) : Lay := if n = 0 then byteP s 0 else indexP (byteP s 2) n
def rowP (s : Lay) (many typ : Int) : Lay := typP (putP s (putU many)) typ
/-- Is a text one? -/
def validF : Nat → List Int → Bool
  | 0, l => l.isEmpty
  | f + 1, l => l.isEmpty || (Utf.hitB 0 l 1 && validF f (l.drop 1)) || (Utf.hitB 0 l 2 && validF f (l.drop 2)) || (Utf.hitB 0 l 3 && validF f (l.drop 3)) || (Utf.hitB 0 l 4 && validF f (l.drop 4))
def validB (s : ByteArray) : Bool := validF s.size (bl s)
def nameB (s : ByteArray) : Bool := decide (s.size ≤ 100) && validB s
def nameP (s : Lay) (S : ByteArray) : Lay := bytesP (needP s (nameB S)) (bl S)
theorem validF_yes : ∀ (f : Nat) (l : List Int), validF f l = true → ∃ ps, Utf.Reads 0 l ps := by
  intro f
  induction f with
  | zero =>
    intro l h
    have : l = [] := by simpa [validF] using h
    subst this
    exact ⟨[], rfl, rfl, rfl⟩
  | succ f ih =>
    intro l h
    have key : ∀ k, 1 ≤ k → Utf.hitB 0 l k = true → validF f (l.drop k) = true → ∃ ps, Utf.Reads 0 l ps := by
      intro k hk h1 h2
      obtain ⟨hne, hl⟩ := Utf.hit_yes hk h1
      obtain ⟨ps, _, h4, h5⟩ := ih _ h2
      refine ⟨Utf.guessL 0 l k :: ps, rfl, ?_, ?_⟩
      · unfold Utf.allW at h4 ⊢
        rw [List.all_cons, h4, Bool.and_true]
        exact decide_eq_true hne
      · rw [Utf.catL_cons, h5]
        exact hl.symm
    unfold validF at h
    simp only [Bool.or_eq_true, Bool.and_eq_true] at h
    rcases h with (((h | ⟨h1, h2⟩) | ⟨h1, h2⟩) | ⟨h1, h2⟩) | ⟨h1, h2⟩
    · have : l = [] := by simpa using h
      subst this
      exact ⟨[], rfl, rfl, rfl⟩
    · exact key 1 (by decide) h1 h2
    · exact key 2 (by decide) h1 h2
    · exact key 3 (by decide) h1 h2
    · exact key 4 (by decide) h1 h2
theorem validF_of : ∀ (ps : List Int) (f : Nat), (Utf.catL 0 ps).length ≤ f → Utf.allW 0 ps = true → validF f (Utf.catL 0 ps) = true := by
  intro ps
  induction ps with
  | nil =>
    intro f _ _
    cases f <;> rfl
  | cons p ps ih =>
    intro f hf ha
    obtain ⟨h1, h2⟩ := Utf.allW_cons ha
    rw [Utf.catL_cons] at hf ⊢
    have hit := Utf.hit_of (Utf.catL 0 ps) h1
    have h4 := Utf.oneL_length 0 p
    have hpos : 0 < (Utf.oneL 0 p).length := List.length_pos_iff.2 h1
    rw [List.length_append] at hf
    obtain ⟨g, rfl⟩ : ∃ g, f = g + 1 := ⟨f - 1, by omega⟩
    have hr := ih g (by omega) h2
    have hdrop : (Utf.oneL 0 p ++ Utf.catL 0 ps).drop (Utf.oneL 0 p).length = Utf.catL 0 ps := List.drop_left
    unfold validF
    simp only [Bool.or_eq_true, Bool.and_eq_true]
    have hc : (Utf.oneL 0 p).length = 1 ∨ (Utf.oneL 0 p).length = 2 ∨ (Utf.oneL 0 p).length = 3 ∨ (Utf.oneL 0 p).length = 4 := by omega
    rcases hc with h | h | h | h
    all_goals rw [h] at hit hdrop
    · exact .inl (.inl (.inl (.inr ⟨hit, by rw [hdrop]; exact hr⟩)))
    · exact .inl (.inl (.inr ⟨hit, by rw [hdrop]; exact hr⟩))
    · exact .inl (.inr ⟨hit, by rw [hdrop]; exact hr⟩)
    · exact .inr ⟨hit, by rw [hdrop]; exact hr⟩
theorem validB_iff (s : ByteArray) : validB s = true ↔ ∃ ps, Utf.Reads 0 (bl s) ps := by
  constructor
  · exact validF_yes _ _
  · rintro ⟨ps, _, h1, h2⟩
    unfold validB
    rw [← h2]
    exact validF_of ps _ (by rw [h2, bl_length]; exact Nat.le_refl _) h1
theorem Valid_any (s : ByteArray) (w : World) : Calls Tryz.prog 124 #[.string s] w fun e w' => e = .returned (.bool (validB s)) ∧ Below w.heap.size w w' := by
  refine (valid_any s w).mono ?_
  rintro e w' ⟨b, rfl, hb, h | h⟩
  · rw [h.1, (validB_iff s).2 h.2]
    exact ⟨rfl, hb⟩
  · have : validB s = false := not_true fun q => by
      obtain ⟨ps, hp⟩ := (validB_iff s).1 q
      exact h.2 ps hp
    rw [h.1, this]
    exact ⟨rfl, hb⟩
theorem bl_nums {b : List Int} (h : ∀ z ∈ b, 0 ≤ z ∧ z < 256) : bl (strOfNums b) = b := bl_str b fun z hz => by have := h z hz; omega
/-- put of bytes -/
theorem lyPut_nums (W0 : World) (l : Nat) (s : Lay) (v : Value) (b : List Int) (w : World) (h : LyAt W0 l s v w) (hb : ∀ z ∈ b, 0 ≤ z ∧ z < 256) :
    Calls Tryz.prog 27 #[.pointer (some ⟨l, 0, none⟩), .string (strOfNums b)] w fun e w' => Does W0 l (putP s b) w e w' := by
  have := lyPut_any W0 l s v (strOfNums b) w h
  rwa [bl_nums hb] at this

set_option maxRecDepth 100000 in
theorem lyByte_any (W0 : World) (l : Nat) (s : Lay) (v : Value) (n : Int) (w : World) (h : LyAt W0 l s v w) :
    Calls Tryz.prog 73 #[.pointer (some ⟨l, 0, none⟩), .int .i64 n] w fun e w' => Does W0 l (byteP s n) w e w' := by
  have hu : IntKind.u8.wrap n = n % 256 := by
    simp [IntKind.wrap, IntKind.signed, IntKind.bits]
  have hcv := one_conv (n % 256) w
  have st0 := h.alloc (.cells #[.int .u8 (n % 256)] 5)
  have kp0 := h.alloc_keep (.cells #[.int .u8 (n % 256)] 5)
  have HB : Hid (∀ z ∈ [n % 256], 0 ≤ z ∧ z < 256) := Lib.hid (by intro z hz; rw [List.mem_singleton.1 hz]; omega)
  unfold byteP
  clear h
  go_enter Tryz.func73, Tryz.ntmps73
  go_wp2_with (go_at_call 27; refine (lyPut_nums W0 l s _ [n % 256] _ st0 HB.out).mono ?_; rintro e w1 ⟨rfl, ⟨v1, st1⟩, kk1⟩)
  exact bodyPost_void rfl rfl ⟨rfl, ⟨_, st1⟩, kp0.trans kk1⟩
set_option maxRecDepth 100000 in
set_option maxHeartbeats 2000000 in
theorem lyBytes_any (W0 : World) (l : Nat) (s : Lay) (v : Value) (S : ByteArray) (w : World) (h : LyAt W0 l s v w) (hS : S.size ≤ maxLen) :
    Calls Tryz.prog 107 #[.pointer (some ⟨l, 0, none⟩), .string S] w fun e w' => Does W0 l (bytesP s (bl S)) w e w' := by
  have st0 := h
  have kp0 := KeepL.refl l w
  unfold bytesP
  rw [bl_length]
  have HS1 : Hid ((S.size : Int) ≤ 9223372036854775807) := Lib.hid (by unfold maxLen at hS; omega)
  clear hS
  clear h 
  go_enter Tryz.func107, Tryz.ntmps107
  go_wp2_with (first | (go_at_call 86; refine (PutU_any (S.size : Int) _ HS1.out).mono ?_; rintro e w1 ⟨rfl, hb1⟩; have st1 := st0.next hb1; have kk1 := KeepL.of_below st0.lt hb1; have kp1 := kp0.trans kk1; clear st0 kp0) | (go_at_call 27; refine (lyPut_nums W0 l s _ (putU (S.size : Int)) _ st1 (Leb.putU_byte _)).mono ?_; rintro e w2 ⟨rfl, ⟨v2, st2⟩, kk2⟩; have kp2 := kp1.trans kk2; clear st1 kp1) | (go_at_call 27; refine (lyPut_any W0 l _ _ S _ st2).mono ?_; rintro e w3 ⟨rfl, ⟨v3, st3⟩, kk3⟩; have kp3 := kp2.trans kk3; clear st2 kp2))
  first | exact bodyPost_void rfl rfl ⟨rfl, ⟨_, st3⟩, kp3⟩ | exact bodyPost_voidr rfl rfl ⟨rfl, ⟨_, st3⟩, kp3⟩
set_option maxRecDepth 100000 in
set_option maxHeartbeats 2000000 in
theorem lyIndex_any (W0 : World) (l : Nat) (s : Lay) (v : Value) (n : Int) (w : World) (h : LyAt W0 l s v w) (hn : n ≤ 9223372036854775807) :
    Calls Tryz.prog 34 #[.pointer (some ⟨l, 0, none⟩), .int .i64 n] w fun e w' => Does W0 l (indexP s n) w e w' := by
  have st0 := h
  have kp0 := KeepL.refl l w
  unfold indexP
  by_cases hcfalse : n < 0
  · have t1 : ¬ (0 : Int) ≤ n := by omega
    have HD : decide (0 ≤ n ∧ n ≤ 4294967295) = false := decide_eq_false (by omega)
    rw [HD]
    clear h HD hcfalse
    go_enter Tryz.func34, Tryz.ntmps34
    go_wp2_with (first | (go_at_call 28; refine (lyNeed_any W0 l s _ false _ st0).mono ?_; rintro e w1 ⟨rfl, ⟨v1, st1⟩, kk1⟩; have kp1 := kp0.trans kk1; clear st0 kp0) | (go_at_call 86; refine (PutU_any n _ hn).mono ?_; rintro e w2 ⟨rfl, hb2⟩; have st2 := st1.next hb2; have kk2 := KeepL.of_below st1.lt hb2; have kp2 := kp1.trans kk2; clear st1 kp1) | (go_at_call 27; refine (lyPut_nums W0 l _ _ (putU n) _ st2 (Leb.putU_byte _)).mono ?_; rintro e w3 ⟨rfl, ⟨v3, st3⟩, kk3⟩; have kp3 := kp2.trans kk3; clear st2 kp2))
    first | exact bodyPost_void rfl rfl ⟨rfl, ⟨_, st3⟩, kp3⟩ | exact bodyPost_voidr rfl rfl ⟨rfl, ⟨_, st3⟩, kp3⟩
  by_cases hcfalse : 4294967295 < n
  · have t1 : (0 : Int) ≤ n := by omega
    have t2 : ¬ n ≤ (4294967295 : Int) := by omega
    have HD : decide (0 ≤ n ∧ n ≤ 4294967295) = false := decide_eq_false (by omega)
    rw [HD]
    clear h HD hcfalse
    go_enter Tryz.func34, Tryz.ntmps34
    go_wp2_with (first | (go_at_call 28; refine (lyNeed_any W0 l s _ false _ st0).mono ?_; rintro e w1 ⟨rfl, ⟨v1, st1⟩, kk1⟩; have kp1 := kp0.trans kk1; clear st0 kp0) | (go_at_call 86; refine (PutU_any n _ hn).mono ?_; rintro e w2 ⟨rfl, hb2⟩; have st2 := st1.next hb2; have kk2 := KeepL.of_below st1.lt hb2; have kp2 := kp1.trans kk2; clear st1 kp1) | (go_at_call 27; refine (lyPut_nums W0 l _ _ (putU n) _ st2 (Leb.putU_byte _)).mono ?_; rintro e w3 ⟨rfl, ⟨v3, st3⟩, kk3⟩; have kp3 := kp2.trans kk3; clear st2 kp2))
    first | exact bodyPost_void rfl rfl ⟨rfl, ⟨_, st3⟩, kp3⟩ | exact bodyPost_voidr rfl rfl ⟨rfl, ⟨_, st3⟩, kp3⟩
  have t1 : (0 : Int) ≤ n := by omega
  have t2 : n ≤ (4294967295 : Int) := by omega
  have HD : decide (0 ≤ n ∧ n ≤ 4294967295) = true := decide_eq_true (by omega)
  rw [HD]
  clear h HD hcfalse
  go_enter Tryz.func34, Tryz.ntmps34
  go_wp2_with (first | (go_at_call 28; refine (lyNeed_any W0 l s _ true _ st0).mono ?_; rintro e w1 ⟨rfl, ⟨v1, st1⟩, kk1⟩; have kp1 := kp0.trans kk1; clear st0 kp0) | (go_at_call 86; refine (PutU_any n _ hn).mono ?_; rintro e w2 ⟨rfl, hb2⟩; have st2 := st1.next hb2; have kk2 := KeepL.of_below st1.lt hb2; have kp2 := kp1.trans kk2; clear st1 kp1) | (go_at_call 27; refine (lyPut_nums W0 l _ _ (putU n) _ st2 (Leb.putU_byte _)).mono ?_; rintro e w3 ⟨rfl, ⟨v3, st3⟩, kk3⟩; have kp3 := kp2.trans kk3; clear st2 kp2))
  first | exact bodyPost_void rfl rfl ⟨rfl, ⟨_, st3⟩, kp3⟩ | exact bodyPost_voidr rfl rfl ⟨rfl, ⟨_, st3⟩, kp3⟩
set_option maxRecDepth 100000 in
set_option maxHeartbeats 2000000 in
theorem lyKind_any (W0 : World) (l : Nat) (s : Lay) (v : Value) (n : Int) (w : World) (h : LyAt W0 l s v w) (hn : n ≤ 9223372036854775807) :
    Calls Tryz.prog 82 #[.pointer (some ⟨l, 0, none⟩), .int .i64 n] w fun e w' => Does W0 l (kindP s n) w e w' := by
  have st0 := h
  have kp0 := KeepL.refl l w
  unfold kindP
  by_cases hcfalse : n < 0
  · have t1 : ¬ (0 : Int) ≤ n := by omega
    have HD : decide (0 ≤ n ∧ n ≤ 3) = false := decide_eq_false (by omega)
    rw [HD]
    clear h HD hcfalse
    go_enter Tryz.func82, Tryz.ntmps82
    go_wp2_with (first | (go_at_call 28; refine (lyNeed_any W0 l s _ false _ st0).mono ?_; rintro e w1 ⟨rfl, ⟨v1, st1⟩, kk1⟩; have kp1 := kp0.trans kk1; clear st0 kp0) | (go_at_call 73; refine (lyByte_any W0 l _ _ n _ st1).mono ?_; rintro e w2 ⟨rfl, ⟨v2, st2⟩, kk2⟩; have kp2 := kp1.trans kk2; clear st1 kp1))
    first | exact bodyPost_void rfl rfl ⟨rfl, ⟨_, st2⟩, kp2⟩ | exact bodyPost_voidr rfl rfl ⟨rfl, ⟨_, st2⟩, kp2⟩
  by_cases hcfalse : 3 < n
  · have t1 : (0 : Int) ≤ n := by omega
    have t2 : ¬ n ≤ (3 : Int) := by omega
    have HD : decide (0 ≤ n ∧ n ≤ 3) = false := decide_eq_false (by omega)
    rw [HD]
    clear h HD hcfalse
    go_enter Tryz.func82, Tryz.ntmps82
    go_wp2_with (first | (go_at_call 28; refine (lyNeed_any W0 l s _ false _ st0).mono ?_; rintro e w1 ⟨rfl, ⟨v1, st1⟩, kk1⟩; have kp1 := kp0.trans kk1; clear st0 kp0) | (go_at_call 73; refine (lyByte_any W0 l _ _ n _ st1).mono ?_; rintro e w2 ⟨rfl, ⟨v2, st2⟩, kk2⟩; have kp2 := kp1.trans kk2; clear st1 kp1))
    first | exact bodyPost_void rfl rfl ⟨rfl, ⟨_, st2⟩, kp2⟩ | exact bodyPost_voidr rfl rfl ⟨rfl, ⟨_, st2⟩, kp2⟩
  have t1 : (0 : Int) ≤ n := by omega
  have t2 : n ≤ (3 : Int) := by omega
  have HD : decide (0 ≤ n ∧ n ≤ 3) = true := decide_eq_true (by omega)
  rw [HD]
  clear h HD hcfalse
  go_enter Tryz.func82, Tryz.ntmps82
  go_wp2_with (first | (go_at_call 28; refine (lyNeed_any W0 l s _ true _ st0).mono ?_; rintro e w1 ⟨rfl, ⟨v1, st1⟩, kk1⟩; have kp1 := kp0.trans kk1; clear st0 kp0) | (go_at_call 73; refine (lyByte_any W0 l _ _ n _ st1).mono ?_; rintro e w2 ⟨rfl, ⟨v2, st2⟩, kk2⟩; have kp2 := kp1.trans kk2; clear st1 kp1))
  first | exact bodyPost_void rfl rfl ⟨rfl, ⟨_, st2⟩, kp2⟩ | exact bodyPost_voidr rfl rfl ⟨rfl, ⟨_, st2⟩, kp2⟩
set_option maxRecDepth 100000 in
set_option maxHeartbeats 2000000 in
theorem lyYes_any (W0 : World) (l : Nat) (s : Lay) (v : Value) (b : Bool) (w : World) (h : LyAt W0 l s v w) :
    Calls Tryz.prog 83 #[.pointer (some ⟨l, 0, none⟩), .bool b] w fun e w' => Does W0 l (yesP s b) w e w' := by
  have st0 := h
  have kp0 := KeepL.refl l w
  unfold yesP
  cases b with
  | true =>
    rw [if_pos rfl]
    clear h 
    go_enter Tryz.func83, Tryz.ntmps83
    go_wp2_with (first | (go_at_call 73; refine (lyByte_any W0 l _ _ (1) _ st0).mono ?_; rintro e w1 ⟨rfl, ⟨v1, st1⟩, kk1⟩; have kp1 := kp0.trans kk1; clear st0 kp0))
    first | exact bodyPost_void rfl rfl ⟨rfl, ⟨_, st1⟩, kp1⟩ | exact bodyPost_voidr rfl rfl ⟨rfl, ⟨_, st1⟩, kp1⟩
  | false =>
    rw [if_neg (by decide)]
    clear h 
    go_enter Tryz.func83, Tryz.ntmps83
    go_wp2_with (first | (go_at_call 73; refine (lyByte_any W0 l _ _ (0) _ st0).mono ?_; rintro e w1 ⟨rfl, ⟨v1, st1⟩, kk1⟩; have kp1 := kp0.trans kk1; clear st0 kp0))
    first | exact bodyPost_void rfl rfl ⟨rfl, ⟨_, st1⟩, kp1⟩ | exact bodyPost_voidr rfl rfl ⟨rfl, ⟨_, st1⟩, kp1⟩
set_option maxRecDepth 100000 in
set_option maxHeartbeats 2000000 in
theorem lyWhere_any (W0 : World) (l : Nat) (s : Lay) (v : Value) (n : Int) (w : World) (h : LyAt W0 l s v w) (hn : n ≤ 9223372036854775807) :
    Calls Tryz.prog 97 #[.pointer (some ⟨l, 0, none⟩), .int .i64 n] w fun e w' => Does W0 l (whereP s n) w e w' := by
  have st0 := h
  have kp0 := KeepL.refl l w
  unfold whereP
  by_cases h0 : n = 0
  ·
    rw [if_pos h0]
    subst h0
    clear h 
    go_enter Tryz.func97, Tryz.ntmps97
    go_wp2_with (first | (go_at_call 73; refine (lyByte_any W0 l _ _ (0) _ st0).mono ?_; rintro e w1 ⟨rfl, ⟨v1, st1⟩, kk1⟩; have kp1 := kp0.trans kk1; clear st0 kp0))
    first | exact bodyPost_void rfl rfl ⟨rfl, ⟨_, st1⟩, kp1⟩ | exact bodyPost_voidr rfl rfl ⟨rfl, ⟨_, st1⟩, kp1⟩
  ·
    rw [if_neg h0]
    have t0 := eq_no h0
    clear h0
    clear h 
    go_enter Tryz.func97, Tryz.ntmps97
    go_wp2_with (first | (go_at_call 73; refine (lyByte_any W0 l _ _ (2) _ st0).mono ?_; rintro e w1 ⟨rfl, ⟨v1, st1⟩, kk1⟩; have kp1 := kp0.trans kk1; clear st0 kp0) | (go_at_call 34; refine (lyIndex_any W0 l _ _ (n) _ st1 hn).mono ?_; rintro e w2 ⟨rfl, ⟨v2, st2⟩, kk2⟩; have kp2 := kp1.trans kk2; clear st1 kp1))
    first | exact bodyPost_void rfl rfl ⟨rfl, ⟨_, st2⟩, kp2⟩ | exact bodyPost_voidr rfl rfl ⟨rfl, ⟨_, st2⟩, kp2⟩
set_option maxRecDepth 100000 in
set_option maxHeartbeats 2000000 in
theorem lyTyp_any (W0 : World) (l : Nat) (s : Lay) (v : Value) (c : Int) (w : World) (h : LyAt W0 l s v w) :
    Calls Tryz.prog 78 #[.pointer (some ⟨l, 0, none⟩), .int .i64 c] w fun e w' => Does W0 l (typP s c) w e w' := by
  have st0 := h
  have kp0 := KeepL.refl l w
  unfold typP
  have HT := Lib.hid (fun w => type_any c w)
  have HD : decide ((typeV c).2 = 0) = ((typeV c).2 == 0) := by by_cases q : (typeV c).2 = 0 <;> simp [q]
  rw [HD]
  revert HT
  generalize (typeV c).1 = t
  generalize (typeV c).2 = f
  intro HT
  clear h 
  go_enter Tryz.func78, Tryz.ntmps78
  go_wp2_with (first | (go_at_call 123; refine (HT.out _).mono ?_; rintro e w9 ⟨rfl, rfl⟩) | (go_at_call 28; refine (lyNeed_any W0 l s _ (f == 0) _ st0).mono ?_; rintro e w1 ⟨rfl, ⟨v1, st1⟩, kk1⟩; have kp1 := kp0.trans kk1; clear st0 kp0) | (go_at_call 73; refine (lyByte_any W0 l _ _ (c) _ st1).mono ?_; rintro e w2 ⟨rfl, ⟨v2, st2⟩, kk2⟩; have kp2 := kp1.trans kk2; clear st1 kp1))
  first | exact bodyPost_void rfl rfl ⟨rfl, ⟨_, st2⟩, kp2⟩ | exact bodyPost_voidr rfl rfl ⟨rfl, ⟨_, st2⟩, kp2⟩
set_option maxRecDepth 100000 in
set_option maxHeartbeats 2000000 in
theorem lyName_any (W0 : World) (l : Nat) (s : Lay) (v : Value) (S : ByteArray) (w : World) (h : LyAt W0 l s v w) (hS : S.size ≤ maxLen) :
    Calls Tryz.prog 81 #[.pointer (some ⟨l, 0, none⟩), .string S] w fun e w' => Does W0 l (nameP s S) w e w' := by
  have st0 := h
  have kp0 := KeepL.refl l w
  unfold nameP nameB
  have HS := Lib.hid hS
  by_cases hc : 100 < S.size
  · have t1 : ¬ (S.size : Int) ≤ 100 := by omega
    rw [decide_eq_false (by omega), Bool.false_and]
    clear h hc hS
    go_enter Tryz.func81, Tryz.ntmps81
    go_wp2_with (first | (go_at_call 28; refine (lyNeed_any W0 l s _ false _ st0).mono ?_; rintro e w1 ⟨rfl, ⟨v1, st1⟩, kk1⟩; have kp1 := kp0.trans kk1; clear st0 kp0) | (go_at_call 107; refine (lyBytes_any W0 l _ _ S _ st1 HS.out).mono ?_; rintro e w2 ⟨rfl, ⟨v2, st2⟩, kk2⟩; have kp2 := kp1.trans kk2; clear st1 kp1))
    first | exact bodyPost_void rfl rfl ⟨rfl, ⟨_, st2⟩, kp2⟩ | exact bodyPost_voidr rfl rfl ⟨rfl, ⟨_, st2⟩, kp2⟩
  · have t1 : (S.size : Int) ≤ 100 := by omega
    rw [decide_eq_true (by omega), Bool.true_and]
    have HV := Lib.hid (Valid_any S)
    revert HV
    generalize validB S = b
    intro HV
    clear h hc hS
    go_enter Tryz.func81, Tryz.ntmps81
    go_wp2_with (first | (go_at_call 124; refine (HV.out _).mono ?_; rintro e w1 ⟨rfl, hb1⟩; have st1 := st0.next hb1; have kk1 := KeepL.of_below st0.lt hb1; have kp1 := kp0.trans kk1; clear st0 kp0) | (go_at_call 28; refine (lyNeed_any W0 l s _ b _ st1).mono ?_; rintro e w2 ⟨rfl, ⟨v2, st2⟩, kk2⟩; have kp2 := kp1.trans kk2; clear st1 kp1) | (go_at_call 107; refine (lyBytes_any W0 l _ _ S _ st2 HS.out).mono ?_; rintro e w3 ⟨rfl, ⟨v3, st3⟩, kk3⟩; have kp3 := kp2.trans kk3; clear st2 kp2))
    first | exact bodyPost_void rfl rfl ⟨rfl, ⟨_, st3⟩, kp3⟩ | exact bodyPost_voidr rfl rfl ⟨rfl, ⟨_, st3⟩, kp3⟩
set_option maxRecDepth 100000 in
set_option maxHeartbeats 2000000 in
theorem lyLimits_any (W0 : World) (l : Nat) (s : Lay) (v : Value) (mn mx : Int) (w : World) (h : LyAt W0 l s v w) (hmn : mn ≤ 9223372036854775807) (hmx : mx ≤ 9223372036854775807) :
    Calls Tryz.prog 37 #[.pointer (some ⟨l, 0, none⟩), .agg #[.int .i64 mn, .int .i64 mx]] w fun e w' => Does W0 l (limitsP s mn mx) w e w' := by
  have st0 := h.alloc (.cells #[.int .i64 mn, .int .i64 mx] 83)
  have kp0 := h.alloc_keep (.cells #[.int .i64 mn, .int .i64 mx] 83)
  have bx0 := h.own #[.int .i64 mn, .int .i64 mx] 83
  obtain ⟨bxc0_0, bxc0_1⟩ := bx0.blk.two
  unfold limitsP
  by_cases h0 : mx = -1
  ·
    rw [if_pos h0]
    have t0 : (mx == -1) = true := by simpa using h0
    clear h0
    clear h 
    go_enter Tryz.func37, Tryz.ntmps37
    go_wp2_with (first | (go_at_call 73; refine (lyByte_any W0 l _ _ (0) _ st0).mono ?_; rintro e w1 ⟨rfl, ⟨v1, st1⟩, kk1⟩; have kp1 := kp0.trans kk1; have bx1 := bx0.keep kk1; obtain ⟨bxc1_0, bxc1_1⟩ := bx1.blk.two; clear st0 kp0) | (go_at_call 34; refine (lyIndex_any W0 l _ _ (mn) _ st1 hmn).mono ?_; rintro e w2 ⟨rfl, ⟨v2, st2⟩, kk2⟩; have kp2 := kp1.trans kk2; have bx2 := bx1.keep kk2; obtain ⟨bxc2_0, bxc2_1⟩ := bx2.blk.two; clear st1 kp1))
    first | exact bodyPost_void rfl rfl ⟨rfl, ⟨_, st2⟩, kp2⟩ | exact bodyPost_voidr rfl rfl ⟨rfl, ⟨_, st2⟩, kp2⟩
  ·
    rw [if_neg h0]
    have t0 := eq_no h0
    clear h0
    clear h 
    go_enter Tryz.func37, Tryz.ntmps37
    go_wp2_with (first | (go_at_call 73; refine (lyByte_any W0 l _ _ (1) _ st0).mono ?_; rintro e w1 ⟨rfl, ⟨v1, st1⟩, kk1⟩; have kp1 := kp0.trans kk1; have bx1 := bx0.keep kk1; obtain ⟨bxc1_0, bxc1_1⟩ := bx1.blk.two; clear st0 kp0) | (go_at_call 34; refine (lyIndex_any W0 l _ _ (mn) _ st1 hmn).mono ?_; rintro e w2 ⟨rfl, ⟨v2, st2⟩, kk2⟩; have kp2 := kp1.trans kk2; have bx2 := bx1.keep kk2; obtain ⟨bxc2_0, bxc2_1⟩ := bx2.blk.two; clear st1 kp1) | (go_at_call 34; refine (lyIndex_any W0 l _ _ (mx) _ st2 hmx).mono ?_; rintro e w3 ⟨rfl, ⟨v3, st3⟩, kk3⟩; have kp3 := kp2.trans kk3; have bx3 := bx2.keep kk3; obtain ⟨bxc3_0, bxc3_1⟩ := bx3.blk.two; clear st2 kp2))
    first | exact bodyPost_void rfl rfl ⟨rfl, ⟨_, st3⟩, kp3⟩ | exact bodyPost_voidr rfl rfl ⟨rfl, ⟨_, st3⟩, kp3⟩
set_option maxRecDepth 100000 in
set_option maxHeartbeats 2000000 in
theorem lyTable_any (W0 : World) (l : Nat) (s : Lay) (v : Value) (mn mx : Int) (w : World) (h : LyAt W0 l s v w) (hmn : mn ≤ 9223372036854775807) (hmx : mx ≤ 9223372036854775807) :
    Calls Tryz.prog 36 #[.pointer (some ⟨l, 0, none⟩), .agg #[.int .i64 mn, .int .i64 mx]] w fun e w' => Does W0 l (tableP s mn mx) w e w' := by
  have st0 := h.alloc (.cells #[.int .i64 mn, .int .i64 mx] 83)
  have kp0 := h.alloc_keep (.cells #[.int .i64 mn, .int .i64 mx] 83)
  have bx0 := h.own #[.int .i64 mn, .int .i64 mx] 83
  obtain ⟨bxc0_0, bxc0_1⟩ := bx0.blk.two
  unfold tableP
  clear h 
  go_enter Tryz.func36, Tryz.ntmps36
  go_wp2_with (first | (go_at_call 73; refine (lyByte_any W0 l _ _ (112) _ st0).mono ?_; rintro e w1 ⟨rfl, ⟨v1, st1⟩, kk1⟩; have kp1 := kp0.trans kk1; have bx1 := bx0.keep kk1; obtain ⟨bxc1_0, bxc1_1⟩ := bx1.blk.two; clear st0 kp0) | (go_at_call 37; refine (lyLimits_any W0 l _ _ mn mx _ st1 hmn hmx).mono ?_; rintro e w2 ⟨rfl, ⟨v2, st2⟩, kk2⟩; have kp2 := kp1.trans kk2; have bx2 := bx1.keep kk2; obtain ⟨bxc2_0, bxc2_1⟩ := bx2.blk.two; clear st1 kp1))
  first | exact bodyPost_void rfl rfl ⟨rfl, ⟨_, st2⟩, kp2⟩ | exact bodyPost_voidr rfl rfl ⟨rfl, ⟨_, st2⟩, kp2⟩
set_option maxRecDepth 100000 in
set_option maxHeartbeats 2000000 in
theorem lyRow_any (W0 : World) (l : Nat) (s : Lay) (v : Value) (many typ : Int) (w : World) (h : LyAt W0 l s v w) (hm : many ≤ 9223372036854775807) :
    Calls Tryz.prog 103 #[.pointer (some ⟨l, 0, none⟩), .agg #[.int .i64 many, .int .i64 typ]] w fun e w' => Does W0 l (rowP s many typ) w e w' := by
  have st0 := h.alloc (.cells #[.int .i64 many, .int .i64 typ] 136)
  have kp0 := h.alloc_keep (.cells #[.int .i64 many, .int .i64 typ] 136)
  have bx0 := h.own #[.int .i64 many, .int .i64 typ] 136
  obtain ⟨bxc0_0, bxc0_1⟩ := bx0.blk.two
  unfold rowP
  clear h 
  go_enter Tryz.func103, Tryz.ntmps103
  go_wp2_with (first | (go_at_call 86; refine (PutU_any many _ hm).mono ?_; rintro e w1 ⟨rfl, hb1⟩; have st1 := st0.next hb1; have kk1 := KeepL.of_below st0.lt hb1; have kp1 := kp0.trans kk1; have bx1 := bx0.keep kk1; obtain ⟨bxc1_0, bxc1_1⟩ := bx1.blk.two; clear st0 kp0) | (go_at_call 27; refine (lyPut_nums W0 l _ _ (putU many) _ st1 (Leb.putU_byte _)).mono ?_; rintro e w2 ⟨rfl, ⟨v2, st2⟩, kk2⟩; have kp2 := kp1.trans kk2; have bx2 := bx1.keep kk2; obtain ⟨bxc2_0, bxc2_1⟩ := bx2.blk.two; clear st1 kp1) | (go_at_call 78; refine (lyTyp_any W0 l _ _ typ _ st2).mono ?_; rintro e w3 ⟨rfl, ⟨v3, st3⟩, kk3⟩; have kp3 := kp2.trans kk3; have bx3 := bx2.keep kk3; obtain ⟨bxc3_0, bxc3_1⟩ := bx3.blk.two; clear st2 kp2))
  first | exact bodyPost_void rfl rfl ⟨rfl, ⟨_, st3⟩, kp3⟩ | exact bodyPost_voidr rfl rfl ⟨rfl, ⟨_, st3⟩, kp3⟩
end Go.Proofs.YtekonefnniaheaaGreat
