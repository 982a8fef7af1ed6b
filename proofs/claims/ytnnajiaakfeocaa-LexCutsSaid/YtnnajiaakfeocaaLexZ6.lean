/- lex: the document's own token. -/
import Derived.Test.YtnnajiaakfeocaaLexZ5
import Derived.Test.YtnnajiaakfeocaaLexV
namespace Go.Proofs.Ytnnajiaakfeocaa
open Go.RowKit
open Lex

/-- What the document's own token answers at a place. -/
def rtkV (s : ByteArray) (i : Nat) : Value :=
  if may (spn ((bl s).drop i)).1 ((((bl s).drop i).drop (spn ((bl s).drop i)).2.1).take ((spn ((bl s).drop i)).2.2 - (spn ((bl s).drop i)).2.1)) then
    .tuple #[tokV (spn ((bl s).drop i)).1 (strOfNums ((((bl s).drop i).drop (spn ((bl s).drop i)).2.1).take ((spn ((bl s).drop i)).2.2 - (spn ((bl s).drop i)).2.1))) i, .int .i64 ((i + (spn ((bl s).drop i)).2.2 : Nat) : Int)]
  else .tuple #[tokV 0 ⟨#[]⟩ 0, .int .i64 (-1)]
theorem rtkV_yes {s : ByteArray} {i k a b : Nat} (h : spn ((bl s).drop i) = (k, a, b)) (hm : may k ((((bl s).drop i).drop a).take (b - a)) = true) : rtkV s i = .tuple #[.agg #[.int .i64 k, .string (strOfNums ((((bl s).drop i).drop a).take (b - a))), .int .i64 i], .int .i64 ((i + b : Nat) : Int)] := by
  unfold rtkV
  rw [h]
  dsimp only
  rw [if_pos hm]
  rfl
theorem rtkV_no {s : ByteArray} {i k a b : Nat} (h : spn ((bl s).drop i) = (k, a, b)) (hm : may k ((((bl s).drop i).drop a).take (b - a)) = false) : rtkV s i = .tuple #[.agg #[.int .i64 0, .string ⟨#[]⟩, .int .i64 0], .int .i64 (-1)] := by
  unfold rtkV
  rw [h]
  dsimp only
  rw [if_neg (by rw [hm]; decide)]
  rfl
theorem part_eq (s : ByteArray) (i a b : Nat) (hab : a ≤ b) : strOfNums ((((bl s).drop i).drop a).take (b - a)) = s.extract (i + a) (i + b) := by
  rw [strOfNums_bl, List.drop_drop, show i + b - (i + a) = b - a by omega]
theorem part_bl (s : ByteArray) (i a b : Nat) (hab : a ≤ b) : bl (s.extract (i + a) (i + b)) = (((bl s).drop i).drop a).take (b - a) := by
  rw [bl_part, List.drop_drop, show i + b - (i + a) = b - a by omega]
theorem spn_ver' {c : Nat} {r : List Int} (h37 : c ≠ 37) (h : ltr (c : Int) = false) (hd : dig (c : Int) = true) : spn ((c : Int) :: r) = (3, 0, far ver ((c : Int) :: r)) := by
  rw [spn_cons, if_neg (by omega), h, hd]
  rfl
theorem pct_knd : knd 37 = 0 := by decide

set_option maxRecDepth 100000 in
set_option maxHeartbeats 1000000 in
theorem refToken_pct (s : ByteArray) (hs : s.size ≤ 8192) (i : Nat) (hi : i < s.size) (h37 : s[i].toNat = 37) (w : World) :
    Calls Try.prog 23 #[.string s, .int .i64 i] w fun e w' => e = .returned (rtkV s i) ∧ Below w.heap.size w w' := by
  have hl := bl_cons (s := s) hi
  rw [bl_get s i hi] at hl
  rw [h37] at hl
  have hsp : spn ((bl s).drop i) = (2, 1, 1 + far nam ((bl s).drop (i + 1))) := by rw [hl]; rfl
  have t37 : ((s[i].toNat : Int) == 37) = true := by rw [h37]; rfl
  have HK : Hid (knd ((s[i].toNat : Nat) : Int) = 0) := Lib.hid (by rw [h37]; exact pct_knd)
  have hrow := fun w => refRow_nam s hs (i + 1) (by omega) w
  obtain ⟨F, hF⟩ : ∃ F, F = far nam ((bl s).drop (i + 1)) := ⟨_, rfl⟩
  have hFl : i + 1 + F ≤ s.size := by
    have := far_le nam ((bl s).drop (i + 1))
    rw [← hF, List.length_drop, bl_length] at this
    omega
  rw [← hF] at hsp hrow
  have hq : (s.extract (i + 1) (i + 1 + F)).size ≤ maxLen := ext_le (by unfold maxLen; omega) _ _
  have hname := fun w => refName_any (s.extract (i + 1) (i + 1 + F)) hq w
  have hbx : bl (s.extract (i + 1) (i + 1 + F)) = (((bl s).drop i).drop 1).take (1 + F - 1) := by
    have := part_bl s i 1 (1 + F) (by omega)
    rwa [show i + 1 = i + 1 from rfl, show i + (1 + F) = i + 1 + F by omega] at this
  have hst : strOfNums ((((bl s).drop i).drop 1).take (1 + F - 1)) = s.extract (i + 1) (i + 1 + F) := by
    have := part_eq s i 1 (1 + F) (by omega)
    rwa [show i + 1 = i + 1 from rfl, show i + (1 + F) = i + 1 + F by omega] at this
  have hend : ((i + (1 + F) : Nat) : Int) = ((i + 1 + F : Nat) : Int) := by omega
  rw [hbx] at hname
  have hb := Below.refl w.heap.size w
  obtain ⟨V, hV⟩ : ∃ V, V = rtkV s i := ⟨_, rfl⟩
  rw [← hV]
  obtain ⟨ok, hm⟩ : ∃ ok, nameL ((((bl s).drop i).drop 1).take (1 + F - 1)) = ok := ⟨_, rfl⟩
  rw [hm] at hname
  have HN := Lib.hid hname
  have HR := Lib.hid hrow
  cases ok
  · rw [rtkV_no (k := 2) (a := 1) (b := 1 + F) hsp hm] at hV
    have HV := Lib.hid hV
    clear hl hsp hF hrow hq hname hbx hst hV hm hend h37
    go_enter Try.func23, Try.ntmps23
    go_wp2_with (first
      | (go_at_call 26; refine (kind_any _ _).mono ?_; rintro e w1 ⟨rfl, rfl⟩; rw [HK.out])
      | (go_at_call 35; refine (HR.out _).mono ?_; rintro e w1 ⟨rfl, rfl⟩)
      | (go_at_call 13; refine (HN.out _).mono ?_; rintro e w1 ⟨rfl, rfl⟩))
    refine bodyPost_ret (v := V) ?_ rfl ⟨rfl, hb.alloc (Nat.le_refl _) _⟩
    rw [HV.out]
    simp [results, Try.f23, go_sem]
  · rw [rtkV_yes (k := 2) (a := 1) (b := 1 + F) hsp hm, hst, hend] at hV
    have HV := Lib.hid hV
    clear hl hsp hF hrow hq hname hbx hst hV hm hend h37
    go_enter Try.func23, Try.ntmps23
    go_wp2_with (first
      | (go_at_call 26; refine (kind_any _ _).mono ?_; rintro e w1 ⟨rfl, rfl⟩; rw [HK.out])
      | (go_at_call 35; refine (HR.out _).mono ?_; rintro e w1 ⟨rfl, rfl⟩)
      | (go_at_call 13; refine (HN.out _).mono ?_; rintro e w1 ⟨rfl, rfl⟩))
    refine bodyPost_ret (v := V) ?_ rfl ⟨rfl, hb.alloc (Nat.le_refl _) _⟩
    rw [HV.out]
    simp [results, Try.f23, go_sem]
set_option maxRecDepth 100000 in
set_option maxHeartbeats 1000000 in
theorem refToken_sml (s : ByteArray) (hs : s.size ≤ 8192) (i : Nat) (hi : i < s.size) (hk : knd ((s[i].toNat : Nat) : Int) = 1) (w : World) :
    Calls Try.prog 23 #[.string s, .int .i64 i] w fun e w' => e = .returned (rtkV s i) ∧ Below w.heap.size w w' := by
  have hl := bl_cons (s := s) hi
  rw [bl_get s i hi] at hl
  have hlt : ltr ((s[i].toNat : Nat) : Int) = true := by
    unfold ltr
    rw [knd_1 hk, Bool.true_or]
  have hne : s[i].toNat ≠ 37 := fun e => by rw [e] at hk; exact absurd hk (by decide)
  have hsp : spn ((bl s).drop i) = (1, 0, far nam ((bl s).drop i)) := by
    rw [hl, spn_cons, if_neg (by omega), if_pos hlt]
  have t37 : ((s[i].toNat : Int) == 37) = false := by simp; omega
  have HK := Lib.hid hk
  have hrow := fun w => refRow_nam s hs (i) (by omega) w
  obtain ⟨F, hF⟩ : ∃ F, F = far nam ((bl s).drop (i)) := ⟨_, rfl⟩
  have hFl : i + F ≤ s.size := by
    have := far_le nam ((bl s).drop (i))
    rw [← hF, List.length_drop, bl_length] at this
    omega
  rw [← hF] at hsp hrow
  have hq : (s.extract (i) (i + F)).size ≤ maxLen := ext_le (by unfold maxLen; omega) _ _
  have hname := fun w => refName_any (s.extract (i) (i + F)) hq w
  have hbx : bl (s.extract (i) (i + F)) = (((bl s).drop i).drop 0).take (F - 0) := by
    have := part_bl s i 0 (F) (by omega)
    rwa [show i + 0 = i from rfl, show i + (F) = i + F by omega] at this
  have hst : strOfNums ((((bl s).drop i).drop 0).take (F - 0)) = s.extract (i) (i + F) := by
    have := part_eq s i 0 (F) (by omega)
    rwa [show i + 0 = i from rfl, show i + (F) = i + F by omega] at this
  have hend : ((i + (F) : Nat) : Int) = ((i + F : Nat) : Int) := by omega
  rw [hbx] at hname
  have hb := Below.refl w.heap.size w
  obtain ⟨V, hV⟩ : ∃ V, V = rtkV s i := ⟨_, rfl⟩
  rw [← hV]
  obtain ⟨ok, hm⟩ : ∃ ok, nameL ((((bl s).drop i).drop 0).take (F - 0)) = ok := ⟨_, rfl⟩
  rw [hm] at hname
  have HN := Lib.hid hname
  have HR := Lib.hid hrow
  cases ok
  · rw [rtkV_no (k := 1) (a := 0) (b := F) hsp hm] at hV
    have HV := Lib.hid hV
    clear hl hsp hF hrow hq hname hbx hst hV hm hend hk hlt hne
    go_enter Try.func23, Try.ntmps23
    go_wp2_with (first
      | (go_at_call 26; refine (kind_any _ _).mono ?_; rintro e w1 ⟨rfl, rfl⟩; rw [HK.out])
      | (go_at_call 35; refine (HR.out _).mono ?_; rintro e w1 ⟨rfl, rfl⟩)
      | (go_at_call 13; refine (HN.out _).mono ?_; rintro e w1 ⟨rfl, rfl⟩))
    refine bodyPost_ret (v := V) ?_ rfl ⟨rfl, hb.alloc (Nat.le_refl _) _⟩
    rw [HV.out]
    simp [results, Try.f23, go_sem]
  · rw [rtkV_yes (k := 1) (a := 0) (b := F) hsp hm, hst, hend] at hV
    have HV := Lib.hid hV
    clear hl hsp hF hrow hq hname hbx hst hV hm hend hk hlt hne
    go_enter Try.func23, Try.ntmps23
    go_wp2_with (first
      | (go_at_call 26; refine (kind_any _ _).mono ?_; rintro e w1 ⟨rfl, rfl⟩; rw [HK.out])
      | (go_at_call 35; refine (HR.out _).mono ?_; rintro e w1 ⟨rfl, rfl⟩)
      | (go_at_call 13; refine (HN.out _).mono ?_; rintro e w1 ⟨rfl, rfl⟩))
    refine bodyPost_ret (v := V) ?_ rfl ⟨rfl, hb.alloc (Nat.le_refl _) _⟩
    rw [HV.out]
    simp [results, Try.f23, go_sem]
set_option maxRecDepth 100000 in
set_option maxHeartbeats 1000000 in
theorem refToken_grt (s : ByteArray) (hs : s.size ≤ 8192) (i : Nat) (hi : i < s.size) (hk : knd ((s[i].toNat : Nat) : Int) = 2) (w : World) :
    Calls Try.prog 23 #[.string s, .int .i64 i] w fun e w' => e = .returned (rtkV s i) ∧ Below w.heap.size w w' := by
  have hl := bl_cons (s := s) hi
  rw [bl_get s i hi] at hl
  have hlt : ltr ((s[i].toNat : Nat) : Int) = true := by
    unfold ltr
    rw [knd_2 hk, Bool.or_true]
  have hne : s[i].toNat ≠ 37 := fun e => by rw [e] at hk; exact absurd hk (by decide)
  have hsp : spn ((bl s).drop i) = (1, 0, far nam ((bl s).drop i)) := by
    rw [hl, spn_cons, if_neg (by omega), if_pos hlt]
  have t37 : ((s[i].toNat : Int) == 37) = false := by simp; omega
  have HK := Lib.hid hk
  have hrow := fun w => refRow_nam s hs (i) (by omega) w
  obtain ⟨F, hF⟩ : ∃ F, F = far nam ((bl s).drop (i)) := ⟨_, rfl⟩
  have hFl : i + F ≤ s.size := by
    have := far_le nam ((bl s).drop (i))
    rw [← hF, List.length_drop, bl_length] at this
    omega
  rw [← hF] at hsp hrow
  have hq : (s.extract (i) (i + F)).size ≤ maxLen := ext_le (by unfold maxLen; omega) _ _
  have hname := fun w => refName_any (s.extract (i) (i + F)) hq w
  have hbx : bl (s.extract (i) (i + F)) = (((bl s).drop i).drop 0).take (F - 0) := by
    have := part_bl s i 0 (F) (by omega)
    rwa [show i + 0 = i from rfl, show i + (F) = i + F by omega] at this
  have hst : strOfNums ((((bl s).drop i).drop 0).take (F - 0)) = s.extract (i) (i + F) := by
    have := part_eq s i 0 (F) (by omega)
    rwa [show i + 0 = i from rfl, show i + (F) = i + F by omega] at this
  have hend : ((i + (F) : Nat) : Int) = ((i + F : Nat) : Int) := by omega
  rw [hbx] at hname
  have hb := Below.refl w.heap.size w
  obtain ⟨V, hV⟩ : ∃ V, V = rtkV s i := ⟨_, rfl⟩
  rw [← hV]
  obtain ⟨ok, hm⟩ : ∃ ok, nameL ((((bl s).drop i).drop 0).take (F - 0)) = ok := ⟨_, rfl⟩
  rw [hm] at hname
  have HN := Lib.hid hname
  have HR := Lib.hid hrow
  cases ok
  · rw [rtkV_no (k := 1) (a := 0) (b := F) hsp hm] at hV
    have HV := Lib.hid hV
    clear hl hsp hF hrow hq hname hbx hst hV hm hend hk hlt hne
    go_enter Try.func23, Try.ntmps23
    go_wp2_with (first
      | (go_at_call 26; refine (kind_any _ _).mono ?_; rintro e w1 ⟨rfl, rfl⟩; rw [HK.out])
      | (go_at_call 35; refine (HR.out _).mono ?_; rintro e w1 ⟨rfl, rfl⟩)
      | (go_at_call 13; refine (HN.out _).mono ?_; rintro e w1 ⟨rfl, rfl⟩))
    refine bodyPost_ret (v := V) ?_ rfl ⟨rfl, hb.alloc (Nat.le_refl _) _⟩
    rw [HV.out]
    simp [results, Try.f23, go_sem]
  · rw [rtkV_yes (k := 1) (a := 0) (b := F) hsp hm, hst, hend] at hV
    have HV := Lib.hid hV
    clear hl hsp hF hrow hq hname hbx hst hV hm hend hk hlt hne
    go_enter Try.func23, Try.ntmps23
    go_wp2_with (first
      | (go_at_call 26; refine (kind_any _ _).mono ?_; rintro e w1 ⟨rfl, rfl⟩; rw [HK.out])
      | (go_at_call 35; refine (HR.out _).mono ?_; rintro e w1 ⟨rfl, rfl⟩)
      | (go_at_call 13; refine (HN.out _).mono ?_; rintro e w1 ⟨rfl, rfl⟩))
    refine bodyPost_ret (v := V) ?_ rfl ⟨rfl, hb.alloc (Nat.le_refl _) _⟩
    rw [HV.out]
    simp [results, Try.f23, go_sem]
set_option maxRecDepth 100000 in
set_option maxHeartbeats 1000000 in
theorem refToken_dig (s : ByteArray) (hs : s.size ≤ 8192) (i : Nat) (hi : i < s.size) (hk : knd ((s[i].toNat : Nat) : Int) = 3) (w : World) :
    Calls Try.prog 23 #[.string s, .int .i64 i] w fun e w' => e = .returned (rtkV s i) ∧ Below w.heap.size w w' := by
  have hl := bl_cons (s := s) hi
  rw [bl_get s i hi] at hl
  have hd := knd_3.1 hk
  have hlt : ltr ((s[i].toNat : Nat) : Int) = false := by
    rcases ltr_knd ((s[i].toNat : Nat) : Int) with ⟨_, h⟩ | ⟨_, h⟩ | ⟨h, _⟩
    · rw [hk] at h; exact absurd h (by decide)
    · rw [hk] at h; exact absurd h (by decide)
    · exact h
  have hne : s[i].toNat ≠ 37 := fun e => by rw [e] at hk; exact absurd hk (by decide)
  have hsp : spn ((bl s).drop i) = (3, 0, far ver ((bl s).drop i)) := by
    rw [hl]; exact spn_ver' hne hlt hd
  have t37 : ((s[i].toNat : Int) == 37) = false := by simp; omega
  have HK := Lib.hid hk
  have hrow := fun w => refRow_ver s hs (i) (by omega) w
  obtain ⟨F, hF⟩ : ∃ F, F = far ver ((bl s).drop (i)) := ⟨_, rfl⟩
  have hFl : i + F ≤ s.size := by
    have := far_le ver ((bl s).drop (i))
    rw [← hF, List.length_drop, bl_length] at this
    omega
  rw [← hF] at hsp hrow
  have hq : (s.extract (i) (i + F)).size ≤ maxLen := ext_le (by unfold maxLen; omega) _ _
  have hname := fun w => refVersion_any (s.extract (i) (i + F)) hq w
  have hbx : bl (s.extract (i) (i + F)) = (((bl s).drop i).drop 0).take (F - 0) := by
    have := part_bl s i 0 (F) (by omega)
    rwa [show i + 0 = i from rfl, show i + (F) = i + F by omega] at this
  have hst : strOfNums ((((bl s).drop i).drop 0).take (F - 0)) = s.extract (i) (i + F) := by
    have := part_eq s i 0 (F) (by omega)
    rwa [show i + 0 = i from rfl, show i + (F) = i + F by omega] at this
  have hend : ((i + (F) : Nat) : Int) = ((i + F : Nat) : Int) := by omega
  rw [hbx] at hname
  have hb := Below.refl w.heap.size w
  obtain ⟨V, hV⟩ : ∃ V, V = rtkV s i := ⟨_, rfl⟩
  rw [← hV]
  obtain ⟨ok, hm⟩ : ∃ ok, versL ((((bl s).drop i).drop 0).take (F - 0)) = ok := ⟨_, rfl⟩
  rw [hm] at hname
  have HN := Lib.hid hname
  have HR := Lib.hid hrow
  cases ok
  · rw [rtkV_no (k := 3) (a := 0) (b := F) hsp hm] at hV
    have HV := Lib.hid hV
    clear hl hsp hF hrow hq hname hbx hst hV hm hend hk hlt hne hd
    go_enter Try.func23, Try.ntmps23
    go_wp2_with (first
      | (go_at_call 26; refine (kind_any _ _).mono ?_; rintro e w1 ⟨rfl, rfl⟩; rw [HK.out])
      | (go_at_call 35; refine (HR.out _).mono ?_; rintro e w1 ⟨rfl, rfl⟩)
      | (go_at_call 17; refine (HN.out _).mono ?_; rintro e w1 ⟨rfl, rfl⟩))
    refine bodyPost_ret (v := V) ?_ rfl ⟨rfl, hb.alloc (Nat.le_refl _) _⟩
    rw [HV.out]
    simp [results, Try.f23, go_sem]
  · rw [rtkV_yes (k := 3) (a := 0) (b := F) hsp hm, hst, hend] at hV
    have HV := Lib.hid hV
    clear hl hsp hF hrow hq hname hbx hst hV hm hend hk hlt hne hd
    go_enter Try.func23, Try.ntmps23
    go_wp2_with (first
      | (go_at_call 26; refine (kind_any _ _).mono ?_; rintro e w1 ⟨rfl, rfl⟩; rw [HK.out])
      | (go_at_call 35; refine (HR.out _).mono ?_; rintro e w1 ⟨rfl, rfl⟩)
      | (go_at_call 17; refine (HN.out _).mono ?_; rintro e w1 ⟨rfl, rfl⟩))
    refine bodyPost_ret (v := V) ?_ rfl ⟨rfl, hb.alloc (Nat.le_refl _) _⟩
    rw [HV.out]
    simp [results, Try.f23, go_sem]
end Go.Proofs.Ytnnajiaakfeocaa
