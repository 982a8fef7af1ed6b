/- lex: a text is cut. -/
import Derived.Test.YtnnajiaakfeocaaLexN
namespace Go.Proofs.Ytnnajiaakfeocaa
open Go.RowKit
open Lex

theorem fstV_yes {s : ByteArray} {k a b : Nat} (h : spn (bl s) = (k, a, b)) (hm : may k (((bl s).drop a).take (b - a)) = true) : fstV s = .tuple #[.agg #[.int .i64 k, .string (strOfNums (((bl s).drop a).take (b - a))), .int .i64 0], .int .i64 b] := by
  unfold fstV
  rw [h]
  dsimp only
  rw [bl_part, if_pos hm, strOfNums_bl]
  rfl
theorem fstV_no {s : ByteArray} {k a b : Nat} (h : spn (bl s) = (k, a, b)) (hm : may k (((bl s).drop a).take (b - a)) = false) : fstV s = .tuple #[.agg #[.int .i64 0, .string ⟨#[]⟩, .int .i64 0], .int .i64 0] := by
  unfold fstV
  rw [h]
  dsimp only
  rw [bl_part, if_neg (by rw [hm]; decide)]
  rfl

set_option maxRecDepth 100000 in
set_option maxHeartbeats 1000000 in
theorem Cut_go (s : ByteArray) (hs : s.size ≤ 8192) (w : World) :
    Calls Try.prog 8 #[.string s] w fun e w' => GivesCut w.heap.size (resL (bl s)) w e w' := by
  have hr : resL (bl s) = resX (cutL (bl s)) := by
    unfold resL
    rw [if_neg (by rw [bl_length]; omega)]
  obtain ⟨R, hR⟩ : ∃ R, R = cutL (bl s) := ⟨_, rfl⟩
  rw [hr, ← hR]
  have HR := Lib.hid hR
  clear hr hR
  obtain ⟨ti, hi, hz, hsz, hby⟩ := i_of_tok
  go_enter Try.func8, Try.ntmps8
  go_wp2_with fail
  go_loopw [5, 6] (fun lv av wr => ∃ (at' f : Nat) (acc : List Tok), av = .int .i64 at' ∧ at' ≤ s.size ∧ s.size - at' < f ∧ acc.length ≤ at' ∧ R = cutF f at' ((bl s).drop at') acc ∧ Toks w.heap.size lv acc wr ∧ Below w.heap.size w wr) (fun _ av _ => s.size - (intOf av).toNat)
  case atStart => exact ⟨0, s.size + 1, [], rfl, by omega, by omega, by simp, by rw [HR.out]; unfold cutL; rw [bl_length]; rfl, Toks.nil _ _, Below.refl _ _⟩
  case round =>
    obtain ⟨p, f, acc, rfl, hp, hf, hacc, hcut, hown, hbel⟩ := hrel
    obtain ⟨f', rfl⟩ : ∃ f', f = f' + 1 := ⟨f - 1, by omega⟩
    have q1 : (s.extract p s.size).size ≤ 8192 := ext_le hs _ _
    have hb1 := fun w => blanks_any (s.extract p s.size) q1 w
    rw [bl_drop] at hb1
    rw [cutF] at hcut
    obtain ⟨o, ho⟩ : ∃ o, o = bla ((bl s).drop p) := ⟨_, rfl⟩
    rw [← ho] at hb1 hcut
    have hol : ∀ m, o = some m → p + m ≤ s.size := fun m hm => by
      have := bla_le (ho.symm.trans hm)
      rw [List.length_drop, bl_length] at this
      omega
    have HOWN := Lib.hid hown
    clear ho q1 hown
    cases o with
    | none =>
      have HB := Lib.hid hb1
      have HC := Lib.hid (show R = .error p from hcut)
      clear hb1 hcut hol
      go_wp2_with (first
        | (go_at_call 20; refine (HB.out _).mono ?_; rintro e w1 ⟨rfl, rfl⟩))
      go_ret3
      rw [HC.out]
      exact ⟨_, rfl, Toks.nil _ _, hbel⟩
    | some m =>
      have hm := hol m rfl
      dsimp only at hcut
      rw [List.drop_drop, List.length_drop, bl_length] at hcut
      by_cases hend : p + m = s.size
      · rw [if_pos (by omega)] at hcut
        have HB := Lib.hid hb1
        have HC := Lib.hid (show R = .ok acc from hcut)
        have e1 : oN (some m) = (m : Int) := rfl
        have e2 : oB (some m) = true := rfl
        rw [e1, e2] at HB
        have hsi : ((p : Int) + (m : Int) == (s.size : Int)) = true := by simp; omega
        clear hb1 hcut hol e1 e2
        go_wp2_with (first
          | (go_at_call 20; refine (HB.out _).mono ?_; rintro e w1 ⟨rfl, rfl⟩))
        go_ret3
        rw [HC.out]
        exact ⟨_, rfl, HOWN.out, hbel⟩
      · rw [if_neg (by omega)] at hcut
        have HB := Lib.hid hb1
        have e1 : oN (some m) = (m : Int) := rfl
        have e2 : oB (some m) = true := rfl
        rw [e1, e2] at HB
        have hsi : ((p : Int) + (m : Int) == (s.size : Int)) = false := by simp; omega
        have q0 : 0 < (s.extract (p + m) s.size).size := by rw [ByteArray.size_extract]; omega
        have hf1 := fun w => first_any (s.extract (p + m) s.size) q0 (ext_le hs _ _) w
        have hbx : bl (s.extract (p + m) s.size) = (bl s).drop (p + m) := bl_drop _ _
        have hin := spn_in _ (bl_ne q0)
        have hpos := spn_pos _ (bl_ne q0)
        rw [hbx, List.length_drop, bl_length] at hin
        rw [hbx] at hpos
        have hpm : p + m < s.size := by omega
        clear hb1 hol e1 e2 q0
        obtain ⟨k, a, b, hx⟩ : ∃ k a b, spn ((bl s).drop (p + m)) = (k, a, b) := ⟨_, _, _, rfl⟩
        rw [hx] at hcut hin hpos
        dsimp only at hcut hin hpos
        obtain ⟨hab, hbl, _⟩ := hin
        by_cases hmay : may k ((((bl s).drop (p + m)).drop a).take (b - a)) = true
        · rw [if_pos hmay] at hcut
          have hv : fstV (s.extract (p + m) s.size) = .tuple #[.agg #[.int .i64 k, .string (strOfNums ((((bl s).drop (p + m)).drop a).take (b - a))), .int .i64 0], .int .i64 b] := by
            rw [fstV_yes (k := k) (a := a) (b := b) (by rw [hbx]; exact hx) (by rw [hbx]; exact hmay), hbx]
          rw [hv] at hf1
          rw [List.drop_drop] at hcut
          clear hv hbx hx hmay
          revert hcut hf1
          generalize (((bl s).drop (p + m)).drop a).take (b - a) = S
          intro hf1 hcut
          have HF := Lib.hid hf1
          have HC := Lib.hid hcut
          have hbz : ((b : Int) == 0) = false := by simp; omega
          clear hcut hf1 hab
          go_wp2_with (first
            | (go_at_call 20; refine (HB.out _).mono ?_; rintro e w1 ⟨rfl, rfl⟩)
            | (go_at_call 21; refine (HF.out _).mono ?_; rintro e w1 ⟨rfl, k1⟩; have hown1 := Toks.below HOWN.out k1; have hbel1 := hbel.trans (k1.mono hbel.size); clear k1)
            | (at_builtin; refine wpList_append_own _ rfl _ _ 22 rfl w.heap.size 33 ti (tokV 0 ⟨#[]⟩ 0) 3 32 Try.underlying22 hi hz hsz hby rfl (by decide) _ acc.length (flat acc) rfl (World.ownsRow.alloc (World.ownsRow.alloc hown1 _) _) ⟨w1.heap.size + 1, 0, none⟩ 1 1 (⟨k, S, p + m⟩ : Tok).cells rfl rfl (tok_new2 w1 _ (⟨k, S, p + m⟩ : Tok) _) (tok_one _) (by unfold maxLen; omega) (by omega) (le_alloc (le_alloc hbel1.size)) ?_; intro v1 w2 hown2 hg2 _))
          exact ⟨⟨p + m + b, f', acc ++ [⟨k, S, p + m⟩], by push_cast; rfl, by omega, by omega, by simp; omega, HC.out, Toks.snoc hown2, grownT hown1 hbel1 (Nat.le_refl _) hg2⟩, by simp [intOf]; omega⟩
        · rw [if_neg hmay] at hcut
          have hv : fstV (s.extract (p + m) s.size) = .tuple #[.agg #[.int .i64 0, .string ⟨#[]⟩, .int .i64 0], .int .i64 0] :=
            fstV_no (k := k) (a := a) (b := b) (by rw [hbx]; exact hx) (by rw [hbx]; exact not_true hmay)
          rw [hv] at hf1
          have HF := Lib.hid hf1
          have HC := Lib.hid (show R = .error (p + m) from hcut)
          clear hcut hf1 hv hbx hx hmay hab
          go_wp2_with (first
            | (go_at_call 20; refine (HB.out _).mono ?_; rintro e w1 ⟨rfl, rfl⟩)
            | (go_at_call 21; refine (HF.out _).mono ?_; rintro e w1 ⟨rfl, k1⟩; have hbel1 := hbel.trans (k1.mono hbel.size); clear k1))
          go_ret3
          rw [HC.out]
          exact ⟨_, rfl, Toks.nil _ _, hbel1.alloc hbel1.size _⟩
theorem Cut_any (s : ByteArray) (hs : s.size ≤ maxLen) (w : World) :
    Calls Try.prog 8 #[.string s] w fun e w' => GivesCut w.heap.size (resL (bl s)) w e w' := by
  by_cases h : s.size ≤ 8192
  · exact Cut_go s h w
  · have hr : resL (bl s) = ([], 0, 14) := by
      unfold resL
      rw [if_pos (by rw [bl_length]; omega)]
    rw [hr]
    have hbig : 8192 < s.size := by omega
    unfold maxLen at hs
    clear hr h
    go_enter Try.func8, Try.ntmps8
    go_wp2_with fail
    go_ret3
    exact ⟨_, rfl, Toks.nil _ _, Below.refl _ _⟩
end Go.Proofs.Ytnnajiaakfeocaa
