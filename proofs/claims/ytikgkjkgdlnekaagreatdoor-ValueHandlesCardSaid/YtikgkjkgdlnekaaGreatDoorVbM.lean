/- value: the reference's Inside of any type that may be, and value. -/
import Derived.Test.YtikgkjkgdlnekaaGreatDoorVbL
set_option linter.unusedVariables false
set_option linter.unusedSimpArgs false
namespace Go.Proofs.YtikgkjkgdlnekaaGreatDoor
open Go.RowKit
open Lex Ct

/-- INSIDE, the reference's. -/
theorem rdInside (kk : Nat) (t : Ty) (an : Option Addr) (cn : Nat) (al : Option Addr) (cl : Nat) (v : Vl) (sa : Option Addr) (sc : Nat) (av : Option Addr) (cv : Nat) (w : World) (h : TyAt w t an cn al cl) (hd : deepK (kk + 1) t = true) (hlv : v.l.length ≤ 20000) :
    Calls Tryz.prog 21 #[tyV t an cn al cl, vlV v sa sc av cv] w (InsR (insO t v) w) := by
  have hw := deep_shape hd
  have hlens := deep_lens hd
  have HPL : Hid (∀ w', Kept (fun _ => False) w w' → Calls Tryz.prog 39 #[tyV t an cn al cl] w' (PlainR (plainT t) w')) := Lib.hid (fun w' k' => rdRefPlainD kk t hd hlens.1 hlens.2.1 an cn al cl w' (h.kept k'))
  have hpl : (plainT t).l = plainL t := plainT_l t
  cases t with
  | mk k names l r =>
  cases v with
  | mk n s vl =>
    have hr : RowAt w l al cl := h.row
    have hlv : vl.length ≤ 20000 := hlv
    have hI : insO (.mk k names l r) (.mk n s vl) = if k = 12 then (if n = 0 ∧ vl.length ≤ 1000 then some (List.replicate vl.length (l.getD 0 .zero)) else none)
      else if k = 13 ∨ k = 14 then (if n = 0 ∧ vl.length = l.length then some l else none)
      else if k = 15 ∨ k = 16 ∨ k = 17 ∨ k = 18 then
        (if 0 ≤ n ∧ n < (plainL (.mk k names l r)).length then (if vl.length = heldK ((plainL (.mk k names l r)).getD n.toNat .zero) then some (if heldK ((plainL (.mk k names l r)).getD n.toNat .zero) = 0 then [] else [(plainL (.mk k names l r)).getD n.toNat .zero]) else none) else none)
      else if vl.length = 0 then some [] else none := rfl
    show Calls Tryz.prog 21 #[.agg #[.int .i64 k, .slice an names.length cn, .slice al l.length cl, .int .i64 r], .agg #[.int .i64 n, .slice sa s.length sc, .slice av vl.length cv]] w (InsR (insO (.mk k names l r) (.mk n s vl)) w)
    rw [hI]
    clear hI
    by_cases h12 : k = 12
    · rw [if_pos h12]
      subst h12
      have hl1 : l.length = 1 := by
        have hw : okW 12 names.length l.length = true := hw
        simp [okW] at hw
        exact hw.2
      obtain ⟨x, rfl⟩ := List.length_eq_one_iff.1 hl1
      by_cases hn : n = 0
      · have bn : (n == 0) = true := by simp [hn]
        by_cases hle : vl.length ≤ 1000
        · rw [if_pos ⟨hn, hle⟩]
          exact ins_12e names [x] r an cn al cl n s vl sa sc av cv w x hr rfl hlv bn hle
        · rw [if_neg (fun q => hle q.2)]
          exact ins_12x names [x] r an cn al cl n s vl sa sc av cv w x hr rfl hlv bn (by omega)
      · have bn : (n == 0) = false := by simp [hn]
        rw [if_neg (fun q => hn q.1)]
        exact ins_12n names [x] r an cn al cl n s vl sa sc av cv w x hr rfl hlv bn
    rw [if_neg h12]
    by_cases h13 : k = 13 ∨ k = 14
    · rw [if_pos h13]
      by_cases hn : n = 0
      · have bn : (n == 0) = true := by simp [hn]
        by_cases hle : vl.length = l.length
        · rw [if_pos ⟨hn, hle⟩]
          have be : ((vl.length : Int) == (l.length : Int)) = true := by simp; omega
          rcases h13 with h13 | h13
          · subst h13; exact ins_13e names l r an cn al cl n s vl sa sc av cv w hr bn be
          · subst h13; exact ins_14e names l r an cn al cl n s vl sa sc av cv w hr bn be
        · rw [if_neg (fun q => hle q.2)]
          have be : ((vl.length : Int) == (l.length : Int)) = false := by simp; omega
          rcases h13 with h13 | h13
          · subst h13; exact ins_13x names l r an cn al cl n s vl sa sc av cv w hr bn be
          · subst h13; exact ins_14x names l r an cn al cl n s vl sa sc av cv w hr bn be
      · have bn : (n == 0) = false := by simp [hn]
        rw [if_neg (fun q => hn q.1)]
        rcases h13 with h13 | h13
        · subst h13; exact ins_13n names l r an cn al cl n s vl sa sc av cv w hr bn
        · subst h13; exact ins_14n names l r an cn al cl n s vl sa sc av cv w hr bn
    rw [if_neg h13]
    have b12 : (k == 12) = false := by simp [h12]
    have b13 : (k == 13) = false := by simp; omega
    have b14 : (k == 14) = false := by simp; omega
    by_cases h15 : k = 15 ∨ k = 16 ∨ k = 17 ∨ k = 18
    · rw [if_pos h15]
      have b15 : decide (k ≥ 15) = true := by simp; omega
      have b18 : decide (k ≤ 18) = true := by simp; omega
      rw [← hpl]
      have HX : Hid (∀ w', Kept (fun _ => False) w w' → Calls Tryz.prog 39 #[.agg #[.int .i64 k, .slice an names.length cn, .slice al l.length cl, .int .i64 r]] w' (PlainR (plainT (.mk k names l r)) w')) := HPL
      generalize plainT (.mk k names l r) = x at HX
      by_cases h0 : 0 ≤ n
      · obtain ⟨m, hm⟩ := Int.eq_ofNat_of_zero_le h0
        by_cases hb : n < (x.l.length : Int)
        · have hlt : m < x.l.length := by omega
          rw [if_pos ⟨h0, hb⟩]
          have e : x.l.getD n.toNat .zero = x.l[m] := by rw [hm, Int.toNat_natCast]; exact getD_at hlt
          rw [e]
          have hy : x.l[m]? = some x.l[m] := List.getElem?_eq_getElem hlt
          generalize x.l[m] = y at hy
          by_cases hy0 : y.kind = 0
          · have eh : heldK y = 0 := if_pos hy0
            have bk : (y.kind != 0) = false := by simp [hy0]
            rw [eh]
            by_cases hv : vl.length = 0
            · rw [if_pos hv, if_pos rfl]
              exact ins_v0e names l r an cn al cl n s vl sa sc av cv w k b12 b13 b14 b15 b18 x HX m hm y hy bk (by rw [hv]; rfl)
            · rw [if_neg hv]
              exact ins_v0x names l r an cn al cl n s vl sa sc av cv w k b12 b13 b14 b15 b18 x HX m hm y hy bk (beq_eq_false_iff_ne.2 hv)
          · have eh : heldK y = 1 := if_neg hy0
            have bk : (y.kind != 0) = true := by simp [hy0]
            rw [eh]
            by_cases hv : vl.length = 1
            · rw [if_pos hv, if_neg (by decide)]
              exact ins_v1e names l r an cn al cl n s vl sa sc av cv w k b12 b13 b14 b15 b18 x HX m hm y hy bk (by rw [hv]; rfl)
            · rw [if_neg hv]
              exact ins_v1x names l r an cn al cl n s vl sa sc av cv w k b12 b13 b14 b15 b18 x HX m hm y hy bk (by rw [beq_eq_false_iff_ne]; omega)
        · rw [if_neg (fun q => hb q.2)]
          exact ins_v_big names l r an cn al cl n s vl sa sc av cv w k b12 b13 b14 b15 b18 x HX (decide_eq_false (by omega)) (decide_eq_true (by omega))
      · rw [if_neg (fun q => h0 q.1)]
        exact ins_v_neg names l r an cn al cl n s vl sa sc av cv w k b12 b13 b14 b15 b18 x HX (decide_eq_true (by omega))
    · rw [if_neg h15]
      by_cases hv : vl.length = 0
      · rw [if_pos hv]
        have bv : (vl.length == 0) = true := by rw [hv]; rfl
        by_cases hk : 15 ≤ k
        · exact ins_rbe names l r an cn al cl n s vl sa sc av cv w k b12 b13 b14 (decide_eq_true hk) (decide_eq_false (by omega)) bv
        · exact ins_rae names l r an cn al cl n s vl sa sc av cv w k b12 b13 b14 (decide_eq_false hk) bv
      · rw [if_neg hv]
        have bv : (vl.length == 0) = false := beq_eq_false_iff_ne.2 hv
        by_cases hk : 15 ≤ k
        · exact ins_rbx names l r an cn al cl n s vl sa sc av cv w k b12 b13 b14 (decide_eq_true hk) (decide_eq_false (by omega)) bv
        · exact ins_rax names l r an cn al cl n s vl sa sc av cv w k b12 b13 b14 (decide_eq_false hk) bv
end Go.Proofs.YtikgkjkgdlnekaaGreatDoor
