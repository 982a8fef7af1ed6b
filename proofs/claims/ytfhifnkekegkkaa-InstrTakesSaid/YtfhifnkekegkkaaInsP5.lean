/- The project's counting. -/
import Derived.Test.YtfhifnkekegkkaaInsP4
import Derived.Test.YtfhifnkekegkkaaInsG
namespace Go.Proofs.Ytfhifnkekegkkaa
open Go.RowKit

mutual
/-- May an instruction be, within so many blocks? -/
def okI : Nat → Ins → Bool
  | d, .mk op a b m n l e => mayI (.mk op a b m n l e) && (if 2 ≤ op ∧ op ≤ 4 then decide (d ≠ 32) && (okL (d + 1) l && okL (d + 1) e) else true)
def okL : Nat → List Ins → Bool
  | _, [] => true
  | d, i :: r => okI d i && okL d r
end
mutual
/-- How many instructions there are, those within others, too. -/
def sizI : Ins → Nat
  | .mk _ _ _ _ _ l e => 1 + sizL l + sizL e
def sizL : List Ins → Nat
  | [] => 0
  | i :: r => sizI i + sizL r
end
/-- What counting comes to, with n ahead. -/
def cP (d n : Nat) (l : List Ins) : Int × Bool := if okL d l = true ∧ n + sizL l ≤ 8192 then (((n + sizL l : Nat) : Int), true) else (0, false)
theorem okI_eq (d : Nat) (c : Ins) : okI d c = (mayI c && (if 2 ≤ c.op ∧ c.op ≤ 4 then decide (d ≠ 32) && (okL (d + 1) c.l && okL (d + 1) c.e) else true)) := by
  cases c with
  | mk op a b m n l e =>
    rw [okI]
    rfl
theorem sizI_eq (c : Ins) : sizI c = 1 + sizL c.l + sizL c.e := by
  cases c with
  | mk op a b m n l e =>
    rw [sizI]
    rfl
theorem mayI_parts {c : Ins} (h : mayI c = true) : (shapeV c.op).2 = 0 ∧ ((shapeV c.op).1 = 2 ∨ c.l = []) ∧ (c.op = 4 ∨ c.e = []) := by
  unfold mayI mayV at h
  simp only [Bool.and_eq_true, Bool.or_eq_true, decide_eq_true_eq, List.length_eq_zero_iff] at h
  exact ⟨h.1.1.1.1.1.1.1, h.1.1.1.1.1.1.2, h.1.1.1.1.1.2⟩
theorem shapeV_block {op : Int} (h : 2 ≤ op ∧ op ≤ 4) : shapeV op = (2, 0) := by
  have hc : op = 2 ∨ op = 3 ∨ op = 4 := by omega
  rcases hc with rfl | rfl | rfl <;> decide
theorem shapeV_two {op : Int} (h : (shapeV op).1 = 2) : 2 ≤ op ∧ op ≤ 4 := by
  by_cases hm : op ∈ nameOps
  · have key : ∀ op ∈ nameOps, (shapeV op).1 = 2 → 2 ≤ op ∧ op ≤ 4 := by decide
    exact key op hm h
  · rw [shapeV_other hm] at h
    split at h
    · cases h
    split at h
    · cases h
    split at h
    · cases h
    split at h
    · cases h
    · cases h
theorem cP_nil (d n : Nat) (h : n ≤ 8192) : cP d n [] = ((n : Int), true) := by
  unfold cP
  rw [okL, sizL, if_pos ⟨rfl, by omega⟩, Nat.add_zero]
theorem cP_big (d n : Nat) (c : Ins) (r : List Ins) (h : 8192 < n + 1) : cP d n (c :: r) = (0, false) := by
  unfold cP
  rw [sizL, sizI_eq, if_neg (by omega)]
theorem cP_bad (d n : Nat) (c : Ins) (r : List Ins) (h : mayI c = false) : cP d n (c :: r) = (0, false) := by
  unfold cP
  rw [okL, okI_eq, h, Bool.false_and, Bool.false_and, if_neg (by simp)]
theorem cP_plain (d n : Nat) (c : Ins) (r : List Ins) (h : mayI c = true) (hs : ¬ (shapeV c.op).1 = 2) : cP d n (c :: r) = cP d (n + 1) r := by
  obtain ⟨h1, h2, h3⟩ := mayI_parts h
  have hb : ¬ (2 ≤ c.op ∧ c.op ≤ 4) := fun q => hs (by rw [shapeV_block q])
  have hl := h2.resolve_left hs
  have he := h3.resolve_left (fun q => hb (by omega))
  unfold cP
  rw [okL, okI_eq, h, if_neg hb, sizL, sizI_eq, hl, he, sizL, Bool.true_and, Bool.true_and, show n + (1 + 0 + 0 + sizL r) = n + 1 + sizL r by omega]
theorem cP_deep (n : Nat) (c : Ins) (r : List Ins) (hs : (shapeV c.op).1 = 2) : cP 32 n (c :: r) = (0, false) := by
  unfold cP
  rw [okL, okI_eq, if_pos (shapeV_two hs), if_neg (by simp)]
theorem cP_l (d n : Nat) (c : Ins) (r : List Ins) (hs : (shapeV c.op).1 = 2) (h1 : (cP (d + 1) (n + 1) c.l).2 = false) : cP d n (c :: r) = (0, false) := by
  unfold cP at h1 ⊢
  split at h1
  · cases h1
  rename_i h2
  rw [okL, okI_eq, if_pos (shapeV_two hs), sizL, sizI_eq, if_neg]
  intro q
  simp only [Bool.and_eq_true] at q
  exact h2 ⟨q.1.1.2.2.1, by omega⟩
theorem cP_e (d n k : Nat) (c : Ins) (r : List Ins) (hs : (shapeV c.op).1 = 2) (h0 : cP (d + 1) (n + 1) c.l = ((k : Int), true)) (h1 : (cP (d + 1) k c.e).2 = false) : cP d n (c :: r) = (0, false) := by
  unfold cP at h0 h1 ⊢
  split at h0
  · rename_i hq
    simp only [Prod.mk.injEq, Int.natCast_inj, and_true] at h0
    subst h0
    split at h1
    · cases h1
    rename_i h2
    rw [okL, okI_eq, if_pos (shapeV_two hs), sizL, sizI_eq, if_neg]
    intro q
    simp only [Bool.and_eq_true] at q
    exact h2 ⟨q.1.1.2.2.2, by omega⟩
  · simp at h0
theorem cP_block (d n k j : Nat) (c : Ins) (r : List Ins) (h : mayI c = true) (hd : d ≠ 32) (hs : (shapeV c.op).1 = 2) (h0 : cP (d + 1) (n + 1) c.l = ((k : Int), true)) (h1 : cP (d + 1) k c.e = ((j : Int), true)) : cP d n (c :: r) = cP d j r := by
  unfold cP at h0 h1 ⊢
  split at h0
  · rename_i hq
    simp only [Prod.mk.injEq, Int.natCast_inj, and_true] at h0
    subst h0
    split at h1
    · rename_i hr
      simp only [Prod.mk.injEq, Int.natCast_inj, and_true] at h1
      subst h1
      rw [okL, okI_eq, if_pos (shapeV_two hs), sizL, sizI_eq, h, hq.1, hr.1, decide_eq_true hd, Bool.true_and, Bool.true_and, Bool.true_and, Bool.true_and, show n + (1 + sizL c.l + sizL c.e + sizL r) = n + 1 + sizL c.l + sizL c.e + sizL r by omega]
    · simp at h1
  · simp at h0
theorem cP_cases (d n : Nat) (l : List Ins) : (∃ k : Nat, k ≤ 8192 ∧ cP d n l = ((k : Int), true)) ∨ cP d n l = (0, false) := by
  unfold cP
  split
  · rename_i h
    exact .inl ⟨_, h.2, rfl⟩
  · exact .inr rfl
/-- The two questions are one. -/
theorem may_same (c : Ins) (h : (shapeV c.op).2 = 0) : mayPV (shapeV c.op).1 c.op c.a c.b c.m c.n c.l.length c.e.length = mayI c := by
  unfold mayI
  have h4 : c.op = 4 → shapeV c.op = (2, 0) := fun q => shapeV_block (by omega)
  rcases shapeV_in c.op h with s | s | s | s | s | s | s | s | s | s | s
  all_goals
    rw [s]
    unfold mayPV mayV mayAV mayBV mayMV mayNV blkB
    rw [Bool.eq_iff_iff]
    simp [idxB]
    try (constructor <;> intro h <;> simp_all <;> omega)
set_option maxRecDepth 100000 in
set_option maxHeartbeats 4000000 in
theorem count_all (N : Nat) : ∀ (d n : Nat) (ls : List Ins) (x : Option Addr) (len cap : Nat) (w : World), SizeOf.sizeOf ls < N → d ≤ 32 → n ≤ 8192 → InsIn w x len cap ls →
    Calls Try.prog 16 #[.slice x len cap, .int .i64 n, .int .i64 d] w fun e w' => e = .returned (.tuple #[.int .i64 (cP d n ls).1, .bool (cP d n ls).2]) ∧ Below w.heap.size w w' := by
  induction N with
  | zero => exact fun _ _ _ _ _ _ _ h => absurd h (by omega)
  | succ N ih =>
    intro d n ls x len cap w hN hd hn hin
    obtain ⟨hlen, hle, htop, hlies⟩ := hin
    have HLEN := Lib.hid hlen
    have HLIES := Lib.hid hlies
    have HIH := Lib.hid ih
    have HNN := Lib.hid hN
    clear ih hlies hN hlen
    go_enter Try.func16, Try.ntmps16
    go_wp2_with fail
    go_loopw [1, 15] (fun nv iv wr => ∃ (i k : Nat), iv = .int .i64 i ∧ i ≤ len ∧ nv = .int .i64 k ∧ k ≤ 8192 ∧ cP d n ls = cP d k (ls.drop i) ∧ Below w.heap.size w wr) (fun _ iv _ => len - (intOf iv).toNat)
    case atStart => exact ⟨0, n, rfl, by omega, rfl, hn, by rw [List.drop_zero], Below.refl _ _⟩
    case round =>
      obtain ⟨i, k, rfl, hi, rfl, hk, heq, hb⟩ := hrel
      have HEQ := Lib.hid heq
      clear heq
      by_cases hlt : i < len
      · have hil : i < ls.length := by rw [← HLEN.out]; exact hlt
        obtain ⟨b, off, rfl⟩ := LiesL.addr HLIES.out (by omega)
        have hli := (LiesL.at HLIES.out i hil).below hb
        have hsz : SizeOf.sizeOf (ls.getD i default) < SizeOf.sizeOf ls := by
          rw [List.getD_eq_getElem?_getD, List.getElem?_eq_getElem hil]
          exact List.sizeOf_lt_of_mem (List.getElem_mem hil)
        have hdr : ls.drop i = ls.getD i default :: ls.drop (i + 1) := by
          rw [List.drop_eq_getElem_cons hil, List.getD_eq_getElem?_getD, List.getElem?_eq_getElem hil]
          rfl
        have HDR := Lib.hid (HEQ.out.trans (congrArg (cP d k) hdr))
        clear hdr
        revert HDR hli hsz
        generalize ls.getD i default = c
        intro hli hsz HDR
        obtain ⟨xn, nc, xl, lc, xe, ec, c0, c1, c2, c3, c4, c5, c6, hvn, hnc, hncm, hl, he⟩ := hli.may
        have HS := Lib.hid (shape_any c.op)
        have D0 : Hid (InsAt (wr.alloc (.cells #[.int .i64 c.op, .int .i64 c.a, .int .i64 c.b, .int .i64 c.m, .slice xn c.n.length nc, .slice xl c.l.length lc, .slice xe c.e.length ec] 47)) wr.heap.size c.op c.a c.b c.m xn xl xe c.n.length c.l.length c.e.length nc lc ec) := Lib.hid ⟨World.cell?_alloc_mark wr _ _ _ 0, World.cell?_alloc_mark wr _ _ _ 1, World.cell?_alloc_mark wr _ _ _ 2, World.cell?_alloc_mark wr _ _ _ 3, World.cell?_alloc_mark wr _ _ _ 4, World.cell?_alloc_mark wr _ _ _ 5, World.cell?_alloc_mark wr _ _ _ 6⟩
        have HB0 : Hid (Below wr.heap.size wr (wr.alloc (.cells #[.int .i64 c.op, .int .i64 c.a, .int .i64 c.b, .int .i64 c.m, .slice xn c.n.length nc, .slice xl c.l.length lc, .slice xe c.e.length ec] 47))) := Lib.hid ((Below.refl _ _).alloc (Nat.le_refl _) _)
        have hz0 : wr.heap.size ≤ (wr.alloc (.cells #[.int .i64 c.op, .int .i64 c.a, .int .i64 c.b, .int .i64 c.m, .slice xn c.n.length nc, .slice xl c.l.length lc, .slice xe c.e.length ec] 47)).heap.size := HB0.out.size
        obtain ⟨d0, d1, d2, d3, d4, d5, d6⟩ := D0.out
        by_cases hbig : 8192 < k + 1
        · have HE := Lib.hid (HDR.out.trans (cP_big d k c _ hbig))
          have hbig2 : (8192 : Int) < (k : Int) + 1 := by omega
          clear hbig
          go_wp2_with (go_at_call 22; refine (HS.out _).mono ?_; rintro e w1 ⟨rfl, rfl⟩)
          go_ret2
          rw [HE.out]
          exact ⟨rfl, hb.trans (HB0.out.mono hb.size)⟩
        by_cases her : (shapeV c.op).2 = 0
        case neg =>
          have hmf : mayI c = false := by
            cases hm : mayI c with
            | false => rfl
            | true => exact absurd (mayI_parts hm).1 her
          have HE := Lib.hid (HDR.out.trans (cP_bad d k c _ hmf))
          have hbig2 : ¬ (8192 : Int) < (k : Int) + 1 := by omega
          have her2 : ((shapeV c.op).2 != 0) = true := by simpa using her
          clear hbig her hmf
          go_wp2_with (go_at_call 22; refine (HS.out _).mono ?_; rintro e w1 ⟨rfl, rfl⟩)
          go_ret2
          rw [HE.out]
          exact ⟨rfl, hb.trans (HB0.out.mono hb.size)⟩
        have hms := may_same c her
        have hbl : (shapeV c.op).1 = 2 → 2 ≤ c.op ∧ c.op ≤ 4 := shapeV_two
        have HM := Lib.hid (may_any (shapeV c.op).1 c.op c.a c.b c.m c.n xn xl xe c.n.length c.l.length c.e.length nc lc ec (wr.alloc (.cells #[.int .i64 c.op, .int .i64 c.a, .int .i64 c.b, .int .i64 c.m, .slice xn c.n.length nc, .slice xl c.l.length lc, .slice xe c.e.length ec] 47)) rfl (hvn.below HB0.out))
        rw [hms] at HM
        obtain ⟨mb, hmb⟩ : ∃ mb, mayI c = mb := ⟨_, rfl⟩
        rw [hmb] at HM
        have HMB := Lib.hid hmb
        have hbig2 : ¬ (8192 : Int) < (k : Int) + 1 := by omega
        rw [her] at HS
        have HSL : Hid (SizeOf.sizeOf c.l < N ∧ SizeOf.sizeOf c.e < N) := Lib.hid (by
          have := HNN.out
          cases c with
          | mk op a b m n' l' e' =>
            simp only [Ins.mk.sizeOf_spec] at hsz
            simp only [Ins.l, Ins.e]
            omega)
        have HLI := Lib.hid hl
        have HEI := Lib.hid he
        have hk1 : k + 1 ≤ 8192 := by omega
        clear hbig her hms hmb hli hsz hvn hnc hncm hl he
        cases mb
        · have HE := Lib.hid (HDR.out.trans (cP_bad d k c _ HMB.out))
          clear hbl
          go_wp2_with (first | (go_at_call 22; refine (HS.out _).mono ?_; rintro e w1 ⟨rfl, rfl⟩) | (go_at_call 26; refine HM.out.mono ?_; rintro e w2 ⟨rfl, hb2⟩; have D := D0.out.below hb2; obtain ⟨d0, d1, d2, d3, d4, d5, d6⟩ := D; have hbw := HB0.out.trans (hb2.mono hz0); clear HM))
          go_ret2
          rw [HE.out]
          exact ⟨rfl, hb.trans (hbw.mono hb.size)⟩
        obtain ⟨sh, hsh⟩ : ∃ sh, (shapeV c.op).1 = sh := ⟨_, rfl⟩
        rw [hsh] at HS HM hbl
        have HSH := Lib.hid hsh
        clear hsh
        by_cases h2 : sh = 2
        · subst h2
          by_cases h32 : d = 32
          · subst h32
            have HE := Lib.hid (HDR.out.trans (cP_deep k c _ HSH.out))
            clear hbl
            go_wp2_with (first | (go_at_call 22; refine (HS.out _).mono ?_; rintro e w1 ⟨rfl, rfl⟩) | (go_at_call 26; refine HM.out.mono ?_; rintro e w2 ⟨rfl, hb2⟩; have D := D0.out.below hb2; obtain ⟨d0, d1, d2, d3, d4, d5, d6⟩ := D; have hbw := HB0.out.trans (hb2.mono hz0); clear HM))
            go_ret2
            rw [HE.out]
            exact ⟨rfl, hb.trans (hbw.mono hb.size)⟩
          have HL : Hid (∀ w', Below wr.heap.size wr w' → Calls Try.prog 16 #[.slice xl c.l.length lc, .int .i64 ((k : Int) + 1), .int .i64 ((d : Int) + 1)] w' fun e w2 => e = .returned (.tuple #[.int .i64 (cP (d + 1) (k + 1) c.l).1, .bool (cP (d + 1) (k + 1) c.l).2]) ∧ Below w'.heap.size w' w2) := Lib.hid fun w' hb' => by
            have := HIH.out (d + 1) (k + 1) c.l xl c.l.length lc w' HSL.out.1 (by omega) hk1 (HLI.out.below hb')
            rwa [Int.natCast_add, Int.natCast_add] at this
          have hd2 : ((d : Int) == 32) = false := eq_no (by omega)
          have D1 : Hid (∀ w2, Below (wr.alloc (.cells #[.int .i64 c.op, .int .i64 c.a, .int .i64 c.b, .int .i64 c.m, .slice xn c.n.length nc, .slice xl c.l.length lc, .slice xe c.e.length ec] 47)).heap.size (wr.alloc (.cells #[.int .i64 c.op, .int .i64 c.a, .int .i64 c.b, .int .i64 c.m, .slice xn c.n.length nc, .slice xl c.l.length lc, .slice xe c.e.length ec] 47)) w2 → InsAt w2 wr.heap.size c.op c.a c.b c.m xn xl xe c.n.length c.l.length c.e.length nc lc ec) := Lib.hid fun w2 h => D0.out.below h
          have wd : IntKind.i64.wrap ((d : Int) + 1) = (d : Int) + 1 := by rw [IntKind.wrap_i64]; omega
          rcases cP_cases (d + 1) (k + 1) c.l with ⟨k2, hk2, hc⟩ | hc
          · have HCL := Lib.hid hc
            rw [hc] at HL
            have HE : Hid (∀ w', Below wr.heap.size wr w' → Calls Try.prog 16 #[.slice xe c.e.length ec, .int .i64 (k2 : Int), .int .i64 ((d : Int) + 1)] w' fun e w2 => e = .returned (.tuple #[.int .i64 (cP (d + 1) k2 c.e).1, .bool (cP (d + 1) k2 c.e).2]) ∧ Below w'.heap.size w' w2) := Lib.hid fun w' hb' => by
              have := HIH.out (d + 1) k2 c.e xe c.e.length ec w' HSL.out.2 (by omega) hk2 (HEI.out.below hb')
              rwa [Int.natCast_add] at this
            clear hc
            rcases cP_cases (d + 1) k2 c.e with ⟨k3, hk3, hc⟩ | hc
            · rw [hc] at HE
              have HQ := Lib.hid (HDR.out.trans (cP_block d k k2 k3 c _ HMB.out h32 HSH.out HCL.out hc))
              clear hc h32 hbl hd
              go_wp2_with (first | (go_at_call 22; refine (HS.out _).mono ?_; rintro e w1 ⟨rfl, rfl⟩) | (go_at_call 26; refine HM.out.mono ?_; rintro e w2 ⟨rfl, hb2⟩; have D := D0.out.below hb2; obtain ⟨d0, d1, d2, d3, d4, d5, d6⟩ := D; have hbw := HB0.out.trans (hb2.mono hz0); clear HM) | (go_at_call 16; refine (HL.out _ hbw).mono ?_; rintro e w3 ⟨rfl, hb3⟩; obtain ⟨g0, g1, g2, g3, g4, g5, g6⟩ := (D0.out.below hb2).below hb3; have hbx := hbw.trans (hb3.mono hbw.size); clear HL) | (go_at_call 16; refine (HE.out _ hbx).mono ?_; rintro e w4 ⟨rfl, hb4⟩; have hby := hbx.trans (hb4.mono hbx.size); clear HE))
              exact ⟨⟨i + 1, k3, by go_num, by omega, rfl, hk3, HQ.out, hb.trans (hby.mono hb.size)⟩, by simp [intOf]; omega⟩
            · rw [hc] at HE
              have HQ := Lib.hid (HDR.out.trans (cP_e d k k2 c _ HSH.out HCL.out (by rw [hc])))
              clear hc h32 hbl hd
              go_wp2_with (first | (go_at_call 22; refine (HS.out _).mono ?_; rintro e w1 ⟨rfl, rfl⟩) | (go_at_call 26; refine HM.out.mono ?_; rintro e w2 ⟨rfl, hb2⟩; have D := D0.out.below hb2; obtain ⟨d0, d1, d2, d3, d4, d5, d6⟩ := D; have hbw := HB0.out.trans (hb2.mono hz0); clear HM) | (go_at_call 16; refine (HL.out _ hbw).mono ?_; rintro e w3 ⟨rfl, hb3⟩; obtain ⟨g0, g1, g2, g3, g4, g5, g6⟩ := (D0.out.below hb2).below hb3; have hbx := hbw.trans (hb3.mono hbw.size); clear HL) | (go_at_call 16; refine (HE.out _ hbx).mono ?_; rintro e w4 ⟨rfl, hb4⟩; have hby := hbx.trans (hb4.mono hbx.size); clear HE))
              go_ret2
              rw [HQ.out]
              exact ⟨rfl, hb.trans (hby.mono hb.size)⟩
          · have HQ := Lib.hid (HDR.out.trans (cP_l d k c _ HSH.out (by rw [hc])))
            rw [hc] at HL
            clear hc h32 hbl hd
            go_wp2_with (first | (go_at_call 22; refine (HS.out _).mono ?_; rintro e w1 ⟨rfl, rfl⟩) | (go_at_call 26; refine HM.out.mono ?_; rintro e w2 ⟨rfl, hb2⟩; have D := D0.out.below hb2; obtain ⟨d0, d1, d2, d3, d4, d5, d6⟩ := D; have hbw := HB0.out.trans (hb2.mono hz0); clear HM) | (go_at_call 16; refine (HL.out _ hbw).mono ?_; rintro e w3 ⟨rfl, hb3⟩; have hbx := hbw.trans (hb3.mono hbw.size); clear HL))
            go_ret2
            rw [HQ.out]
            exact ⟨rfl, hb.trans (hbx.mono hb.size)⟩
        · have HQ := Lib.hid (HDR.out.trans (cP_plain d k c _ HMB.out (by rw [HSH.out]; exact h2)))
          have h2' : (sh != 2) = true := by simpa using h2
          clear hbl h2
          go_wp2_with (first | (go_at_call 22; refine (HS.out _).mono ?_; rintro e w1 ⟨rfl, rfl⟩) | (go_at_call 26; refine HM.out.mono ?_; rintro e w2 ⟨rfl, hb2⟩; have D := D0.out.below hb2; obtain ⟨d0, d1, d2, d3, d4, d5, d6⟩ := D; have hbw := HB0.out.trans (hb2.mono hz0); clear HM))
          exact ⟨⟨i + 1, k + 1, by go_num, by omega, by rw [Int.natCast_add]; rfl, hk1, HQ.out, hb.trans (hbw.mono hb.size)⟩, by simp [intOf]; omega⟩
      · have hie : i = len := by omega
        subst hie
        have HE : Hid (cP d n ls = ((k : Int), true)) := Lib.hid (by rw [HEQ.out, HLEN.out, List.drop_length]; exact cP_nil d k hk)
        go_wp2_with fail
        go_ret2
        rw [HE.out]
        exact ⟨rfl, hb⟩
theorem Count_any (ls : List Ins) (x : Option Addr) (len cap : Nat) (w : World) (h : InsIn w x len cap ls) :
    Calls Try.prog 7 #[.slice x len cap] w fun e w' => e = .returned (.tuple #[.int .i64 (cP 0 0 ls).1, .bool (cP 0 0 ls).2]) ∧ Below w.heap.size w w' := by
  have HC := Lib.hid (count_all _ 0 0 ls x len cap w (Nat.lt_succ_self _) (by decide) (by decide) h)
  clear h
  revert HC
  generalize (cP 0 0 ls).1 = a
  generalize (cP 0 0 ls).2 = b
  intro HC
  go_enter Try.func7, Try.ntmps7
  go_wp2_with (go_at_call 16; refine HC.out.mono ?_; rintro e w1 ⟨rfl, hb⟩)
  go_ret2
  exact ⟨rfl, hb⟩
end Go.Proofs.Ytfhifnkekegkkaa
