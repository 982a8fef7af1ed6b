/- The statement of memories that are played: where there is one. -/
import Derived.Test.YtogkieekpmcinaaMemPl
import Derived.Deep.RegionWith
namespace Go.Proofs.Ytogkieekpmcinaa
open Go.RowKit

theorem Turned.refl {B : Nat} {R : Nat → Prop} {a g cap ar gr : Nat} {S : List Int} {mo : Int} {a2 g2 cap2 ar2 gr2 : Nat} {S2 : List Int} {mo2 : Int} {w : World} (h : Both B R a g cap ar gr S mo a2 g2 cap2 ar2 gr2 S2 mo2 w) : Turned B R a ar mo a2 ar2 mo2 w w :=
  ⟨g, cap, gr, S, g2, cap2, gr2, S2, h, Below.refl _ _, fun _ _ => rfl⟩
theorem Turned.then {B : Nat} {R : Nat → Prop} {a ar : Nat} {mo : Int} {a2 ar2 : Nat} {mo2 : Int} {w w1 w2 w3 : World} (h : Turned B R a ar mo a2 ar2 mo2 w w1) (hb : Below w1.heap.size w1 w2) (hB : B ≤ w1.heap.size) (hR : ∀ k, R k → k < w.heap.size) (hz : w.heap.size ≤ w1.heap.size) (k : Turned B R a ar mo a2 ar2 mo2 w2 w3) : Turned B R a ar mo a2 ar2 mo2 w w3 := by
  obtain ⟨g, cap, gr, S, g2, cap2, gr2, S2, h1, h2, h3⟩ := h
  obtain ⟨g', cap', gr', S', g2', cap2', gr2', S2', k1, k2, k3⟩ := k
  exact ⟨g', cap', gr', S', g2', cap2', gr2', S2', k1, h2.trans ((hb.mono hB).trans k2), fun i hi => (k3 i hi).trans ((hb.block i (Nat.lt_of_lt_of_le (hR i hi) hz)).trans (h3 i hi))⟩
theorem Both.fresh {B : Nat} {R : Nat → Prop} {a g cap ar gr : Nat} {S : List Int} {mo : Int} {a2 g2 cap2 ar2 gr2 : Nat} {S2 : List Int} {mo2 : Int} {w w' : World} (h : Both B (fun _ => False) a g cap ar gr S mo a2 g2 cap2 ar2 gr2 S2 mo2 w) (hb : Below w.heap.size w w') (hR : ∀ k, R k → w.heap.size ≤ k ∧ k < w'.heap.size) : Both B R a g cap ar gr S mo a2 g2 cap2 ar2 gr2 S2 mo2 w' := by
  have h' := h.below hb
  exact ⟨h'.one, h'.two, h'.ap, h'.lo1, h'.lo2, fun k hk => ⟨(hR k hk).2, fun hm => by have := h.one.lt _ hm; have := (hR k hk).1; omega, fun hm => by have := h.two.lt _ hm; have := (hR k hk).1; omega⟩⟩
theorem Turned.size {B : Nat} {R : Nat → Prop} {a ar : Nat} {mo : Int} {a2 ar2 : Nat} {mo2 : Int} {w w' : World} (h : Turned B R a ar mo a2 ar2 mo2 w w') : w.heap.size ≤ w'.heap.size := by
  obtain ⟨_, _, _, _, _, _, _, _, _, h2, _⟩ := h
  exact h2.size
theorem rowB_in {L B : Nat} {y : Option Addr} {w : World} {l : List DeedL} (hL : L = l.length) (h : DeedRow B w y l) : ∀ k, RowB L y k → B ≤ k ∧ k < w.heap.size := by
  rintro k ⟨h0, off, rfl⟩
  rcases h.2 with h1 | ⟨b, o, hx, h2, h3, _⟩
  · omega
  · cases hx
    exact ⟨h2, h3⟩
set_option maxRecDepth 100000 in
set_option maxHeartbeats 8000000 in
theorem MemPlays_yes (mn : Nat) (mx : Int) (x : Option Addr) (len cap0 : Nat) (ds : List DeedL) (hm : mayB mn mx = true) (w : World) (hd : DeedIn w x len cap0 ds) :
    Calls Try.prog 3 #[.agg #[.int .i64 mn, .int .i64 mx], .slice x len cap0] w fun e w' => e = .returned (.bool true) ∧ Below w.heap.size w w' := by
  have HN := Lib.hid (new_yes mn mx hm)
  have HRN := Lib.hid (refNew_yes mn mx hm)
  have HC := Lib.hid (check_any mn mx)
  unfold checkE at HC
  rw [hm, if_pos rfl] at HC
  have HN1 := Lib.hid (new_yes 1 1 (by decide))
  have HRN1 := Lib.hid (refNew_yes 1 1 (by decide))
  have hlim := mostOf_lim hm
  obtain ⟨S0, hS0⟩ : ∃ S, S = List.replicate (mn * 65536) (0 : Int) := ⟨_, rfl⟩
  obtain ⟨T0, hT0⟩ : ∃ S, S = List.replicate (1 * 65536) (0 : Int) := ⟨_, rfl⟩
  have HP1 : Hid (∃ P, S0.length = P * 65536) := Lib.hid ⟨mn, by rw [hS0, List.length_replicate]⟩
  have HP2 : Hid (∃ P, T0.length = P * 65536) := Lib.hid ⟨1, by rw [hT0, List.length_replicate]⟩
  rw [← hS0] at HN HRN
  rw [← hT0] at HN1 HRN1
  have HLIM := Lib.hid hlim
  have HLIM1 : Hid (0 ≤ mostOf 1 ∧ mostOf 1 ≤ 16) := Lib.hid (by decide)
  obtain ⟨hlen, hle, htop, hrow⟩ := hd
  have HS : Hid (∀ w', Below w.heap.size w w' → Calls Try.prog 13 #[.slice x len cap0] w' fun e w2 => ∃ y cap', e = .returned (.slice y (someL ds).length cap') ∧ DeedRow w'.heap.size w2 y (someL ds) ∧ Below w'.heap.size w' w2) := Lib.hid fun w' hb => by
    have := some_any x cap0 ds w' (hrow.kept (Kept.of_below (F := fun _ => False) hb) (fun _ _ => id)) (by omega) htop
    rw [← hlen] at this
    exact this
  obtain ⟨L, hL⟩ : ∃ L, L = (someL ds).length := ⟨_, rfl⟩
  rw [← hL] at HS
  have hL60 : L ≤ 60 := by have := someL_length ds; omega
  have HL := Lib.hid hL
  have hb0 : Below w.heap.size w (w.alloc (.cells #[.int .i64 mn, .int .i64 mx] 23)) := (Below.refl _ _).alloc (Nat.le_refl _) _
  have hz0 : (w.alloc (.cells #[.int .i64 mn, .int .i64 mx] 23)).heap.size = w.heap.size + 1 := by simp
  have C0 := Lib.hid (World.cell?_alloc_mark w #[.int .i64 mn, .int .i64 mx] 23 (0, 0) 0)
  have C1 := Lib.hid (World.cell?_alloc_mark w #[.int .i64 mn, .int .i64 mx] 23 (0, 0) 1)
  have Z0 := Lib.hid hz0
  have HB0 := Lib.hid hb0
  clear hm hb0 hz0 hlen hle htop hrow hL hlim hS0 hT0
  go_enter Try.func3, Try.ntmps3
  go_wp2_with (first
    | (go_at_call 9; refine (HN.out _).mono ?_; rintro e w1 ⟨a, g, cap, rfl, h1, hb1, la, lg⟩
       have d0 := (hb1.cell (p := ⟨w.heap.size, 0, none⟩) (by simp)).trans C0.out
       have d1 := (hb1.cell (p := ⟨w.heap.size, 1, none⟩) (by simp)).trans C1.out
       have z1 : w.heap.size < w1.heap.size := (by have := hb1.size; rw [Z0.out] at this; omega)
       have H1 := Lib.hid h1
       have LA := Lib.hid (And.intro la lg)
       clear h1 la lg HN)
    | (go_at_call 10; refine (HRN.out _).mono ?_; rintro e w2 ⟨ar, gr, rfl, h2, hb2, lar, lgr⟩
       have e0 := (hb2.cell (p := ⟨w.heap.size, 0, none⟩) z1).trans d0
       have e1 := (hb2.cell (p := ⟨w.heap.size, 1, none⟩) z1).trans d1
       have H2 := Lib.hid h2
       have LR := Lib.hid (And.intro lar lgr)
       clear h2 lar lgr HRN)
    | (go_at_call 11; refine (HC.out _).mono ?_; rintro e w3 ⟨rfl, hb3⟩)
    | (go_at_call 9; refine (HN1.out _).mono ?_; rintro e w4 ⟨a2, g2, cap2, rfl, h4, hb4, la2, lg2⟩
       have H4 := Lib.hid h4
       have LA2 := Lib.hid (And.intro la2 lg2)
       clear h4 la2 lg2 HN1)
    | (go_at_call 10; refine (HRN1.out _).mono ?_; rintro e w5 ⟨ar2, gr2, rfl, h5, hb5, lar2, lgr2⟩
       have H5 := Lib.hid h5
       have LR2 := Lib.hid (And.intro lar2 lgr2)
       have hB5 : Below w.heap.size w w5 := (by
         have s0 := Z0.out
         have s1 := hb1.size
         have s2 := hb2.size
         have s3 := hb3.size
         have s4 := hb4.size
         exact HB0.out.trans ((hb1.mono (by omega)).trans ((hb2.mono (by omega)).trans ((hb3.mono (by omega)).trans ((hb4.mono (by omega)).trans (hb5.mono (by omega)))))))
       clear h5 lar2 lgr2 HRN1)
    | (go_at_call 13; refine (HS.out _ hB5).mono ?_; rintro e w6 ⟨y, cap6, rfl, hrow, hb6⟩; clear HS))
  have HBOTH : Hid (Both w.heap.size (RowB L y) a g cap ar gr S0 mx a2 g2 cap2 ar2 gr2 T0 1 w6) := Lib.hid (by
    have s0 := Z0.out
    have s3 := hb3.size
    have l2 := LA2.out
    exact (both_made (w0 := w.alloc (.cells #[.int .i64 mn, .int .i64 mx] 23)) (by omega) H1.out LA.out.1 LA.out.2 hb2 H2.out LR.out.1 LR.out.2 (hb3.trans (hb4.mono hb3.size)) H4.out (by omega) (by omega) hb5 H5.out LR2.out.1 LR2.out.2 HP1.out HP2.out HLIM.out HLIM1.out).fresh hb6 (rowB_in HL.out hrow))
  have HB6 := Lib.hid (hB5.trans (hb6.mono hB5.size))
  have HROW := Lib.hid hrow
  have HRI := Lib.hid (fun k hk => (rowB_in HL.out hrow k hk).2)
  clear hb1 hb2 hb3 hb4 hb5 hb6 hB5 d0 d1 e0 e1 z1 H1 H2 H4 H5 LA LR LA2 LR2 HP1 HP2 HLIM HLIM1 C0 C1 Z0 HB0 HC hrow
  go_loopw [13] (fun iv wr => ∃ i : Nat, iv = .int .i64 i ∧ i ≤ L ∧ Turned w.heap.size (RowB L y) a ar mx a2 ar2 1 w6 wr) (fun iv _ => L - (intOf iv).toNat)
  case atStart => exact ⟨0, rfl, by omega, Turned.refl HBOTH.out⟩
  case round =>
    obtain ⟨i, rfl, hiL, ht⟩ := hrel
    have HT := Lib.hid ht
    by_cases hlt : i < L
    · obtain ⟨g', cap', gr', S', g2', cap2', gr2', S2', hbo, hbl, hke⟩ := ht
      rcases HROW.out.2 with h0 | ⟨b, off, hy, hBb, hb, hcells⟩
      · have := HL.out
        omega
      · have hl := (hcells i (by rw [← HL.out]; exact hlt)).block (hke b ⟨by omega, off, hy⟩)
        have hmem : (someL ds).getD i default ∈ someL ds := by
          rw [List.getD_eq_getElem?_getD, List.getElem?_eq_getElem (by rw [← HL.out]; exact hlt)]
          exact List.getElem_mem _
        have hok := HROW.out.1 _ hmem
        have hsm := someL_small _ hmem
        clear hcells hmem
        subst hy
        revert hl hok hsm
        generalize (someL ds).getD i default = d
        intro hl hok hsm
        obtain ⟨n, hn⟩ : ∃ n, n = S'.length := ⟨_, rfl⟩
        have hnl : n ≤ 1048576 := by rw [hn]; exact hbo.one.m.len
        have hslot := hbo.one.r.slot
        rw [← hn] at hslot
        have HA := Lib.hid (aimed_any d n (by omega) (by omega) wr.drew)
        have hok2 := aimD_ok hok n (by omega) (by omega)
        have hs2 : (aimD d n).s.size ≤ maxLen := by rw [aimD_s]; unfold maxLen; omega
        clear hn hnl
        revert HA hok2 hs2
        generalize aimD d n = d2
        intro HA hok2 hs2
        have HBO := Lib.hid (hbo.below ((Below.refl wr.heap.size wr).drew))
        have HSZ : Hid (w.heap.size ≤ wr.drew.heap.size) := Lib.hid (show w.heap.size ≤ wr.heap.size from Nat.le_trans HB6.out.size hbl.size)
        have HSZ6 : Hid (w6.heap.size ≤ wr.drew.heap.size) := Lib.hid (show w6.heap.size ≤ wr.heap.size from hbl.size)
        have HST : Hid (∀ w', Below wr.drew.heap.size wr.drew w' → Calls Try.prog 14 #[.pointer (some ⟨a, 0, none⟩), .pointer (some ⟨a2, 0, none⟩), .pointer (some ⟨ar, 0, none⟩), .pointer (some ⟨ar2, 0, none⟩), d2.val] w'
          fun e w2 => e = .returned (.bool true) ∧ Turned w.heap.size (RowB L (some ⟨b, off, none⟩)) a ar mx a2 ar2 1 w' w2) := Lib.hid fun w' hb' => step_any _ _ _ _ _ _ _ _ _ _ _ _ _ _ _ _ w' (HBO.out.below hb') (Nat.le_trans HSZ.out hb'.size) d2 hok2 hs2
        obtain ⟨k0, o0, at0, p0, v0, nn0, s0, near0⟩ := d
        obtain ⟨c0, c1, c2, c3, c4, c5, c6, c7⟩ := hl
        obtain ⟨k, o, at', p, v, nn, s, near⟩ := d2
        unfold DeedL.val at HA HST
        dsimp only at c0 c1 c2 c3 c4 c5 c6 c7 HA HST
        clear hok hok2 hsm hs2 hbo hke hbl
        go_wp2_with fail
        go_region_with (first
          | (go_at_call 15; refine HA.out.mono ?_; rintro e w7 ⟨rfl, hb7⟩)
          | (go_at_call 14; refine (HST.out w7 hb7).mono ?_; rintro e w8 ⟨rfl, ht8⟩))
        all_goals
          go_wp2_with fail
          exact ⟨⟨i + 1, by go_num, by omega, HT.out.then (((Below.refl wr.heap.size wr).drew).trans hb7) (Nat.le_trans HB6.out.size HT.out.size) HRI.out HT.out.size ht8⟩, by simp [intOf]; omega⟩
    · have hje : i = L := by omega
      subst hje
      obtain ⟨g', cap', gr', S', g2', cap2', gr2', S2', hbo, hbl, _⟩ := ht
      have HS1 := Lib.hid (same_any a g' cap' ar gr' S' _ _ wr hbo.one.m hbo.one.r)
      have HBO := Lib.hid hbo
      have HBW := Lib.hid (HB6.out.trans hbl)
      clear hbo hbl
      go_wp2_with (first
        | (go_at_call 16; refine HS1.out.mono ?_; rintro e w9 ⟨rfl, b9⟩
           have HS2 := Lib.hid (same_any a2 g2' cap2' ar2 gr2' S2' _ _ w9 (HBO.out.below b9).two.m (HBO.out.below b9).two.r)
           have HCL := Lib.hid (fun w' (hb : Below wr.heap.size wr w') => clone_any a g' cap' S' mx w' (HBO.out.below hb).one.m)
           clear HS1)
        | (go_at_call 16; refine HS2.out.mono ?_; rintro e w10 ⟨rfl, b10⟩
           have hb10 := b9.trans (b10.mono b9.size)
           clear HS2)
        | (go_at_call 17; refine (HCL.out w10 hb10).mono ?_; rintro e w11 ⟨ac, gc, capc, rfl, hmc, b11, _, _⟩
           have hb11 := hb10.trans (b11.mono hb10.size)
           have HS3 := Lib.hid (same_any ac gc capc ar gr' S' _ _ w11 hmc (HBO.out.below hb11).one.r)
           clear HCL hmc)
        | (go_at_call 16; refine HS3.out.mono ?_; rintro e w12 ⟨rfl, b12⟩
           have hb12 := hb11.trans (b12.mono hb11.size)
           clear HS3)
        | (go_at_call 12; refine (awake_any _).mono ?_; rintro e w13 ⟨rfl, b13⟩))
      go_ret
      exact ⟨by first | rfl | simp, HBW.out.trans ((hb12.trans (b13.mono hb12.size)).mono HBW.out.size)⟩
theorem MemPlays_walk (mn mx : Int) (x : Option Addr) (len cap0 : Nat) (ds : List DeedL) (w : World) (hd : DeedIn w x len cap0 ds) :
    Calls Try.prog 3 #[.agg #[.int .i64 mn, .int .i64 mx], .slice x len cap0] w fun e w' => e = .returned (.bool true) ∧ Below w.heap.size w w' := by
  by_cases hm : mayB mn mx = true
  · obtain ⟨h1, _⟩ : 0 ≤ mn ∧ mn ≤ 16 ∧ -1 ≤ mx ∧ mx ≤ 16 ∧ (mx = -1 ∨ mn ≤ mx) := of_decide_eq_true hm
    obtain ⟨q, rfl⟩ := Int.eq_ofNat_of_zero_le h1
    exact MemPlays_yes q mx x len cap0 ds hm w hd
  · exact MemPlays_no mn mx x len cap0 (not_true hm) w
end Go.Proofs.Ytogkieekpmcinaa
