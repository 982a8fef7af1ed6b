/- How many instructions there are. -/
import Derived.Test.YtfhifnkekegkkaaInsF
import Derived.Deep.RegionHeld3
namespace Go.Proofs.Ytfhifnkekegkkaa
open Go.RowKit

/-- May its own numbers be? -/
def mayI (i : Ins) : Bool := mayV (shapeV i.op).1 (shapeV i.op).2 i.op i.a i.b i.m i.n i.l.length i.e.length
mutual
/-- How many there are within an instruction; below 0: they can't be counted. -/
def inI : Nat → Ins → Int
  | d, .mk _ _ _ _ _ l e => if cntL (d + 1) 0 l < 0 ∨ cntL (d + 1) 0 e < 0 then -1 else cntL (d + 1) 0 l + cntL (d + 1) 0 e
/-- How many there are, with n ahead of them. -/
def cntL : Nat → Int → List Ins → Int
  | _, n, [] => n
  | d, n, i :: r => if mayI i = false then -1 else if 2 ≤ i.op ∧ i.op ≤ 4 then (if d = 32 then -1 else if inI d i < 0 then -1 else if 8192 < n + 1 + inI d i then -1 else cntL d (n + 1 + inI d i) r) else if 8192 < n + 1 then -1 else cntL d (n + 1) r
end
mutual
theorem inI_le : ∀ (d : Nat) (i : Ins), -1 ≤ inI d i ∧ inI d i ≤ 16384
  | d, .mk _ _ _ _ _ l e => by
    have h1 := cntL_le (d + 1) 0 l (by decide) (by decide)
    have h2 := cntL_le (d + 1) 0 e (by decide) (by decide)
    unfold inI
    split <;> omega
theorem cntL_le : ∀ (d : Nat) (n : Int) (l : List Ins), 0 ≤ n → n ≤ 8192 → -1 ≤ cntL d n l ∧ cntL d n l ≤ 8192
  | _, n, [], h0, h1 => by unfold cntL; omega
  | d, n, i :: r, h0, h1 => by
    have h2 := inI_le d i
    unfold cntL
    split
    · omega
    split
    · split
      · omega
      split
      · omega
      split
      · omega
      exact cntL_le d _ r (by omega) (by omega)
    · split
      · omega
      exact cntL_le d _ r (by omega) (by omega)
end
theorem cntL_drop (d : Nat) (n : Int) (l : List Ins) (k : Nat) (hk : k < l.length) : cntL d n (l.drop k) =
    (if mayI (l.getD k default) = false then -1 else if 2 ≤ (l.getD k default).op ∧ (l.getD k default).op ≤ 4 then (if d = 32 then -1 else if inI d (l.getD k default) < 0 then -1 else if 8192 < n + 1 + inI d (l.getD k default) then -1 else cntL d (n + 1 + inI d (l.getD k default)) (l.drop (k + 1))) else if 8192 < n + 1 then -1 else cntL d (n + 1) (l.drop (k + 1))) := by
  rw [List.drop_eq_getElem_cons hk, List.getD_eq_getElem?_getD, List.getElem?_eq_getElem hk]
  rw [cntL]
  rfl
theorem LiesI.may {w : World} {b off : Nat} {i : Ins} (h : LiesI w b off i) : ∃ xn nc xl lc xe ec, w.cell? ⟨b, off, none⟩ = some (.int .i64 i.op) ∧ w.cell? ⟨b, off + 1, none⟩ = some (.int .i64 i.a) ∧ w.cell? ⟨b, off + 2, none⟩ = some (.int .i64 i.b) ∧ w.cell? ⟨b, off + 3, none⟩ = some (.int .i64 i.m) ∧
    w.cell? ⟨b, off + 4, none⟩ = some (.slice xn i.n.length nc) ∧ w.cell? ⟨b, off + 5, none⟩ = some (.slice xl i.l.length lc) ∧ w.cell? ⟨b, off + 6, none⟩ = some (.slice xe i.e.length ec) ∧
    View w xn i.n.length i.n ∧ i.n.length ≤ nc ∧ nc ≤ 9223372036854775807 ∧ InsIn w xl i.l.length lc i.l ∧ InsIn w xe i.e.length ec i.e := by
  cases i with
  | mk op a b' m n l e =>
    unfold LiesI at h
    obtain ⟨h0, h1, h2, h3, ⟨x4, c4, h4, v4, k4, t4⟩, ⟨x5, c5, h5, v5, k5, t5⟩, ⟨x6, c6, h6, v6, k6, t6⟩⟩ := h
    exact ⟨x4, c4, x5, c5, x6, c6, h0, h1, h2, h3, h4, h5, h6, v4, k4, t4, ⟨rfl, k5, t5, v5⟩, ⟨rfl, k6, t6, v6⟩⟩
theorem inI_eq (d : Nat) (c : Ins) : inI d c = if cntL (d + 1) 0 c.l < 0 ∨ cntL (d + 1) 0 c.e < 0 then -1 else cntL (d + 1) 0 c.l + cntL (d + 1) 0 c.e := by
  cases c with
  | mk op a b m n l e =>
    rw [inI]
    rfl
theorem InsIn.below {w w' : World} {x : Option Addr} {len cap : Nat} {l : List Ins} (h : InsIn w x len cap l) (hb : Below w.heap.size w w') : InsIn w' x len cap l := ⟨h.eq, h.le, h.top, LiesL.below hb h.lies⟩
set_option maxRecDepth 100000 in
set_option maxHeartbeats 4000000 in
theorem refCount_all (N : Nat) : ∀ (d : Nat) (ls : List Ins) (x : Option Addr) (len cap : Nat) (w : World), SizeOf.sizeOf ls < N → d ≤ 32 → InsIn w x len cap ls →
    Calls Try.prog 8 #[.slice x len cap, .int .i64 d] w fun e w' => e = .returned (.int .i64 (cntL d 0 ls)) ∧ Below w.heap.size w w' := by
  induction N with
  | zero => exact fun _ _ _ _ _ _ h => absurd h (by omega)
  | succ N ih =>
    intro d ls x len cap w hN hd hin
    obtain ⟨hlen, hle, htop, hlies⟩ := hin
    have HLEN := Lib.hid hlen
    have HLIES := Lib.hid hlies
    have HIH := Lib.hid ih
    have HNN := Lib.hid hN
    clear ih hlies hN hlen
    go_enter Try.func8, Try.ntmps8
    go_wp2_with fail
    go_loopw [5, 6] (fun nv iv wr => ∃ (i : Nat) (n : Int), iv = .int .i64 i ∧ i ≤ len ∧ nv = .int .i64 n ∧ 0 ≤ n ∧ n ≤ 8192 ∧ cntL d 0 ls = cntL d n (ls.drop i) ∧ Below w.heap.size w wr) (fun _ iv _ => len - (intOf iv).toNat)
    case atStart => exact ⟨0, 0, rfl, by omega, rfl, by decide, by decide, by rw [List.drop_zero], Below.refl _ _⟩
    case round =>
      obtain ⟨i, n, rfl, hi, rfl, hn0, hn1, heq, hb⟩ := hrel
      have HEQ := Lib.hid heq
      clear heq
      by_cases hlt : i < len
      · have hil : i < ls.length := by rw [← HLEN.out]; exact hlt
        have hdr := cntL_drop d n ls i hil
        obtain ⟨b, off, rfl⟩ := LiesL.addr HLIES.out (by omega)
        have hli := (LiesL.at HLIES.out i hil).below hb
        have hsz : SizeOf.sizeOf (ls.getD i default) < SizeOf.sizeOf ls := by
          rw [List.getD_eq_getElem?_getD, List.getElem?_eq_getElem hil]
          exact List.sizeOf_lt_of_mem (List.getElem_mem hil)
        have HDR := Lib.hid hdr
        clear hdr
        revert HDR hli hsz
        generalize ls.getD i default = c
        intro hli hsz HDR
        obtain ⟨xn, nc, xl, lc, xe, ec, c0, c1, c2, c3, c4, c5, c6, hvn, hnc, hncm, hl, he⟩ := hli.may
        have hsl : SizeOf.sizeOf c.l < N ∧ SizeOf.sizeOf c.e < N := by
          have := HNN.out
          cases c with
          | mk op a b' m n' l' e' =>
            simp only [Ins.mk.sizeOf_spec] at hsz
            simp only [Ins.l, Ins.e]
            omega
        have HMAY := Lib.hid (refMay_any c.op c.a c.b c.m c.n xn xl xe c.n.length c.l.length c.e.length nc lc ec wr rfl hvn hnc (Nat.le_trans hl.le hl.top) (Nat.le_trans he.le he.top) hncm)
        obtain ⟨mb, hmb⟩ : ∃ mb, mayI c = mb := ⟨_, rfl⟩
        unfold mayI at hmb
        rw [hmb] at HMAY
        have HMB : Hid (mayI c = mb) := Lib.hid hmb
        have HL : Hid (d ≠ 32 → ∀ w', Below wr.heap.size wr w' → Calls Try.prog 8 #[.slice xl c.l.length lc, .int .i64 ((d : Int) + 1)] w' fun e w2 => e = .returned (.int .i64 (cntL (d + 1) 0 c.l)) ∧ Below w'.heap.size w' w2) := Lib.hid fun h32 w' hb' => by
          have := HIH.out (d + 1) c.l xl c.l.length lc w' hsl.1 (by omega) (hl.below hb')
          rwa [Int.natCast_add] at this
        have HE5 : Hid (d ≠ 32 → ∀ w', Below wr.heap.size wr w' → Calls Try.prog 8 #[.slice xe c.e.length ec, .int .i64 ((d : Int) + 1)] w' fun e w2 => e = .returned (.int .i64 (cntL (d + 1) 0 c.e)) ∧ Below w'.heap.size w' w2) := Lib.hid fun h32 w' hb' => by
          have := HIH.out (d + 1) c.e xe c.e.length ec w' hsl.2 (by omega) (he.below hb')
          rwa [Int.natCast_add] at this
        clear hmb hli hsz hsl hvn hnc hncm
        cases mb
        · have HE : Hid (cntL d 0 ls = -1) := Lib.hid (by rw [HEQ.out, HDR.out, HMB.out, if_pos rfl])
          go_wp2_with (go_at_call 17; refine HMAY.out.mono ?_; rintro e w1 ⟨rfl, h1⟩; have d0 := (h1.cell (World.block_lt_of_cell? wr _ c0)).trans c0; have d5 := (h1.cell (World.block_lt_of_cell? wr _ c5)).trans c5; have d6 := (h1.cell (World.block_lt_of_cell? wr _ c6)).trans c6; have hbw := hb.trans (h1.mono hb.size); clear HMAY)
          go_ret
          rw [HE.out]
          exact ⟨rfl, hbw⟩
        · have HD2 := Lib.hid (HEQ.out.trans (HDR.out.trans (by rw [HMB.out, if_neg (by decide)])))
          by_cases hbk : 2 ≤ c.op ∧ c.op ≤ 4
          · have HD3 := Lib.hid (HD2.out.trans (if_pos hbk))
            obtain ⟨q1, q2⟩ := hbk
            by_cases h32 : d = 32
            · have HE : Hid (cntL d 0 ls = -1) := Lib.hid (HD3.out.trans (if_pos h32))
              have hd2 : (d : Int) = 32 := by omega
              clear h32
              go_wp2_with (go_at_call 17; refine HMAY.out.mono ?_; rintro e w1 ⟨rfl, h1⟩; have d0 := (h1.cell (World.block_lt_of_cell? wr _ c0)).trans c0; have d5 := (h1.cell (World.block_lt_of_cell? wr _ c5)).trans c5; have d6 := (h1.cell (World.block_lt_of_cell? wr _ c6)).trans c6; have hbw := hb.trans (h1.mono hb.size); clear HMAY)
              go_ret
              rw [HE.out]
              exact ⟨rfl, hbw⟩
            · have HD4 := Lib.hid (HD3.out.trans (if_neg h32))
              have HLc := Lib.hid (HL.out h32)
              have HEc := Lib.hid (HE5.out h32)
              have hd2 : ((d : Int) == 32) = false := eq_no (by omega)
              have r1 := cntL_le (d + 1) 0 c.l (by decide) (by decide)
              have r2 := cntL_le (d + 1) 0 c.e (by decide) (by decide)
              have HIN := Lib.hid (inI_eq d c)
              revert r1 r2 HLc HEc HIN
              generalize cntL (d + 1) 0 c.l = va
              generalize cntL (d + 1) 0 c.e = vb
              intro HLc HEc r1 r2 HIN
              have wd : IntKind.i64.wrap ((d : Int) + 1) = (d : Int) + 1 := by rw [IntKind.wrap_i64]; omega
              clear h32
              go_wp2_with (go_at_call 17; refine HMAY.out.mono ?_; rintro e w1 ⟨rfl, h1⟩; have d0 := (h1.cell (World.block_lt_of_cell? wr _ c0)).trans c0; have d5 := (h1.cell (World.block_lt_of_cell? wr _ c5)).trans c5; have d6 := (h1.cell (World.block_lt_of_cell? wr _ c6)).trans c6; have hbw := hb.trans (h1.mono hb.size); clear HMAY)
              have DS : Hid (w1.drew.cell? ⟨b, off + i * 7 + 5, none⟩ = some (.slice xl c.l.length lc) ∧ w1.drew.cell? ⟨b, off + i * 7 + 6, none⟩ = some (.slice xe c.e.length ec)) := Lib.hid ⟨d5, d6⟩
              have hbd : Below wr.heap.size wr w1.drew := h1.drew
              go_region_held3 (fun w' => w'.cell? ⟨b, off + i * 7 + 5, none⟩ = some (.slice xl c.l.length lc) ∧ w'.cell? ⟨b, off + i * 7 + 6, none⟩ = some (.slice xe c.e.length ec))
                (first | exact DS.out | exact DS1.out | exact DS2.out)
                (first
                  | (go_at_call 8; refine (HLc.out _ hbd).mono ?_; rintro e w2 ⟨rfl, k2⟩
                     have DS1 := Lib.hid (And.intro ((k2.cell (World.block_lt_of_cell? _ _ DS.out.1)).trans DS.out.1) ((k2.cell (World.block_lt_of_cell? _ _ DS.out.2)).trans DS.out.2))
                     have hbe := hbd.trans (k2.mono hbd.size)
                     clear HLc)
                  | (go_at_call 8; refine (HEc.out _ hbe).mono ?_; rintro e w3 ⟨rfl, k3⟩
                     have DS2 := Lib.hid (And.intro ((k3.cell (World.block_lt_of_cell? _ _ DS1.out.1)).trans DS1.out.1) ((k3.cell (World.block_lt_of_cell? _ _ DS1.out.2)).trans DS1.out.2))
                     have hbf := hb.trans ((hbe.trans (k3.mono hbe.size)).mono hb.size)
                     clear HEc))
              all_goals
                by_cases a0 : va < 0
                · have hI : inI d c = -1 := HIN.out.trans (if_pos (.inl a0))
                  have HE : Hid (cntL d 0 ls = -1) := Lib.hid (HD4.out.trans (if_pos (by omega)))
                  clear hI
                  go_wp2_with fail
                  go_ret
                  rw [HE.out]
                  exact ⟨rfl, hbf⟩
                · by_cases b0 : vb < 0
                  · have hI : inI d c = -1 := HIN.out.trans (if_pos (.inr b0))
                    have HE : Hid (cntL d 0 ls = -1) := Lib.hid (HD4.out.trans (if_pos (by omega)))
                    clear hI
                    go_wp2_with fail
                    go_ret
                    rw [HE.out]
                    exact ⟨rfl, hbf⟩
                  · have hI : inI d c = va + vb := HIN.out.trans (if_neg (by omega))
                    have HD5 := HD4.out.trans (if_neg (by omega))
                    rw [hI] at HD5
                    have HD6 := Lib.hid HD5
                    clear hI HD5
                    by_cases big : 8192 < n + 1 + va + vb
                    · have HE : Hid (cntL d 0 ls = -1) := Lib.hid (HD6.out.trans (if_pos (by omega)))
                      go_wp2_with fail
                      go_ret
                      rw [HE.out]
                      exact ⟨rfl, hbf⟩
                    · have HE : Hid (cntL d 0 ls = cntL d (n + 1 + va + vb) (ls.drop (i + 1))) := Lib.hid (by rw [HD6.out, if_neg (by omega), Int.add_assoc (n + 1) va vb])
                      go_wp2_with fail
                      exact ⟨⟨i + 1, n + 1 + va + vb, by go_num, by omega, rfl, by omega, by omega, HE.out, hbf⟩, by simp [intOf]; omega⟩
          · have HD3 := Lib.hid (HD2.out.trans (if_neg hbk))
            by_cases h2 : c.op < 2
            all_goals
              by_cases hbig : 8192 < n + 1
              · have HE : Hid (cntL d 0 ls = -1) := Lib.hid (HD3.out.trans (if_pos hbig))
                go_wp2_with (go_at_call 17; refine HMAY.out.mono ?_; rintro e w1 ⟨rfl, h1⟩; have d0 := (h1.cell (World.block_lt_of_cell? wr _ c0)).trans c0; have d5 := (h1.cell (World.block_lt_of_cell? wr _ c5)).trans c5; have d6 := (h1.cell (World.block_lt_of_cell? wr _ c6)).trans c6; have hbw := hb.trans (h1.mono hb.size); clear HMAY)
                go_ret
                rw [HE.out]
                exact ⟨rfl, hbw⟩
              · have HE := Lib.hid (HD3.out.trans (if_neg hbig))
                go_wp2_with (go_at_call 17; refine HMAY.out.mono ?_; rintro e w1 ⟨rfl, h1⟩; have d0 := (h1.cell (World.block_lt_of_cell? wr _ c0)).trans c0; have d5 := (h1.cell (World.block_lt_of_cell? wr _ c5)).trans c5; have d6 := (h1.cell (World.block_lt_of_cell? wr _ c6)).trans c6; have hbw := hb.trans (h1.mono hb.size); clear HMAY)
                exact ⟨⟨i + 1, n + 1, by go_num, by omega, rfl, by omega, by omega, HE.out, hbw⟩, by simp [intOf]; omega⟩
      · have hie : i = len := by omega
        subst hie
        have HE : Hid (cntL d 0 ls = n) := Lib.hid (by rw [HEQ.out, HLEN.out, List.drop_length, cntL])
        go_wp2_with fail
        go_ret
        rw [HE.out]
        exact ⟨rfl, hb⟩
theorem refCount_any (d : Nat) (hd : d ≤ 32) (ls : List Ins) (x : Option Addr) (len cap : Nat) (w : World) (h : InsIn w x len cap ls) :
    Calls Try.prog 8 #[.slice x len cap, .int .i64 d] w fun e w' => e = .returned (.int .i64 (cntL d 0 ls)) ∧ Below w.heap.size w w' :=
  refCount_all _ d ls x len cap w (Nat.lt_succ_self _) hd h
end Go.Proofs.Ytfhifnkekegkkaa
