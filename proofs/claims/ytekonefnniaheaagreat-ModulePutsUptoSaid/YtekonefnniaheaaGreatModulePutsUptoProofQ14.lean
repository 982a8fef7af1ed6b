/- Texts of the proof of ModulePutsUptoProof, part 14. -/
import Derived.Test.YtekonefnniaheaaGreatModulePutsUptoProofQ13
namespace Go.Proofs.YtekonefnniaheaaGreat
open Go.RowKit Go.Deep
open Leb (putU putS)

set_option maxRecDepth 100000 in
set_option maxHeartbeats 4000000 in
theorem lyCode_any (W0 : World) (l : Nat) (s : Lay) (v : Value) (c : Cod) (xs : Option Addr) (cs : Nat) (xl : Option Addr) (cl : Nat) (w : World) (h : LyAt W0 l s v w) (hs : IntsIn W0 xs c.locals.length cs c.locals) (hl : InsIn W0 xl c.l.length cl c.l) (hwf : wfL c.l) (hn : c.locals.length ≤ 1048576) :
    Calls Tryz.prog 46 #[.pointer (some ⟨l, 0, none⟩), .agg #[.slice xs c.locals.length cs, .slice xl c.l.length cl]] w fun e w' => Does W0 l (codP s c) w e w' := by
  have b0 := (h).own #[.pointer (some ⟨l, 0, none⟩)] 56
  have ka0 := (h).alloc_keep (.cells #[.pointer (some ⟨l, 0, none⟩)] 56)
  have sz1 : (w.alloc (.cells #[.pointer (some ⟨l, 0, none⟩)] 56)).heap.size = w.heap.size + 1 := by simp
  have b1 := ((h).alloc (.cells #[.pointer (some ⟨l, 0, none⟩)] 56)).own #[.slice xs c.locals.length cs, .slice xl c.l.length cl] 73
  rw [sz1] at b1
  clear sz1
  have b0 := b0.keep (((h).alloc (.cells #[.pointer (some ⟨l, 0, none⟩)] 56)).alloc_keep (.cells #[.slice xs c.locals.length cs, .slice xl c.l.length cl] 73))
  have ka1 := ka0.trans (((h).alloc (.cells #[.pointer (some ⟨l, 0, none⟩)] 56)).alloc_keep (.cells #[.slice xs c.locals.length cs, .slice xl c.l.length cl] 73))
  have st0 := ((h).alloc (.cells #[.pointer (some ⟨l, 0, none⟩)] 56)).alloc (.cells #[.slice xs c.locals.length cs, .slice xl c.l.length cl] 73)
  have kp0 := ka1
  have c0 := b0.cellOf
  obtain ⟨c1, c2⟩ := b1.blk.two
  have HS := Lib.hid hs
  have HL := Lib.hid hl
  have HW := Lib.hid hwf
  have HN := Lib.hid hn
  unfold codP
  clear h hs hl hwf hn
  go_enter Tryz.func46, Tryz.ntmps46
  go_wp2_with (first
    | (go_at_call 28; refine (lyNeed_any W0 l s _ (decide ((c.locals.length : Int) ≤ 256)) _ st0).mono ?_; rintro e w1 ⟨rfl, ⟨v1, st1⟩, kk1⟩; have kp1 := kp0.trans kk1; have d0 := b0.keep kk1; have d1 := b1.keep kk1; have e0 := d0.cellOf; clear st0 kp0)
    | (go_at_call 74; refine (lyAs_code W0 l _ _ (codIn c) _ _ _ st1 (fun v' w' st' k' => lyCode1_any W0 l _ v' c xs cs xl cl _ _ w' st' (d0.keep k') (d1.keep k') HS.out HL.out HW.out HN.out)).mono ?_; rintro e w2 ⟨rfl, ⟨v2, st2⟩, kk2⟩; have kp2 := kp1.trans kk2))
  exact bodyPost_void rfl rfl ⟨rfl, ⟨_, st2⟩, kp2⟩
set_option maxRecDepth 100000 in
set_option maxHeartbeats 4000000 in
theorem lyList_cods (W0 : World) (l : Nat) (s : Lay) (v : Value) (x : Option Addr) (len cap : Nat) (ts : List Cod) (most : Int) (w : World) (h : LyAt W0 l s v w) (hin : RowsIn 2 codE W0 x len cap ts) :
    Calls Tryz.prog 99 #[.pointer (some ⟨l, 0, none⟩), .slice x len cap, .int .i64 most, .func (.func 46) #[.pointer (some ⟨l, 0, none⟩)] #[]] w fun e w' => Does W0 l (listP most codP s ts) w e w' := by
  have st0 := h
  have kp0 := KeepL.refl l w
  have heq := hin.eq
  have htop := hin.top
  have hle := hin.le
  have HIN := Lib.hid hin
  unfold listP
  rw [← heq]
  obtain ⟨s2, hs2⟩ : ∃ s2, s2 = putP (needP s (decide ((len : Int) ≤ most))) (putU (len : Int)) := ⟨_, rfl⟩
  rw [← hs2]
  have HS2 := Lib.hid hs2
  have HU := Lib.hid (fun w => PutU_any (len : Int) w (by omega))
  have HLEN := Lib.hid heq
  have HLB : Hid ((len : Int) ≤ 9223372036854775807) := Lib.hid (by omega)
  clear h hin heq htop hle hs2
  go_enter Tryz.func99, Tryz.ntmps99
  go_wp2_with (first | (go_at_call 28; refine (lyNeed_any W0 l s _ (decide ((len : Int) ≤ most)) _ st0).mono ?_; rintro e w1 ⟨rfl, ⟨v1, st1⟩, kk1⟩; have kp1 := kp0.trans kk1; clear st0 kp0) | (go_at_call 86; refine (HU.out _).mono ?_; rintro e w2 ⟨rfl, hb2⟩; have st2 := st1.next hb2; have kk2 := KeepL.of_below st1.lt hb2; have kp2 := kp1.trans kk2; clear st1 kp1) | (go_at_call 27; refine (lyPut_nums W0 l _ _ (putU (len : Int)) _ st2 (Leb.putU_byte _)).mono ?_; rintro e w3 ⟨rfl, ⟨v3, st3⟩, kk3⟩; have kp3 := kp2.trans kk3; clear st2 kp2))
  rw [← HS2.out] at st3
  have HST := Lib.hid st3
  have HK := Lib.hid kp3
  clear st3 kp3 kk1 kk2 kk3
  go_loopw [23] (fun iv wr => ∃ (i : Nat) (v' : Value), iv = .int .i64 i ∧ i ≤ len ∧ LyAt W0 l ((ts.take i).foldl (stepP codP) s2) v' wr ∧ KeepL l w wr) (fun iv _ => len - (intOf iv).toNat)
  case atStart => exact ⟨0, v3, rfl, Nat.zero_le _, by rw [List.take_zero]; exact HST.out, HK.out⟩
  case round =>
    clear HST HK
    obtain ⟨i, v', rfl, hi, st, kp⟩ := hrel
    by_cases hlt : i < len
    · have hil : i < ts.length := by rw [← HLEN.out]; exact hlt
      have hbw := st.below
      have HIL := Lib.hid hil
      have hone := HIN.out.lie
      rcases hone with h0 | ⟨b, off, hx, hone⟩
      · omega
      subst hx
      have he := hone i hil
      clear hone
      revert he
      obtain ⟨t, ht⟩ : ∃ t, ts.getD i default = t := ⟨_, rfl⟩
      rw [ht]
      intro he
      have HT := Lib.hid ht
      clear ht
      obtain ⟨xs, cs, xl, cl, ⟨q0, q1⟩, r0, r1, r2, r3⟩ := he
      have q0' := below_cell hbw q0
      have q1' := below_cell hbw q1
      have R0 := Lib.hid r0
      have R1 := Lib.hid r1
      have R2 := Lib.hid r2
      have R3 := Lib.hid r3
      clear q0 q1 r0 r1 r2 r3
      have HNX := Lib.hid (fold_next codP s2 ts i hil)
      have HSP := Lib.hid (fold_stop codP s2 ts i)
      revert st HNX HSP
      generalize (ts.take i).foldl (stepP codP) s2 = si
      intro st HNX HSP
      have sta := st.alloc (.cells #[.slice xs t.locals.length cs, .slice xl t.l.length cl] 73)
      have kpa := kp.trans (st.alloc_keep (.cells #[.slice xs t.locals.length cs, .slice xl t.l.length cl] 73))
      obtain ⟨⟨g0, g1, g2⟩, _⟩ := sta.three
      obtain ⟨bc0, bc1⟩ := (BlkAt.new wr #[.slice xs t.locals.length cs, .slice xl t.l.length cl] 73).two
      have HSTA := Lib.hid sta
      clear hbw hil st sta
      cases hno : si.no with
      | true =>
        rw [hno] at g1
        have HE := Lib.hid (HSP.out hno)
        clear HNX HSP hno
        go_wp2_with fail
        rw [HE.out]
        exact bodyPost_voidr rfl rfl ⟨rfl, ⟨_, HSTA.out⟩, kpa⟩
      | false =>
        rw [hno] at g1
        have HE := Lib.hid (HNX.out hno)
        rw [HT.out] at HE
        clear HNX HSP hno
        go_wp2_with (go_at_call 46; refine (lyCode_any W0 l si _ t xs cs xl cl _ HSTA.out R0.out R1.out R2.out R3.out).mono ?_; rintro e w5 ⟨rfl, ⟨v5, st5⟩, kk5⟩; have kp5 := kpa.trans kk5)
        replace st5 : LyAt W0 l (codP si t) v5 w5 := st5
        rw [← HE.out] at st5
        have hlb := HLB.out
        have hlw : wrap64 ((i : Int) + 1) = ((i + 1 : Nat) : Int) := by
          unfold wrap64
          omega
        rw [hlw]
        exact ⟨⟨i + 1, v5, rfl, by omega, st5, kp5⟩, by show len - (i + 1) < len - i; omega⟩
    · have hie : i = len := by omega
      subst hie
      have HE : Hid ((ts.take i).foldl (stepP codP) s2 = ts.foldl (stepP codP) s2) := Lib.hid (by rw [HLEN.out, List.take_length])
      rw [HE.out] at st
      go_wp2_with fail
      exact bodyPost_void rfl rfl ⟨rfl, ⟨_, st⟩, kp⟩
set_option maxRecDepth 100000 in
set_option maxHeartbeats 4000000 in
theorem lyStart1_any (W0 : World) (l : Nat) (s : Lay) (v : Value) (n : Int) (k0 k1 : Nat) (w : World) (h : LyAt W0 l s v w) (o0 : Own l w k0 #[.pointer (some ⟨l, 0, none⟩)] 56) (o1 : Own l w k1 #[.int .i64 n] 3) (hn : 0 < n) (hn2 : n ≤ 9223372036854775807) :
    Calls Tryz.prog 94 #[.pointer (some ⟨k0, 0, none⟩), .pointer (some ⟨k1, 0, none⟩)] w fun e w' => Does W0 l (indexP s (n - 1)) w e w' := by
  have c0 := o0.cellOf
  have c1 := o1.cellOf
  have wn : IntKind.i64.wrap (n - 1) = n - 1 := by rw [IntKind.wrap_i64]; omega
  have HI := Lib.hid (fun w h => lyIndex_any W0 l s v (n - 1) w h (by omega))
  have H := Lib.hid h
  clear h hn hn2 o0 o1
  go_enter Tryz.func94, Tryz.ntmps94
  go_wp2_with (go_at_call 34; refine (HI.out _ H.out).mono ?_; rintro e w1 ⟨rfl, ⟨v1, st1⟩, kk1⟩)
  exact bodyPost_void rfl rfl ⟨rfl, ⟨_, st1⟩, kk1⟩
set_option maxRecDepth 100000 in
set_option maxHeartbeats 4000000 in
theorem lyStart_any (W0 : World) (l : Nat) (s : Lay) (v : Value) (n : Int) (w : World) (h : LyAt W0 l s v w) (hn2 : n ≤ 9223372036854775807) :
    Calls Tryz.prog 42 #[.pointer (some ⟨l, 0, none⟩), .int .i64 n] w fun e w' => Does W0 l (startP s n) w e w' := by
  have b0 := (h).own #[.pointer (some ⟨l, 0, none⟩)] 56
  have ka0 := (h).alloc_keep (.cells #[.pointer (some ⟨l, 0, none⟩)] 56)
  have sz1 : (w.alloc (.cells #[.pointer (some ⟨l, 0, none⟩)] 56)).heap.size = w.heap.size + 1 := by simp
  have b1 := ((h).alloc (.cells #[.pointer (some ⟨l, 0, none⟩)] 56)).own #[.int .i64 n] 3
  rw [sz1] at b1
  clear sz1
  have b0 := b0.keep (((h).alloc (.cells #[.pointer (some ⟨l, 0, none⟩)] 56)).alloc_keep (.cells #[.int .i64 n] 3))
  have ka1 := ka0.trans (((h).alloc (.cells #[.pointer (some ⟨l, 0, none⟩)] 56)).alloc_keep (.cells #[.int .i64 n] 3))
  have st0 := ((h).alloc (.cells #[.pointer (some ⟨l, 0, none⟩)] 56)).alloc (.cells #[.int .i64 n] 3)
  have kp0 := ka1
  have c0 := b0.cellOf
  have c1 := b1.cellOf
  unfold startP
  by_cases hp : 0 < n
  · rw [if_pos hp]
    have HP := Lib.hid hp
    have HN := Lib.hid hn2
    have t0 : (0 : Int) ≤ n := by omega
    have hd : decide (0 ≤ n) = true := decide_eq_true t0
    rw [hd]
    clear h hn2 hd
    go_enter Tryz.func42, Tryz.ntmps42
    go_wp2_with (first
      | (go_at_call 28; refine (lyNeed_any W0 l s _ true _ st0).mono ?_; rintro e w1 ⟨rfl, ⟨v1, st1⟩, kk1⟩; have kp1 := kp0.trans kk1; have d0 := b0.keep kk1; have d1 := b1.keep kk1; have e0 := d0.cellOf; have e1 := d1.cellOf; clear st0 kp0)
      | (go_at_call 73; refine (lyByte_any W0 l _ _ 8 _ st1).mono ?_; rintro e w2 ⟨rfl, ⟨v2, st2⟩, kk2⟩; have kp2 := kp1.trans kk2; have f0 := d0.keep kk2; have f1 := d1.keep kk2; have g0 := f0.cellOf; have g1 := f1.cellOf; clear st1 kp1)
      | (go_at_call 74; refine (lyAs_start W0 l _ _ (fun s => indexP s (n - 1)) _ _ _ st2 (fun v' w' st' k' => lyStart1_any W0 l _ v' n _ _ w' st' (f0.keep k') (f1.keep k') HP.out HN.out)).mono ?_; rintro e w3 ⟨rfl, ⟨v3, st3⟩, kk3⟩; have kp3 := kp2.trans kk3))
    exact bodyPost_void rfl rfl ⟨rfl, ⟨_, st3⟩, kp3⟩
  · rw [if_neg hp]
    have hd : decide (0 ≤ n) = decide ((0 : Int) ≤ n) := rfl
    obtain ⟨b, hb⟩ : ∃ b, decide ((0 : Int) ≤ n) = b := ⟨_, rfl⟩
    rw [hb]
    cases b with
    | true =>
      have t0 : (0 : Int) ≤ n := of_decide_eq_true hb
      clear h hn2 hd hb
      go_enter Tryz.func42, Tryz.ntmps42
      go_wp2_with (go_at_call 28; refine (lyNeed_any W0 l s _ true _ st0).mono ?_; rintro e w1 ⟨rfl, ⟨v1, st1⟩, kk1⟩; have kp1 := kp0.trans kk1; have d1 := b1.keep kk1; have e1 := d1.cellOf)
      exact bodyPost_void rfl rfl ⟨rfl, ⟨_, st1⟩, kp1⟩
    | false =>
      have t0 : ¬ (0 : Int) ≤ n := of_decide_eq_false hb
      clear h hn2 hd hb
      go_enter Tryz.func42, Tryz.ntmps42
      go_wp2_with (go_at_call 28; refine (lyNeed_any W0 l s _ false _ st0).mono ?_; rintro e w1 ⟨rfl, ⟨v1, st1⟩, kk1⟩; have kp1 := kp0.trans kk1; have d1 := b1.keep kk1; have e1 := d1.cellOf)
      exact bodyPost_void rfl rfl ⟨rfl, ⟨_, st1⟩, kp1⟩
set_option maxRecDepth 100000 in
set_option maxHeartbeats 2000000 in
theorem lyAs_sect_FuncType (W0 : World) (l : Nat) (s : Lay) (v : Value) (g : Lay → Lay) (k0 k1 k2 : Nat) (w : World) (h : LyAt W0 l s v w)
    (hc : ∀ v' w', LyAt W0 l ⟨[], s.no, s.full⟩ v' w' → KeepL l w w' → Calls Tryz.prog 75 #[.pointer (some ⟨k0, 0, none⟩), .pointer (some ⟨k1, 0, none⟩), .pointer (some ⟨k2, 0, none⟩)] w' fun e w2 => Does W0 l (g ⟨[], s.no, s.full⟩) w' e w2) :
    Calls Tryz.prog 74 #[.pointer (some ⟨l, 0, none⟩), .func (.func 75) #[] #[.pointer (some ⟨k0, 0, none⟩), .pointer (some ⟨k1, 0, none⟩), .pointer (some ⟨k2, 0, none⟩)]] w fun e w' => Does W0 l (asB s g) w e w' := by
  obtain ⟨a, cap, hv⟩ := bytes_slice h.bytes
  subst hv
  have H := Lib.hid h
  obtain ⟨⟨c0, c1, c2⟩, f0, f1, f2⟩ := h.three
  have HA := Lib.hid h.aside
  have HC := Lib.hid (hc _ _ h.aside.1 h.aside.2)
  unfold asB
  obtain ⟨i, hi⟩ : ∃ i, g ⟨[], s.no, s.full⟩ = i := ⟨_, rfl⟩
  rw [hi] at HC
  rw [hi]
  clear h hc hi
  go_enter Tryz.func74, Tryz.ntmps74
  go_wp2_with (first
    | (go_at_call 75; refine HC.out.mono ?_; rintro e w1 ⟨rfl, ⟨v1, st1⟩, kk1⟩; obtain ⟨a1, cap1, hv1⟩ := bytes_slice st1.bytes; subst hv1; obtain ⟨⟨d0, d1, d2⟩, j0, j1, j2⟩ := st1.three; obtain ⟨st2, kp2, hby⟩ := H.out.again kk1 st1; have hcv := bytes_conv hby; have HRG := Lib.hid st1.rng; have HLE := Lib.hid st1.le; clear HC)
    | (go_at_call 107; refine (lyBytes_any W0 l _ _ (strOfNums i.xs) _ st2 (by rw [strOfNums_size]; have := HLE.out; unfold maxLen; omega)).mono ?_; rintro e w3 ⟨rfl, ⟨v3, st3⟩, kk3⟩; rw [bl_nums HRG.out] at st3))
  exact bodyPost_void rfl rfl ⟨rfl, ⟨_, st3⟩, kp2.trans kk3⟩
set_option maxRecDepth 100000 in
set_option maxHeartbeats 4000000 in
theorem lySect1_fts (W0 : World) (l : Nat) (s : Lay) (v : Value) (x : Option Addr) (len cap : Nat) (ts : List FT) (k0 k1 k2 : Nat) (w : World) (h : LyAt W0 l s v w) (o0 : Own l w k0 #[.pointer (some ⟨l, 0, none⟩)] 56) (o1 : Own l w k1 #[.slice x len cap] 22) (o2 : Own l w k2 #[.func (.func 30) #[.pointer (some ⟨l, 0, none⟩)] #[]] 80) (hin : RowsIn 2 ftE W0 x len cap ts) :
    Calls Tryz.prog 75 #[.pointer (some ⟨k0, 0, none⟩), .pointer (some ⟨k1, 0, none⟩), .pointer (some ⟨k2, 0, none⟩)] w fun e w' => Does W0 l (listP 1000 ftP s ts) w e w' := by
  have c0 := o0.cellOf
  have c1 := o1.cellOf
  have c2 := o2.cellOf
  have H := Lib.hid h
  have HIN := Lib.hid hin
  clear h hin o0 o1 o2
  go_enter Tryz.func75, Tryz.ntmps75
  go_wp2_with (go_at_call 76; refine (lyList_fts W0 l s _ x len cap ts 1000 _ H.out HIN.out).mono ?_; rintro e w1 ⟨rfl, ⟨v1, st1⟩, kk1⟩)
  exact bodyPost_void rfl rfl ⟨rfl, ⟨_, st1⟩, kk1⟩
set_option maxRecDepth 100000 in
set_option maxHeartbeats 4000000 in
theorem lySect_fts (W0 : World) (l : Nat) (s : Lay) (v : Value) (id : Int) (x : Option Addr) (len cap : Nat) (ts : List FT) (w : World) (h : LyAt W0 l s v w) (hin : RowsIn 2 ftE W0 x len cap ts) :
    Calls Tryz.prog 29 #[.pointer (some ⟨l, 0, none⟩), .int .i64 id, .slice x len cap, .func (.func 30) #[.pointer (some ⟨l, 0, none⟩)] #[]] w fun e w' => Does W0 l (sectP id ftP s ts) w e w' := by
  have b0 := (h).own #[.pointer (some ⟨l, 0, none⟩)] 56
  have ka0 := (h).alloc_keep (.cells #[.pointer (some ⟨l, 0, none⟩)] 56)
  have sz1 : (w.alloc (.cells #[.pointer (some ⟨l, 0, none⟩)] 56)).heap.size = w.heap.size + 1 := by simp
  have b1 := ((h).alloc (.cells #[.pointer (some ⟨l, 0, none⟩)] 56)).own #[.slice x len cap] 22
  rw [sz1] at b1
  clear sz1
  have b0 := b0.keep (((h).alloc (.cells #[.pointer (some ⟨l, 0, none⟩)] 56)).alloc_keep (.cells #[.slice x len cap] 22))
  have ka1 := ka0.trans (((h).alloc (.cells #[.pointer (some ⟨l, 0, none⟩)] 56)).alloc_keep (.cells #[.slice x len cap] 22))
  have sz2 : ((w.alloc (.cells #[.pointer (some ⟨l, 0, none⟩)] 56)).alloc (.cells #[.slice x len cap] 22)).heap.size = w.heap.size + 2 := by simp
  have b2 := (((h).alloc (.cells #[.pointer (some ⟨l, 0, none⟩)] 56)).alloc (.cells #[.slice x len cap] 22)).own #[.func (.func 30) #[.pointer (some ⟨l, 0, none⟩)] #[]] 80
  rw [sz2] at b2
  clear sz2
  have b0 := b0.keep ((((h).alloc (.cells #[.pointer (some ⟨l, 0, none⟩)] 56)).alloc (.cells #[.slice x len cap] 22)).alloc_keep (.cells #[.func (.func 30) #[.pointer (some ⟨l, 0, none⟩)] #[]] 80))
  have b1 := b1.keep ((((h).alloc (.cells #[.pointer (some ⟨l, 0, none⟩)] 56)).alloc (.cells #[.slice x len cap] 22)).alloc_keep (.cells #[.func (.func 30) #[.pointer (some ⟨l, 0, none⟩)] #[]] 80))
  have ka2 := ka1.trans ((((h).alloc (.cells #[.pointer (some ⟨l, 0, none⟩)] 56)).alloc (.cells #[.slice x len cap] 22)).alloc_keep (.cells #[.func (.func 30) #[.pointer (some ⟨l, 0, none⟩)] #[]] 80))
  have st0 := (((h).alloc (.cells #[.pointer (some ⟨l, 0, none⟩)] 56)).alloc (.cells #[.slice x len cap] 22)).alloc (.cells #[.func (.func 30) #[.pointer (some ⟨l, 0, none⟩)] #[]] 80)
  have kp0 := ka2
  have c0 := b0.cellOf
  have c1 := b1.cellOf
  have c2 := b2.cellOf
  have heq := hin.eq
  have HIN := Lib.hid hin
  unfold sectP
  rw [← heq]
  by_cases h0 : len = 0
  · rw [if_pos h0]
    have t0 : ((len : Int) == 0) = true := by rw [h0]; rfl
    clear h hin heq h0
    go_enter Tryz.func29, Tryz.ntmps29
    go_wp2_with fail
    exact bodyPost_voidr rfl rfl ⟨rfl, ⟨_, st0⟩, kp0⟩
  · rw [if_neg h0]
    have t0 : ((len : Int) == 0) = false := eq_no (by omega)
    clear h hin heq h0
    go_enter Tryz.func29, Tryz.ntmps29
    go_wp2_with (first
      | (go_at_call 73; refine (lyByte_any W0 l s _ id _ st0).mono ?_; rintro e w1 ⟨rfl, ⟨v1, st1⟩, kk1⟩; have kp1 := kp0.trans kk1; have d0 := b0.keep kk1; have d1 := b1.keep kk1; have d2 := b2.keep kk1; have e0 := d0.cellOf; clear st0 kp0)
      | (go_at_call 74; refine (lyAs_sect_FuncType W0 l _ _ (fun s => listP 1000 ftP s ts) _ _ _ _ st1 (fun v' w' st' k' => lySect1_fts W0 l _ v' x len cap ts _ _ _ w' st' (d0.keep k') (d1.keep k') (d2.keep k') HIN.out)).mono ?_; rintro e w2 ⟨rfl, ⟨v2, st2⟩, kk2⟩; have kp2 := kp1.trans kk2))
    exact bodyPost_void rfl rfl ⟨rfl, ⟨_, st2⟩, kp2⟩
set_option maxRecDepth 100000 in
set_option maxHeartbeats 2000000 in
theorem lyAs_sect_Import (W0 : World) (l : Nat) (s : Lay) (v : Value) (g : Lay → Lay) (k0 k1 k2 : Nat) (w : World) (h : LyAt W0 l s v w)
    (hc : ∀ v' w', LyAt W0 l ⟨[], s.no, s.full⟩ v' w' → KeepL l w w' → Calls Tryz.prog 79 #[.pointer (some ⟨k0, 0, none⟩), .pointer (some ⟨k1, 0, none⟩), .pointer (some ⟨k2, 0, none⟩)] w' fun e w2 => Does W0 l (g ⟨[], s.no, s.full⟩) w' e w2) :
    Calls Tryz.prog 74 #[.pointer (some ⟨l, 0, none⟩), .func (.func 79) #[] #[.pointer (some ⟨k0, 0, none⟩), .pointer (some ⟨k1, 0, none⟩), .pointer (some ⟨k2, 0, none⟩)]] w fun e w' => Does W0 l (asB s g) w e w' := by
  obtain ⟨a, cap, hv⟩ := bytes_slice h.bytes
  subst hv
  have H := Lib.hid h
  obtain ⟨⟨c0, c1, c2⟩, f0, f1, f2⟩ := h.three
  have HA := Lib.hid h.aside
  have HC := Lib.hid (hc _ _ h.aside.1 h.aside.2)
  unfold asB
  obtain ⟨i, hi⟩ : ∃ i, g ⟨[], s.no, s.full⟩ = i := ⟨_, rfl⟩
  rw [hi] at HC
  rw [hi]
  clear h hc hi
  go_enter Tryz.func74, Tryz.ntmps74
  go_wp2_with (first
    | (go_at_call 79; refine HC.out.mono ?_; rintro e w1 ⟨rfl, ⟨v1, st1⟩, kk1⟩; obtain ⟨a1, cap1, hv1⟩ := bytes_slice st1.bytes; subst hv1; obtain ⟨⟨d0, d1, d2⟩, j0, j1, j2⟩ := st1.three; obtain ⟨st2, kp2, hby⟩ := H.out.again kk1 st1; have hcv := bytes_conv hby; have HRG := Lib.hid st1.rng; have HLE := Lib.hid st1.le; clear HC)
    | (go_at_call 107; refine (lyBytes_any W0 l _ _ (strOfNums i.xs) _ st2 (by rw [strOfNums_size]; have := HLE.out; unfold maxLen; omega)).mono ?_; rintro e w3 ⟨rfl, ⟨v3, st3⟩, kk3⟩; rw [bl_nums HRG.out] at st3))
  exact bodyPost_void rfl rfl ⟨rfl, ⟨_, st3⟩, kp2.trans kk3⟩
set_option maxRecDepth 100000 in
set_option maxHeartbeats 4000000 in
theorem lySect1_imps (W0 : World) (l : Nat) (s : Lay) (v : Value) (x : Option Addr) (len cap : Nat) (ts : List Imp) (k0 k1 k2 : Nat) (w : World) (h : LyAt W0 l s v w) (o0 : Own l w k0 #[.pointer (some ⟨l, 0, none⟩)] 56) (o1 : Own l w k1 #[.slice x len cap] 23) (o2 : Own l w k2 #[.func (.func 32) #[.pointer (some ⟨l, 0, none⟩)] #[]] 86) (hin : RowsIn 7 impE W0 x len cap ts) :
    Calls Tryz.prog 79 #[.pointer (some ⟨k0, 0, none⟩), .pointer (some ⟨k1, 0, none⟩), .pointer (some ⟨k2, 0, none⟩)] w fun e w' => Does W0 l (listP 1000 impP s ts) w e w' := by
  have c0 := o0.cellOf
  have c1 := o1.cellOf
  have c2 := o2.cellOf
  have H := Lib.hid h
  have HIN := Lib.hid hin
  clear h hin o0 o1 o2
  go_enter Tryz.func79, Tryz.ntmps79
  go_wp2_with (go_at_call 80; refine (lyList_imps W0 l s _ x len cap ts 1000 _ H.out HIN.out).mono ?_; rintro e w1 ⟨rfl, ⟨v1, st1⟩, kk1⟩)
  exact bodyPost_void rfl rfl ⟨rfl, ⟨_, st1⟩, kk1⟩
set_option maxRecDepth 100000 in
set_option maxHeartbeats 4000000 in
theorem lySect_imps (W0 : World) (l : Nat) (s : Lay) (v : Value) (id : Int) (x : Option Addr) (len cap : Nat) (ts : List Imp) (w : World) (h : LyAt W0 l s v w) (hin : RowsIn 7 impE W0 x len cap ts) :
    Calls Tryz.prog 31 #[.pointer (some ⟨l, 0, none⟩), .int .i64 id, .slice x len cap, .func (.func 32) #[.pointer (some ⟨l, 0, none⟩)] #[]] w fun e w' => Does W0 l (sectP id impP s ts) w e w' := by
  have b0 := (h).own #[.pointer (some ⟨l, 0, none⟩)] 56
  have ka0 := (h).alloc_keep (.cells #[.pointer (some ⟨l, 0, none⟩)] 56)
  have sz1 : (w.alloc (.cells #[.pointer (some ⟨l, 0, none⟩)] 56)).heap.size = w.heap.size + 1 := by simp
  have b1 := ((h).alloc (.cells #[.pointer (some ⟨l, 0, none⟩)] 56)).own #[.slice x len cap] 23
  rw [sz1] at b1
  clear sz1
  have b0 := b0.keep (((h).alloc (.cells #[.pointer (some ⟨l, 0, none⟩)] 56)).alloc_keep (.cells #[.slice x len cap] 23))
  have ka1 := ka0.trans (((h).alloc (.cells #[.pointer (some ⟨l, 0, none⟩)] 56)).alloc_keep (.cells #[.slice x len cap] 23))
  have sz2 : ((w.alloc (.cells #[.pointer (some ⟨l, 0, none⟩)] 56)).alloc (.cells #[.slice x len cap] 23)).heap.size = w.heap.size + 2 := by simp
  have b2 := (((h).alloc (.cells #[.pointer (some ⟨l, 0, none⟩)] 56)).alloc (.cells #[.slice x len cap] 23)).own #[.func (.func 32) #[.pointer (some ⟨l, 0, none⟩)] #[]] 86
  rw [sz2] at b2
  clear sz2
  have b0 := b0.keep ((((h).alloc (.cells #[.pointer (some ⟨l, 0, none⟩)] 56)).alloc (.cells #[.slice x len cap] 23)).alloc_keep (.cells #[.func (.func 32) #[.pointer (some ⟨l, 0, none⟩)] #[]] 86))
  have b1 := b1.keep ((((h).alloc (.cells #[.pointer (some ⟨l, 0, none⟩)] 56)).alloc (.cells #[.slice x len cap] 23)).alloc_keep (.cells #[.func (.func 32) #[.pointer (some ⟨l, 0, none⟩)] #[]] 86))
  have ka2 := ka1.trans ((((h).alloc (.cells #[.pointer (some ⟨l, 0, none⟩)] 56)).alloc (.cells #[.slice x len cap] 23)).alloc_keep (.cells #[.func (.func 32) #[.pointer (some ⟨l, 0, none⟩)] #[]] 86))
  have st0 := (((h).alloc (.cells #[.pointer (some ⟨l, 0, none⟩)] 56)).alloc (.cells #[.slice x len cap] 23)).alloc (.cells #[.func (.func 32) #[.pointer (some ⟨l, 0, none⟩)] #[]] 86)
  have kp0 := ka2
  have c0 := b0.cellOf
  have c1 := b1.cellOf
  have c2 := b2.cellOf
  have heq := hin.eq
  have HIN := Lib.hid hin
  unfold sectP
  rw [← heq]
  by_cases h0 : len = 0
  · rw [if_pos h0]
    have t0 : ((len : Int) == 0) = true := by rw [h0]; rfl
    clear h hin heq h0
    go_enter Tryz.func31, Tryz.ntmps31
    go_wp2_with fail
    exact bodyPost_voidr rfl rfl ⟨rfl, ⟨_, st0⟩, kp0⟩
  · rw [if_neg h0]
    have t0 : ((len : Int) == 0) = false := eq_no (by omega)
    clear h hin heq h0
    go_enter Tryz.func31, Tryz.ntmps31
    go_wp2_with (first
      | (go_at_call 73; refine (lyByte_any W0 l s _ id _ st0).mono ?_; rintro e w1 ⟨rfl, ⟨v1, st1⟩, kk1⟩; have kp1 := kp0.trans kk1; have d0 := b0.keep kk1; have d1 := b1.keep kk1; have d2 := b2.keep kk1; have e0 := d0.cellOf; clear st0 kp0)
      | (go_at_call 74; refine (lyAs_sect_Import W0 l _ _ (fun s => listP 1000 impP s ts) _ _ _ _ st1 (fun v' w' st' k' => lySect1_imps W0 l _ v' x len cap ts _ _ _ w' st' (d0.keep k') (d1.keep k') (d2.keep k') HIN.out)).mono ?_; rintro e w2 ⟨rfl, ⟨v2, st2⟩, kk2⟩; have kp2 := kp1.trans kk2))
    exact bodyPost_void rfl rfl ⟨rfl, ⟨_, st2⟩, kp2⟩
set_option maxRecDepth 100000 in
set_option maxHeartbeats 2000000 in
theorem lyAs_sect_int (W0 : World) (l : Nat) (s : Lay) (v : Value) (g : Lay → Lay) (k0 k1 k2 : Nat) (w : World) (h : LyAt W0 l s v w)
    (hc : ∀ v' w', LyAt W0 l ⟨[], s.no, s.full⟩ v' w' → KeepL l w w' → Calls Tryz.prog 85 #[.pointer (some ⟨k0, 0, none⟩), .pointer (some ⟨k1, 0, none⟩), .pointer (some ⟨k2, 0, none⟩)] w' fun e w2 => Does W0 l (g ⟨[], s.no, s.full⟩) w' e w2) :
    Calls Tryz.prog 74 #[.pointer (some ⟨l, 0, none⟩), .func (.func 85) #[] #[.pointer (some ⟨k0, 0, none⟩), .pointer (some ⟨k1, 0, none⟩), .pointer (some ⟨k2, 0, none⟩)]] w fun e w' => Does W0 l (asB s g) w e w' := by
  obtain ⟨a, cap, hv⟩ := bytes_slice h.bytes
  subst hv
  have H := Lib.hid h
  obtain ⟨⟨c0, c1, c2⟩, f0, f1, f2⟩ := h.three
  have HA := Lib.hid h.aside
  have HC := Lib.hid (hc _ _ h.aside.1 h.aside.2)
  unfold asB
  obtain ⟨i, hi⟩ : ∃ i, g ⟨[], s.no, s.full⟩ = i := ⟨_, rfl⟩
  rw [hi] at HC
  rw [hi]
  clear h hc hi
  go_enter Tryz.func74, Tryz.ntmps74
  go_wp2_with (first
    | (go_at_call 85; refine HC.out.mono ?_; rintro e w1 ⟨rfl, ⟨v1, st1⟩, kk1⟩; obtain ⟨a1, cap1, hv1⟩ := bytes_slice st1.bytes; subst hv1; obtain ⟨⟨d0, d1, d2⟩, j0, j1, j2⟩ := st1.three; obtain ⟨st2, kp2, hby⟩ := H.out.again kk1 st1; have hcv := bytes_conv hby; have HRG := Lib.hid st1.rng; have HLE := Lib.hid st1.le; clear HC)
    | (go_at_call 107; refine (lyBytes_any W0 l _ _ (strOfNums i.xs) _ st2 (by rw [strOfNums_size]; have := HLE.out; unfold maxLen; omega)).mono ?_; rintro e w3 ⟨rfl, ⟨v3, st3⟩, kk3⟩; rw [bl_nums HRG.out] at st3))
  exact bodyPost_void rfl rfl ⟨rfl, ⟨_, st3⟩, kp2.trans kk3⟩
set_option maxRecDepth 100000 in
set_option maxHeartbeats 4000000 in
theorem lySect1_ints_index (W0 : World) (l : Nat) (s : Lay) (v : Value) (x : Option Addr) (len cap : Nat) (ts : List Int) (k0 k1 k2 : Nat) (w : World) (h : LyAt W0 l s v w) (o0 : Own l w k0 #[.pointer (some ⟨l, 0, none⟩)] 56) (o1 : Own l w k1 #[.slice x len cap] 24) (o2 : Own l w k2 #[.func (.func 34) #[.pointer (some ⟨l, 0, none⟩)] #[]] 88) (hin : IntsIn W0 x len cap ts) :
    Calls Tryz.prog 85 #[.pointer (some ⟨k0, 0, none⟩), .pointer (some ⟨k1, 0, none⟩), .pointer (some ⟨k2, 0, none⟩)] w fun e w' => Does W0 l (listP 1000 indexP s ts) w e w' := by
  have c0 := o0.cellOf
  have c1 := o1.cellOf
  have c2 := o2.cellOf
  have H := Lib.hid h
  have HIN := Lib.hid hin
  clear h hin o0 o1 o2
  go_enter Tryz.func85, Tryz.ntmps85
  go_wp2_with (go_at_call 77; refine (lyList_ints_index W0 l s _ x len cap ts 1000 _ H.out HIN.out).mono ?_; rintro e w1 ⟨rfl, ⟨v1, st1⟩, kk1⟩)
  exact bodyPost_void rfl rfl ⟨rfl, ⟨_, st1⟩, kk1⟩
set_option maxRecDepth 100000 in
set_option maxHeartbeats 4000000 in
theorem lySect_ints_index (W0 : World) (l : Nat) (s : Lay) (v : Value) (id : Int) (x : Option Addr) (len cap : Nat) (ts : List Int) (w : World) (h : LyAt W0 l s v w) (hin : IntsIn W0 x len cap ts) :
    Calls Tryz.prog 33 #[.pointer (some ⟨l, 0, none⟩), .int .i64 id, .slice x len cap, .func (.func 34) #[.pointer (some ⟨l, 0, none⟩)] #[]] w fun e w' => Does W0 l (sectP id indexP s ts) w e w' := by
  have b0 := (h).own #[.pointer (some ⟨l, 0, none⟩)] 56
  have ka0 := (h).alloc_keep (.cells #[.pointer (some ⟨l, 0, none⟩)] 56)
  have sz1 : (w.alloc (.cells #[.pointer (some ⟨l, 0, none⟩)] 56)).heap.size = w.heap.size + 1 := by simp
  have b1 := ((h).alloc (.cells #[.pointer (some ⟨l, 0, none⟩)] 56)).own #[.slice x len cap] 24
  rw [sz1] at b1
  clear sz1
  have b0 := b0.keep (((h).alloc (.cells #[.pointer (some ⟨l, 0, none⟩)] 56)).alloc_keep (.cells #[.slice x len cap] 24))
  have ka1 := ka0.trans (((h).alloc (.cells #[.pointer (some ⟨l, 0, none⟩)] 56)).alloc_keep (.cells #[.slice x len cap] 24))
  have sz2 : ((w.alloc (.cells #[.pointer (some ⟨l, 0, none⟩)] 56)).alloc (.cells #[.slice x len cap] 24)).heap.size = w.heap.size + 2 := by simp
  have b2 := (((h).alloc (.cells #[.pointer (some ⟨l, 0, none⟩)] 56)).alloc (.cells #[.slice x len cap] 24)).own #[.func (.func 34) #[.pointer (some ⟨l, 0, none⟩)] #[]] 88
  rw [sz2] at b2
  clear sz2
  have b0 := b0.keep ((((h).alloc (.cells #[.pointer (some ⟨l, 0, none⟩)] 56)).alloc (.cells #[.slice x len cap] 24)).alloc_keep (.cells #[.func (.func 34) #[.pointer (some ⟨l, 0, none⟩)] #[]] 88))
  have b1 := b1.keep ((((h).alloc (.cells #[.pointer (some ⟨l, 0, none⟩)] 56)).alloc (.cells #[.slice x len cap] 24)).alloc_keep (.cells #[.func (.func 34) #[.pointer (some ⟨l, 0, none⟩)] #[]] 88))
  have ka2 := ka1.trans ((((h).alloc (.cells #[.pointer (some ⟨l, 0, none⟩)] 56)).alloc (.cells #[.slice x len cap] 24)).alloc_keep (.cells #[.func (.func 34) #[.pointer (some ⟨l, 0, none⟩)] #[]] 88))
  have st0 := (((h).alloc (.cells #[.pointer (some ⟨l, 0, none⟩)] 56)).alloc (.cells #[.slice x len cap] 24)).alloc (.cells #[.func (.func 34) #[.pointer (some ⟨l, 0, none⟩)] #[]] 88)
  have kp0 := ka2
  have c0 := b0.cellOf
  have c1 := b1.cellOf
  have c2 := b2.cellOf
  have heq := hin.eq
  have HIN := Lib.hid hin
  unfold sectP
  rw [← heq]
  by_cases h0 : len = 0
  · rw [if_pos h0]
    have t0 : ((len : Int) == 0) = true := by rw [h0]; rfl
    clear h hin heq h0
    go_enter Tryz.func33, Tryz.ntmps33
    go_wp2_with fail
    exact bodyPost_voidr rfl rfl ⟨rfl, ⟨_, st0⟩, kp0⟩
  · rw [if_neg h0]
    have t0 : ((len : Int) == 0) = false := eq_no (by omega)
    clear h hin heq h0
    go_enter Tryz.func33, Tryz.ntmps33
    go_wp2_with (first
      | (go_at_call 73; refine (lyByte_any W0 l s _ id _ st0).mono ?_; rintro e w1 ⟨rfl, ⟨v1, st1⟩, kk1⟩; have kp1 := kp0.trans kk1; have d0 := b0.keep kk1; have d1 := b1.keep kk1; have d2 := b2.keep kk1; have e0 := d0.cellOf; clear st0 kp0)
      | (go_at_call 74; refine (lyAs_sect_int W0 l _ _ (fun s => listP 1000 indexP s ts) _ _ _ _ st1 (fun v' w' st' k' => lySect1_ints_index W0 l _ v' x len cap ts _ _ _ w' st' (d0.keep k') (d1.keep k') (d2.keep k') HIN.out)).mono ?_; rintro e w2 ⟨rfl, ⟨v2, st2⟩, kk2⟩; have kp2 := kp1.trans kk2))
    exact bodyPost_void rfl rfl ⟨rfl, ⟨_, st2⟩, kp2⟩
set_option maxRecDepth 100000 in
set_option maxHeartbeats 2000000 in
theorem lyAs_sect_Limits (W0 : World) (l : Nat) (s : Lay) (v : Value) (g : Lay → Lay) (k0 k1 k2 : Nat) (w : World) (h : LyAt W0 l s v w)
    (hc : ∀ v' w', LyAt W0 l ⟨[], s.no, s.full⟩ v' w' → KeepL l w w' → Calls Tryz.prog 87 #[.pointer (some ⟨k0, 0, none⟩), .pointer (some ⟨k1, 0, none⟩), .pointer (some ⟨k2, 0, none⟩)] w' fun e w2 => Does W0 l (g ⟨[], s.no, s.full⟩) w' e w2) :
    Calls Tryz.prog 74 #[.pointer (some ⟨l, 0, none⟩), .func (.func 87) #[] #[.pointer (some ⟨k0, 0, none⟩), .pointer (some ⟨k1, 0, none⟩), .pointer (some ⟨k2, 0, none⟩)]] w fun e w' => Does W0 l (asB s g) w e w' := by
  obtain ⟨a, cap, hv⟩ := bytes_slice h.bytes
  subst hv
  have H := Lib.hid h
  obtain ⟨⟨c0, c1, c2⟩, f0, f1, f2⟩ := h.three
  have HA := Lib.hid h.aside
  have HC := Lib.hid (hc _ _ h.aside.1 h.aside.2)
  unfold asB
  obtain ⟨i, hi⟩ : ∃ i, g ⟨[], s.no, s.full⟩ = i := ⟨_, rfl⟩
  rw [hi] at HC
  rw [hi]
  clear h hc hi
  go_enter Tryz.func74, Tryz.ntmps74
  go_wp2_with (first
    | (go_at_call 87; refine HC.out.mono ?_; rintro e w1 ⟨rfl, ⟨v1, st1⟩, kk1⟩; obtain ⟨a1, cap1, hv1⟩ := bytes_slice st1.bytes; subst hv1; obtain ⟨⟨d0, d1, d2⟩, j0, j1, j2⟩ := st1.three; obtain ⟨st2, kp2, hby⟩ := H.out.again kk1 st1; have hcv := bytes_conv hby; have HRG := Lib.hid st1.rng; have HLE := Lib.hid st1.le; clear HC)
    | (go_at_call 107; refine (lyBytes_any W0 l _ _ (strOfNums i.xs) _ st2 (by rw [strOfNums_size]; have := HLE.out; unfold maxLen; omega)).mono ?_; rintro e w3 ⟨rfl, ⟨v3, st3⟩, kk3⟩; rw [bl_nums HRG.out] at st3))
  exact bodyPost_void rfl rfl ⟨rfl, ⟨_, st3⟩, kp2.trans kk3⟩
set_option maxRecDepth 100000 in
set_option maxHeartbeats 4000000 in
theorem lySect1_lims_table (W0 : World) (l : Nat) (s : Lay) (v : Value) (x : Option Addr) (len cap : Nat) (ts : List Lim) (k0 k1 k2 : Nat) (w : World) (h : LyAt W0 l s v w) (o0 : Own l w k0 #[.pointer (some ⟨l, 0, none⟩)] 56) (o1 : Own l w k1 #[.slice x len cap] 25) (o2 : Own l w k2 #[.func (.func 36) #[.pointer (some ⟨l, 0, none⟩)] #[]] 90) (hin : RowsIn 2 limE W0 x len cap ts) :
    Calls Tryz.prog 87 #[.pointer (some ⟨k0, 0, none⟩), .pointer (some ⟨k1, 0, none⟩), .pointer (some ⟨k2, 0, none⟩)] w fun e w' => Does W0 l (listP 1000 tabP s ts) w e w' := by
  have c0 := o0.cellOf
  have c1 := o1.cellOf
  have c2 := o2.cellOf
  have H := Lib.hid h
  have HIN := Lib.hid hin
  clear h hin o0 o1 o2
  go_enter Tryz.func87, Tryz.ntmps87
  go_wp2_with (go_at_call 88; refine (lyList_lims_table W0 l s _ x len cap ts 1000 _ H.out HIN.out).mono ?_; rintro e w1 ⟨rfl, ⟨v1, st1⟩, kk1⟩)
  exact bodyPost_void rfl rfl ⟨rfl, ⟨_, st1⟩, kk1⟩
set_option maxRecDepth 100000 in
set_option maxHeartbeats 4000000 in
theorem lySect_lims_table (W0 : World) (l : Nat) (s : Lay) (v : Value) (id : Int) (x : Option Addr) (len cap : Nat) (ts : List Lim) (w : World) (h : LyAt W0 l s v w) (hin : RowsIn 2 limE W0 x len cap ts) :
    Calls Tryz.prog 35 #[.pointer (some ⟨l, 0, none⟩), .int .i64 id, .slice x len cap, .func (.func 36) #[.pointer (some ⟨l, 0, none⟩)] #[]] w fun e w' => Does W0 l (sectP id tabP s ts) w e w' := by
  have b0 := (h).own #[.pointer (some ⟨l, 0, none⟩)] 56
  have ka0 := (h).alloc_keep (.cells #[.pointer (some ⟨l, 0, none⟩)] 56)
  have sz1 : (w.alloc (.cells #[.pointer (some ⟨l, 0, none⟩)] 56)).heap.size = w.heap.size + 1 := by simp
  have b1 := ((h).alloc (.cells #[.pointer (some ⟨l, 0, none⟩)] 56)).own #[.slice x len cap] 25
  rw [sz1] at b1
  clear sz1
  have b0 := b0.keep (((h).alloc (.cells #[.pointer (some ⟨l, 0, none⟩)] 56)).alloc_keep (.cells #[.slice x len cap] 25))
  have ka1 := ka0.trans (((h).alloc (.cells #[.pointer (some ⟨l, 0, none⟩)] 56)).alloc_keep (.cells #[.slice x len cap] 25))
  have sz2 : ((w.alloc (.cells #[.pointer (some ⟨l, 0, none⟩)] 56)).alloc (.cells #[.slice x len cap] 25)).heap.size = w.heap.size + 2 := by simp
  have b2 := (((h).alloc (.cells #[.pointer (some ⟨l, 0, none⟩)] 56)).alloc (.cells #[.slice x len cap] 25)).own #[.func (.func 36) #[.pointer (some ⟨l, 0, none⟩)] #[]] 90
  rw [sz2] at b2
  clear sz2
  have b0 := b0.keep ((((h).alloc (.cells #[.pointer (some ⟨l, 0, none⟩)] 56)).alloc (.cells #[.slice x len cap] 25)).alloc_keep (.cells #[.func (.func 36) #[.pointer (some ⟨l, 0, none⟩)] #[]] 90))
  have b1 := b1.keep ((((h).alloc (.cells #[.pointer (some ⟨l, 0, none⟩)] 56)).alloc (.cells #[.slice x len cap] 25)).alloc_keep (.cells #[.func (.func 36) #[.pointer (some ⟨l, 0, none⟩)] #[]] 90))
  have ka2 := ka1.trans ((((h).alloc (.cells #[.pointer (some ⟨l, 0, none⟩)] 56)).alloc (.cells #[.slice x len cap] 25)).alloc_keep (.cells #[.func (.func 36) #[.pointer (some ⟨l, 0, none⟩)] #[]] 90))
  have st0 := (((h).alloc (.cells #[.pointer (some ⟨l, 0, none⟩)] 56)).alloc (.cells #[.slice x len cap] 25)).alloc (.cells #[.func (.func 36) #[.pointer (some ⟨l, 0, none⟩)] #[]] 90)
  have kp0 := ka2
  have c0 := b0.cellOf
  have c1 := b1.cellOf
  have c2 := b2.cellOf
  have heq := hin.eq
  have HIN := Lib.hid hin
  unfold sectP
  rw [← heq]
  by_cases h0 : len = 0
  · rw [if_pos h0]
    have t0 : ((len : Int) == 0) = true := by rw [h0]; rfl
    clear h hin heq h0
    go_enter Tryz.func35, Tryz.ntmps35
    go_wp2_with fail
    exact bodyPost_voidr rfl rfl ⟨rfl, ⟨_, st0⟩, kp0⟩
  · rw [if_neg h0]
    have t0 : ((len : Int) == 0) = false := eq_no (by omega)
    clear h hin heq h0
    go_enter Tryz.func35, Tryz.ntmps35
    go_wp2_with (first
      | (go_at_call 73; refine (lyByte_any W0 l s _ id _ st0).mono ?_; rintro e w1 ⟨rfl, ⟨v1, st1⟩, kk1⟩; have kp1 := kp0.trans kk1; have d0 := b0.keep kk1; have d1 := b1.keep kk1; have d2 := b2.keep kk1; have e0 := d0.cellOf; clear st0 kp0)
      | (go_at_call 74; refine (lyAs_sect_Limits W0 l _ _ (fun s => listP 1000 tabP s ts) _ _ _ _ st1 (fun v' w' st' k' => lySect1_lims_table W0 l _ v' x len cap ts _ _ _ w' st' (d0.keep k') (d1.keep k') (d2.keep k') HIN.out)).mono ?_; rintro e w2 ⟨rfl, ⟨v2, st2⟩, kk2⟩; have kp2 := kp1.trans kk2))
    exact bodyPost_void rfl rfl ⟨rfl, ⟨_, st2⟩, kp2⟩
set_option maxRecDepth 100000 in
set_option maxHeartbeats 4000000 in
theorem lySect1_lims_limits (W0 : World) (l : Nat) (s : Lay) (v : Value) (x : Option Addr) (len cap : Nat) (ts : List Lim) (k0 k1 k2 : Nat) (w : World) (h : LyAt W0 l s v w) (o0 : Own l w k0 #[.pointer (some ⟨l, 0, none⟩)] 56) (o1 : Own l w k1 #[.slice x len cap] 25) (o2 : Own l w k2 #[.func (.func 37) #[.pointer (some ⟨l, 0, none⟩)] #[]] 90) (hin : RowsIn 2 limE W0 x len cap ts) :
    Calls Tryz.prog 87 #[.pointer (some ⟨k0, 0, none⟩), .pointer (some ⟨k1, 0, none⟩), .pointer (some ⟨k2, 0, none⟩)] w fun e w' => Does W0 l (listP 1000 limP s ts) w e w' := by
  have c0 := o0.cellOf
  have c1 := o1.cellOf
  have c2 := o2.cellOf
  have H := Lib.hid h
  have HIN := Lib.hid hin
  clear h hin o0 o1 o2
  go_enter Tryz.func87, Tryz.ntmps87
  go_wp2_with (go_at_call 88; refine (lyList_lims_limits W0 l s _ x len cap ts 1000 _ H.out HIN.out).mono ?_; rintro e w1 ⟨rfl, ⟨v1, st1⟩, kk1⟩)
  exact bodyPost_void rfl rfl ⟨rfl, ⟨_, st1⟩, kk1⟩
set_option maxRecDepth 100000 in
set_option maxHeartbeats 4000000 in
theorem lySect_lims_limits (W0 : World) (l : Nat) (s : Lay) (v : Value) (id : Int) (x : Option Addr) (len cap : Nat) (ts : List Lim) (w : World) (h : LyAt W0 l s v w) (hin : RowsIn 2 limE W0 x len cap ts) :
    Calls Tryz.prog 35 #[.pointer (some ⟨l, 0, none⟩), .int .i64 id, .slice x len cap, .func (.func 37) #[.pointer (some ⟨l, 0, none⟩)] #[]] w fun e w' => Does W0 l (sectP id limP s ts) w e w' := by
  have b0 := (h).own #[.pointer (some ⟨l, 0, none⟩)] 56
  have ka0 := (h).alloc_keep (.cells #[.pointer (some ⟨l, 0, none⟩)] 56)
  have sz1 : (w.alloc (.cells #[.pointer (some ⟨l, 0, none⟩)] 56)).heap.size = w.heap.size + 1 := by simp
  have b1 := ((h).alloc (.cells #[.pointer (some ⟨l, 0, none⟩)] 56)).own #[.slice x len cap] 25
  rw [sz1] at b1
  clear sz1
  have b0 := b0.keep (((h).alloc (.cells #[.pointer (some ⟨l, 0, none⟩)] 56)).alloc_keep (.cells #[.slice x len cap] 25))
  have ka1 := ka0.trans (((h).alloc (.cells #[.pointer (some ⟨l, 0, none⟩)] 56)).alloc_keep (.cells #[.slice x len cap] 25))
  have sz2 : ((w.alloc (.cells #[.pointer (some ⟨l, 0, none⟩)] 56)).alloc (.cells #[.slice x len cap] 25)).heap.size = w.heap.size + 2 := by simp
  have b2 := (((h).alloc (.cells #[.pointer (some ⟨l, 0, none⟩)] 56)).alloc (.cells #[.slice x len cap] 25)).own #[.func (.func 37) #[.pointer (some ⟨l, 0, none⟩)] #[]] 90
  rw [sz2] at b2
  clear sz2
  have b0 := b0.keep ((((h).alloc (.cells #[.pointer (some ⟨l, 0, none⟩)] 56)).alloc (.cells #[.slice x len cap] 25)).alloc_keep (.cells #[.func (.func 37) #[.pointer (some ⟨l, 0, none⟩)] #[]] 90))
  have b1 := b1.keep ((((h).alloc (.cells #[.pointer (some ⟨l, 0, none⟩)] 56)).alloc (.cells #[.slice x len cap] 25)).alloc_keep (.cells #[.func (.func 37) #[.pointer (some ⟨l, 0, none⟩)] #[]] 90))
  have ka2 := ka1.trans ((((h).alloc (.cells #[.pointer (some ⟨l, 0, none⟩)] 56)).alloc (.cells #[.slice x len cap] 25)).alloc_keep (.cells #[.func (.func 37) #[.pointer (some ⟨l, 0, none⟩)] #[]] 90))
  have st0 := (((h).alloc (.cells #[.pointer (some ⟨l, 0, none⟩)] 56)).alloc (.cells #[.slice x len cap] 25)).alloc (.cells #[.func (.func 37) #[.pointer (some ⟨l, 0, none⟩)] #[]] 90)
  have kp0 := ka2
  have c0 := b0.cellOf
  have c1 := b1.cellOf
  have c2 := b2.cellOf
  have heq := hin.eq
  have HIN := Lib.hid hin
  unfold sectP
  rw [← heq]
  by_cases h0 : len = 0
  · rw [if_pos h0]
    have t0 : ((len : Int) == 0) = true := by rw [h0]; rfl
    clear h hin heq h0
    go_enter Tryz.func35, Tryz.ntmps35
    go_wp2_with fail
    exact bodyPost_voidr rfl rfl ⟨rfl, ⟨_, st0⟩, kp0⟩
  · rw [if_neg h0]
    have t0 : ((len : Int) == 0) = false := eq_no (by omega)
    clear h hin heq h0
    go_enter Tryz.func35, Tryz.ntmps35
    go_wp2_with (first
      | (go_at_call 73; refine (lyByte_any W0 l s _ id _ st0).mono ?_; rintro e w1 ⟨rfl, ⟨v1, st1⟩, kk1⟩; have kp1 := kp0.trans kk1; have d0 := b0.keep kk1; have d1 := b1.keep kk1; have d2 := b2.keep kk1; have e0 := d0.cellOf; clear st0 kp0)
      | (go_at_call 74; refine (lyAs_sect_Limits W0 l _ _ (fun s => listP 1000 limP s ts) _ _ _ _ st1 (fun v' w' st' k' => lySect1_lims_limits W0 l _ v' x len cap ts _ _ _ w' st' (d0.keep k') (d1.keep k') (d2.keep k') HIN.out)).mono ?_; rintro e w2 ⟨rfl, ⟨v2, st2⟩, kk2⟩; have kp2 := kp1.trans kk2))
    exact bodyPost_void rfl rfl ⟨rfl, ⟨_, st2⟩, kp2⟩
set_option maxRecDepth 100000 in
set_option maxHeartbeats 2000000 in
theorem lyAs_sect_Global (W0 : World) (l : Nat) (s : Lay) (v : Value) (g : Lay → Lay) (k0 k1 k2 : Nat) (w : World) (h : LyAt W0 l s v w)
    (hc : ∀ v' w', LyAt W0 l ⟨[], s.no, s.full⟩ v' w' → KeepL l w w' → Calls Tryz.prog 89 #[.pointer (some ⟨k0, 0, none⟩), .pointer (some ⟨k1, 0, none⟩), .pointer (some ⟨k2, 0, none⟩)] w' fun e w2 => Does W0 l (g ⟨[], s.no, s.full⟩) w' e w2) :
    Calls Tryz.prog 74 #[.pointer (some ⟨l, 0, none⟩), .func (.func 89) #[] #[.pointer (some ⟨k0, 0, none⟩), .pointer (some ⟨k1, 0, none⟩), .pointer (some ⟨k2, 0, none⟩)]] w fun e w' => Does W0 l (asB s g) w e w' := by
  obtain ⟨a, cap, hv⟩ := bytes_slice h.bytes
  subst hv
  have H := Lib.hid h
  obtain ⟨⟨c0, c1, c2⟩, f0, f1, f2⟩ := h.three
  have HA := Lib.hid h.aside
  have HC := Lib.hid (hc _ _ h.aside.1 h.aside.2)
  unfold asB
  obtain ⟨i, hi⟩ : ∃ i, g ⟨[], s.no, s.full⟩ = i := ⟨_, rfl⟩
  rw [hi] at HC
  rw [hi]
  clear h hc hi
  go_enter Tryz.func74, Tryz.ntmps74
  go_wp2_with (first
    | (go_at_call 89; refine HC.out.mono ?_; rintro e w1 ⟨rfl, ⟨v1, st1⟩, kk1⟩; obtain ⟨a1, cap1, hv1⟩ := bytes_slice st1.bytes; subst hv1; obtain ⟨⟨d0, d1, d2⟩, j0, j1, j2⟩ := st1.three; obtain ⟨st2, kp2, hby⟩ := H.out.again kk1 st1; have hcv := bytes_conv hby; have HRG := Lib.hid st1.rng; have HLE := Lib.hid st1.le; clear HC)
    | (go_at_call 107; refine (lyBytes_any W0 l _ _ (strOfNums i.xs) _ st2 (by rw [strOfNums_size]; have := HLE.out; unfold maxLen; omega)).mono ?_; rintro e w3 ⟨rfl, ⟨v3, st3⟩, kk3⟩; rw [bl_nums HRG.out] at st3))
  exact bodyPost_void rfl rfl ⟨rfl, ⟨_, st3⟩, kp2.trans kk3⟩
set_option maxRecDepth 100000 in
set_option maxHeartbeats 4000000 in
theorem lySect1_glos (W0 : World) (l : Nat) (s : Lay) (v : Value) (x : Option Addr) (len cap : Nat) (ts : List Glo) (k0 k1 k2 : Nat) (w : World) (h : LyAt W0 l s v w) (o0 : Own l w k0 #[.pointer (some ⟨l, 0, none⟩)] 56) (o1 : Own l w k1 #[.slice x len cap] 26) (o2 : Own l w k2 #[.func (.func 39) #[.pointer (some ⟨l, 0, none⟩)] #[]] 92) (hin : RowsIn 9 gloE W0 x len cap ts) :
    Calls Tryz.prog 89 #[.pointer (some ⟨k0, 0, none⟩), .pointer (some ⟨k1, 0, none⟩), .pointer (some ⟨k2, 0, none⟩)] w fun e w' => Does W0 l (listP 1000 gloP s ts) w e w' := by
  have c0 := o0.cellOf
  have c1 := o1.cellOf
  have c2 := o2.cellOf
  have H := Lib.hid h
  have HIN := Lib.hid hin
  clear h hin o0 o1 o2
  go_enter Tryz.func89, Tryz.ntmps89
  go_wp2_with (go_at_call 90; refine (lyList_glos W0 l s _ x len cap ts 1000 _ H.out HIN.out).mono ?_; rintro e w1 ⟨rfl, ⟨v1, st1⟩, kk1⟩)
  exact bodyPost_void rfl rfl ⟨rfl, ⟨_, st1⟩, kk1⟩
set_option maxRecDepth 100000 in
set_option maxHeartbeats 4000000 in
theorem lySect_glos (W0 : World) (l : Nat) (s : Lay) (v : Value) (id : Int) (x : Option Addr) (len cap : Nat) (ts : List Glo) (w : World) (h : LyAt W0 l s v w) (hin : RowsIn 9 gloE W0 x len cap ts) :
    Calls Tryz.prog 38 #[.pointer (some ⟨l, 0, none⟩), .int .i64 id, .slice x len cap, .func (.func 39) #[.pointer (some ⟨l, 0, none⟩)] #[]] w fun e w' => Does W0 l (sectP id gloP s ts) w e w' := by
  have b0 := (h).own #[.pointer (some ⟨l, 0, none⟩)] 56
  have ka0 := (h).alloc_keep (.cells #[.pointer (some ⟨l, 0, none⟩)] 56)
  have sz1 : (w.alloc (.cells #[.pointer (some ⟨l, 0, none⟩)] 56)).heap.size = w.heap.size + 1 := by simp
  have b1 := ((h).alloc (.cells #[.pointer (some ⟨l, 0, none⟩)] 56)).own #[.slice x len cap] 26
  rw [sz1] at b1
  clear sz1
  have b0 := b0.keep (((h).alloc (.cells #[.pointer (some ⟨l, 0, none⟩)] 56)).alloc_keep (.cells #[.slice x len cap] 26))
  have ka1 := ka0.trans (((h).alloc (.cells #[.pointer (some ⟨l, 0, none⟩)] 56)).alloc_keep (.cells #[.slice x len cap] 26))
  have sz2 : ((w.alloc (.cells #[.pointer (some ⟨l, 0, none⟩)] 56)).alloc (.cells #[.slice x len cap] 26)).heap.size = w.heap.size + 2 := by simp
  have b2 := (((h).alloc (.cells #[.pointer (some ⟨l, 0, none⟩)] 56)).alloc (.cells #[.slice x len cap] 26)).own #[.func (.func 39) #[.pointer (some ⟨l, 0, none⟩)] #[]] 92
  rw [sz2] at b2
  clear sz2
  have b0 := b0.keep ((((h).alloc (.cells #[.pointer (some ⟨l, 0, none⟩)] 56)).alloc (.cells #[.slice x len cap] 26)).alloc_keep (.cells #[.func (.func 39) #[.pointer (some ⟨l, 0, none⟩)] #[]] 92))
  have b1 := b1.keep ((((h).alloc (.cells #[.pointer (some ⟨l, 0, none⟩)] 56)).alloc (.cells #[.slice x len cap] 26)).alloc_keep (.cells #[.func (.func 39) #[.pointer (some ⟨l, 0, none⟩)] #[]] 92))
  have ka2 := ka1.trans ((((h).alloc (.cells #[.pointer (some ⟨l, 0, none⟩)] 56)).alloc (.cells #[.slice x len cap] 26)).alloc_keep (.cells #[.func (.func 39) #[.pointer (some ⟨l, 0, none⟩)] #[]] 92))
  have st0 := (((h).alloc (.cells #[.pointer (some ⟨l, 0, none⟩)] 56)).alloc (.cells #[.slice x len cap] 26)).alloc (.cells #[.func (.func 39) #[.pointer (some ⟨l, 0, none⟩)] #[]] 92)
  have kp0 := ka2
  have c0 := b0.cellOf
  have c1 := b1.cellOf
  have c2 := b2.cellOf
  have heq := hin.eq
  have HIN := Lib.hid hin
  unfold sectP
  rw [← heq]
  by_cases h0 : len = 0
  · rw [if_pos h0]
    have t0 : ((len : Int) == 0) = true := by rw [h0]; rfl
    clear h hin heq h0
    go_enter Tryz.func38, Tryz.ntmps38
    go_wp2_with fail
    exact bodyPost_voidr rfl rfl ⟨rfl, ⟨_, st0⟩, kp0⟩
  · rw [if_neg h0]
    have t0 : ((len : Int) == 0) = false := eq_no (by omega)
    clear h hin heq h0
    go_enter Tryz.func38, Tryz.ntmps38
    go_wp2_with (first
      | (go_at_call 73; refine (lyByte_any W0 l s _ id _ st0).mono ?_; rintro e w1 ⟨rfl, ⟨v1, st1⟩, kk1⟩; have kp1 := kp0.trans kk1; have d0 := b0.keep kk1; have d1 := b1.keep kk1; have d2 := b2.keep kk1; have e0 := d0.cellOf; clear st0 kp0)
      | (go_at_call 74; refine (lyAs_sect_Global W0 l _ _ (fun s => listP 1000 gloP s ts) _ _ _ _ st1 (fun v' w' st' k' => lySect1_glos W0 l _ v' x len cap ts _ _ _ w' st' (d0.keep k') (d1.keep k') (d2.keep k') HIN.out)).mono ?_; rintro e w2 ⟨rfl, ⟨v2, st2⟩, kk2⟩; have kp2 := kp1.trans kk2))
    exact bodyPost_void rfl rfl ⟨rfl, ⟨_, st2⟩, kp2⟩
set_option maxRecDepth 100000 in
set_option maxHeartbeats 2000000 in
theorem lyAs_sect_Export (W0 : World) (l : Nat) (s : Lay) (v : Value) (g : Lay → Lay) (k0 k1 k2 : Nat) (w : World) (h : LyAt W0 l s v w)
    (hc : ∀ v' w', LyAt W0 l ⟨[], s.no, s.full⟩ v' w' → KeepL l w w' → Calls Tryz.prog 92 #[.pointer (some ⟨k0, 0, none⟩), .pointer (some ⟨k1, 0, none⟩), .pointer (some ⟨k2, 0, none⟩)] w' fun e w2 => Does W0 l (g ⟨[], s.no, s.full⟩) w' e w2) :
    Calls Tryz.prog 74 #[.pointer (some ⟨l, 0, none⟩), .func (.func 92) #[] #[.pointer (some ⟨k0, 0, none⟩), .pointer (some ⟨k1, 0, none⟩), .pointer (some ⟨k2, 0, none⟩)]] w fun e w' => Does W0 l (asB s g) w e w' := by
  obtain ⟨a, cap, hv⟩ := bytes_slice h.bytes
  subst hv
  have H := Lib.hid h
  obtain ⟨⟨c0, c1, c2⟩, f0, f1, f2⟩ := h.three
  have HA := Lib.hid h.aside
  have HC := Lib.hid (hc _ _ h.aside.1 h.aside.2)
  unfold asB
  obtain ⟨i, hi⟩ : ∃ i, g ⟨[], s.no, s.full⟩ = i := ⟨_, rfl⟩
  rw [hi] at HC
  rw [hi]
  clear h hc hi
  go_enter Tryz.func74, Tryz.ntmps74
  go_wp2_with (first
    | (go_at_call 92; refine HC.out.mono ?_; rintro e w1 ⟨rfl, ⟨v1, st1⟩, kk1⟩; obtain ⟨a1, cap1, hv1⟩ := bytes_slice st1.bytes; subst hv1; obtain ⟨⟨d0, d1, d2⟩, j0, j1, j2⟩ := st1.three; obtain ⟨st2, kp2, hby⟩ := H.out.again kk1 st1; have hcv := bytes_conv hby; have HRG := Lib.hid st1.rng; have HLE := Lib.hid st1.le; clear HC)
    | (go_at_call 107; refine (lyBytes_any W0 l _ _ (strOfNums i.xs) _ st2 (by rw [strOfNums_size]; have := HLE.out; unfold maxLen; omega)).mono ?_; rintro e w3 ⟨rfl, ⟨v3, st3⟩, kk3⟩; rw [bl_nums HRG.out] at st3))
  exact bodyPost_void rfl rfl ⟨rfl, ⟨_, st3⟩, kp2.trans kk3⟩
set_option maxRecDepth 100000 in
set_option maxHeartbeats 4000000 in
theorem lySect1_exps (W0 : World) (l : Nat) (s : Lay) (v : Value) (x : Option Addr) (len cap : Nat) (ts : List Exp) (k0 k1 k2 : Nat) (w : World) (h : LyAt W0 l s v w) (o0 : Own l w k0 #[.pointer (some ⟨l, 0, none⟩)] 56) (o1 : Own l w k1 #[.slice x len cap] 27) (o2 : Own l w k2 #[.func (.func 41) #[.pointer (some ⟨l, 0, none⟩)] #[]] 96) (hin : RowsIn 3 expE W0 x len cap ts) :
    Calls Tryz.prog 92 #[.pointer (some ⟨k0, 0, none⟩), .pointer (some ⟨k1, 0, none⟩), .pointer (some ⟨k2, 0, none⟩)] w fun e w' => Does W0 l (listP 1000 expP s ts) w e w' := by
  have c0 := o0.cellOf
  have c1 := o1.cellOf
  have c2 := o2.cellOf
  have H := Lib.hid h
  have HIN := Lib.hid hin
  clear h hin o0 o1 o2
  go_enter Tryz.func92, Tryz.ntmps92
  go_wp2_with (go_at_call 93; refine (lyList_exps W0 l s _ x len cap ts 1000 _ H.out HIN.out).mono ?_; rintro e w1 ⟨rfl, ⟨v1, st1⟩, kk1⟩)
  exact bodyPost_void rfl rfl ⟨rfl, ⟨_, st1⟩, kk1⟩
set_option maxRecDepth 100000 in
set_option maxHeartbeats 4000000 in
theorem lySect_exps (W0 : World) (l : Nat) (s : Lay) (v : Value) (id : Int) (x : Option Addr) (len cap : Nat) (ts : List Exp) (w : World) (h : LyAt W0 l s v w) (hin : RowsIn 3 expE W0 x len cap ts) :
    Calls Tryz.prog 40 #[.pointer (some ⟨l, 0, none⟩), .int .i64 id, .slice x len cap, .func (.func 41) #[.pointer (some ⟨l, 0, none⟩)] #[]] w fun e w' => Does W0 l (sectP id expP s ts) w e w' := by
  have b0 := (h).own #[.pointer (some ⟨l, 0, none⟩)] 56
  have ka0 := (h).alloc_keep (.cells #[.pointer (some ⟨l, 0, none⟩)] 56)
  have sz1 : (w.alloc (.cells #[.pointer (some ⟨l, 0, none⟩)] 56)).heap.size = w.heap.size + 1 := by simp
  have b1 := ((h).alloc (.cells #[.pointer (some ⟨l, 0, none⟩)] 56)).own #[.slice x len cap] 27
  rw [sz1] at b1
  clear sz1
  have b0 := b0.keep (((h).alloc (.cells #[.pointer (some ⟨l, 0, none⟩)] 56)).alloc_keep (.cells #[.slice x len cap] 27))
  have ka1 := ka0.trans (((h).alloc (.cells #[.pointer (some ⟨l, 0, none⟩)] 56)).alloc_keep (.cells #[.slice x len cap] 27))
  have sz2 : ((w.alloc (.cells #[.pointer (some ⟨l, 0, none⟩)] 56)).alloc (.cells #[.slice x len cap] 27)).heap.size = w.heap.size + 2 := by simp
  have b2 := (((h).alloc (.cells #[.pointer (some ⟨l, 0, none⟩)] 56)).alloc (.cells #[.slice x len cap] 27)).own #[.func (.func 41) #[.pointer (some ⟨l, 0, none⟩)] #[]] 96
  rw [sz2] at b2
  clear sz2
  have b0 := b0.keep ((((h).alloc (.cells #[.pointer (some ⟨l, 0, none⟩)] 56)).alloc (.cells #[.slice x len cap] 27)).alloc_keep (.cells #[.func (.func 41) #[.pointer (some ⟨l, 0, none⟩)] #[]] 96))
  have b1 := b1.keep ((((h).alloc (.cells #[.pointer (some ⟨l, 0, none⟩)] 56)).alloc (.cells #[.slice x len cap] 27)).alloc_keep (.cells #[.func (.func 41) #[.pointer (some ⟨l, 0, none⟩)] #[]] 96))
  have ka2 := ka1.trans ((((h).alloc (.cells #[.pointer (some ⟨l, 0, none⟩)] 56)).alloc (.cells #[.slice x len cap] 27)).alloc_keep (.cells #[.func (.func 41) #[.pointer (some ⟨l, 0, none⟩)] #[]] 96))
  have st0 := (((h).alloc (.cells #[.pointer (some ⟨l, 0, none⟩)] 56)).alloc (.cells #[.slice x len cap] 27)).alloc (.cells #[.func (.func 41) #[.pointer (some ⟨l, 0, none⟩)] #[]] 96)
  have kp0 := ka2
  have c0 := b0.cellOf
  have c1 := b1.cellOf
  have c2 := b2.cellOf
  have heq := hin.eq
  have HIN := Lib.hid hin
  unfold sectP
  rw [← heq]
  by_cases h0 : len = 0
  · rw [if_pos h0]
    have t0 : ((len : Int) == 0) = true := by rw [h0]; rfl
    clear h hin heq h0
    go_enter Tryz.func40, Tryz.ntmps40
    go_wp2_with fail
    exact bodyPost_voidr rfl rfl ⟨rfl, ⟨_, st0⟩, kp0⟩
  · rw [if_neg h0]
    have t0 : ((len : Int) == 0) = false := eq_no (by omega)
    clear h hin heq h0
    go_enter Tryz.func40, Tryz.ntmps40
    go_wp2_with (first
      | (go_at_call 73; refine (lyByte_any W0 l s _ id _ st0).mono ?_; rintro e w1 ⟨rfl, ⟨v1, st1⟩, kk1⟩; have kp1 := kp0.trans kk1; have d0 := b0.keep kk1; have d1 := b1.keep kk1; have d2 := b2.keep kk1; have e0 := d0.cellOf; clear st0 kp0)
      | (go_at_call 74; refine (lyAs_sect_Export W0 l _ _ (fun s => listP 1000 expP s ts) _ _ _ _ st1 (fun v' w' st' k' => lySect1_exps W0 l _ v' x len cap ts _ _ _ w' st' (d0.keep k') (d1.keep k') (d2.keep k') HIN.out)).mono ?_; rintro e w2 ⟨rfl, ⟨v2, st2⟩, kk2⟩; have kp2 := kp1.trans kk2))
    exact bodyPost_void rfl rfl ⟨rfl, ⟨_, st2⟩, kp2⟩
set_option maxRecDepth 100000 in
set_option maxHeartbeats 2000000 in
theorem lyAs_sect_Elem (W0 : World) (l : Nat) (s : Lay) (v : Value) (g : Lay → Lay) (k0 k1 k2 : Nat) (w : World) (h : LyAt W0 l s v w)
    (hc : ∀ v' w', LyAt W0 l ⟨[], s.no, s.full⟩ v' w' → KeepL l w w' → Calls Tryz.prog 95 #[.pointer (some ⟨k0, 0, none⟩), .pointer (some ⟨k1, 0, none⟩), .pointer (some ⟨k2, 0, none⟩)] w' fun e w2 => Does W0 l (g ⟨[], s.no, s.full⟩) w' e w2) :
    Calls Tryz.prog 74 #[.pointer (some ⟨l, 0, none⟩), .func (.func 95) #[] #[.pointer (some ⟨k0, 0, none⟩), .pointer (some ⟨k1, 0, none⟩), .pointer (some ⟨k2, 0, none⟩)]] w fun e w' => Does W0 l (asB s g) w e w' := by
  obtain ⟨a, cap, hv⟩ := bytes_slice h.bytes
  subst hv
  have H := Lib.hid h
  obtain ⟨⟨c0, c1, c2⟩, f0, f1, f2⟩ := h.three
  have HA := Lib.hid h.aside
  have HC := Lib.hid (hc _ _ h.aside.1 h.aside.2)
  unfold asB
  obtain ⟨i, hi⟩ : ∃ i, g ⟨[], s.no, s.full⟩ = i := ⟨_, rfl⟩
  rw [hi] at HC
  rw [hi]
  clear h hc hi
  go_enter Tryz.func74, Tryz.ntmps74
  go_wp2_with (first
    | (go_at_call 95; refine HC.out.mono ?_; rintro e w1 ⟨rfl, ⟨v1, st1⟩, kk1⟩; obtain ⟨a1, cap1, hv1⟩ := bytes_slice st1.bytes; subst hv1; obtain ⟨⟨d0, d1, d2⟩, j0, j1, j2⟩ := st1.three; obtain ⟨st2, kp2, hby⟩ := H.out.again kk1 st1; have hcv := bytes_conv hby; have HRG := Lib.hid st1.rng; have HLE := Lib.hid st1.le; clear HC)
    | (go_at_call 107; refine (lyBytes_any W0 l _ _ (strOfNums i.xs) _ st2 (by rw [strOfNums_size]; have := HLE.out; unfold maxLen; omega)).mono ?_; rintro e w3 ⟨rfl, ⟨v3, st3⟩, kk3⟩; rw [bl_nums HRG.out] at st3))
  exact bodyPost_void rfl rfl ⟨rfl, ⟨_, st3⟩, kp2.trans kk3⟩
set_option maxRecDepth 100000 in
set_option maxHeartbeats 4000000 in
theorem lySect1_eles (W0 : World) (l : Nat) (s : Lay) (v : Value) (x : Option Addr) (len cap : Nat) (ts : List Ele) (k0 k1 k2 : Nat) (w : World) (h : LyAt W0 l s v w) (o0 : Own l w k0 #[.pointer (some ⟨l, 0, none⟩)] 56) (o1 : Own l w k1 #[.slice x len cap] 28) (o2 : Own l w k2 #[.func (.func 44) #[.pointer (some ⟨l, 0, none⟩)] #[]] 98) (hin : RowsIn 9 eleE W0 x len cap ts) :
    Calls Tryz.prog 95 #[.pointer (some ⟨k0, 0, none⟩), .pointer (some ⟨k1, 0, none⟩), .pointer (some ⟨k2, 0, none⟩)] w fun e w' => Does W0 l (listP 1000 eleP s ts) w e w' := by
  have c0 := o0.cellOf
  have c1 := o1.cellOf
  have c2 := o2.cellOf
  have H := Lib.hid h
  have HIN := Lib.hid hin
  clear h hin o0 o1 o2
  go_enter Tryz.func95, Tryz.ntmps95
  go_wp2_with (go_at_call 96; refine (lyList_eles W0 l s _ x len cap ts 1000 _ H.out HIN.out).mono ?_; rintro e w1 ⟨rfl, ⟨v1, st1⟩, kk1⟩)
  exact bodyPost_void rfl rfl ⟨rfl, ⟨_, st1⟩, kk1⟩
set_option maxRecDepth 100000 in
set_option maxHeartbeats 4000000 in
theorem lySect_eles (W0 : World) (l : Nat) (s : Lay) (v : Value) (id : Int) (x : Option Addr) (len cap : Nat) (ts : List Ele) (w : World) (h : LyAt W0 l s v w) (hin : RowsIn 9 eleE W0 x len cap ts) :
    Calls Tryz.prog 43 #[.pointer (some ⟨l, 0, none⟩), .int .i64 id, .slice x len cap, .func (.func 44) #[.pointer (some ⟨l, 0, none⟩)] #[]] w fun e w' => Does W0 l (sectP id eleP s ts) w e w' := by
  have b0 := (h).own #[.pointer (some ⟨l, 0, none⟩)] 56
  have ka0 := (h).alloc_keep (.cells #[.pointer (some ⟨l, 0, none⟩)] 56)
  have sz1 : (w.alloc (.cells #[.pointer (some ⟨l, 0, none⟩)] 56)).heap.size = w.heap.size + 1 := by simp
  have b1 := ((h).alloc (.cells #[.pointer (some ⟨l, 0, none⟩)] 56)).own #[.slice x len cap] 28
  rw [sz1] at b1
  clear sz1
  have b0 := b0.keep (((h).alloc (.cells #[.pointer (some ⟨l, 0, none⟩)] 56)).alloc_keep (.cells #[.slice x len cap] 28))
  have ka1 := ka0.trans (((h).alloc (.cells #[.pointer (some ⟨l, 0, none⟩)] 56)).alloc_keep (.cells #[.slice x len cap] 28))
  have sz2 : ((w.alloc (.cells #[.pointer (some ⟨l, 0, none⟩)] 56)).alloc (.cells #[.slice x len cap] 28)).heap.size = w.heap.size + 2 := by simp
  have b2 := (((h).alloc (.cells #[.pointer (some ⟨l, 0, none⟩)] 56)).alloc (.cells #[.slice x len cap] 28)).own #[.func (.func 44) #[.pointer (some ⟨l, 0, none⟩)] #[]] 98
  rw [sz2] at b2
  clear sz2
  have b0 := b0.keep ((((h).alloc (.cells #[.pointer (some ⟨l, 0, none⟩)] 56)).alloc (.cells #[.slice x len cap] 28)).alloc_keep (.cells #[.func (.func 44) #[.pointer (some ⟨l, 0, none⟩)] #[]] 98))
  have b1 := b1.keep ((((h).alloc (.cells #[.pointer (some ⟨l, 0, none⟩)] 56)).alloc (.cells #[.slice x len cap] 28)).alloc_keep (.cells #[.func (.func 44) #[.pointer (some ⟨l, 0, none⟩)] #[]] 98))
  have ka2 := ka1.trans ((((h).alloc (.cells #[.pointer (some ⟨l, 0, none⟩)] 56)).alloc (.cells #[.slice x len cap] 28)).alloc_keep (.cells #[.func (.func 44) #[.pointer (some ⟨l, 0, none⟩)] #[]] 98))
  have st0 := (((h).alloc (.cells #[.pointer (some ⟨l, 0, none⟩)] 56)).alloc (.cells #[.slice x len cap] 28)).alloc (.cells #[.func (.func 44) #[.pointer (some ⟨l, 0, none⟩)] #[]] 98)
  have kp0 := ka2
  have c0 := b0.cellOf
  have c1 := b1.cellOf
  have c2 := b2.cellOf
  have heq := hin.eq
  have HIN := Lib.hid hin
  unfold sectP
  rw [← heq]
  by_cases h0 : len = 0
  · rw [if_pos h0]
    have t0 : ((len : Int) == 0) = true := by rw [h0]; rfl
    clear h hin heq h0
    go_enter Tryz.func43, Tryz.ntmps43
    go_wp2_with fail
    exact bodyPost_voidr rfl rfl ⟨rfl, ⟨_, st0⟩, kp0⟩
  · rw [if_neg h0]
    have t0 : ((len : Int) == 0) = false := eq_no (by omega)
    clear h hin heq h0
    go_enter Tryz.func43, Tryz.ntmps43
    go_wp2_with (first
      | (go_at_call 73; refine (lyByte_any W0 l s _ id _ st0).mono ?_; rintro e w1 ⟨rfl, ⟨v1, st1⟩, kk1⟩; have kp1 := kp0.trans kk1; have d0 := b0.keep kk1; have d1 := b1.keep kk1; have d2 := b2.keep kk1; have e0 := d0.cellOf; clear st0 kp0)
      | (go_at_call 74; refine (lyAs_sect_Elem W0 l _ _ (fun s => listP 1000 eleP s ts) _ _ _ _ st1 (fun v' w' st' k' => lySect1_eles W0 l _ v' x len cap ts _ _ _ w' st' (d0.keep k') (d1.keep k') (d2.keep k') HIN.out)).mono ?_; rintro e w2 ⟨rfl, ⟨v2, st2⟩, kk2⟩; have kp2 := kp1.trans kk2))
    exact bodyPost_void rfl rfl ⟨rfl, ⟨_, st2⟩, kp2⟩
set_option maxRecDepth 100000 in
set_option maxHeartbeats 2000000 in
theorem lyAs_sect_Code (W0 : World) (l : Nat) (s : Lay) (v : Value) (g : Lay → Lay) (k0 k1 k2 : Nat) (w : World) (h : LyAt W0 l s v w)
    (hc : ∀ v' w', LyAt W0 l ⟨[], s.no, s.full⟩ v' w' → KeepL l w w' → Calls Tryz.prog 98 #[.pointer (some ⟨k0, 0, none⟩), .pointer (some ⟨k1, 0, none⟩), .pointer (some ⟨k2, 0, none⟩)] w' fun e w2 => Does W0 l (g ⟨[], s.no, s.full⟩) w' e w2) :
    Calls Tryz.prog 74 #[.pointer (some ⟨l, 0, none⟩), .func (.func 98) #[] #[.pointer (some ⟨k0, 0, none⟩), .pointer (some ⟨k1, 0, none⟩), .pointer (some ⟨k2, 0, none⟩)]] w fun e w' => Does W0 l (asB s g) w e w' := by
  obtain ⟨a, cap, hv⟩ := bytes_slice h.bytes
  subst hv
  have H := Lib.hid h
  obtain ⟨⟨c0, c1, c2⟩, f0, f1, f2⟩ := h.three
  have HA := Lib.hid h.aside
  have HC := Lib.hid (hc _ _ h.aside.1 h.aside.2)
  unfold asB
  obtain ⟨i, hi⟩ : ∃ i, g ⟨[], s.no, s.full⟩ = i := ⟨_, rfl⟩
  rw [hi] at HC
  rw [hi]
  clear h hc hi
  go_enter Tryz.func74, Tryz.ntmps74
  go_wp2_with (first
    | (go_at_call 98; refine HC.out.mono ?_; rintro e w1 ⟨rfl, ⟨v1, st1⟩, kk1⟩; obtain ⟨a1, cap1, hv1⟩ := bytes_slice st1.bytes; subst hv1; obtain ⟨⟨d0, d1, d2⟩, j0, j1, j2⟩ := st1.three; obtain ⟨st2, kp2, hby⟩ := H.out.again kk1 st1; have hcv := bytes_conv hby; have HRG := Lib.hid st1.rng; have HLE := Lib.hid st1.le; clear HC)
    | (go_at_call 107; refine (lyBytes_any W0 l _ _ (strOfNums i.xs) _ st2 (by rw [strOfNums_size]; have := HLE.out; unfold maxLen; omega)).mono ?_; rintro e w3 ⟨rfl, ⟨v3, st3⟩, kk3⟩; rw [bl_nums HRG.out] at st3))
  exact bodyPost_void rfl rfl ⟨rfl, ⟨_, st3⟩, kp2.trans kk3⟩
set_option maxRecDepth 100000 in
set_option maxHeartbeats 4000000 in
theorem lySect1_cods (W0 : World) (l : Nat) (s : Lay) (v : Value) (x : Option Addr) (len cap : Nat) (ts : List Cod) (k0 k1 k2 : Nat) (w : World) (h : LyAt W0 l s v w) (o0 : Own l w k0 #[.pointer (some ⟨l, 0, none⟩)] 56) (o1 : Own l w k1 #[.slice x len cap] 29) (o2 : Own l w k2 #[.func (.func 46) #[.pointer (some ⟨l, 0, none⟩)] #[]] 100) (hin : RowsIn 2 codE W0 x len cap ts) :
    Calls Tryz.prog 98 #[.pointer (some ⟨k0, 0, none⟩), .pointer (some ⟨k1, 0, none⟩), .pointer (some ⟨k2, 0, none⟩)] w fun e w' => Does W0 l (listP 1000 codP s ts) w e w' := by
  have c0 := o0.cellOf
  have c1 := o1.cellOf
  have c2 := o2.cellOf
  have H := Lib.hid h
  have HIN := Lib.hid hin
  clear h hin o0 o1 o2
  go_enter Tryz.func98, Tryz.ntmps98
  go_wp2_with (go_at_call 99; refine (lyList_cods W0 l s _ x len cap ts 1000 _ H.out HIN.out).mono ?_; rintro e w1 ⟨rfl, ⟨v1, st1⟩, kk1⟩)
  exact bodyPost_void rfl rfl ⟨rfl, ⟨_, st1⟩, kk1⟩
set_option maxRecDepth 100000 in
set_option maxHeartbeats 4000000 in
theorem lySect_cods (W0 : World) (l : Nat) (s : Lay) (v : Value) (id : Int) (x : Option Addr) (len cap : Nat) (ts : List Cod) (w : World) (h : LyAt W0 l s v w) (hin : RowsIn 2 codE W0 x len cap ts) :
    Calls Tryz.prog 45 #[.pointer (some ⟨l, 0, none⟩), .int .i64 id, .slice x len cap, .func (.func 46) #[.pointer (some ⟨l, 0, none⟩)] #[]] w fun e w' => Does W0 l (sectP id codP s ts) w e w' := by
  have b0 := (h).own #[.pointer (some ⟨l, 0, none⟩)] 56
  have ka0 := (h).alloc_keep (.cells #[.pointer (some ⟨l, 0, none⟩)] 56)
  have sz1 : (w.alloc (.cells #[.pointer (some ⟨l, 0, none⟩)] 56)).heap.size = w.heap.size + 1 := by simp
  have b1 := ((h).alloc (.cells #[.pointer (some ⟨l, 0, none⟩)] 56)).own #[.slice x len cap] 29
  rw [sz1] at b1
  clear sz1
  have b0 := b0.keep (((h).alloc (.cells #[.pointer (some ⟨l, 0, none⟩)] 56)).alloc_keep (.cells #[.slice x len cap] 29))
  have ka1 := ka0.trans (((h).alloc (.cells #[.pointer (some ⟨l, 0, none⟩)] 56)).alloc_keep (.cells #[.slice x len cap] 29))
  have sz2 : ((w.alloc (.cells #[.pointer (some ⟨l, 0, none⟩)] 56)).alloc (.cells #[.slice x len cap] 29)).heap.size = w.heap.size + 2 := by simp
  have b2 := (((h).alloc (.cells #[.pointer (some ⟨l, 0, none⟩)] 56)).alloc (.cells #[.slice x len cap] 29)).own #[.func (.func 46) #[.pointer (some ⟨l, 0, none⟩)] #[]] 100
  rw [sz2] at b2
  clear sz2
  have b0 := b0.keep ((((h).alloc (.cells #[.pointer (some ⟨l, 0, none⟩)] 56)).alloc (.cells #[.slice x len cap] 29)).alloc_keep (.cells #[.func (.func 46) #[.pointer (some ⟨l, 0, none⟩)] #[]] 100))
  have b1 := b1.keep ((((h).alloc (.cells #[.pointer (some ⟨l, 0, none⟩)] 56)).alloc (.cells #[.slice x len cap] 29)).alloc_keep (.cells #[.func (.func 46) #[.pointer (some ⟨l, 0, none⟩)] #[]] 100))
  have ka2 := ka1.trans ((((h).alloc (.cells #[.pointer (some ⟨l, 0, none⟩)] 56)).alloc (.cells #[.slice x len cap] 29)).alloc_keep (.cells #[.func (.func 46) #[.pointer (some ⟨l, 0, none⟩)] #[]] 100))
  have st0 := (((h).alloc (.cells #[.pointer (some ⟨l, 0, none⟩)] 56)).alloc (.cells #[.slice x len cap] 29)).alloc (.cells #[.func (.func 46) #[.pointer (some ⟨l, 0, none⟩)] #[]] 100)
  have kp0 := ka2
  have c0 := b0.cellOf
  have c1 := b1.cellOf
  have c2 := b2.cellOf
  have heq := hin.eq
  have HIN := Lib.hid hin
  unfold sectP
  rw [← heq]
  by_cases h0 : len = 0
  · rw [if_pos h0]
    have t0 : ((len : Int) == 0) = true := by rw [h0]; rfl
    clear h hin heq h0
    go_enter Tryz.func45, Tryz.ntmps45
    go_wp2_with fail
    exact bodyPost_voidr rfl rfl ⟨rfl, ⟨_, st0⟩, kp0⟩
  · rw [if_neg h0]
    have t0 : ((len : Int) == 0) = false := eq_no (by omega)
    clear h hin heq h0
    go_enter Tryz.func45, Tryz.ntmps45
    go_wp2_with (first
      | (go_at_call 73; refine (lyByte_any W0 l s _ id _ st0).mono ?_; rintro e w1 ⟨rfl, ⟨v1, st1⟩, kk1⟩; have kp1 := kp0.trans kk1; have d0 := b0.keep kk1; have d1 := b1.keep kk1; have d2 := b2.keep kk1; have e0 := d0.cellOf; clear st0 kp0)
      | (go_at_call 74; refine (lyAs_sect_Code W0 l _ _ (fun s => listP 1000 codP s ts) _ _ _ _ st1 (fun v' w' st' k' => lySect1_cods W0 l _ v' x len cap ts _ _ _ w' st' (d0.keep k') (d1.keep k') (d2.keep k') HIN.out)).mono ?_; rintro e w2 ⟨rfl, ⟨v2, st2⟩, kk2⟩; have kp2 := kp1.trans kk2))
    exact bodyPost_void rfl rfl ⟨rfl, ⟨_, st2⟩, kp2⟩
set_option maxRecDepth 100000 in
set_option maxHeartbeats 2000000 in
theorem lyAs_sect_Data (W0 : World) (l : Nat) (s : Lay) (v : Value) (g : Lay → Lay) (k0 k1 k2 : Nat) (w : World) (h : LyAt W0 l s v w)
    (hc : ∀ v' w', LyAt W0 l ⟨[], s.no, s.full⟩ v' w' → KeepL l w w' → Calls Tryz.prog 105 #[.pointer (some ⟨k0, 0, none⟩), .pointer (some ⟨k1, 0, none⟩), .pointer (some ⟨k2, 0, none⟩)] w' fun e w2 => Does W0 l (g ⟨[], s.no, s.full⟩) w' e w2) :
    Calls Tryz.prog 74 #[.pointer (some ⟨l, 0, none⟩), .func (.func 105) #[] #[.pointer (some ⟨k0, 0, none⟩), .pointer (some ⟨k1, 0, none⟩), .pointer (some ⟨k2, 0, none⟩)]] w fun e w' => Does W0 l (asB s g) w e w' := by
  obtain ⟨a, cap, hv⟩ := bytes_slice h.bytes
  subst hv
  have H := Lib.hid h
  obtain ⟨⟨c0, c1, c2⟩, f0, f1, f2⟩ := h.three
  have HA := Lib.hid h.aside
  have HC := Lib.hid (hc _ _ h.aside.1 h.aside.2)
  unfold asB
  obtain ⟨i, hi⟩ : ∃ i, g ⟨[], s.no, s.full⟩ = i := ⟨_, rfl⟩
  rw [hi] at HC
  rw [hi]
  clear h hc hi
  go_enter Tryz.func74, Tryz.ntmps74
  go_wp2_with (first
    | (go_at_call 105; refine HC.out.mono ?_; rintro e w1 ⟨rfl, ⟨v1, st1⟩, kk1⟩; obtain ⟨a1, cap1, hv1⟩ := bytes_slice st1.bytes; subst hv1; obtain ⟨⟨d0, d1, d2⟩, j0, j1, j2⟩ := st1.three; obtain ⟨st2, kp2, hby⟩ := H.out.again kk1 st1; have hcv := bytes_conv hby; have HRG := Lib.hid st1.rng; have HLE := Lib.hid st1.le; clear HC)
    | (go_at_call 107; refine (lyBytes_any W0 l _ _ (strOfNums i.xs) _ st2 (by rw [strOfNums_size]; have := HLE.out; unfold maxLen; omega)).mono ?_; rintro e w3 ⟨rfl, ⟨v3, st3⟩, kk3⟩; rw [bl_nums HRG.out] at st3))
  exact bodyPost_void rfl rfl ⟨rfl, ⟨_, st3⟩, kp2.trans kk3⟩
set_option maxRecDepth 100000 in
set_option maxHeartbeats 4000000 in
theorem lySect1_dats (W0 : World) (l : Nat) (s : Lay) (v : Value) (x : Option Addr) (len cap : Nat) (ts : List Dat) (k0 k1 k2 : Nat) (w : World) (h : LyAt W0 l s v w) (o0 : Own l w k0 #[.pointer (some ⟨l, 0, none⟩)] 56) (o1 : Own l w k1 #[.slice x len cap] 30) (o2 : Own l w k2 #[.func (.func 48) #[.pointer (some ⟨l, 0, none⟩)] #[]] 102) (hin : RowsIn 9 datE W0 x len cap ts) :
    Calls Tryz.prog 105 #[.pointer (some ⟨k0, 0, none⟩), .pointer (some ⟨k1, 0, none⟩), .pointer (some ⟨k2, 0, none⟩)] w fun e w' => Does W0 l (listP 1000 datP s ts) w e w' := by
  have c0 := o0.cellOf
  have c1 := o1.cellOf
  have c2 := o2.cellOf
  have H := Lib.hid h
  have HIN := Lib.hid hin
  clear h hin o0 o1 o2
  go_enter Tryz.func105, Tryz.ntmps105
  go_wp2_with (go_at_call 106; refine (lyList_dats W0 l s _ x len cap ts 1000 _ H.out HIN.out).mono ?_; rintro e w1 ⟨rfl, ⟨v1, st1⟩, kk1⟩)
  exact bodyPost_void rfl rfl ⟨rfl, ⟨_, st1⟩, kk1⟩
set_option maxRecDepth 100000 in
set_option maxHeartbeats 4000000 in
theorem lySect_dats (W0 : World) (l : Nat) (s : Lay) (v : Value) (id : Int) (x : Option Addr) (len cap : Nat) (ts : List Dat) (w : World) (h : LyAt W0 l s v w) (hin : RowsIn 9 datE W0 x len cap ts) :
    Calls Tryz.prog 47 #[.pointer (some ⟨l, 0, none⟩), .int .i64 id, .slice x len cap, .func (.func 48) #[.pointer (some ⟨l, 0, none⟩)] #[]] w fun e w' => Does W0 l (sectP id datP s ts) w e w' := by
  have b0 := (h).own #[.pointer (some ⟨l, 0, none⟩)] 56
  have ka0 := (h).alloc_keep (.cells #[.pointer (some ⟨l, 0, none⟩)] 56)
  have sz1 : (w.alloc (.cells #[.pointer (some ⟨l, 0, none⟩)] 56)).heap.size = w.heap.size + 1 := by simp
  have b1 := ((h).alloc (.cells #[.pointer (some ⟨l, 0, none⟩)] 56)).own #[.slice x len cap] 30
  rw [sz1] at b1
  clear sz1
  have b0 := b0.keep (((h).alloc (.cells #[.pointer (some ⟨l, 0, none⟩)] 56)).alloc_keep (.cells #[.slice x len cap] 30))
  have ka1 := ka0.trans (((h).alloc (.cells #[.pointer (some ⟨l, 0, none⟩)] 56)).alloc_keep (.cells #[.slice x len cap] 30))
  have sz2 : ((w.alloc (.cells #[.pointer (some ⟨l, 0, none⟩)] 56)).alloc (.cells #[.slice x len cap] 30)).heap.size = w.heap.size + 2 := by simp
  have b2 := (((h).alloc (.cells #[.pointer (some ⟨l, 0, none⟩)] 56)).alloc (.cells #[.slice x len cap] 30)).own #[.func (.func 48) #[.pointer (some ⟨l, 0, none⟩)] #[]] 102
  rw [sz2] at b2
  clear sz2
  have b0 := b0.keep ((((h).alloc (.cells #[.pointer (some ⟨l, 0, none⟩)] 56)).alloc (.cells #[.slice x len cap] 30)).alloc_keep (.cells #[.func (.func 48) #[.pointer (some ⟨l, 0, none⟩)] #[]] 102))
  have b1 := b1.keep ((((h).alloc (.cells #[.pointer (some ⟨l, 0, none⟩)] 56)).alloc (.cells #[.slice x len cap] 30)).alloc_keep (.cells #[.func (.func 48) #[.pointer (some ⟨l, 0, none⟩)] #[]] 102))
  have ka2 := ka1.trans ((((h).alloc (.cells #[.pointer (some ⟨l, 0, none⟩)] 56)).alloc (.cells #[.slice x len cap] 30)).alloc_keep (.cells #[.func (.func 48) #[.pointer (some ⟨l, 0, none⟩)] #[]] 102))
  have st0 := (((h).alloc (.cells #[.pointer (some ⟨l, 0, none⟩)] 56)).alloc (.cells #[.slice x len cap] 30)).alloc (.cells #[.func (.func 48) #[.pointer (some ⟨l, 0, none⟩)] #[]] 102)
  have kp0 := ka2
  have c0 := b0.cellOf
  have c1 := b1.cellOf
  have c2 := b2.cellOf
  have heq := hin.eq
  have HIN := Lib.hid hin
  unfold sectP
  rw [← heq]
  by_cases h0 : len = 0
  · rw [if_pos h0]
    have t0 : ((len : Int) == 0) = true := by rw [h0]; rfl
    clear h hin heq h0
    go_enter Tryz.func47, Tryz.ntmps47
    go_wp2_with fail
    exact bodyPost_voidr rfl rfl ⟨rfl, ⟨_, st0⟩, kp0⟩
  · rw [if_neg h0]
    have t0 : ((len : Int) == 0) = false := eq_no (by omega)
    clear h hin heq h0
    go_enter Tryz.func47, Tryz.ntmps47
    go_wp2_with (first
      | (go_at_call 73; refine (lyByte_any W0 l s _ id _ st0).mono ?_; rintro e w1 ⟨rfl, ⟨v1, st1⟩, kk1⟩; have kp1 := kp0.trans kk1; have d0 := b0.keep kk1; have d1 := b1.keep kk1; have d2 := b2.keep kk1; have e0 := d0.cellOf; clear st0 kp0)
      | (go_at_call 74; refine (lyAs_sect_Data W0 l _ _ (fun s => listP 1000 datP s ts) _ _ _ _ st1 (fun v' w' st' k' => lySect1_dats W0 l _ v' x len cap ts _ _ _ w' st' (d0.keep k') (d1.keep k') (d2.keep k') HIN.out)).mono ?_; rintro e w2 ⟨rfl, ⟨v2, st2⟩, kk2⟩; have kp2 := kp1.trans kk2))
    exact bodyPost_void rfl rfl ⟨rfl, ⟨_, st2⟩, kp2⟩
end Go.Proofs.YtekonefnniaheaaGreat
