/- Texts of the proof of ModulePutsUptoProof, part 13. -/
import Derived.Test.YtekonefnniaheaaGreatModulePutsUptoProofQ12
namespace Go.Proofs.YtekonefnniaheaaGreat
open Go.RowKit Go.Deep
open Leb (putU putS)

set_option maxRecDepth 100000 in
set_option maxHeartbeats 2000000 in
theorem lyFuncType_any (W0 : World) (l : Nat) (s : Lay) (v : Value) (t : FT) (xp : Option Addr) (cp : Nat) (xr : Option Addr) (cr : Nat) (w : World) (h : LyAt W0 l s v w) (hp : IntsIn W0 xp t.p.length cp t.p) (hr : IntsIn W0 xr t.r.length cr t.r) :
    Calls Tryz.prog 30 #[.pointer (some ⟨l, 0, none⟩), .agg #[.slice xp t.p.length cp, .slice xr t.r.length cr]] w fun e w' => Does W0 l (ftP s t) w e w' := by
  have st0 := h.alloc (.cells #[.slice xp t.p.length cp, .slice xr t.r.length cr] 54)
  have kp0 := h.alloc_keep (.cells #[.slice xp t.p.length cp, .slice xr t.r.length cr] 54)
  have bx0 := h.own #[.slice xp t.p.length cp, .slice xr t.r.length cr] 54
  obtain ⟨bxc0_0, bxc0_1⟩ := bx0.blk.two
  unfold ftP
  have HP := Lib.hid hp
  have HR := Lib.hid hr
  clear hp hr
  clear h 
  go_enter Tryz.func30, Tryz.ntmps30
  go_wp2_with (first | (go_at_call 73; refine (lyByte_any W0 l s _ 96 _ st0).mono ?_; rintro e w1 ⟨rfl, ⟨v1, st1⟩, kk1⟩; have kp1 := kp0.trans kk1; have bx1 := bx0.keep kk1; obtain ⟨bxc1_0, bxc1_1⟩ := bx1.blk.two; clear st0 kp0) | (go_at_call 77; refine (lyList_ints_typ W0 l _ _ xp t.p.length cp t.p 32 _ st1 HP.out).mono ?_; rintro e w2 ⟨rfl, ⟨v2, st2⟩, kk2⟩; have kp2 := kp1.trans kk2; have bx2 := bx1.keep kk2; obtain ⟨bxc2_0, bxc2_1⟩ := bx2.blk.two; clear st1 kp1) | (go_at_call 77; refine (lyList_ints_typ W0 l _ _ xr t.r.length cr t.r 32 _ st2 HR.out).mono ?_; rintro e w3 ⟨rfl, ⟨v3, st3⟩, kk3⟩; have kp3 := kp2.trans kk3; have bx3 := bx2.keep kk3; obtain ⟨bxc3_0, bxc3_1⟩ := bx3.blk.two; clear st2 kp2))
  first | exact bodyPost_void rfl rfl ⟨rfl, ⟨_, st3⟩, kp3⟩ | exact bodyPost_voidr rfl rfl ⟨rfl, ⟨_, st3⟩, kp3⟩
set_option maxRecDepth 100000 in
set_option maxHeartbeats 2000000 in
theorem lyElem_any (W0 : World) (l : Nat) (s : Lay) (v : Value) (x : Ele) (xn : Option Addr) (nc : Nat) (xl : Option Addr) (lc : Nat) (xe : Option Addr) (ec : Nat) (xf : Option Addr) (cf : Nat) (w : World) (h : LyAt W0 l s v w) (hc : InsV W0 x.off xn nc xl lc xe ec) (hwf : wfI x.off) (hf : IntsIn W0 xf x.f.length cf x.f) (ht : x.table ≤ 9223372036854775807) :
    Calls Tryz.prog 44 #[.pointer (some ⟨l, 0, none⟩), .agg #[.int .i64 x.table, .int .i64 x.off.op, .int .i64 x.off.a, .int .i64 x.off.b, .int .i64 x.off.m, .slice xn x.off.n.length nc, .slice xl x.off.l.length lc, .slice xe x.off.e.length ec, .slice xf x.f.length cf]] w fun e w' => Does W0 l (eleP s x) w e w' := by
  have st0 := h.alloc (.cells #[.int .i64 x.table, .int .i64 x.off.op, .int .i64 x.off.a, .int .i64 x.off.b, .int .i64 x.off.m, .slice xn x.off.n.length nc, .slice xl x.off.l.length lc, .slice xe x.off.e.length ec, .slice xf x.f.length cf] 71)
  have kp0 := h.alloc_keep (.cells #[.int .i64 x.table, .int .i64 x.off.op, .int .i64 x.off.a, .int .i64 x.off.b, .int .i64 x.off.m, .slice xn x.off.n.length nc, .slice xl x.off.l.length lc, .slice xe x.off.e.length ec, .slice xf x.f.length cf] 71)
  have bx0 := h.own #[.int .i64 x.table, .int .i64 x.off.op, .int .i64 x.off.a, .int .i64 x.off.b, .int .i64 x.off.m, .slice xn x.off.n.length nc, .slice xl x.off.l.length lc, .slice xe x.off.e.length ec, .slice xf x.f.length cf] 71
  obtain ⟨bxc0_0, bxc0_1, bxc0_2, bxc0_3, bxc0_4, bxc0_5, bxc0_6, bxc0_7, bxc0_8⟩ := bx0.blk.nine
  unfold eleP
  have HC := Lib.hid hc
  have HW := Lib.hid hwf
  have HF := Lib.hid hf
  by_cases h0 : x.table = 0
  ·
    rw [if_pos h0]
    have t0 : (x.table != 0) = false := by simpa using h0
    clear h0 hc hwf hf
    clear h 
    go_enter Tryz.func44, Tryz.ntmps44
    go_wp2_with (first | (go_at_call 97; refine (lyWhere_any W0 l s _ x.table _ st0 ht).mono ?_; rintro e w1 ⟨rfl, ⟨v1, st1⟩, kk1⟩; have kp1 := kp0.trans kk1; have bx1 := bx0.keep kk1; obtain ⟨bxc1_0, bxc1_1, bxc1_2, bxc1_3, bxc1_4, bxc1_5, bxc1_6, bxc1_7, bxc1_8⟩ := bx1.blk.nine; clear st0 kp0) | (go_at_call 91; refine (lyConst_any W0 l _ _ x.off xn nc xl lc xe ec _ st1 HC.out HW.out).mono ?_; rintro e w2 ⟨rfl, ⟨v2, st2⟩, kk2⟩; have kp2 := kp1.trans kk2; have bx2 := bx1.keep kk2; obtain ⟨bxc2_0, bxc2_1, bxc2_2, bxc2_3, bxc2_4, bxc2_5, bxc2_6, bxc2_7, bxc2_8⟩ := bx2.blk.nine; clear st1 kp1) | (go_at_call 77; refine (lyList_ints_index W0 l _ _ xf x.f.length cf x.f 1000 _ st2 HF.out).mono ?_; rintro e w3 ⟨rfl, ⟨v3, st3⟩, kk3⟩; have kp3 := kp2.trans kk3; have bx3 := bx2.keep kk3; obtain ⟨bxc3_0, bxc3_1, bxc3_2, bxc3_3, bxc3_4, bxc3_5, bxc3_6, bxc3_7, bxc3_8⟩ := bx3.blk.nine; clear st2 kp2))
    first | exact bodyPost_void rfl rfl ⟨rfl, ⟨_, st3⟩, kp3⟩ | exact bodyPost_voidr rfl rfl ⟨rfl, ⟨_, st3⟩, kp3⟩
  ·
    rw [if_neg h0]
    have t0 : (x.table != 0) = true := by simpa using h0
    clear h0 hc hwf hf
    clear h 
    go_enter Tryz.func44, Tryz.ntmps44
    go_wp2_with (first | (go_at_call 97; refine (lyWhere_any W0 l s _ x.table _ st0 ht).mono ?_; rintro e w1 ⟨rfl, ⟨v1, st1⟩, kk1⟩; have kp1 := kp0.trans kk1; have bx1 := bx0.keep kk1; obtain ⟨bxc1_0, bxc1_1, bxc1_2, bxc1_3, bxc1_4, bxc1_5, bxc1_6, bxc1_7, bxc1_8⟩ := bx1.blk.nine; clear st0 kp0) | (go_at_call 91; refine (lyConst_any W0 l _ _ x.off xn nc xl lc xe ec _ st1 HC.out HW.out).mono ?_; rintro e w2 ⟨rfl, ⟨v2, st2⟩, kk2⟩; have kp2 := kp1.trans kk2; have bx2 := bx1.keep kk2; obtain ⟨bxc2_0, bxc2_1, bxc2_2, bxc2_3, bxc2_4, bxc2_5, bxc2_6, bxc2_7, bxc2_8⟩ := bx2.blk.nine; clear st1 kp1) | (go_at_call 73; refine (lyByte_any W0 l _ _ 0 _ st2).mono ?_; rintro e w3 ⟨rfl, ⟨v3, st3⟩, kk3⟩; have kp3 := kp2.trans kk3; have bx3 := bx2.keep kk3; obtain ⟨bxc3_0, bxc3_1, bxc3_2, bxc3_3, bxc3_4, bxc3_5, bxc3_6, bxc3_7, bxc3_8⟩ := bx3.blk.nine; clear st2 kp2) | (go_at_call 77; refine (lyList_ints_index W0 l _ _ xf x.f.length cf x.f 1000 _ st3 HF.out).mono ?_; rintro e w4 ⟨rfl, ⟨v4, st4⟩, kk4⟩; have kp4 := kp3.trans kk4; have bx4 := bx3.keep kk4; obtain ⟨bxc4_0, bxc4_1, bxc4_2, bxc4_3, bxc4_4, bxc4_5, bxc4_6, bxc4_7, bxc4_8⟩ := bx4.blk.nine; clear st3 kp3))
    first | exact bodyPost_void rfl rfl ⟨rfl, ⟨_, st4⟩, kp4⟩ | exact bodyPost_voidr rfl rfl ⟨rfl, ⟨_, st4⟩, kp4⟩
set_option maxRecDepth 100000 in
set_option maxHeartbeats 4000000 in
theorem lyList_fts (W0 : World) (l : Nat) (s : Lay) (v : Value) (x : Option Addr) (len cap : Nat) (ts : List FT) (most : Int) (w : World) (h : LyAt W0 l s v w) (hin : RowsIn 2 ftE W0 x len cap ts) :
    Calls Tryz.prog 76 #[.pointer (some ⟨l, 0, none⟩), .slice x len cap, .int .i64 most, .func (.func 30) #[.pointer (some ⟨l, 0, none⟩)] #[]] w fun e w' => Does W0 l (listP most ftP s ts) w e w' := by
  have st0 := h
  have kp0 := KeepL.refl l w
  have heq := hin.eq
  have htop := hin.top
  have hle := hin.le
  have HIN := Lib.hid hin
  unfold listP
  rw [← heq]
  obtain ⟨s2, hs2⟩ : ∃ s2, s2 = putP (needP s (decide ((len : Int) ≤ most))) (putU (len : Int)) := ⟨_, rfl⟩
  rw [← hs2]
  have HS2 := Lib.hid hs2
  have HU := Lib.hid (fun w => PutU_any (len : Int) w (by omega))
  have HLEN := Lib.hid heq
  have HLB : Hid ((len : Int) ≤ 9223372036854775807) := Lib.hid (by omega)
  clear h hin heq htop hle hs2
  go_enter Tryz.func76, Tryz.ntmps76
  go_wp2_with (first | (go_at_call 28; refine (lyNeed_any W0 l s _ (decide ((len : Int) ≤ most)) _ st0).mono ?_; rintro e w1 ⟨rfl, ⟨v1, st1⟩, kk1⟩; have kp1 := kp0.trans kk1; clear st0 kp0) | (go_at_call 86; refine (HU.out _).mono ?_; rintro e w2 ⟨rfl, hb2⟩; have st2 := st1.next hb2; have kk2 := KeepL.of_below st1.lt hb2; have kp2 := kp1.trans kk2; clear st1 kp1) | (go_at_call 27; refine (lyPut_nums W0 l _ _ (putU (len : Int)) _ st2 (Leb.putU_byte _)).mono ?_; rintro e w3 ⟨rfl, ⟨v3, st3⟩, kk3⟩; have kp3 := kp2.trans kk3; clear st2 kp2))
  rw [← HS2.out] at st3
  have HST := Lib.hid st3
  have HK := Lib.hid kp3
  clear st3 kp3 kk1 kk2 kk3
  go_loopw [23] (fun iv wr => ∃ (i : Nat) (v' : Value), iv = .int .i64 i ∧ i ≤ len ∧ LyAt W0 l ((ts.take i).foldl (stepP ftP) s2) v' wr ∧ KeepL l w wr) (fun iv _ => len - (intOf iv).toNat)
  case atStart => exact ⟨0, v3, rfl, Nat.zero_le _, by rw [List.take_zero]; exact HST.out, HK.out⟩
  case round =>
    clear HST HK
    obtain ⟨i, v', rfl, hi, st, kp⟩ := hrel
    by_cases hlt : i < len
    · have hil : i < ts.length := by rw [← HLEN.out]; exact hlt
      have hbw := st.below
      have HIL := Lib.hid hil
      have hone := HIN.out.lie
      rcases hone with h0 | ⟨b, off, hx, hone⟩
      · omega
      subst hx
      have he := hone i hil
      clear hone
      revert he
      obtain ⟨t, ht⟩ : ∃ t, ts.getD i default = t := ⟨_, rfl⟩
      rw [ht]
      intro he
      have HT := Lib.hid ht
      clear ht
      obtain ⟨xp, cp, xr, cr, ⟨q0, q1⟩, r0, r1⟩ := he
      have q0' := below_cell hbw q0
      have q1' := below_cell hbw q1
      have R0 := Lib.hid r0
      have R1 := Lib.hid r1
      clear q0 q1 r0 r1
      have HNX := Lib.hid (fold_next ftP s2 ts i hil)
      have HSP := Lib.hid (fold_stop ftP s2 ts i)
      revert st HNX HSP
      generalize (ts.take i).foldl (stepP ftP) s2 = si
      intro st HNX HSP
      have sta := st.alloc (.cells #[.slice xp t.p.length cp, .slice xr t.r.length cr] 54)
      have kpa := kp.trans (st.alloc_keep (.cells #[.slice xp t.p.length cp, .slice xr t.r.length cr] 54))
      obtain ⟨⟨g0, g1, g2⟩, _⟩ := sta.three
      obtain ⟨bc0, bc1⟩ := (BlkAt.new wr #[.slice xp t.p.length cp, .slice xr t.r.length cr] 54).two
      have HSTA := Lib.hid sta
      clear hbw hil st sta
      cases hno : si.no with
      | true =>
        rw [hno] at g1
        have HE := Lib.hid (HSP.out hno)
        clear HNX HSP hno
        go_wp2_with fail
        rw [HE.out]
        exact bodyPost_voidr rfl rfl ⟨rfl, ⟨_, HSTA.out⟩, kpa⟩
      | false =>
        rw [hno] at g1
        have HE := Lib.hid (HNX.out hno)
        rw [HT.out] at HE
        clear HNX HSP hno
        go_wp2_with (go_at_call 30; refine (lyFuncType_any W0 l si _ t xp cp xr cr _ HSTA.out R0.out R1.out).mono ?_; rintro e w5 ⟨rfl, ⟨v5, st5⟩, kk5⟩; have kp5 := kpa.trans kk5)
        replace st5 : LyAt W0 l (ftP si t) v5 w5 := st5
        rw [← HE.out] at st5
        have hlb := HLB.out
        have hlw : wrap64 ((i : Int) + 1) = ((i + 1 : Nat) : Int) := by
          unfold wrap64
          omega
        rw [hlw]
        exact ⟨⟨i + 1, v5, rfl, by omega, st5, kp5⟩, by show len - (i + 1) < len - i; omega⟩
    · have hie : i = len := by omega
      subst hie
      have HE : Hid ((ts.take i).foldl (stepP ftP) s2 = ts.foldl (stepP ftP) s2) := Lib.hid (by rw [HLEN.out, List.take_length])
      rw [HE.out] at st
      go_wp2_with fail
      exact bodyPost_void rfl rfl ⟨rfl, ⟨_, st⟩, kp⟩
set_option maxRecDepth 100000 in
set_option maxHeartbeats 4000000 in
theorem lyList_eles (W0 : World) (l : Nat) (s : Lay) (v : Value) (x : Option Addr) (len cap : Nat) (ts : List Ele) (most : Int) (w : World) (h : LyAt W0 l s v w) (hin : RowsIn 9 eleE W0 x len cap ts) :
    Calls Tryz.prog 96 #[.pointer (some ⟨l, 0, none⟩), .slice x len cap, .int .i64 most, .func (.func 44) #[.pointer (some ⟨l, 0, none⟩)] #[]] w fun e w' => Does W0 l (listP most eleP s ts) w e w' := by
  have st0 := h
  have kp0 := KeepL.refl l w
  have heq := hin.eq
  have htop := hin.top
  have hle := hin.le
  have HIN := Lib.hid hin
  unfold listP
  rw [← heq]
  obtain ⟨s2, hs2⟩ : ∃ s2, s2 = putP (needP s (decide ((len : Int) ≤ most))) (putU (len : Int)) := ⟨_, rfl⟩
  rw [← hs2]
  have HS2 := Lib.hid hs2
  have HU := Lib.hid (fun w => PutU_any (len : Int) w (by omega))
  have HLEN := Lib.hid heq
  have HLB : Hid ((len : Int) ≤ 9223372036854775807) := Lib.hid (by omega)
  clear h hin heq htop hle hs2
  go_enter Tryz.func96, Tryz.ntmps96
  go_wp2_with (first | (go_at_call 28; refine (lyNeed_any W0 l s _ (decide ((len : Int) ≤ most)) _ st0).mono ?_; rintro e w1 ⟨rfl, ⟨v1, st1⟩, kk1⟩; have kp1 := kp0.trans kk1; clear st0 kp0) | (go_at_call 86; refine (HU.out _).mono ?_; rintro e w2 ⟨rfl, hb2⟩; have st2 := st1.next hb2; have kk2 := KeepL.of_below st1.lt hb2; have kp2 := kp1.trans kk2; clear st1 kp1) | (go_at_call 27; refine (lyPut_nums W0 l _ _ (putU (len : Int)) _ st2 (Leb.putU_byte _)).mono ?_; rintro e w3 ⟨rfl, ⟨v3, st3⟩, kk3⟩; have kp3 := kp2.trans kk3; clear st2 kp2))
  rw [← HS2.out] at st3
  have HST := Lib.hid st3
  have HK := Lib.hid kp3
  clear st3 kp3 kk1 kk2 kk3
  go_loopw [23] (fun iv wr => ∃ (i : Nat) (v' : Value), iv = .int .i64 i ∧ i ≤ len ∧ LyAt W0 l ((ts.take i).foldl (stepP eleP) s2) v' wr ∧ KeepL l w wr) (fun iv _ => len - (intOf iv).toNat)
  case atStart => exact ⟨0, v3, rfl, Nat.zero_le _, by rw [List.take_zero]; exact HST.out, HK.out⟩
  case round =>
    clear HST HK
    obtain ⟨i, v', rfl, hi, st, kp⟩ := hrel
    by_cases hlt : i < len
    · have hil : i < ts.length := by rw [← HLEN.out]; exact hlt
      have hbw := st.below
      have HIL := Lib.hid hil
      have hone := HIN.out.lie
      rcases hone with h0 | ⟨b, off, hx, hone⟩
      · omega
      subst hx
      have he := hone i hil
      clear hone
      revert he
      obtain ⟨t, ht⟩ : ∃ t, ts.getD i default = t := ⟨_, rfl⟩
      rw [ht]
      intro he
      have HT := Lib.hid ht
      clear ht
      obtain ⟨xn, nc, xl, lc, xe, ec, xf, cf, ⟨q0, q8⟩, ⟨q1, q2, q3, q4, q5, q6, q7⟩, r0, r1, r2, r3⟩ := he
      have q0' := below_cell hbw q0
      have q1' := below_cell hbw q1
      have q2' := below_cell hbw q2
      have q3' := below_cell hbw q3
      have q4' := below_cell hbw q4
      have q5' := below_cell hbw q5
      have q6' := below_cell hbw q6
      have q7' := below_cell hbw q7
      have q8' := below_cell hbw q8
      have R0 := Lib.hid r0
      have R1 := Lib.hid r1
      have R2 := Lib.hid r2
      have R3 := Lib.hid r3
      clear q0 q1 q2 q3 q4 q5 q6 q7 q8 r0 r1 r2 r3
      have HNX := Lib.hid (fold_next eleP s2 ts i hil)
      have HSP := Lib.hid (fold_stop eleP s2 ts i)
      revert st HNX HSP
      generalize (ts.take i).foldl (stepP eleP) s2 = si
      intro st HNX HSP
      have sta := st.alloc (.cells #[.int .i64 t.table, .int .i64 t.off.op, .int .i64 t.off.a, .int .i64 t.off.b, .int .i64 t.off.m, .slice xn t.off.n.length nc, .slice xl t.off.l.length lc, .slice xe t.off.e.length ec, .slice xf t.f.length cf] 71)
      have kpa := kp.trans (st.alloc_keep (.cells #[.int .i64 t.table, .int .i64 t.off.op, .int .i64 t.off.a, .int .i64 t.off.b, .int .i64 t.off.m, .slice xn t.off.n.length nc, .slice xl t.off.l.length lc, .slice xe t.off.e.length ec, .slice xf t.f.length cf] 71))
      obtain ⟨⟨g0, g1, g2⟩, _⟩ := sta.three
      obtain ⟨bc0, bc1, bc2, bc3, bc4, bc5, bc6, bc7, bc8⟩ := (BlkAt.new wr #[.int .i64 t.table, .int .i64 t.off.op, .int .i64 t.off.a, .int .i64 t.off.b, .int .i64 t.off.m, .slice xn t.off.n.length nc, .slice xl t.off.l.length lc, .slice xe t.off.e.length ec, .slice xf t.f.length cf] 71).nine
      have HSTA := Lib.hid sta
      clear hbw hil st sta
      cases hno : si.no with
      | true =>
        rw [hno] at g1
        have HE := Lib.hid (HSP.out hno)
        clear HNX HSP hno
        go_wp2_with fail
        rw [HE.out]
        exact bodyPost_voidr rfl rfl ⟨rfl, ⟨_, HSTA.out⟩, kpa⟩
      | false =>
        rw [hno] at g1
        have HE := Lib.hid (HNX.out hno)
        rw [HT.out] at HE
        clear HNX HSP hno
        go_wp2_with (go_at_call 44; refine (lyElem_any W0 l si _ t xn nc xl lc xe ec xf cf _ HSTA.out R0.out R1.out R2.out R3.out).mono ?_; rintro e w5 ⟨rfl, ⟨v5, st5⟩, kk5⟩; have kp5 := kpa.trans kk5)
        replace st5 : LyAt W0 l (eleP si t) v5 w5 := st5
        rw [← HE.out] at st5
        have hlb := HLB.out
        have hlw : wrap64 ((i : Int) + 1) = ((i + 1 : Nat) : Int) := by
          unfold wrap64
          omega
        rw [hlw]
        exact ⟨⟨i + 1, v5, rfl, by omega, st5, kp5⟩, by show len - (i + 1) < len - i; omega⟩
    · have hie : i = len := by omega
      subst hie
      have HE : Hid ((ts.take i).foldl (stepP eleP) s2 = ts.foldl (stepP eleP) s2) := Lib.hid (by rw [HLEN.out, List.take_length])
      rw [HE.out] at st
      go_wp2_with fail
      exact bodyPost_void rfl rfl ⟨rfl, ⟨_, st⟩, kp⟩
set_option maxRecDepth 100000 in
set_option maxHeartbeats 2000000 in
theorem lyAs_start (W0 : World) (l : Nat) (s : Lay) (v : Value) (g : Lay → Lay) (k0 k1 : Nat) (w : World) (h : LyAt W0 l s v w)
    (hc : ∀ v' w', LyAt W0 l ⟨[], s.no, s.full⟩ v' w' → KeepL l w w' → Calls Tryz.prog 94 #[.pointer (some ⟨k0, 0, none⟩), .pointer (some ⟨k1, 0, none⟩)] w' fun e w2 => Does W0 l (g ⟨[], s.no, s.full⟩) w' e w2) :
    Calls Tryz.prog 74 #[.pointer (some ⟨l, 0, none⟩), .func (.func 94) #[] #[.pointer (some ⟨k0, 0, none⟩), .pointer (some ⟨k1, 0, none⟩)]] w fun e w' => Does W0 l (asB s g) w e w' := by
  obtain ⟨a, cap, hv⟩ := bytes_slice h.bytes
  subst hv
  have H := Lib.hid h
  obtain ⟨⟨c0, c1, c2⟩, f0, f1, f2⟩ := h.three
  have HA := Lib.hid h.aside
  have HC := Lib.hid (hc _ _ h.aside.1 h.aside.2)
  unfold asB
  obtain ⟨i, hi⟩ : ∃ i, g ⟨[], s.no, s.full⟩ = i := ⟨_, rfl⟩
  rw [hi] at HC
  rw [hi]
  clear h hc hi
  go_enter Tryz.func74, Tryz.ntmps74
  go_wp2_with (first
    | (go_at_call 94; refine HC.out.mono ?_; rintro e w1 ⟨rfl, ⟨v1, st1⟩, kk1⟩; obtain ⟨a1, cap1, hv1⟩ := bytes_slice st1.bytes; subst hv1; obtain ⟨⟨d0, d1, d2⟩, j0, j1, j2⟩ := st1.three; obtain ⟨st2, kp2, hby⟩ := H.out.again kk1 st1; have hcv := bytes_conv hby; have HRG := Lib.hid st1.rng; have HLE := Lib.hid st1.le; clear HC)
    | (go_at_call 107; refine (lyBytes_any W0 l _ _ (strOfNums i.xs) _ st2 (by rw [strOfNums_size]; have := HLE.out; unfold maxLen; omega)).mono ?_; rintro e w3 ⟨rfl, ⟨v3, st3⟩, kk3⟩; rw [bl_nums HRG.out] at st3))
  exact bodyPost_void rfl rfl ⟨rfl, ⟨_, st3⟩, kp2.trans kk3⟩
end Go.Proofs.YtekonefnniaheaaGreat
namespace Go.Proofs.YtekonefnniaheaaGreat
open Go.RowKit Go.Deep
open Leb (putU putS)

/-- One local more. -/
def addRow (rs : List (Int × Int)) (t : Int) : List (Int × Int) := match rs.getLast? with
  | some q => if t = q.2 then rs.dropLast ++ [(q.1 + 1, t)] else rs ++ [(1, t)]
  | none => [(1, t)]
def rowsL (ts : List Int) : List (Int × Int) := ts.foldl addRow []
def flatR (rs : List (Int × Int)) : List Value := rs.flatMap fun r => [.int .i64 r.1, .int .i64 r.2]
theorem flatR_app (a b : List (Int × Int)) : flatR (a ++ b) = flatR a ++ flatR b := List.flatMap_append
theorem flatR_len (rs : List (Int × Int)) : (flatR rs).length = rs.length * 2 := by
  induction rs with
  | nil => rfl
  | cons r rs ih =>
    show (flatR ([r] ++ rs)).length = _
    rw [flatR_app, List.length_append, ih, List.length_cons]
    show 2 + _ = _
    omega
theorem addRow_new {rs : List (Int × Int)} {t : Int} (h : ∀ q, rs.getLast? = some q → t ≠ q.2) : addRow rs t = rs ++ [(1, t)] := by
  unfold addRow
  cases hq : rs.getLast? with
  | none => rw [List.getLast?_eq_none_iff.1 hq]; rfl
  | some q => exact if_neg (h q hq)
theorem addRow_same {rs : List (Int × Int)} {m t : Int} : addRow (rs ++ [(m, t)]) t = rs ++ [(m + 1, t)] := by
  unfold addRow
  rw [List.getLast?_append]
  simp
theorem rowsL_next {ts : List Int} {i : Nat} (hi : i < ts.length) : rowsL (ts.take (i + 1)) = addRow (rowsL (ts.take i)) (ts.getD i 0) := by
  unfold rowsL
  rw [List.take_succ_eq_append_getElem hi, List.foldl_append, List.foldl_cons, List.foldl_nil, List.getD_eq_getElem?_getD, List.getElem?_eq_getElem hi]
  rfl
/-- What the rows of some locals are like. -/
structure RowInv (ts : List Int) (i : Nat) (rs : List (Int × Int)) : Prop where
  eq : rowsL (ts.take i) = rs
  len : rs.length ≤ i
  last : ∀ q, rs.getLast? = some q → (1 ≤ q.1 ∧ q.1 ≤ i) ∧ q.2 = ts.getD (i - 1) 0 ∧ 0 < i
  none : rs = [] → i = 0
theorem rowInv_zero (ts : List Int) : RowInv ts 0 [] := ⟨by rw [List.take_zero]; rfl, Nat.le_refl _, fun q hq => (by cases hq), fun _ => rfl⟩
theorem rowInv_new {ts : List Int} {i : Nat} {rs : List (Int × Int)} (h : RowInv ts i rs) (hi : i < ts.length) (hn : ∀ q, rs.getLast? = some q → ts.getD i 0 ≠ q.2) : RowInv ts (i + 1) (rs ++ [(1, ts.getD i 0)]) := by
  refine ⟨by rw [rowsL_next hi, h.eq, addRow_new hn], by have := h.len; simp; omega, fun q hq => ?_, fun q => by simp at q⟩
  rw [List.getLast?_append] at hq
  simp at hq
  subst hq
  exact ⟨⟨by simp, by simp; omega⟩, by simp, by omega⟩
theorem rowInv_same {ts : List Int} {i : Nat} {rs : List (Int × Int)} {m : Int} (h : RowInv ts i (rs ++ [(m, ts.getD i 0)])) (hi : i < ts.length) : RowInv ts (i + 1) (rs ++ [(m + 1, ts.getD i 0)]) := by
  obtain ⟨⟨h1, h2⟩, _, _⟩ := h.last (m, ts.getD i 0) (by rw [List.getLast?_append]; rfl)
  refine ⟨by rw [rowsL_next hi, h.eq, addRow_same], by have := h.len; simp at this ⊢; omega, fun q hq => ?_, fun q => by simp at q⟩
  rw [List.getLast?_append] at hq
  simp at hq
  subst hq
  exact ⟨⟨by simp at h1 ⊢; omega, by simp at h2 ⊢; omega⟩, by simp, by omega⟩
theorem info_row : (Tryz.prog.info? 136).map (fun i => (i.zero, i.size, i.bytes)) = some (some (.agg #[.int .i64 0, .int .i64 0]), 2, 16) := by kernel_rfl
/-- The last row's number is turned. -/
theorem row_set {B g n cap : Nat} {rs : List (Int × Int)} {m m' t : Int} {w : World} (h : w.ownsRow B 136 2 (.slice (some ⟨g, 0, none⟩) n cap) n (flatR (rs ++ [(m, t)]))) (hn : n = rs.length + 1) :
    (w.setCell ⟨g, rs.length * 2, none⟩ (.int .i64 m')).ownsRow B 136 2 (.slice (some ⟨g, 0, none⟩) n cap) n (flatR (rs ++ [(m', t)])) := by
  refine ⟨by rw [flatR_len, hn]; simp, ?_⟩
  rcases h.2 with ⟨hv, h0⟩ | ⟨g', cap', cur, hv, hb, hg, hc, htop, hcs, htk⟩
  · omega
  · simp only [Value.slice.injEq, Option.some.injEq, Addr.mk.injEq, and_true, true_and] at hv
    obtain ⟨rfl, rfl⟩ := hv
    have hp := BlkAt.put (show BlkAt w g cur 136 from hg) (rs.length * 2) (.int .i64 m')
    refine .inr ⟨g, cap, _, rfl, hb, hp, hc, htop, by rw [Array.size_setIfInBounds]; exact hcs, ?_⟩
    rw [Array.toList_setIfInBounds, List.take_set, htk, flatR_app, flatR_app]
    rw [List.set_append_right _ _ (by rw [flatR_len]; exact Nat.le_refl _), flatR_len, Nat.sub_self]
    rfl
/-- The cells of a row. -/
theorem row_cells {B g n cap : Nat} {rs : List (Int × Int)} {w : World} (h : w.ownsRow B 136 2 (.slice (some ⟨g, 0, none⟩) n cap) n (flatR rs)) (i : Nat) (hi : i < rs.length) :
    w.cell? ⟨g, i * 2, none⟩ = some (.int .i64 (rs.getD i (0, 0)).1) ∧ w.cell? ⟨g, i * 2 + 1, none⟩ = some (.int .i64 (rs.getD i (0, 0)).2) := by
  have hx : ∀ j v, (flatR rs)[j]? = some v → w.cell? ⟨g, j, none⟩ = some v := fun j v hj => by
    have := World.ownsRow.cells h (g := g) rfl j v hj
    have hadd : (⟨g, 0, none⟩ : Addr).add j = ⟨g, 0 + j, none⟩ := by unfold Addr.add; split <;> simp_all
    rw [hadd, Nat.zero_add] at this
    exact this
  have hs : flatR rs = flatR (rs.take i) ++ (flatR [rs.getD i (0, 0)] ++ flatR (rs.drop (i + 1))) := by
    rw [← flatR_app, ← flatR_app]
    congr 1
    rw [List.getD_eq_getElem?_getD, List.getElem?_eq_getElem hi]
    show rs = _ ++ (rs[i] :: rs.drop (i + 1))
    rw [← List.drop_eq_getElem_cons hi, List.take_append_drop]
  have hl : (flatR (rs.take i)).length = i * 2 := by rw [flatR_len, List.length_take]; omega
  constructor
  · refine hx _ _ ?_
    rw [hs, List.getElem?_append_right (by omega), hl, Nat.sub_self]
    rfl
  · refine hx _ _ ?_
    rw [hs, List.getElem?_append_right (by omega), hl, show i * 2 + 1 - i * 2 = 1 by omega]
    rfl
theorem news2 (w : World) (T : TypeId) (a b : Value) : ∀ j u, [a, b][j]? = some u → (w.alloc (.cells #[a, b] T)).cell? ((⟨w.heap.size, 0, none⟩ : Addr).add j) = some u := by
  intro j u hj
  have hadd : (⟨w.heap.size, 0, none⟩ : Addr).add j = ⟨w.heap.size, j, none⟩ := by unfold Addr.add; split <;> simp_all
  rw [hadd, (BlkAt.new w #[a, b] T).cell j, ← hj]
  rw [← Array.getElem?_toList]
theorem one2 (a b : Int) : ∀ u ∈ [Value.int .i64 a, .int .i64 b], u.oneCell' = true := by
  intro u hu
  simp only [List.mem_cons, List.not_mem_nil, or_false] at hu
  rcases hu with rfl | rfl <;> rfl
theorem rowOwn_slice {B n : Nat} {v : Value} {vs : List Value} {w : World} (h : w.ownsRow B 136 2 v n vs) : (v = .slice none 0 0 ∧ n = 0) ∨ ∃ g cap, v = .slice (some ⟨g, 0, none⟩) n cap ∧ B ≤ g ∧ g < w.heap.size ∧ w.frozen? ⟨g, (n - 1) * 2, none⟩ = false ∧ n ≤ cap ∧ cap ≤ 9223372036854775807 := by
  rcases h.2 with ⟨rfl, h0⟩ | ⟨g, cap, cur, rfl, hb, hg, hc, htop, _⟩
  · exact .inl ⟨rfl, h0⟩
  · refine .inr ⟨g, cap, rfl, hb, (Array.getElem?_eq_some_iff.1 hg).1, BlkAt.frozen (show BlkAt w g cur 136 from hg) _, hc, ?_⟩
    unfold maxLen at htop
    omega
theorem rowFrozen {B g n cap : Nat} {vs : List Value} {w : World} (h : w.ownsRow B 136 2 (.slice (some ⟨g, 0, none⟩) n cap) n vs) (k : Nat) : w.frozen? ⟨g, k * 2, none⟩ = false := by
  rcases h.2 with ⟨hv, h0⟩ | ⟨g', cap', cur, hv, hb, hg, hc, htop, _⟩
  · cases hv
  · simp only [Value.slice.injEq, Option.some.injEq, Addr.mk.injEq, and_true, true_and] at hv
    obtain ⟨rfl, rfl⟩ := hv
    exact BlkAt.frozen (show BlkAt w g cur 136 from hg) _
theorem meas {i len : Nat} (h : i < len) : len - (intOf (.int .i64 ((i + 1 : Nat) : Int))).toNat < len - (intOf (.int .i64 (i : Int))).toNat := by
  show len - (i + 1) < len - i
  omega
theorem row_grown {n : Nat} {v : Value} {vs : List Value} {w wr w5 : World} {o : Obj} (hown : wr.ownsRow w.heap.size 136 2 v n vs) (hb : Below w.heap.size w wr) (hg : (wr.alloc o).grownBy w5 v.ownBlock) : Below w.heap.size w w5 :=
  (hb.alloc hb.size o).grown hg (by have := hb.size; simp; omega) (fun k hk => (World.ownsRow.lt hown k hk).1)
/-- What reading locals' rows leaves. -/
def GivesRow (B : Nat) (ts : List Int) (w : World) (e : Ending) (w' : World) : Prop := ∃ v, e = .returned v ∧ w'.ownsRow B 136 2 v (rowsL ts).length (flatR (rowsL ts)) ∧ Below B w w'
set_option maxRecDepth 100000 in
set_option maxHeartbeats 4000000 in
theorem rows_any (x : Option Addr) (len cap : Nat) (ts : List Int) (w : World) (hin : IntsIn w x len cap ts) (hlen : len ≤ 1048576) :
    Calls Tryz.prog 102 #[.slice x len cap] w fun e w' => GivesRow w.heap.size ts w e w' := by
  have HIN := Lib.hid hin
  have HLEN := Lib.hid hin.eq
  have HLB := Lib.hid hlen
  obtain ⟨i0, hi0, hz0, hz1, hz2⟩ := info_parts info_row
  clear hin hlen
  go_enter Tryz.func102, Tryz.ntmps102
  go_wp2_with fail
  go_loopw [3, 8] (fun lv iv wr => ∃ (i : Nat) (rs : List (Int × Int)), iv = .int .i64 i ∧ i ≤ len ∧ RowInv ts i rs ∧ wr.ownsRow w.heap.size 136 2 lv rs.length (flatR rs) ∧ Below w.heap.size w wr) (fun _ iv _ => len - (intOf iv).toNat)
  case atStart => exact ⟨0, [], rfl, Nat.zero_le _, rowInv_zero ts, World.ownsRow_nil _ _ _ _, Below.refl _ _⟩
  case round =>
    obtain ⟨i, rs, rfl, hi, hinv, hown, hbw⟩ := hrel
    by_cases hlt : i < len
    · have hil : i < ts.length := by rw [← HLEN.out]; exact hlt
      rcases HIN.out.lie with h0 | ⟨b, off, hx, hcell⟩
      · omega
      subst hx
      have hc := (hbw.cell (World.block_lt_of_cell? w _ (hcell i hlt))).trans (hcell i hlt)
      have HCL : Hid (∀ j, j < len → wr.cell? ⟨b, off + j, none⟩ = some (.int .i64 (ts.getD j 0))) := Lib.hid fun j hj => (hbw.cell (World.block_lt_of_cell? w _ (hcell j hj))).trans (hcell j hj)
      obtain ⟨z, hz⟩ : ∃ z, ts.getD i 0 = z := ⟨_, rfl⟩
      rw [hz] at hc
      have HZ := Lib.hid hz
      have HINV := Lib.hid hinv
      have HOWN := Lib.hid hown
      have HB := Lib.hid hbw
      have hzz := hbw.size
      clear hcell hz hinv hown hbw
      have q3 : rs.length + 1 ≤ maxLen := by have := HINV.out.len; have := HLB.out; unfold maxLen; omega
      have q4 : (rs.length + 1) * 16 ≤ 140737488355328 := by have := HINV.out.len; have := HLB.out; omega
      have wn : IntKind.i64.wrap (rs.length : Int) = (rs.length : Int) := by have := HINV.out.len; have := HLB.out; rw [IntKind.wrap_i64]; omega
      have hnew : Hid ((∀ q, rs.getLast? = some q → z ≠ q.2) → ∀ (g cap5 : Nat) (w5 : World), w5.ownsRow w.heap.size 136 2 (.slice (some ⟨g, 0, none⟩) (rs.length + 1) cap5) (rs.length + 1) (flatR (rs ++ [(0, z)])) → (w5.setCell ⟨g, rs.length * 2, none⟩ (.int .i64 1)).ownsRow w.heap.size 136 2 (.slice (some ⟨g, 0, none⟩) (rs.length + 1) cap5) (rs ++ [(1, z)]).length (flatR (rs ++ [(1, z)])) ∧ RowInv ts (i + 1) (rs ++ [(1, z)])) := Lib.hid fun hn g cap5 w5 h5 => by
        refine ⟨by rw [List.length_append, List.length_singleton]; exact row_set h5 rfl, ?_⟩
        have := rowInv_new HINV.out hil (by rw [HZ.out]; exact hn)
        rwa [HZ.out] at this
      by_cases h0 : i = 0
      · have t0 : ((i : Int) == 0) = true := by rw [h0]; rfl
        have HLST : Hid (∀ q, rs.getLast? = some q → z ≠ q.2) := Lib.hid fun q hq => by have := (HINV.out.last q hq).2.2; omega
        clear hil h0
        go_wp2_with (at_builtin; go_must (refine wpList_append_lies _ rfl _ _ 137 rfl w.heap.size 136 i0 _ 2 16 Tryz.underlying137 hi0 hz0 hz1 hz2 rfl (by decide) _ rs.length (flatR rs) rfl (World.ownsRow.alloc HOWN.out _) ⟨wr.heap.size, 0, none⟩ 1 1 [.int .i64 0, .int .i64 z] rfl rfl (news2 wr _ _ _) (one2 _ _) (by decide) q3 q4 (le_alloc hzz) _ rfl ?_); intro g cap5 w5 hown5 hg5 hat5 hlt5; replace hown5 : w5.ownsRow w.heap.size 136 2 (.slice (some ⟨g, 0, none⟩) (rs.length + 1) cap5) (rs.length + 1) (flatR (rs ++ [(0, z)])) := (by rw [flatR_app]; exact hown5); have hcl := (row_cells hown5 rs.length (by simp)).1; rw [show ((rs ++ [((0 : Int), z)]).getD rs.length (0, 0)).1 = 0 by simp] at hcl; have hfz := (rowFrozen hown5 rs.length))
        have hgg := (World.ownsRow.lt hown5 g rfl).1
        have hg6 : World.grownBy (wr.alloc (.cells #[.int .i64 0, .int .i64 z] 136)) w5 u3.ownBlock := hg5
        have hbf : Below w.heap.size w w5 := row_grown HOWN.out HB.out hg6
        obtain ⟨f1, f2⟩ := hnew.out HLST.out g cap5 w5 hown5
        have hlb := HLB.out
        have hlw : wrap64 ((i : Int) + 1) = ((i + 1 : Nat) : Int) := by
          unfold wrap64
          omega
        rw [hlw]
        exact ⟨⟨i + 1, rs ++ [(1, z)], rfl, hlt, f2, f1, below_set1 hbf hgg _ _⟩, meas hlt⟩
      have t0 : ((i : Int) == 0) = false := eq_no (by omega)
      obtain ⟨k, hk⟩ : ∃ k, i = k + 1 := ⟨i - 1, by omega⟩
      have wl : IntKind.i64.wrap ((i : Int) - 1) = (k : Int) := by have := HLB.out; rw [IntKind.wrap_i64]; omega
      have hp := HCL.out k (by omega)
      have hklt : (k : Int) < (len : Int) := by omega
      obtain ⟨y, hy⟩ : ∃ y, ts.getD k 0 = y := ⟨_, rfl⟩
      rw [hy] at hp
      obtain ⟨q0, hq0⟩ : ∃ q, rs.getLast? = some q := by
        cases hq : rs.getLast? with
        | some q => exact ⟨q, rfl⟩
        | none => exact absurd (HINV.out.none (List.getLast?_eq_none_iff.1 hq)) h0
      have hl0 := HINV.out.last q0 hq0
      have hq2 : q0.2 = y := by rw [hl0.2.1, ← hy, show i - 1 = k by omega]
      by_cases hzy : z = y
      · subst hzy
        have t1 : (z != z) = false := by simp
        obtain ⟨rs', hrs⟩ : ∃ rs', rs = rs' ++ [(q0.1, z)] := ⟨rs.dropLast, by
          have hne : rs ≠ [] := fun q => by rw [q] at hq0; cases hq0
          have h1 := List.dropLast_concat_getLast hne
          rw [List.getLast?_eq_some_getLast hne] at hq0
          rw [Option.some.inj hq0] at h1
          rw [← hq2]
          exact h1.symm⟩
        subst hrs
        have hln : (rs' ++ [(q0.1, z)]).length = rs'.length + 1 := by simp
        rcases rowOwn_slice HOWN.out with ⟨_, hv⟩ | ⟨g, cap0, hv, hgB, hgl, hfz, hc0, hc1⟩
        · omega
        subst hv
        have hown := HOWN.out
        rw [hln] at hown
        have hcl := (row_cells hown rs'.length (by simp)).1
        rw [show ((rs' ++ [(q0.1, z)]).getD rs'.length (0, 0)).1 = q0.1 by simp] at hcl
        rw [hln, show (rs'.length + 1 - 1) = rs'.length by omega] at hfz
        have w1 : IntKind.i64.wrap (((rs'.length + 1 : Nat) : Int) - 1) = (rs'.length : Int) := by have hh := HINV.out.len; rw [hln] at hh; have := HLB.out; rw [IntKind.wrap_i64]; omega
        have w2 : IntKind.i64.wrap (q0.1 + 1) = q0.1 + 1 := by have := hl0.1; have := HLB.out; rw [IntKind.wrap_i64]; omega
        have HST : Hid ((wr.setCell ⟨g, rs'.length * 2, none⟩ (.int .i64 (q0.1 + 1))).ownsRow w.heap.size 136 2 (.slice (some ⟨g, 0, none⟩) (rs' ++ [(q0.1, z)]).length cap0) (rs' ++ [(q0.1 + 1, z)]).length (flatR (rs' ++ [(q0.1 + 1, z)])) ∧ RowInv ts (i + 1) (rs' ++ [(q0.1 + 1, z)])) := Lib.hid ⟨by rw [hln, List.length_append, List.length_singleton]; exact row_set hown rfl, by
          have hinv := HINV.out
          rw [← HZ.out] at hinv ⊢
          exact rowInv_same hinv hil⟩
        have HGB := Lib.hid hgB
        have wn2 : IntKind.i64.wrap (rs'.length : Int) = (rs'.length : Int) := by have hh := HINV.out.len; rw [hln] at hh; have := HLB.out; rw [IntKind.wrap_i64]; omega
        clear hil h0 hk hq0 hl0 hq2 hown hgB hgl hc0 hc1 hnew q3 q4 wn hln hy
        go_wp2_with fail
        have hlb := HLB.out
        have hlw : wrap64 ((i : Int) + 1) = ((i + 1 : Nat) : Int) := by
          unfold wrap64
          omega
        rw [hlw]
        exact ⟨⟨i + 1, rs' ++ [(q0.1 + 1, z)], rfl, hlt, HST.out.2, HST.out.1, below_set1 HB.out HGB.out _ _⟩, meas hlt⟩
      · have t1 : (z != y) = true := by simpa using hzy
        have HLST : Hid (∀ q, rs.getLast? = some q → z ≠ q.2) := Lib.hid fun q hq => by
          rw [hq0] at hq
          cases hq
          rw [hq2]
          exact hzy
        clear hil h0 hk hq0 hl0 hq2 hzy hy
        go_wp2_with (at_builtin; go_must (refine wpList_append_lies _ rfl _ _ 137 rfl w.heap.size 136 i0 _ 2 16 Tryz.underlying137 hi0 hz0 hz1 hz2 rfl (by decide) _ rs.length (flatR rs) rfl (World.ownsRow.alloc HOWN.out _) ⟨wr.heap.size, 0, none⟩ 1 1 [.int .i64 0, .int .i64 z] rfl rfl (news2 wr _ _ _) (one2 _ _) (by decide) q3 q4 (le_alloc hzz) _ rfl ?_); intro g cap5 w5 hown5 hg5 hat5 hlt5; replace hown5 : w5.ownsRow w.heap.size 136 2 (.slice (some ⟨g, 0, none⟩) (rs.length + 1) cap5) (rs.length + 1) (flatR (rs ++ [(0, z)])) := (by rw [flatR_app]; exact hown5); have hcl := (row_cells hown5 rs.length (by simp)).1; rw [show ((rs ++ [((0 : Int), z)]).getD rs.length (0, 0)).1 = 0 by simp] at hcl; have hfz := (rowFrozen hown5 rs.length))
        have hgg := (World.ownsRow.lt hown5 g rfl).1
        have hg6 : World.grownBy (wr.alloc (.cells #[.int .i64 0, .int .i64 z] 136)) w5 u3.ownBlock := hg5
        have hbf : Below w.heap.size w w5 := row_grown HOWN.out HB.out hg6
        obtain ⟨f1, f2⟩ := hnew.out HLST.out g cap5 w5 hown5
        have hlb := HLB.out
        have hlw : wrap64 ((i : Int) + 1) = ((i + 1 : Nat) : Int) := by
          unfold wrap64
          omega
        rw [hlw]
        exact ⟨⟨i + 1, rs ++ [(1, z)], rfl, hlt, f2, f1, below_set1 hbf hgg _ _⟩, meas hlt⟩
    · have hie : i = len := by omega
      subst hie
      have HE : Hid (rs = rowsL ts) := Lib.hid (by have := hinv.eq; rw [HLEN.out, List.take_length] at this; exact this.symm)
      clear hinv
      go_wp2_with fail
      go_ret
      exact ⟨_, rfl, HE.out ▸ hown, hbw⟩
end Go.Proofs.YtekonefnniaheaaGreat
namespace Go.Proofs.YtekonefnniaheaaGreat
open Go.RowKit Go.Deep
open Leb (putU putS)

def rowP2 (s : Lay) (q : Int × Int) : Lay := rowP s q.1 q.2
/-- Rows that a call has made, and that stay while a layer lays. -/
structure RowsK (l : Nat) (w : World) (x : Option Addr) (len cap : Nat) (ts : List (Int × Int)) : Prop where
  eq : len = ts.length
  le : len ≤ cap
  top : cap ≤ 9223372036854775807
  lie : len = 0 ∨ ∃ g, x = some ⟨g, 0, none⟩ ∧ ∀ wr, KeepL l w wr → ∀ i, i < ts.length → (wr.cell? ⟨g, i * 2, none⟩ = some (.int .i64 (ts.getD i default).1) ∧ wr.cell? ⟨g, i * 2 + 1, none⟩ = some (.int .i64 (ts.getD i default).2)) ∧ (ts.getD i default).1 ≤ 9223372036854775807
theorem rowInv_all (ts : List Int) (q : Int × Int) (h : q ∈ rowsL ts) : q.1 ≤ ts.length := by
  have key : ∀ (i : Nat), i ≤ ts.length → ∀ q ∈ rowsL (ts.take i), q.1 ≤ i := by
    intro i
    induction i with
    | zero => intro _ q hq; rw [List.take_zero] at hq; cases hq
    | succ i ih =>
      intro hi q hq
      rw [rowsL_next (by omega)] at hq
      have ihi := ih (by omega)
      unfold addRow at hq
      cases hl : (rowsL (ts.take i)).getLast? with
      | none =>
        rw [hl] at hq
        rw [List.mem_singleton.1 hq]
        show (1 : Int) ≤ _
        omega
      | some r =>
        rw [hl] at hq
        have hr := ihi r (List.mem_of_getLast? hl)
        simp only at hq
        split at hq
        · rcases List.mem_append.1 hq with h1 | h1
          · have := ihi q (List.dropLast_subset _ h1)
            omega
          · rw [List.mem_singleton.1 h1]
            show r.1 + 1 ≤ _
            omega
        · rcases List.mem_append.1 hq with h1 | h1
          · have := ihi q h1
            omega
          · rw [List.mem_singleton.1 h1]
            show (1 : Int) ≤ _
            omega
  have := key ts.length (Nat.le_refl _) q (by rw [List.take_length]; exact h)
  exact this
theorem rowsK_of {W0 : World} {l : Nat} {s : Lay} {v v1 : Value} {ts : List Int} {wa wb : World} (st : LyAt W0 l s v wa) (hown : wb.ownsRow wa.heap.size 136 2 v1 (rowsL ts).length (flatR (rowsL ts))) (hb : Below wa.heap.size wa wb) (hn : ts.length ≤ 1048576) :
    ∃ x cap, v1 = .slice x (rowsL ts).length cap ∧ RowsK l wb x (rowsL ts).length cap (rowsL ts) := by
  rcases rowOwn_slice hown with ⟨hv, h0⟩ | ⟨g, cap, hv, hgB, hgl, _, hc0, hc1⟩
  · exact ⟨none, 0, by rw [h0]; exact hv, rfl, by omega, by decide, .inl h0⟩
  · subst hv
    refine ⟨_, cap, rfl, rfl, hc0, hc1, .inr ⟨g, rfl, fun wr hk i hi => ?_⟩⟩
    have hlt := st.lt
    have hbuf : bufOf wb l = v.ownBlock := by rw [buf_same (hb.block l hlt), st.buf]
    have hsame := (hk.block g hgl (by omega) (by rw [hbuf]; intro q; have := st.bufLt q.symm; omega)).1
    have hcc := row_cells hown i hi
    have hd : (rowsL ts).getD i (0, 0) = (rowsL ts).getD i default := rfl
    rw [hd] at hcc
    refine ⟨⟨(cell_same hsame _).trans hcc.1, (cell_same hsame _).trans hcc.2⟩, ?_⟩
    have hm := rowInv_all ts ((rowsL ts).getD i default) (by rw [List.getD_eq_getElem?_getD, List.getElem?_eq_getElem hi]; exact List.getElem_mem _)
    omega
theorem IntsIn.below {w w' : World} {x : Option Addr} {len cap : Nat} {zs : List Int} (h : IntsIn w x len cap zs) (hb : Below w.heap.size w w') : IntsIn w' x len cap zs := ⟨h.eq, h.le, h.top, h.lie.below hb, h.range⟩
structure Cod where
  locals : List Int
  l : List Ins
instance : Inhabited Cod := ⟨⟨[], []⟩⟩
def codIn (c : Cod) (s : Lay) : Lay := instrsP (listP 256 rowP2 s (rowsL c.locals)) c.l
def codP (s : Lay) (c : Cod) : Lay := asB (needP s (decide ((c.locals.length : Int) ≤ 256))) (codIn c)
def startP (s : Lay) (n : Int) : Lay := if 0 < n then asB (byteP (needP s (decide (0 ≤ n))) 8) (fun s => indexP s (n - 1)) else needP s (decide (0 ≤ n))
def sectP {α : Type} (id : Int) (f : Lay → α → Lay) (s : Lay) (ts : List α) : Lay := if ts.length = 0 then s else asB (byteP s id) (fun s => listP 1000 f s ts)
def codE (W0 : World) (b o : Nat) (c : Cod) : Prop := ∃ xs cs xl cl, (W0.cell? ⟨b, o, none⟩ = some (.slice xs c.locals.length cs) ∧ W0.cell? ⟨b, o + 1, none⟩ = some (.slice xl c.l.length cl)) ∧ IntsIn W0 xs c.locals.length cs c.locals ∧ InsIn W0 xl c.l.length cl c.l ∧ wfL c.l ∧ c.locals.length ≤ 1048576
theorem Own.cellOf {l : Nat} {w : World} {k : Nat} {c0 : Value} {T : TypeId} (h : Own l w k #[c0] T) : w.cell? ⟨k, 0, none⟩ = some c0 := h.blk.cell 0

set_option maxRecDepth 100000 in
set_option maxHeartbeats 4000000 in
theorem lyList_rows (W0 : World) (l : Nat) (s : Lay) (v : Value) (x : Option Addr) (len cap : Nat) (ts : List (Int × Int)) (most : Int) (w : World) (h : LyAt W0 l s v w) (hin : RowsK l w x len cap ts) :
    Calls Tryz.prog 101 #[.pointer (some ⟨l, 0, none⟩), .slice x len cap, .int .i64 most, .func (.func 103) #[.pointer (some ⟨l, 0, none⟩)] #[]] w fun e w' => Does W0 l (listP most rowP2 s ts) w e w' := by
  have st0 := h
  have kp0 := KeepL.refl l w
  have heq := hin.eq
  have htop := hin.top
  have hle := hin.le
  have HIN := Lib.hid hin
  unfold listP
  rw [← heq]
  obtain ⟨s2, hs2⟩ : ∃ s2, s2 = putP (needP s (decide ((len : Int) ≤ most))) (putU (len : Int)) := ⟨_, rfl⟩
  rw [← hs2]
  have HS2 := Lib.hid hs2
  have HU := Lib.hid (fun w => PutU_any (len : Int) w (by omega))
  have HLEN := Lib.hid heq
  have HLB : Hid ((len : Int) ≤ 9223372036854775807) := Lib.hid (by omega)
  clear h hin heq htop hle hs2
  go_enter Tryz.func101, Tryz.ntmps101
  go_wp2_with (first | (go_at_call 28; refine (lyNeed_any W0 l s _ (decide ((len : Int) ≤ most)) _ st0).mono ?_; rintro e w1 ⟨rfl, ⟨v1, st1⟩, kk1⟩; have kp1 := kp0.trans kk1; clear st0 kp0) | (go_at_call 86; refine (HU.out _).mono ?_; rintro e w2 ⟨rfl, hb2⟩; have st2 := st1.next hb2; have kk2 := KeepL.of_below st1.lt hb2; have kp2 := kp1.trans kk2; clear st1 kp1) | (go_at_call 27; refine (lyPut_nums W0 l _ _ (putU (len : Int)) _ st2 (Leb.putU_byte _)).mono ?_; rintro e w3 ⟨rfl, ⟨v3, st3⟩, kk3⟩; have kp3 := kp2.trans kk3; clear st2 kp2))
  rw [← HS2.out] at st3
  have HST := Lib.hid st3
  have HK := Lib.hid kp3
  clear st3 kp3 kk1 kk2 kk3
  go_loopw [23] (fun iv wr => ∃ (i : Nat) (v' : Value), iv = .int .i64 i ∧ i ≤ len ∧ LyAt W0 l ((ts.take i).foldl (stepP rowP2) s2) v' wr ∧ KeepL l w wr) (fun iv _ => len - (intOf iv).toNat)
  case atStart => exact ⟨0, v3, rfl, Nat.zero_le _, by rw [List.take_zero]; exact HST.out, HK.out⟩
  case round =>
    clear HST HK
    obtain ⟨i, v', rfl, hi, st, kp⟩ := hrel
    by_cases hlt : i < len
    · have hil : i < ts.length := by rw [← HLEN.out]; exact hlt
      have hbw := st.below
      have HIL := Lib.hid hil
      have hone := HIN.out.lie
      rcases hone with h0 | ⟨g, hx, hone⟩
      · omega
      subst hx
      have he := hone wr kp i hil
      clear hone
      revert he
      obtain ⟨t, ht⟩ : ∃ t, ts.getD i default = t := ⟨_, rfl⟩
      rw [ht]
      intro he
      have HT := Lib.hid ht
      clear ht
      obtain ⟨⟨q0, q1⟩, r0⟩ := he
      have R0 := Lib.hid r0
      clear r0
      have HNX := Lib.hid (fold_next rowP2 s2 ts i hil)
      have HSP := Lib.hid (fold_stop rowP2 s2 ts i)
      revert st HNX HSP
      generalize (ts.take i).foldl (stepP rowP2) s2 = si
      intro st HNX HSP
      have sta := st.alloc (.cells #[.int .i64 t.1, .int .i64 t.2] 136)
      have kpa := kp.trans (st.alloc_keep (.cells #[.int .i64 t.1, .int .i64 t.2] 136))
      obtain ⟨⟨g0, g1, g2⟩, _⟩ := sta.three
      obtain ⟨bc0, bc1⟩ := (BlkAt.new wr #[.int .i64 t.1, .int .i64 t.2] 136).two
      have HSTA := Lib.hid sta
      clear hbw hil st sta
      cases hno : si.no with
      | true =>
        rw [hno] at g1
        have HE := Lib.hid (HSP.out hno)
        clear HNX HSP hno
        go_wp2_with fail
        rw [HE.out]
        exact bodyPost_voidr rfl rfl ⟨rfl, ⟨_, HSTA.out⟩, kpa⟩
      | false =>
        rw [hno] at g1
        have HE := Lib.hid (HNX.out hno)
        rw [HT.out] at HE
        clear HNX HSP hno
        go_wp2_with (go_at_call 103; refine (lyRow_any W0 l si _ t.1 t.2 _ HSTA.out R0.out).mono ?_; rintro e w5 ⟨rfl, ⟨v5, st5⟩, kk5⟩; have kp5 := kpa.trans kk5)
        replace st5 : LyAt W0 l (rowP2 si t) v5 w5 := st5
        rw [← HE.out] at st5
        have hlb := HLB.out
        have hlw : wrap64 ((i : Int) + 1) = ((i + 1 : Nat) : Int) := by
          unfold wrap64
          omega
        rw [hlw]
        exact ⟨⟨i + 1, v5, rfl, by omega, st5, kp5⟩, by show len - (i + 1) < len - i; omega⟩
    · have hie : i = len := by omega
      subst hie
      have HE : Hid ((ts.take i).foldl (stepP rowP2) s2 = ts.foldl (stepP rowP2) s2) := Lib.hid (by rw [HLEN.out, List.take_length])
      rw [HE.out] at st
      go_wp2_with fail
      exact bodyPost_void rfl rfl ⟨rfl, ⟨_, st⟩, kp⟩
set_option maxRecDepth 100000 in
set_option maxHeartbeats 4000000 in
theorem lyCode1_any (W0 : World) (l : Nat) (s : Lay) (v : Value) (c : Cod) (xs : Option Addr) (cs : Nat) (xl : Option Addr) (cl : Nat) (k0 k1 : Nat) (w : World) (h : LyAt W0 l s v w) (o0 : Own l w k0 #[.pointer (some ⟨l, 0, none⟩)] 56) (o1 : Own l w k1 #[.slice xs c.locals.length cs, .slice xl c.l.length cl] 73) (hs : IntsIn W0 xs c.locals.length cs c.locals) (hl : InsIn W0 xl c.l.length cl c.l) (hwf : wfL c.l) (hn : c.locals.length ≤ 1048576) :
    Calls Tryz.prog 100 #[.pointer (some ⟨k0, 0, none⟩), .pointer (some ⟨k1, 0, none⟩)] w fun e w' => Does W0 l (codIn c s) w e w' := by
  have hbd : Below w.heap.size w w.drew := (Below.refl _ _).drew
  have st0 := h.next hbd
  have kk0 := KeepL.of_below h.lt hbd
  have kp0 := kk0
  have a0 := o0.keep kk0
  have b0 := o1.keep kk0
  have ac := a0.cellOf
  have bc := b0.blk.two
  have DS := Lib.hid (And.intro ac bc.1)
  have HS := Lib.hid (hs.below st0.below)
  have HL := Lib.hid hl
  have HW := Lib.hid hwf
  have HN := Lib.hid hn
  have p0 := o0.cellOf
  obtain ⟨p1, p2⟩ := o1.blk.two
  unfold codIn
  clear h hs hl hwf hn hbd
  go_enter Tryz.func100, Tryz.ntmps100
  go_wp2_with fail
  go_region_held3 (fun w' => w'.cell? ⟨k0, 0, none⟩ = some (.pointer (some ⟨l, 0, none⟩)) ∧ w'.cell? ⟨k1, 0, none⟩ = some (.slice xs c.locals.length cs))
    (first | exact DS.out | exact DS1.out | exact DS2.out)
    (first
      | (go_at_call 102; refine (rows_any xs c.locals.length cs c.locals _ HS.out HN.out).mono ?_; rintro e w1 ⟨v1, rfl, hown1, hb1⟩; obtain ⟨x1, cap1, hv1, hk1⟩ := rowsK_of st0 hown1 hb1 HN.out; subst hv1; have st1 := st0.next hb1; have kk1 := KeepL.of_below st0.lt hb1; have kp1 := kp0.trans kk1; have a1 := a0.keep kk1; have b1 := b0.keep kk1; have DS1 := Lib.hid (And.intro a1.cellOf b1.blk.two.1); clear st0 kp0)
      | (go_at_call 101; refine (lyList_rows W0 l _ _ x1 _ cap1 (rowsL c.locals) 256 _ st1 hk1).mono ?_; rintro e w2 ⟨rfl, ⟨v2, st2⟩, kk2⟩; have kp2 := kp1.trans kk2; have a2 := a1.keep kk2; have b2 := b1.keep kk2; have DS2 := Lib.hid (And.intro a2.cellOf b2.blk.two.1); have e0 := a2.cellOf; obtain ⟨e1, e2⟩ := b2.blk.two; clear st1 kp1))
  all_goals
    go_wp2_with (go_at_call 104; refine (lyInstrs_any W0 l _ _ xl _ cl c.l _ st2 (HL.out.below st2.below) HW.out).mono ?_; rintro e w3 ⟨rfl, ⟨v3, st3⟩, kk3⟩)
    exact bodyPost_void rfl rfl ⟨rfl, ⟨_, st3⟩, kp2.trans kk3⟩
set_option maxRecDepth 100000 in
set_option maxHeartbeats 2000000 in
theorem lyAs_code (W0 : World) (l : Nat) (s : Lay) (v : Value) (g : Lay → Lay) (k0 k1 : Nat) (w : World) (h : LyAt W0 l s v w)
    (hc : ∀ v' w', LyAt W0 l ⟨[], s.no, s.full⟩ v' w' → KeepL l w w' → Calls Tryz.prog 100 #[.pointer (some ⟨k0, 0, none⟩), .pointer (some ⟨k1, 0, none⟩)] w' fun e w2 => Does W0 l (g ⟨[], s.no, s.full⟩) w' e w2) :
    Calls Tryz.prog 74 #[.pointer (some ⟨l, 0, none⟩), .func (.func 100) #[] #[.pointer (some ⟨k0, 0, none⟩), .pointer (some ⟨k1, 0, none⟩)]] w fun e w' => Does W0 l (asB s g) w e w' := by
  obtain ⟨a, cap, hv⟩ := bytes_slice h.bytes
  subst hv
  have H := Lib.hid h
  obtain ⟨⟨c0, c1, c2⟩, f0, f1, f2⟩ := h.three
  have HA := Lib.hid h.aside
  have HC := Lib.hid (hc _ _ h.aside.1 h.aside.2)
  unfold asB
  obtain ⟨i, hi⟩ : ∃ i, g ⟨[], s.no, s.full⟩ = i := ⟨_, rfl⟩
  rw [hi] at HC
  rw [hi]
  clear h hc hi
  go_enter Tryz.func74, Tryz.ntmps74
  go_wp2_with (first
    | (go_at_call 100; refine HC.out.mono ?_; rintro e w1 ⟨rfl, ⟨v1, st1⟩, kk1⟩; obtain ⟨a1, cap1, hv1⟩ := bytes_slice st1.bytes; subst hv1; obtain ⟨⟨d0, d1, d2⟩, j0, j1, j2⟩ := st1.three; obtain ⟨st2, kp2, hby⟩ := H.out.again kk1 st1; have hcv := bytes_conv hby; have HRG := Lib.hid st1.rng; have HLE := Lib.hid st1.le; clear HC)
    | (go_at_call 107; refine (lyBytes_any W0 l _ _ (strOfNums i.xs) _ st2 (by rw [strOfNums_size]; have := HLE.out; unfold maxLen; omega)).mono ?_; rintro e w3 ⟨rfl, ⟨v3, st3⟩, kk3⟩; rw [bl_nums HRG.out] at st3))
  exact bodyPost_void rfl rfl ⟨rfl, ⟨_, st3⟩, kp2.trans kk3⟩
end Go.Proofs.YtekonefnniaheaaGreat
