/- Texts of the proof of ModulePutsUptoProof, part 12. -/
import Derived.Test.YtekonefnniaheaaGreatModulePutsUptoProofQ11
namespace Go.Proofs.YtekonefnniaheaaGreat
open Go.RowKit Go.Deep
open Leb (putU putS)

/-- What one thing more leaves: nothing more, if something was refused. -/
def stepP {α : Type} (f : Lay → α → Lay) (s : Lay) (t : α) : Lay := if s.no = true then s else f s t
def listP {α : Type} (most : Int) (f : Lay → α → Lay) (s : Lay) (ts : List α) : Lay := ts.foldl (stepP f) (putP (needP s (decide ((ts.length : Int) ≤ most))) (putU ts.length))
theorem fold_no {α : Type} (f : Lay → α → Lay) (s : Lay) (h : s.no = true) : ∀ ts : List α, ts.foldl (stepP f) s = s := by
  intro ts
  induction ts with
  | nil => rfl
  | cons t r ih =>
    rw [List.foldl_cons, show stepP f s t = s from if_pos h]
    exact ih
theorem fold_stop {α : Type} (f : Lay → α → Lay) (s : Lay) (ts : List α) (i : Nat) (h : ((ts.take i).foldl (stepP f) s).no = true) : ts.foldl (stepP f) s = (ts.take i).foldl (stepP f) s := by
  have e : ts.foldl (stepP f) s = (ts.drop i).foldl (stepP f) ((ts.take i).foldl (stepP f) s) := by rw [← List.foldl_append, List.take_append_drop]
  rw [e]
  exact fold_no f _ h _
theorem fold_next {α : Type} [Inhabited α] (f : Lay → α → Lay) (s : Lay) (ts : List α) (i : Nat) (hi : i < ts.length) (h : ((ts.take i).foldl (stepP f) s).no = false) : (ts.take (i + 1)).foldl (stepP f) s = f ((ts.take i).foldl (stepP f) s) (ts.getD i default) := by
  rw [List.take_succ_eq_append_getElem hi, List.foldl_append, List.foldl_cons, List.foldl_nil, List.getD_eq_getElem?_getD, List.getElem?_eq_getElem hi]
  have hs : stepP f ((ts.take i).foldl (stepP f) s) ts[i] = f ((ts.take i).foldl (stepP f) s) ts[i] := if_neg (by rw [h]; decide)
  exact hs
/-- Numbers that lie in a world. -/
structure IntsIn (W0 : World) (x : Option Addr) (len cap : Nat) (zs : List Int) : Prop where
  eq : len = zs.length
  le : len ≤ cap
  top : cap ≤ 9223372036854775807
  lie : View W0 x len zs
  range : ∀ i, i < zs.length → -9223372036854775808 ≤ zs.getD i 0 ∧ zs.getD i 0 ≤ 9223372036854775807
/-- Things that lie in a world, one behind the other. -/
structure RowsIn {α : Type} [Inhabited α] (sz : Nat) (one : World → Nat → Nat → α → Prop) (W0 : World) (x : Option Addr) (len cap : Nat) (ts : List α) : Prop where
  eq : len = ts.length
  le : len ≤ cap
  top : cap ≤ 9223372036854775807
  lie : len = 0 ∨ ∃ b off, x = some ⟨b, off, none⟩ ∧ ∀ i, i < ts.length → one W0 b (off + i * sz) (ts.getD i default)
theorem below_cell {W0 w : World} (h : Below W0.heap.size W0 w) {b o : Nat} {v : Value} (hc : W0.cell? ⟨b, o, none⟩ = some v) : w.cell? ⟨b, o, none⟩ = some v := (h.cell (World.block_lt_of_cell? W0 _ hc)).trans hc
instance : Inhabited Imp := ⟨⟨⟨#[]⟩, ⟨#[]⟩, 0, 0, false, 0, 0⟩⟩
instance : Inhabited Exp := ⟨⟨⟨#[]⟩, 0, 0⟩⟩
instance : Inhabited Glo := ⟨⟨0, false, default⟩⟩
instance : Inhabited Dat := ⟨⟨0, default, ⟨#[]⟩⟩⟩
structure Lim where
  mn : Int
  mx : Int
instance : Inhabited Lim := ⟨⟨0, 0⟩⟩
def limP (s : Lay) (x : Lim) : Lay := limitsP s x.mn x.mx
def tabP (s : Lay) (x : Lim) : Lay := tableP s x.mn x.mx
structure FT where
  p : List Int
  r : List Int
instance : Inhabited FT := ⟨⟨[], []⟩⟩
def ftP (s : Lay) (t : FT) : Lay := listP 32 typP (listP 32 typP (byteP s 96) t.p) t.r
structure Ele where
  table : Int
  off : Ins
  f : List Int
instance : Inhabited Ele := ⟨⟨0, default, []⟩⟩
def eleP (s : Lay) (x : Ele) : Lay := listP 1000 indexP (if x.table = 0 then constP (whereP s x.table) x.off else byteP (constP (whereP s x.table) x.off) 0) x.f
def limE (W0 : World) (b o : Nat) (x : Lim) : Prop := (W0.cell? ⟨b, o, none⟩ = some (.int .i64 x.mn) ∧ W0.cell? ⟨b, o + 1, none⟩ = some (.int .i64 x.mx)) ∧ x.mn ≤ 9223372036854775807 ∧ x.mx ≤ 9223372036854775807
def ftE (W0 : World) (b o : Nat) (t : FT) : Prop := ∃ xp cp xr cr, (W0.cell? ⟨b, o, none⟩ = some (.slice xp t.p.length cp) ∧ W0.cell? ⟨b, o + 1, none⟩ = some (.slice xr t.r.length cr)) ∧ IntsIn W0 xp t.p.length cp t.p ∧ IntsIn W0 xr t.r.length cr t.r
def impE (W0 : World) (b o : Nat) (x : Imp) : Prop := (W0.cell? ⟨b, o, none⟩ = some (.string x.mod) ∧ W0.cell? ⟨b, o + 1, none⟩ = some (.string x.name) ∧ W0.cell? ⟨b, o + 2, none⟩ = some (.int .i64 x.kind) ∧ W0.cell? ⟨b, o + 3, none⟩ = some (.int .i64 x.t) ∧ W0.cell? ⟨b, o + 4, none⟩ = some (.bool x.mu) ∧ W0.cell? ⟨b, o + 5, none⟩ = some (.int .i64 x.mn) ∧ W0.cell? ⟨b, o + 6, none⟩ = some (.int .i64 x.mx)) ∧
  x.mod.size ≤ maxLen ∧ x.name.size ≤ maxLen ∧ x.kind ≤ 9223372036854775807 ∧ x.t ≤ 9223372036854775807 ∧ x.mn ≤ 9223372036854775807 ∧ x.mx ≤ 9223372036854775807
def expE (W0 : World) (b o : Nat) (x : Exp) : Prop := (W0.cell? ⟨b, o, none⟩ = some (.string x.name) ∧ W0.cell? ⟨b, o + 1, none⟩ = some (.int .i64 x.kind) ∧ W0.cell? ⟨b, o + 2, none⟩ = some (.int .i64 x.i)) ∧ x.name.size ≤ maxLen ∧ x.kind ≤ 9223372036854775807 ∧ x.i ≤ 9223372036854775807
/-- An instruction's cells from a place on. -/
def insC (w : World) (b o : Nat) (c : Ins) (xn : Option Addr) (nc : Nat) (xl : Option Addr) (lc : Nat) (xe : Option Addr) (ec : Nat) : Prop :=
  w.cell? ⟨b, o, none⟩ = some (.int .i64 c.op) ∧ w.cell? ⟨b, o + 1, none⟩ = some (.int .i64 c.a) ∧ w.cell? ⟨b, o + 2, none⟩ = some (.int .i64 c.b) ∧ w.cell? ⟨b, o + 3, none⟩ = some (.int .i64 c.m) ∧ w.cell? ⟨b, o + 4, none⟩ = some (.slice xn c.n.length nc) ∧ w.cell? ⟨b, o + 5, none⟩ = some (.slice xl c.l.length lc) ∧ w.cell? ⟨b, o + 6, none⟩ = some (.slice xe c.e.length ec)
def gloE (W0 : World) (b o : Nat) (x : Glo) : Prop := ∃ xn nc xl lc xe ec, (W0.cell? ⟨b, o, none⟩ = some (.int .i64 x.t) ∧ W0.cell? ⟨b, o + 1, none⟩ = some (.bool x.mu)) ∧ insC W0 b (o + 2) x.init xn nc xl lc xe ec ∧ InsV W0 x.init xn nc xl lc xe ec ∧ wfI x.init
def datE (W0 : World) (b o : Nat) (x : Dat) : Prop := ∃ xn nc xl lc xe ec, (W0.cell? ⟨b, o, none⟩ = some (.int .i64 x.mem) ∧ W0.cell? ⟨b, o + 8, none⟩ = some (.string x.b)) ∧ insC W0 b (o + 1) x.off xn nc xl lc xe ec ∧ InsV W0 x.off xn nc xl lc xe ec ∧ wfI x.off ∧ x.b.size ≤ maxLen ∧ x.mem ≤ 9223372036854775807
def eleE (W0 : World) (b o : Nat) (x : Ele) : Prop := ∃ xn nc xl lc xe ec xf cf, (W0.cell? ⟨b, o, none⟩ = some (.int .i64 x.table) ∧ W0.cell? ⟨b, o + 8, none⟩ = some (.slice xf x.f.length cf)) ∧ insC W0 b (o + 1) x.off xn nc xl lc xe ec ∧ InsV W0 x.off xn nc xl lc xe ec ∧ wfI x.off ∧ IntsIn W0 xf x.f.length cf x.f ∧ x.table ≤ 9223372036854775807

set_option maxRecDepth 100000 in
set_option maxHeartbeats 4000000 in
theorem lyList_ints_typ (W0 : World) (l : Nat) (s : Lay) (v : Value) (x : Option Addr) (len cap : Nat) (ts : List Int) (most : Int) (w : World) (h : LyAt W0 l s v w) (hin : IntsIn W0 x len cap ts) :
    Calls Tryz.prog 77 #[.pointer (some ⟨l, 0, none⟩), .slice x len cap, .int .i64 most, .func (.func 78) #[.pointer (some ⟨l, 0, none⟩)] #[]] w fun e w' => Does W0 l (listP most typP s ts) w e w' := by
  have st0 := h
  have kp0 := KeepL.refl l w
  have heq := hin.eq
  have htop := hin.top
  have hle := hin.le
  have HIN := Lib.hid hin
  unfold listP
  rw [← heq]
  obtain ⟨s2, hs2⟩ : ∃ s2, s2 = putP (needP s (decide ((len : Int) ≤ most))) (putU (len : Int)) := ⟨_, rfl⟩
  rw [← hs2]
  have HS2 := Lib.hid hs2
  have HU := Lib.hid (fun w => PutU_any (len : Int) w (by omega))
  have HLEN := Lib.hid heq
  have HLB : Hid ((len : Int) ≤ 9223372036854775807) := Lib.hid (by omega)
  clear h hin heq htop hle hs2
  go_enter Tryz.func77, Tryz.ntmps77
  go_wp2_with (first | (go_at_call 28; refine (lyNeed_any W0 l s _ (decide ((len : Int) ≤ most)) _ st0).mono ?_; rintro e w1 ⟨rfl, ⟨v1, st1⟩, kk1⟩; have kp1 := kp0.trans kk1; clear st0 kp0) | (go_at_call 86; refine (HU.out _).mono ?_; rintro e w2 ⟨rfl, hb2⟩; have st2 := st1.next hb2; have kk2 := KeepL.of_below st1.lt hb2; have kp2 := kp1.trans kk2; clear st1 kp1) | (go_at_call 27; refine (lyPut_nums W0 l _ _ (putU (len : Int)) _ st2 (Leb.putU_byte _)).mono ?_; rintro e w3 ⟨rfl, ⟨v3, st3⟩, kk3⟩; have kp3 := kp2.trans kk3; clear st2 kp2))
  rw [← HS2.out] at st3
  have HST := Lib.hid st3
  have HK := Lib.hid kp3
  clear st3 kp3 kk1 kk2 kk3
  go_loopw [23] (fun iv wr => ∃ (i : Nat) (v' : Value), iv = .int .i64 i ∧ i ≤ len ∧ LyAt W0 l ((ts.take i).foldl (stepP typP) s2) v' wr ∧ KeepL l w wr) (fun iv _ => len - (intOf iv).toNat)
  case atStart => exact ⟨0, v3, rfl, Nat.zero_le _, by rw [List.take_zero]; exact HST.out, HK.out⟩
  case round =>
    clear HST HK
    obtain ⟨i, v', rfl, hi, st, kp⟩ := hrel
    by_cases hlt : i < len
    · have hil : i < ts.length := by rw [← HLEN.out]; exact hlt
      have hbw := st.below
      have HIL := Lib.hid hil
      have hrg := HIN.out.range i hil
      rcases HIN.out.lie with h0 | ⟨b, off, hx, hcell⟩
      · omega
      subst hx
      have hc := below_cell hbw (hcell i hlt)
      obtain ⟨z, hz⟩ : ∃ z, ts.getD i 0 = z := ⟨_, rfl⟩
      rw [hz] at hc hrg
      have HT : Hid (ts.getD i default = z) := Lib.hid hz
      have HRG := Lib.hid hrg
      clear hcell hrg hz
      have HNX := Lib.hid (fold_next typP s2 ts i hil)
      have HSP := Lib.hid (fold_stop typP s2 ts i)
      revert st HNX HSP
      generalize (ts.take i).foldl (stepP typP) s2 = si
      intro st HNX HSP
      have sta := st
      have kpa := kp
      obtain ⟨⟨g0, g1, g2⟩, _⟩ := sta.three
      skip
      have HSTA := Lib.hid sta
      clear hbw hil st sta
      cases hno : si.no with
      | true =>
        rw [hno] at g1
        have HE := Lib.hid (HSP.out hno)
        clear HNX HSP hno
        go_wp2_with fail
        rw [HE.out]
        exact bodyPost_voidr rfl rfl ⟨rfl, ⟨_, HSTA.out⟩, kpa⟩
      | false =>
        rw [hno] at g1
        have HE := Lib.hid (HNX.out hno)
        rw [HT.out] at HE
        clear HNX HSP hno
        go_wp2_with (go_at_call 78; refine (lyTyp_any W0 l si _ z _ HSTA.out).mono ?_; rintro e w5 ⟨rfl, ⟨v5, st5⟩, kk5⟩; have kp5 := kpa.trans kk5)
        replace st5 : LyAt W0 l (typP si z) v5 w5 := st5
        rw [← HE.out] at st5
        have hlb := HLB.out
        have hlw : wrap64 ((i : Int) + 1) = ((i + 1 : Nat) : Int) := by
          unfold wrap64
          omega
        rw [hlw]
        exact ⟨⟨i + 1, v5, rfl, by omega, st5, kp5⟩, by show len - (i + 1) < len - i; omega⟩
    · have hie : i = len := by omega
      subst hie
      have HE : Hid ((ts.take i).foldl (stepP typP) s2 = ts.foldl (stepP typP) s2) := Lib.hid (by rw [HLEN.out, List.take_length])
      rw [HE.out] at st
      go_wp2_with fail
      exact bodyPost_void rfl rfl ⟨rfl, ⟨_, st⟩, kp⟩
set_option maxRecDepth 100000 in
set_option maxHeartbeats 4000000 in
theorem lyList_ints_index (W0 : World) (l : Nat) (s : Lay) (v : Value) (x : Option Addr) (len cap : Nat) (ts : List Int) (most : Int) (w : World) (h : LyAt W0 l s v w) (hin : IntsIn W0 x len cap ts) :
    Calls Tryz.prog 77 #[.pointer (some ⟨l, 0, none⟩), .slice x len cap, .int .i64 most, .func (.func 34) #[.pointer (some ⟨l, 0, none⟩)] #[]] w fun e w' => Does W0 l (listP most indexP s ts) w e w' := by
  have st0 := h
  have kp0 := KeepL.refl l w
  have heq := hin.eq
  have htop := hin.top
  have hle := hin.le
  have HIN := Lib.hid hin
  unfold listP
  rw [← heq]
  obtain ⟨s2, hs2⟩ : ∃ s2, s2 = putP (needP s (decide ((len : Int) ≤ most))) (putU (len : Int)) := ⟨_, rfl⟩
  rw [← hs2]
  have HS2 := Lib.hid hs2
  have HU := Lib.hid (fun w => PutU_any (len : Int) w (by omega))
  have HLEN := Lib.hid heq
  have HLB : Hid ((len : Int) ≤ 9223372036854775807) := Lib.hid (by omega)
  clear h hin heq htop hle hs2
  go_enter Tryz.func77, Tryz.ntmps77
  go_wp2_with (first | (go_at_call 28; refine (lyNeed_any W0 l s _ (decide ((len : Int) ≤ most)) _ st0).mono ?_; rintro e w1 ⟨rfl, ⟨v1, st1⟩, kk1⟩; have kp1 := kp0.trans kk1; clear st0 kp0) | (go_at_call 86; refine (HU.out _).mono ?_; rintro e w2 ⟨rfl, hb2⟩; have st2 := st1.next hb2; have kk2 := KeepL.of_below st1.lt hb2; have kp2 := kp1.trans kk2; clear st1 kp1) | (go_at_call 27; refine (lyPut_nums W0 l _ _ (putU (len : Int)) _ st2 (Leb.putU_byte _)).mono ?_; rintro e w3 ⟨rfl, ⟨v3, st3⟩, kk3⟩; have kp3 := kp2.trans kk3; clear st2 kp2))
  rw [← HS2.out] at st3
  have HST := Lib.hid st3
  have HK := Lib.hid kp3
  clear st3 kp3 kk1 kk2 kk3
  go_loopw [23] (fun iv wr => ∃ (i : Nat) (v' : Value), iv = .int .i64 i ∧ i ≤ len ∧ LyAt W0 l ((ts.take i).foldl (stepP indexP) s2) v' wr ∧ KeepL l w wr) (fun iv _ => len - (intOf iv).toNat)
  case atStart => exact ⟨0, v3, rfl, Nat.zero_le _, by rw [List.take_zero]; exact HST.out, HK.out⟩
  case round =>
    clear HST HK
    obtain ⟨i, v', rfl, hi, st, kp⟩ := hrel
    by_cases hlt : i < len
    · have hil : i < ts.length := by rw [← HLEN.out]; exact hlt
      have hbw := st.below
      have HIL := Lib.hid hil
      have hrg := HIN.out.range i hil
      rcases HIN.out.lie with h0 | ⟨b, off, hx, hcell⟩
      · omega
      subst hx
      have hc := below_cell hbw (hcell i hlt)
      obtain ⟨z, hz⟩ : ∃ z, ts.getD i 0 = z := ⟨_, rfl⟩
      rw [hz] at hc hrg
      have HT : Hid (ts.getD i default = z) := Lib.hid hz
      have HRG := Lib.hid hrg
      clear hcell hrg hz
      have HNX := Lib.hid (fold_next indexP s2 ts i hil)
      have HSP := Lib.hid (fold_stop indexP s2 ts i)
      revert st HNX HSP
      generalize (ts.take i).foldl (stepP indexP) s2 = si
      intro st HNX HSP
      have sta := st
      have kpa := kp
      obtain ⟨⟨g0, g1, g2⟩, _⟩ := sta.three
      skip
      have HSTA := Lib.hid sta
      clear hbw hil st sta
      cases hno : si.no with
      | true =>
        rw [hno] at g1
        have HE := Lib.hid (HSP.out hno)
        clear HNX HSP hno
        go_wp2_with fail
        rw [HE.out]
        exact bodyPost_voidr rfl rfl ⟨rfl, ⟨_, HSTA.out⟩, kpa⟩
      | false =>
        rw [hno] at g1
        have HE := Lib.hid (HNX.out hno)
        rw [HT.out] at HE
        clear HNX HSP hno
        go_wp2_with (go_at_call 34; refine (lyIndex_any W0 l si _ z _ HSTA.out HRG.out.2).mono ?_; rintro e w5 ⟨rfl, ⟨v5, st5⟩, kk5⟩; have kp5 := kpa.trans kk5)
        replace st5 : LyAt W0 l (indexP si z) v5 w5 := st5
        rw [← HE.out] at st5
        have hlb := HLB.out
        have hlw : wrap64 ((i : Int) + 1) = ((i + 1 : Nat) : Int) := by
          unfold wrap64
          omega
        rw [hlw]
        exact ⟨⟨i + 1, v5, rfl, by omega, st5, kp5⟩, by show len - (i + 1) < len - i; omega⟩
    · have hie : i = len := by omega
      subst hie
      have HE : Hid ((ts.take i).foldl (stepP indexP) s2 = ts.foldl (stepP indexP) s2) := Lib.hid (by rw [HLEN.out, List.take_length])
      rw [HE.out] at st
      go_wp2_with fail
      exact bodyPost_void rfl rfl ⟨rfl, ⟨_, st⟩, kp⟩
set_option maxRecDepth 100000 in
set_option maxHeartbeats 4000000 in
theorem lyList_lims_limits (W0 : World) (l : Nat) (s : Lay) (v : Value) (x : Option Addr) (len cap : Nat) (ts : List Lim) (most : Int) (w : World) (h : LyAt W0 l s v w) (hin : RowsIn 2 limE W0 x len cap ts) :
    Calls Tryz.prog 88 #[.pointer (some ⟨l, 0, none⟩), .slice x len cap, .int .i64 most, .func (.func 37) #[.pointer (some ⟨l, 0, none⟩)] #[]] w fun e w' => Does W0 l (listP most limP s ts) w e w' := by
  have st0 := h
  have kp0 := KeepL.refl l w
  have heq := hin.eq
  have htop := hin.top
  have hle := hin.le
  have HIN := Lib.hid hin
  unfold listP
  rw [← heq]
  obtain ⟨s2, hs2⟩ : ∃ s2, s2 = putP (needP s (decide ((len : Int) ≤ most))) (putU (len : Int)) := ⟨_, rfl⟩
  rw [← hs2]
  have HS2 := Lib.hid hs2
  have HU := Lib.hid (fun w => PutU_any (len : Int) w (by omega))
  have HLEN := Lib.hid heq
  have HLB : Hid ((len : Int) ≤ 9223372036854775807) := Lib.hid (by omega)
  clear h hin heq htop hle hs2
  go_enter Tryz.func88, Tryz.ntmps88
  go_wp2_with (first | (go_at_call 28; refine (lyNeed_any W0 l s _ (decide ((len : Int) ≤ most)) _ st0).mono ?_; rintro e w1 ⟨rfl, ⟨v1, st1⟩, kk1⟩; have kp1 := kp0.trans kk1; clear st0 kp0) | (go_at_call 86; refine (HU.out _).mono ?_; rintro e w2 ⟨rfl, hb2⟩; have st2 := st1.next hb2; have kk2 := KeepL.of_below st1.lt hb2; have kp2 := kp1.trans kk2; clear st1 kp1) | (go_at_call 27; refine (lyPut_nums W0 l _ _ (putU (len : Int)) _ st2 (Leb.putU_byte _)).mono ?_; rintro e w3 ⟨rfl, ⟨v3, st3⟩, kk3⟩; have kp3 := kp2.trans kk3; clear st2 kp2))
  rw [← HS2.out] at st3
  have HST := Lib.hid st3
  have HK := Lib.hid kp3
  clear st3 kp3 kk1 kk2 kk3
  go_loopw [23] (fun iv wr => ∃ (i : Nat) (v' : Value), iv = .int .i64 i ∧ i ≤ len ∧ LyAt W0 l ((ts.take i).foldl (stepP limP) s2) v' wr ∧ KeepL l w wr) (fun iv _ => len - (intOf iv).toNat)
  case atStart => exact ⟨0, v3, rfl, Nat.zero_le _, by rw [List.take_zero]; exact HST.out, HK.out⟩
  case round =>
    clear HST HK
    obtain ⟨i, v', rfl, hi, st, kp⟩ := hrel
    by_cases hlt : i < len
    · have hil : i < ts.length := by rw [← HLEN.out]; exact hlt
      have hbw := st.below
      have HIL := Lib.hid hil
      have hone := HIN.out.lie
      rcases hone with h0 | ⟨b, off, hx, hone⟩
      · omega
      subst hx
      have he := hone i hil
      clear hone
      revert he
      obtain ⟨t, ht⟩ : ∃ t, ts.getD i default = t := ⟨_, rfl⟩
      rw [ht]
      intro he
      have HT := Lib.hid ht
      clear ht
      obtain ⟨⟨q0, q1⟩, r0, r1⟩ := he
      have q0' := below_cell hbw q0
      have q1' := below_cell hbw q1
      have R0 := Lib.hid r0
      have R1 := Lib.hid r1
      clear q0 q1 r0 r1
      have HNX := Lib.hid (fold_next limP s2 ts i hil)
      have HSP := Lib.hid (fold_stop limP s2 ts i)
      revert st HNX HSP
      generalize (ts.take i).foldl (stepP limP) s2 = si
      intro st HNX HSP
      have sta := st.alloc (.cells #[.int .i64 t.mn, .int .i64 t.mx] 83)
      have kpa := kp.trans (st.alloc_keep (.cells #[.int .i64 t.mn, .int .i64 t.mx] 83))
      obtain ⟨⟨g0, g1, g2⟩, _⟩ := sta.three
      obtain ⟨bc0, bc1⟩ := (BlkAt.new wr #[.int .i64 t.mn, .int .i64 t.mx] 83).two
      have HSTA := Lib.hid sta
      clear hbw hil st sta
      cases hno : si.no with
      | true =>
        rw [hno] at g1
        have HE := Lib.hid (HSP.out hno)
        clear HNX HSP hno
        go_wp2_with fail
        rw [HE.out]
        exact bodyPost_voidr rfl rfl ⟨rfl, ⟨_, HSTA.out⟩, kpa⟩
      | false =>
        rw [hno] at g1
        have HE := Lib.hid (HNX.out hno)
        rw [HT.out] at HE
        clear HNX HSP hno
        go_wp2_with (go_at_call 37; refine (lyLimits_any W0 l si _ t.mn t.mx _ HSTA.out R0.out R1.out).mono ?_; rintro e w5 ⟨rfl, ⟨v5, st5⟩, kk5⟩; have kp5 := kpa.trans kk5)
        replace st5 : LyAt W0 l (limP si t) v5 w5 := st5
        rw [← HE.out] at st5
        have hlb := HLB.out
        have hlw : wrap64 ((i : Int) + 1) = ((i + 1 : Nat) : Int) := by
          unfold wrap64
          omega
        rw [hlw]
        exact ⟨⟨i + 1, v5, rfl, by omega, st5, kp5⟩, by show len - (i + 1) < len - i; omega⟩
    · have hie : i = len := by omega
      subst hie
      have HE : Hid ((ts.take i).foldl (stepP limP) s2 = ts.foldl (stepP limP) s2) := Lib.hid (by rw [HLEN.out, List.take_length])
      rw [HE.out] at st
      go_wp2_with fail
      exact bodyPost_void rfl rfl ⟨rfl, ⟨_, st⟩, kp⟩
set_option maxRecDepth 100000 in
set_option maxHeartbeats 4000000 in
theorem lyList_lims_table (W0 : World) (l : Nat) (s : Lay) (v : Value) (x : Option Addr) (len cap : Nat) (ts : List Lim) (most : Int) (w : World) (h : LyAt W0 l s v w) (hin : RowsIn 2 limE W0 x len cap ts) :
    Calls Tryz.prog 88 #[.pointer (some ⟨l, 0, none⟩), .slice x len cap, .int .i64 most, .func (.func 36) #[.pointer (some ⟨l, 0, none⟩)] #[]] w fun e w' => Does W0 l (listP most tabP s ts) w e w' := by
  have st0 := h
  have kp0 := KeepL.refl l w
  have heq := hin.eq
  have htop := hin.top
  have hle := hin.le
  have HIN := Lib.hid hin
  unfold listP
  rw [← heq]
  obtain ⟨s2, hs2⟩ : ∃ s2, s2 = putP (needP s (decide ((len : Int) ≤ most))) (putU (len : Int)) := ⟨_, rfl⟩
  rw [← hs2]
  have HS2 := Lib.hid hs2
  have HU := Lib.hid (fun w => PutU_any (len : Int) w (by omega))
  have HLEN := Lib.hid heq
  have HLB : Hid ((len : Int) ≤ 9223372036854775807) := Lib.hid (by omega)
  clear h hin heq htop hle hs2
  go_enter Tryz.func88, Tryz.ntmps88
  go_wp2_with (first | (go_at_call 28; refine (lyNeed_any W0 l s _ (decide ((len : Int) ≤ most)) _ st0).mono ?_; rintro e w1 ⟨rfl, ⟨v1, st1⟩, kk1⟩; have kp1 := kp0.trans kk1; clear st0 kp0) | (go_at_call 86; refine (HU.out _).mono ?_; rintro e w2 ⟨rfl, hb2⟩; have st2 := st1.next hb2; have kk2 := KeepL.of_below st1.lt hb2; have kp2 := kp1.trans kk2; clear st1 kp1) | (go_at_call 27; refine (lyPut_nums W0 l _ _ (putU (len : Int)) _ st2 (Leb.putU_byte _)).mono ?_; rintro e w3 ⟨rfl, ⟨v3, st3⟩, kk3⟩; have kp3 := kp2.trans kk3; clear st2 kp2))
  rw [← HS2.out] at st3
  have HST := Lib.hid st3
  have HK := Lib.hid kp3
  clear st3 kp3 kk1 kk2 kk3
  go_loopw [23] (fun iv wr => ∃ (i : Nat) (v' : Value), iv = .int .i64 i ∧ i ≤ len ∧ LyAt W0 l ((ts.take i).foldl (stepP tabP) s2) v' wr ∧ KeepL l w wr) (fun iv _ => len - (intOf iv).toNat)
  case atStart => exact ⟨0, v3, rfl, Nat.zero_le _, by rw [List.take_zero]; exact HST.out, HK.out⟩
  case round =>
    clear HST HK
    obtain ⟨i, v', rfl, hi, st, kp⟩ := hrel
    by_cases hlt : i < len
    · have hil : i < ts.length := by rw [← HLEN.out]; exact hlt
      have hbw := st.below
      have HIL := Lib.hid hil
      have hone := HIN.out.lie
      rcases hone with h0 | ⟨b, off, hx, hone⟩
      · omega
      subst hx
      have he := hone i hil
      clear hone
      revert he
      obtain ⟨t, ht⟩ : ∃ t, ts.getD i default = t := ⟨_, rfl⟩
      rw [ht]
      intro he
      have HT := Lib.hid ht
      clear ht
      obtain ⟨⟨q0, q1⟩, r0, r1⟩ := he
      have q0' := below_cell hbw q0
      have q1' := below_cell hbw q1
      have R0 := Lib.hid r0
      have R1 := Lib.hid r1
      clear q0 q1 r0 r1
      have HNX := Lib.hid (fold_next tabP s2 ts i hil)
      have HSP := Lib.hid (fold_stop tabP s2 ts i)
      revert st HNX HSP
      generalize (ts.take i).foldl (stepP tabP) s2 = si
      intro st HNX HSP
      have sta := st.alloc (.cells #[.int .i64 t.mn, .int .i64 t.mx] 83)
      have kpa := kp.trans (st.alloc_keep (.cells #[.int .i64 t.mn, .int .i64 t.mx] 83))
      obtain ⟨⟨g0, g1, g2⟩, _⟩ := sta.three
      obtain ⟨bc0, bc1⟩ := (BlkAt.new wr #[.int .i64 t.mn, .int .i64 t.mx] 83).two
      have HSTA := Lib.hid sta
      clear hbw hil st sta
      cases hno : si.no with
      | true =>
        rw [hno] at g1
        have HE := Lib.hid (HSP.out hno)
        clear HNX HSP hno
        go_wp2_with fail
        rw [HE.out]
        exact bodyPost_voidr rfl rfl ⟨rfl, ⟨_, HSTA.out⟩, kpa⟩
      | false =>
        rw [hno] at g1
        have HE := Lib.hid (HNX.out hno)
        rw [HT.out] at HE
        clear HNX HSP hno
        go_wp2_with (go_at_call 36; refine (lyTable_any W0 l si _ t.mn t.mx _ HSTA.out R0.out R1.out).mono ?_; rintro e w5 ⟨rfl, ⟨v5, st5⟩, kk5⟩; have kp5 := kpa.trans kk5)
        replace st5 : LyAt W0 l (tabP si t) v5 w5 := st5
        rw [← HE.out] at st5
        have hlb := HLB.out
        have hlw : wrap64 ((i : Int) + 1) = ((i + 1 : Nat) : Int) := by
          unfold wrap64
          omega
        rw [hlw]
        exact ⟨⟨i + 1, v5, rfl, by omega, st5, kp5⟩, by show len - (i + 1) < len - i; omega⟩
    · have hie : i = len := by omega
      subst hie
      have HE : Hid ((ts.take i).foldl (stepP tabP) s2 = ts.foldl (stepP tabP) s2) := Lib.hid (by rw [HLEN.out, List.take_length])
      rw [HE.out] at st
      go_wp2_with fail
      exact bodyPost_void rfl rfl ⟨rfl, ⟨_, st⟩, kp⟩
set_option maxRecDepth 100000 in
set_option maxHeartbeats 4000000 in
theorem lyList_imps (W0 : World) (l : Nat) (s : Lay) (v : Value) (x : Option Addr) (len cap : Nat) (ts : List Imp) (most : Int) (w : World) (h : LyAt W0 l s v w) (hin : RowsIn 7 impE W0 x len cap ts) :
    Calls Tryz.prog 80 #[.pointer (some ⟨l, 0, none⟩), .slice x len cap, .int .i64 most, .func (.func 32) #[.pointer (some ⟨l, 0, none⟩)] #[]] w fun e w' => Does W0 l (listP most impP s ts) w e w' := by
  have st0 := h
  have kp0 := KeepL.refl l w
  have heq := hin.eq
  have htop := hin.top
  have hle := hin.le
  have HIN := Lib.hid hin
  unfold listP
  rw [← heq]
  obtain ⟨s2, hs2⟩ : ∃ s2, s2 = putP (needP s (decide ((len : Int) ≤ most))) (putU (len : Int)) := ⟨_, rfl⟩
  rw [← hs2]
  have HS2 := Lib.hid hs2
  have HU := Lib.hid (fun w => PutU_any (len : Int) w (by omega))
  have HLEN := Lib.hid heq
  have HLB : Hid ((len : Int) ≤ 9223372036854775807) := Lib.hid (by omega)
  clear h hin heq htop hle hs2
  go_enter Tryz.func80, Tryz.ntmps80
  go_wp2_with (first | (go_at_call 28; refine (lyNeed_any W0 l s _ (decide ((len : Int) ≤ most)) _ st0).mono ?_; rintro e w1 ⟨rfl, ⟨v1, st1⟩, kk1⟩; have kp1 := kp0.trans kk1; clear st0 kp0) | (go_at_call 86; refine (HU.out _).mono ?_; rintro e w2 ⟨rfl, hb2⟩; have st2 := st1.next hb2; have kk2 := KeepL.of_below st1.lt hb2; have kp2 := kp1.trans kk2; clear st1 kp1) | (go_at_call 27; refine (lyPut_nums W0 l _ _ (putU (len : Int)) _ st2 (Leb.putU_byte _)).mono ?_; rintro e w3 ⟨rfl, ⟨v3, st3⟩, kk3⟩; have kp3 := kp2.trans kk3; clear st2 kp2))
  rw [← HS2.out] at st3
  have HST := Lib.hid st3
  have HK := Lib.hid kp3
  clear st3 kp3 kk1 kk2 kk3
  go_loopw [23] (fun iv wr => ∃ (i : Nat) (v' : Value), iv = .int .i64 i ∧ i ≤ len ∧ LyAt W0 l ((ts.take i).foldl (stepP impP) s2) v' wr ∧ KeepL l w wr) (fun iv _ => len - (intOf iv).toNat)
  case atStart => exact ⟨0, v3, rfl, Nat.zero_le _, by rw [List.take_zero]; exact HST.out, HK.out⟩
  case round =>
    clear HST HK
    obtain ⟨i, v', rfl, hi, st, kp⟩ := hrel
    by_cases hlt : i < len
    · have hil : i < ts.length := by rw [← HLEN.out]; exact hlt
      have hbw := st.below
      have HIL := Lib.hid hil
      have hone := HIN.out.lie
      rcases hone with h0 | ⟨b, off, hx, hone⟩
      · omega
      subst hx
      have he := hone i hil
      clear hone
      revert he
      obtain ⟨t, ht⟩ : ∃ t, ts.getD i default = t := ⟨_, rfl⟩
      rw [ht]
      intro he
      have HT := Lib.hid ht
      clear ht
      obtain ⟨⟨q0, q1, q2, q3, q4, q5, q6⟩, r0, r1, r2, r3, r4, r5⟩ := he
      have q0' := below_cell hbw q0
      have q1' := below_cell hbw q1
      have q2' := below_cell hbw q2
      have q3' := below_cell hbw q3
      have q4' := below_cell hbw q4
      have q5' := below_cell hbw q5
      have q6' := below_cell hbw q6
      have R0 := Lib.hid r0
      have R1 := Lib.hid r1
      have R2 := Lib.hid r2
      have R3 := Lib.hid r3
      have R4 := Lib.hid r4
      have R5 := Lib.hid r5
      clear q0 q1 q2 q3 q4 q5 q6 r0 r1 r2 r3 r4 r5
      have HNX := Lib.hid (fold_next impP s2 ts i hil)
      have HSP := Lib.hid (fold_stop impP s2 ts i)
      revert st HNX HSP
      generalize (ts.take i).foldl (stepP impP) s2 = si
      intro st HNX HSP
      have sta := st.alloc (.cells #[.string t.mod, .string t.name, .int .i64 t.kind, .int .i64 t.t, .bool t.mu, .int .i64 t.mn, .int .i64 t.mx] 85)
      have kpa := kp.trans (st.alloc_keep (.cells #[.string t.mod, .string t.name, .int .i64 t.kind, .int .i64 t.t, .bool t.mu, .int .i64 t.mn, .int .i64 t.mx] 85))
      obtain ⟨⟨g0, g1, g2⟩, _⟩ := sta.three
      obtain ⟨bc0, bc1, bc2, bc3, bc4, bc5, bc6⟩ := (BlkAt.new wr #[.string t.mod, .string t.name, .int .i64 t.kind, .int .i64 t.t, .bool t.mu, .int .i64 t.mn, .int .i64 t.mx] 85).seven'
      have HSTA := Lib.hid sta
      clear hbw hil st sta
      cases hno : si.no with
      | true =>
        rw [hno] at g1
        have HE := Lib.hid (HSP.out hno)
        clear HNX HSP hno
        go_wp2_with fail
        rw [HE.out]
        exact bodyPost_voidr rfl rfl ⟨rfl, ⟨_, HSTA.out⟩, kpa⟩
      | false =>
        rw [hno] at g1
        have HE := Lib.hid (HNX.out hno)
        rw [HT.out] at HE
        clear HNX HSP hno
        go_wp2_with (go_at_call 32; refine (lyImport_any W0 l si _ t _ HSTA.out R0.out R1.out R2.out R3.out R4.out R5.out).mono ?_; rintro e w5 ⟨rfl, ⟨v5, st5⟩, kk5⟩; have kp5 := kpa.trans kk5)
        replace st5 : LyAt W0 l (impP si t) v5 w5 := st5
        rw [← HE.out] at st5
        have hlb := HLB.out
        have hlw : wrap64 ((i : Int) + 1) = ((i + 1 : Nat) : Int) := by
          unfold wrap64
          omega
        rw [hlw]
        exact ⟨⟨i + 1, v5, rfl, by omega, st5, kp5⟩, by show len - (i + 1) < len - i; omega⟩
    · have hie : i = len := by omega
      subst hie
      have HE : Hid ((ts.take i).foldl (stepP impP) s2 = ts.foldl (stepP impP) s2) := Lib.hid (by rw [HLEN.out, List.take_length])
      rw [HE.out] at st
      go_wp2_with fail
      exact bodyPost_void rfl rfl ⟨rfl, ⟨_, st⟩, kp⟩
set_option maxRecDepth 100000 in
set_option maxHeartbeats 4000000 in
theorem lyList_exps (W0 : World) (l : Nat) (s : Lay) (v : Value) (x : Option Addr) (len cap : Nat) (ts : List Exp) (most : Int) (w : World) (h : LyAt W0 l s v w) (hin : RowsIn 3 expE W0 x len cap ts) :
    Calls Tryz.prog 93 #[.pointer (some ⟨l, 0, none⟩), .slice x len cap, .int .i64 most, .func (.func 41) #[.pointer (some ⟨l, 0, none⟩)] #[]] w fun e w' => Does W0 l (listP most expP s ts) w e w' := by
  have st0 := h
  have kp0 := KeepL.refl l w
  have heq := hin.eq
  have htop := hin.top
  have hle := hin.le
  have HIN := Lib.hid hin
  unfold listP
  rw [← heq]
  obtain ⟨s2, hs2⟩ : ∃ s2, s2 = putP (needP s (decide ((len : Int) ≤ most))) (putU (len : Int)) := ⟨_, rfl⟩
  rw [← hs2]
  have HS2 := Lib.hid hs2
  have HU := Lib.hid (fun w => PutU_any (len : Int) w (by omega))
  have HLEN := Lib.hid heq
  have HLB : Hid ((len : Int) ≤ 9223372036854775807) := Lib.hid (by omega)
  clear h hin heq htop hle hs2
  go_enter Tryz.func93, Tryz.ntmps93
  go_wp2_with (first | (go_at_call 28; refine (lyNeed_any W0 l s _ (decide ((len : Int) ≤ most)) _ st0).mono ?_; rintro e w1 ⟨rfl, ⟨v1, st1⟩, kk1⟩; have kp1 := kp0.trans kk1; clear st0 kp0) | (go_at_call 86; refine (HU.out _).mono ?_; rintro e w2 ⟨rfl, hb2⟩; have st2 := st1.next hb2; have kk2 := KeepL.of_below st1.lt hb2; have kp2 := kp1.trans kk2; clear st1 kp1) | (go_at_call 27; refine (lyPut_nums W0 l _ _ (putU (len : Int)) _ st2 (Leb.putU_byte _)).mono ?_; rintro e w3 ⟨rfl, ⟨v3, st3⟩, kk3⟩; have kp3 := kp2.trans kk3; clear st2 kp2))
  rw [← HS2.out] at st3
  have HST := Lib.hid st3
  have HK := Lib.hid kp3
  clear st3 kp3 kk1 kk2 kk3
  go_loopw [23] (fun iv wr => ∃ (i : Nat) (v' : Value), iv = .int .i64 i ∧ i ≤ len ∧ LyAt W0 l ((ts.take i).foldl (stepP expP) s2) v' wr ∧ KeepL l w wr) (fun iv _ => len - (intOf iv).toNat)
  case atStart => exact ⟨0, v3, rfl, Nat.zero_le _, by rw [List.take_zero]; exact HST.out, HK.out⟩
  case round =>
    clear HST HK
    obtain ⟨i, v', rfl, hi, st, kp⟩ := hrel
    by_cases hlt : i < len
    · have hil : i < ts.length := by rw [← HLEN.out]; exact hlt
      have hbw := st.below
      have HIL := Lib.hid hil
      have hone := HIN.out.lie
      rcases hone with h0 | ⟨b, off, hx, hone⟩
      · omega
      subst hx
      have he := hone i hil
      clear hone
      revert he
      obtain ⟨t, ht⟩ : ∃ t, ts.getD i default = t := ⟨_, rfl⟩
      rw [ht]
      intro he
      have HT := Lib.hid ht
      clear ht
      obtain ⟨⟨q0, q1, q2⟩, r0, r1, r2⟩ := he
      have q0' := below_cell hbw q0
      have q1' := below_cell hbw q1
      have q2' := below_cell hbw q2
      have R0 := Lib.hid r0
      have R1 := Lib.hid r1
      have R2 := Lib.hid r2
      clear q0 q1 q2 r0 r1 r2
      have HNX := Lib.hid (fold_next expP s2 ts i hil)
      have HSP := Lib.hid (fold_stop expP s2 ts i)
      revert st HNX HSP
      generalize (ts.take i).foldl (stepP expP) s2 = si
      intro st HNX HSP
      have sta := st.alloc (.cells #[.string t.name, .int .i64 t.kind, .int .i64 t.i] 95)
      have kpa := kp.trans (st.alloc_keep (.cells #[.string t.name, .int .i64 t.kind, .int .i64 t.i] 95))
      obtain ⟨⟨g0, g1, g2⟩, _⟩ := sta.three
      obtain ⟨bc0, bc1, bc2⟩ := (BlkAt.new wr #[.string t.name, .int .i64 t.kind, .int .i64 t.i] 95).three
      have HSTA := Lib.hid sta
      clear hbw hil st sta
      cases hno : si.no with
      | true =>
        rw [hno] at g1
        have HE := Lib.hid (HSP.out hno)
        clear HNX HSP hno
        go_wp2_with fail
        rw [HE.out]
        exact bodyPost_voidr rfl rfl ⟨rfl, ⟨_, HSTA.out⟩, kpa⟩
      | false =>
        rw [hno] at g1
        have HE := Lib.hid (HNX.out hno)
        rw [HT.out] at HE
        clear HNX HSP hno
        go_wp2_with (go_at_call 41; refine (lyExport_any W0 l si _ t _ HSTA.out R0.out R1.out R2.out).mono ?_; rintro e w5 ⟨rfl, ⟨v5, st5⟩, kk5⟩; have kp5 := kpa.trans kk5)
        replace st5 : LyAt W0 l (expP si t) v5 w5 := st5
        rw [← HE.out] at st5
        have hlb := HLB.out
        have hlw : wrap64 ((i : Int) + 1) = ((i + 1 : Nat) : Int) := by
          unfold wrap64
          omega
        rw [hlw]
        exact ⟨⟨i + 1, v5, rfl, by omega, st5, kp5⟩, by show len - (i + 1) < len - i; omega⟩
    · have hie : i = len := by omega
      subst hie
      have HE : Hid ((ts.take i).foldl (stepP expP) s2 = ts.foldl (stepP expP) s2) := Lib.hid (by rw [HLEN.out, List.take_length])
      rw [HE.out] at st
      go_wp2_with fail
      exact bodyPost_void rfl rfl ⟨rfl, ⟨_, st⟩, kp⟩
set_option maxRecDepth 100000 in
set_option maxHeartbeats 4000000 in
theorem lyList_glos (W0 : World) (l : Nat) (s : Lay) (v : Value) (x : Option Addr) (len cap : Nat) (ts : List Glo) (most : Int) (w : World) (h : LyAt W0 l s v w) (hin : RowsIn 9 gloE W0 x len cap ts) :
    Calls Tryz.prog 90 #[.pointer (some ⟨l, 0, none⟩), .slice x len cap, .int .i64 most, .func (.func 39) #[.pointer (some ⟨l, 0, none⟩)] #[]] w fun e w' => Does W0 l (listP most gloP s ts) w e w' := by
  have st0 := h
  have kp0 := KeepL.refl l w
  have heq := hin.eq
  have htop := hin.top
  have hle := hin.le
  have HIN := Lib.hid hin
  unfold listP
  rw [← heq]
  obtain ⟨s2, hs2⟩ : ∃ s2, s2 = putP (needP s (decide ((len : Int) ≤ most))) (putU (len : Int)) := ⟨_, rfl⟩
  rw [← hs2]
  have HS2 := Lib.hid hs2
  have HU := Lib.hid (fun w => PutU_any (len : Int) w (by omega))
  have HLEN := Lib.hid heq
  have HLB : Hid ((len : Int) ≤ 9223372036854775807) := Lib.hid (by omega)
  clear h hin heq htop hle hs2
  go_enter Tryz.func90, Tryz.ntmps90
  go_wp2_with (first | (go_at_call 28; refine (lyNeed_any W0 l s _ (decide ((len : Int) ≤ most)) _ st0).mono ?_; rintro e w1 ⟨rfl, ⟨v1, st1⟩, kk1⟩; have kp1 := kp0.trans kk1; clear st0 kp0) | (go_at_call 86; refine (HU.out _).mono ?_; rintro e w2 ⟨rfl, hb2⟩; have st2 := st1.next hb2; have kk2 := KeepL.of_below st1.lt hb2; have kp2 := kp1.trans kk2; clear st1 kp1) | (go_at_call 27; refine (lyPut_nums W0 l _ _ (putU (len : Int)) _ st2 (Leb.putU_byte _)).mono ?_; rintro e w3 ⟨rfl, ⟨v3, st3⟩, kk3⟩; have kp3 := kp2.trans kk3; clear st2 kp2))
  rw [← HS2.out] at st3
  have HST := Lib.hid st3
  have HK := Lib.hid kp3
  clear st3 kp3 kk1 kk2 kk3
  go_loopw [23] (fun iv wr => ∃ (i : Nat) (v' : Value), iv = .int .i64 i ∧ i ≤ len ∧ LyAt W0 l ((ts.take i).foldl (stepP gloP) s2) v' wr ∧ KeepL l w wr) (fun iv _ => len - (intOf iv).toNat)
  case atStart => exact ⟨0, v3, rfl, Nat.zero_le _, by rw [List.take_zero]; exact HST.out, HK.out⟩
  case round =>
    clear HST HK
    obtain ⟨i, v', rfl, hi, st, kp⟩ := hrel
    by_cases hlt : i < len
    · have hil : i < ts.length := by rw [← HLEN.out]; exact hlt
      have hbw := st.below
      have HIL := Lib.hid hil
      have hone := HIN.out.lie
      rcases hone with h0 | ⟨b, off, hx, hone⟩
      · omega
      subst hx
      have he := hone i hil
      clear hone
      revert he
      obtain ⟨t, ht⟩ : ∃ t, ts.getD i default = t := ⟨_, rfl⟩
      rw [ht]
      intro he
      have HT := Lib.hid ht
      clear ht
      obtain ⟨xn, nc, xl, lc, xe, ec, ⟨q0, q1⟩, ⟨q2, q3, q4, q5, q6, q7, q8⟩, r0, r1⟩ := he
      have q0' := below_cell hbw q0
      have q1' := below_cell hbw q1
      have q2' := below_cell hbw q2
      have q3' := below_cell hbw q3
      have q4' := below_cell hbw q4
      have q5' := below_cell hbw q5
      have q6' := below_cell hbw q6
      have q7' := below_cell hbw q7
      have q8' := below_cell hbw q8
      have R0 := Lib.hid r0
      have R1 := Lib.hid r1
      clear q0 q1 q2 q3 q4 q5 q6 q7 q8 r0 r1
      have HNX := Lib.hid (fold_next gloP s2 ts i hil)
      have HSP := Lib.hid (fold_stop gloP s2 ts i)
      revert st HNX HSP
      generalize (ts.take i).foldl (stepP gloP) s2 = si
      intro st HNX HSP
      have sta := st.alloc (.cells #[.int .i64 t.t, .bool t.mu, .int .i64 t.init.op, .int .i64 t.init.a, .int .i64 t.init.b, .int .i64 t.init.m, .slice xn t.init.n.length nc, .slice xl t.init.l.length lc, .slice xe t.init.e.length ec] 68)
      have kpa := kp.trans (st.alloc_keep (.cells #[.int .i64 t.t, .bool t.mu, .int .i64 t.init.op, .int .i64 t.init.a, .int .i64 t.init.b, .int .i64 t.init.m, .slice xn t.init.n.length nc, .slice xl t.init.l.length lc, .slice xe t.init.e.length ec] 68))
      obtain ⟨⟨g0, g1, g2⟩, _⟩ := sta.three
      obtain ⟨bc0, bc1, bc2, bc3, bc4, bc5, bc6, bc7, bc8⟩ := (BlkAt.new wr #[.int .i64 t.t, .bool t.mu, .int .i64 t.init.op, .int .i64 t.init.a, .int .i64 t.init.b, .int .i64 t.init.m, .slice xn t.init.n.length nc, .slice xl t.init.l.length lc, .slice xe t.init.e.length ec] 68).nine
      have HSTA := Lib.hid sta
      clear hbw hil st sta
      cases hno : si.no with
      | true =>
        rw [hno] at g1
        have HE := Lib.hid (HSP.out hno)
        clear HNX HSP hno
        go_wp2_with fail
        rw [HE.out]
        exact bodyPost_voidr rfl rfl ⟨rfl, ⟨_, HSTA.out⟩, kpa⟩
      | false =>
        rw [hno] at g1
        have HE := Lib.hid (HNX.out hno)
        rw [HT.out] at HE
        clear HNX HSP hno
        go_wp2_with (go_at_call 39; refine (lyGlobal_any W0 l si _ t xn nc xl lc xe ec _ HSTA.out R0.out R1.out).mono ?_; rintro e w5 ⟨rfl, ⟨v5, st5⟩, kk5⟩; have kp5 := kpa.trans kk5)
        replace st5 : LyAt W0 l (gloP si t) v5 w5 := st5
        rw [← HE.out] at st5
        have hlb := HLB.out
        have hlw : wrap64 ((i : Int) + 1) = ((i + 1 : Nat) : Int) := by
          unfold wrap64
          omega
        rw [hlw]
        exact ⟨⟨i + 1, v5, rfl, by omega, st5, kp5⟩, by show len - (i + 1) < len - i; omega⟩
    · have hie : i = len := by omega
      subst hie
      have HE : Hid ((ts.take i).foldl (stepP gloP) s2 = ts.foldl (stepP gloP) s2) := Lib.hid (by rw [HLEN.out, List.take_length])
      rw [HE.out] at st
      go_wp2_with fail
      exact bodyPost_void rfl rfl ⟨rfl, ⟨_, st⟩, kp⟩
set_option maxRecDepth 100000 in
set_option maxHeartbeats 4000000 in
theorem lyList_dats (W0 : World) (l : Nat) (s : Lay) (v : Value) (x : Option Addr) (len cap : Nat) (ts : List Dat) (most : Int) (w : World) (h : LyAt W0 l s v w) (hin : RowsIn 9 datE W0 x len cap ts) :
    Calls Tryz.prog 106 #[.pointer (some ⟨l, 0, none⟩), .slice x len cap, .int .i64 most, .func (.func 48) #[.pointer (some ⟨l, 0, none⟩)] #[]] w fun e w' => Does W0 l (listP most datP s ts) w e w' := by
  have st0 := h
  have kp0 := KeepL.refl l w
  have heq := hin.eq
  have htop := hin.top
  have hle := hin.le
  have HIN := Lib.hid hin
  unfold listP
  rw [← heq]
  obtain ⟨s2, hs2⟩ : ∃ s2, s2 = putP (needP s (decide ((len : Int) ≤ most))) (putU (len : Int)) := ⟨_, rfl⟩
  rw [← hs2]
  have HS2 := Lib.hid hs2
  have HU := Lib.hid (fun w => PutU_any (len : Int) w (by omega))
  have HLEN := Lib.hid heq
  have HLB : Hid ((len : Int) ≤ 9223372036854775807) := Lib.hid (by omega)
  clear h hin heq htop hle hs2
  go_enter Tryz.func106, Tryz.ntmps106
  go_wp2_with (first | (go_at_call 28; refine (lyNeed_any W0 l s _ (decide ((len : Int) ≤ most)) _ st0).mono ?_; rintro e w1 ⟨rfl, ⟨v1, st1⟩, kk1⟩; have kp1 := kp0.trans kk1; clear st0 kp0) | (go_at_call 86; refine (HU.out _).mono ?_; rintro e w2 ⟨rfl, hb2⟩; have st2 := st1.next hb2; have kk2 := KeepL.of_below st1.lt hb2; have kp2 := kp1.trans kk2; clear st1 kp1) | (go_at_call 27; refine (lyPut_nums W0 l _ _ (putU (len : Int)) _ st2 (Leb.putU_byte _)).mono ?_; rintro e w3 ⟨rfl, ⟨v3, st3⟩, kk3⟩; have kp3 := kp2.trans kk3; clear st2 kp2))
  rw [← HS2.out] at st3
  have HST := Lib.hid st3
  have HK := Lib.hid kp3
  clear st3 kp3 kk1 kk2 kk3
  go_loopw [23] (fun iv wr => ∃ (i : Nat) (v' : Value), iv = .int .i64 i ∧ i ≤ len ∧ LyAt W0 l ((ts.take i).foldl (stepP datP) s2) v' wr ∧ KeepL l w wr) (fun iv _ => len - (intOf iv).toNat)
  case atStart => exact ⟨0, v3, rfl, Nat.zero_le _, by rw [List.take_zero]; exact HST.out, HK.out⟩
  case round =>
    clear HST HK
    obtain ⟨i, v', rfl, hi, st, kp⟩ := hrel
    by_cases hlt : i < len
    · have hil : i < ts.length := by rw [← HLEN.out]; exact hlt
      have hbw := st.below
      have HIL := Lib.hid hil
      have hone := HIN.out.lie
      rcases hone with h0 | ⟨b, off, hx, hone⟩
      · omega
      subst hx
      have he := hone i hil
      clear hone
      revert he
      obtain ⟨t, ht⟩ : ∃ t, ts.getD i default = t := ⟨_, rfl⟩
      rw [ht]
      intro he
      have HT := Lib.hid ht
      clear ht
      obtain ⟨xn, nc, xl, lc, xe, ec, ⟨q0, q8⟩, ⟨q1, q2, q3, q4, q5, q6, q7⟩, r0, r1, r2, r3⟩ := he
      have q0' := below_cell hbw q0
      have q1' := below_cell hbw q1
      have q2' := below_cell hbw q2
      have q3' := below_cell hbw q3
      have q4' := below_cell hbw q4
      have q5' := below_cell hbw q5
      have q6' := below_cell hbw q6
      have q7' := below_cell hbw q7
      have q8' := below_cell hbw q8
      have R0 := Lib.hid r0
      have R1 := Lib.hid r1
      have R2 := Lib.hid r2
      have R3 := Lib.hid r3
      clear q0 q1 q2 q3 q4 q5 q6 q7 q8 r0 r1 r2 r3
      have HNX := Lib.hid (fold_next datP s2 ts i hil)
      have HSP := Lib.hid (fold_stop datP s2 ts i)
      revert st HNX HSP
      generalize (ts.take i).foldl (stepP datP) s2 = si
      intro st HNX HSP
      have sta := st.alloc (.cells #[.int .i64 t.mem, .int .i64 t.off.op, .int .i64 t.off.a, .int .i64 t.off.b, .int .i64 t.off.m, .slice xn t.off.n.length nc, .slice xl t.off.l.length lc, .slice xe t.off.e.length ec, .string t.b] 52)
      have kpa := kp.trans (st.alloc_keep (.cells #[.int .i64 t.mem, .int .i64 t.off.op, .int .i64 t.off.a, .int .i64 t.off.b, .int .i64 t.off.m, .slice xn t.off.n.length nc, .slice xl t.off.l.length lc, .slice xe t.off.e.length ec, .string t.b] 52))
      obtain ⟨⟨g0, g1, g2⟩, _⟩ := sta.three
      obtain ⟨bc0, bc1, bc2, bc3, bc4, bc5, bc6, bc7, bc8⟩ := (BlkAt.new wr #[.int .i64 t.mem, .int .i64 t.off.op, .int .i64 t.off.a, .int .i64 t.off.b, .int .i64 t.off.m, .slice xn t.off.n.length nc, .slice xl t.off.l.length lc, .slice xe t.off.e.length ec, .string t.b] 52).nine
      have HSTA := Lib.hid sta
      clear hbw hil st sta
      cases hno : si.no with
      | true =>
        rw [hno] at g1
        have HE := Lib.hid (HSP.out hno)
        clear HNX HSP hno
        go_wp2_with fail
        rw [HE.out]
        exact bodyPost_voidr rfl rfl ⟨rfl, ⟨_, HSTA.out⟩, kpa⟩
      | false =>
        rw [hno] at g1
        have HE := Lib.hid (HNX.out hno)
        rw [HT.out] at HE
        clear HNX HSP hno
        go_wp2_with (go_at_call 48; refine (lyData_any W0 l si _ t xn nc xl lc xe ec _ HSTA.out R0.out R1.out R2.out R3.out).mono ?_; rintro e w5 ⟨rfl, ⟨v5, st5⟩, kk5⟩; have kp5 := kpa.trans kk5)
        replace st5 : LyAt W0 l (datP si t) v5 w5 := st5
        rw [← HE.out] at st5
        have hlb := HLB.out
        have hlw : wrap64 ((i : Int) + 1) = ((i + 1 : Nat) : Int) := by
          unfold wrap64
          omega
        rw [hlw]
        exact ⟨⟨i + 1, v5, rfl, by omega, st5, kp5⟩, by show len - (i + 1) < len - i; omega⟩
    · have hie : i = len := by omega
      subst hie
      have HE : Hid ((ts.take i).foldl (stepP datP) s2 = ts.foldl (stepP datP) s2) := Lib.hid (by rw [HLEN.out, List.take_length])
      rw [HE.out] at st
      go_wp2_with fail
      exact bodyPost_void rfl rfl ⟨rfl, ⟨_, st⟩, kp⟩
end Go.Proofs.YtekonefnniaheaaGreat
