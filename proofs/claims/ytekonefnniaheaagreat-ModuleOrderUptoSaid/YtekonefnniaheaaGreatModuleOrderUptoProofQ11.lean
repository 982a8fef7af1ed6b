/- Texts of the proof of ModuleOrderUptoProof, part 11. -/
import Derived.Test.YtekonefnniaheaaGreatModuleOrderUptoProofQ9
import Derived.Test.YtekonefnniaheaaGreatModuleOrderUptoProofQ10
namespace Go.Proofs.YtekonefnniaheaaGreat
open Go.RowKit Go.Deep
open Leb (putU putS)

mutual
theorem putI_byte : ∀ c : Ins, ∀ z ∈ putI c, 0 ≤ z ∧ z < 256
  | .mk op a b m n l e => by
    have h1 := putL_byte l
    have h2 := putL_byte e
    rw [putI]
    refine app_byte (opB_byte op) (app_byte (fldB_byte _ a b m n) ?_)
    split
    · refine app_byte h1 (app_byte ?_ (by intro z hz; rw [List.mem_singleton.1 hz]; omega))
      split
      · intro z hz; cases hz
      · intro z hz
        rcases List.mem_cons.1 hz with rfl | q
        · omega
        · exact h2 z q
    · intro z hz; cases hz
theorem putL_byte : ∀ l : List Ins, ∀ z ∈ putL l, 0 ≤ z ∧ z < 256
  | [] => by intro z hz; rw [putL] at hz; cases hz
  | c :: r => by
    rw [putL]
    exact app_byte (putI_byte c) (putL_byte r)
end
theorem putV_byte (ls : List Ins) : ∀ z ∈ (putV ls).1, 0 ≤ z ∧ z < 256 := by
  unfold putV
  split
  · exact app_byte (putL_byte ls) (by intro z hz; rw [List.mem_singleton.1 hz]; omega)
  · intro z hz; cases hz
/-- An instruction's parts, as they lie in a world. -/
structure InsV (W0 : World) (c : Ins) (xn : Option Addr) (nc : Nat) (xl : Option Addr) (lc : Nat) (xe : Option Addr) (ec : Nat) : Prop where
  n : View W0 xn c.n.length c.n
  nle : c.n.length ≤ nc ∧ nc ≤ 9223372036854775807
  l : InsIn W0 xl c.l.length lc c.l
  e : InsIn W0 xe c.e.length ec c.e
theorem InsV.lies {W0 w : World} {c : Ins} {xn xl xe : Option Addr} {nc lc ec b : Nat} {T : TypeId} (h : InsV W0 c xn nc xl lc xe ec) (hb : Below W0.heap.size W0 w) (hc : BlkAt w b #[.int .i64 c.op, .int .i64 c.a, .int .i64 c.b, .int .i64 c.m, .slice xn c.n.length nc, .slice xl c.l.length lc, .slice xe c.e.length ec] T) :
    InsIn w (some ⟨b, 0, none⟩) 1 1 [c] := by
  obtain ⟨h0, h1, h2, h3, h4, h5, h6⟩ := hc.seven'
  refine ⟨rfl, Nat.le_refl _, by decide, ?_⟩
  unfold LiesL
  refine ⟨b, 0, rfl, ?_, by unfold LiesL; trivial⟩
  have hl := h.l.below hb
  have he := h.e.below hb
  have hn := h.n.below hb
  have hnl := h.nle
  cases c with
  | mk op a b' m n l e =>
    unfold LiesI
    exact ⟨h0, h1, h2, h3, ⟨xn, nc, h4, hn, hnl.1, hnl.2⟩, ⟨xl, lc, h5, hl.lies, hl.le, hl.top⟩, ⟨xe, ec, h6, he.lies, he.le, he.top⟩⟩
theorem wfL_one {c : Ins} (h : wfI c) : wfL [c] := by
  rw [wfL, wfL]
  exact ⟨h, trivial⟩
structure Imp where
  mod : ByteArray
  name : ByteArray
  kind : Int
  t : Int
  mu : Bool
  mn : Int
  mx : Int
structure Exp where
  name : ByteArray
  kind : Int
  i : Int
structure Glo where
  t : Int
  mu : Bool
  init : Ins
structure Dat where
  mem : Int
  off : Ins
  b : ByteArray
def ownB (x : Imp) : Bool := if x.kind = 0 then !x.mu && (decide (x.mn = 0) && decide (x.mx = 0)) else if x.kind = 3 then decide (x.mn = 0) && decide (x.mx = 0) else decide (x.t = 0) && !x.mu
def impK (s : Lay) (x : Imp) : Lay := if x.kind = 0 then indexP s x.t else if x.kind = 1 then tableP s x.mn x.mx else if x.kind = 2 then limitsP s x.mn x.mx else if x.kind = 3 then yesP (typP s x.t) x.mu else s
def impP (s : Lay) (x : Imp) : Lay := needP (impK (kindP (nameP (nameP s x.mod) x.name) x.kind) x) (ownB x)
def expP (s : Lay) (x : Exp) : Lay := indexP (kindP (nameP s x.name) x.kind) x.i
def gloP (s : Lay) (x : Glo) : Lay := constP (yesP (typP s x.t) x.mu) x.init
def datP (s : Lay) (x : Dat) : Lay := bytesP (constP (whereP s x.mem) x.off) (bl x.b)

set_option maxRecDepth 100000 in
set_option maxHeartbeats 2000000 in
theorem lyInstrs_any (W0 : World) (l : Nat) (s : Lay) (v : Value) (x : Option Addr) (len cap : Nat) (ls : List Ins) (w : World) (h : LyAt W0 l s v w) (hin : InsIn w x len cap ls) (hwf : wfL ls) :
    Calls Tryz.prog 104 #[.pointer (some ⟨l, 0, none⟩), .slice x len cap] w fun e w' => Does W0 l (instrsP s ls) w e w' := by
  have st0 := h
  have kp0 := KeepL.refl l w
  unfold instrsP
  have HT := Lib.hid (Put_any ls x len cap w hin hwf)
  have HB := Lib.hid (putV_byte ls)
  have HD : decide ((putV ls).2 = 0) = ((putV ls).2 == 0) := by by_cases q : (putV ls).2 = 0 <;> simp [q]
  rw [HD]
  clear hin hwf
  revert HT HB
  generalize (putV ls).1 = t
  generalize (putV ls).2 = f
  intro HT HB
  clear h 
  go_enter Tryz.func104, Tryz.ntmps104
  go_wp2_with (first | (go_at_call 126; refine (HT.out).mono ?_; rintro e w1 ⟨rfl, hb1⟩; have st1 := st0.next hb1; have kk1 := KeepL.of_below st0.lt hb1; have kp1 := kp0.trans kk1; clear st0 kp0) | (go_at_call 28; refine (lyNeed_any W0 l s _ (f == 0) _ st1).mono ?_; rintro e w2 ⟨rfl, ⟨v2, st2⟩, kk2⟩; have kp2 := kp1.trans kk2; clear st1 kp1) | (go_at_call 27; refine (lyPut_nums W0 l _ _ t _ st2 HB.out).mono ?_; rintro e w3 ⟨rfl, ⟨v3, st3⟩, kk3⟩; have kp3 := kp2.trans kk3; clear st2 kp2))
  first | exact bodyPost_void rfl rfl ⟨rfl, ⟨_, st3⟩, kp3⟩ | exact bodyPost_voidr rfl rfl ⟨rfl, ⟨_, st3⟩, kp3⟩
set_option maxRecDepth 100000 in
set_option maxHeartbeats 2000000 in
theorem lyConst_any (W0 : World) (l : Nat) (s : Lay) (v : Value) (c : Ins) (xn : Option Addr) (nc : Nat) (xl : Option Addr) (lc : Nat) (xe : Option Addr) (ec : Nat) (w : World) (h : LyAt W0 l s v w) (hc : InsV W0 c xn nc xl lc xe ec) (hwf : wfI c) :
    Calls Tryz.prog 91 #[.pointer (some ⟨l, 0, none⟩), .agg #[.int .i64 c.op, .int .i64 c.a, .int .i64 c.b, .int .i64 c.m, .slice xn c.n.length nc, .slice xl c.l.length lc, .slice xe c.e.length ec]] w fun e w' => Does W0 l (constP s c) w e w' := by
  have sta := h.alloc (.cells #[.int .i64 c.op, .int .i64 c.a, .int .i64 c.b, .int .i64 c.m, .slice xn c.n.length nc, .slice xl c.l.length lc, .slice xe c.e.length ec] 50)
  have st0 := sta.alloc (.cells #[.int .i64 c.op, .int .i64 c.a, .int .i64 c.b, .int .i64 c.m, .slice xn c.n.length nc, .slice xl c.l.length lc, .slice xe c.e.length ec] 50)
  have kp0 := (h.alloc_keep (.cells #[.int .i64 c.op, .int .i64 c.a, .int .i64 c.b, .int .i64 c.m, .slice xn c.n.length nc, .slice xl c.l.length lc, .slice xe c.e.length ec] 50)).trans (sta.alloc_keep (.cells #[.int .i64 c.op, .int .i64 c.a, .int .i64 c.b, .int .i64 c.m, .slice xn c.n.length nc, .slice xl c.l.length lc, .slice xe c.e.length ec] 50))
  have bk := BlkAt.new w #[.int .i64 c.op, .int .i64 c.a, .int .i64 c.b, .int .i64 c.m, .slice xn c.n.length nc, .slice xl c.l.length lc, .slice xe c.e.length ec] 50
  obtain ⟨c0, c1, c2, c3, c4, c5, c6⟩ := bk.seven'
  have hsz : (w.alloc (.cells #[.int .i64 c.op, .int .i64 c.a, .int .i64 c.b, .int .i64 c.m, .slice xn c.n.length nc, .slice xl c.l.length lc, .slice xe c.e.length ec] 50)).heap.size = w.heap.size + 1 := by simp
  have HI : InsIn ((w.alloc (.cells #[.int .i64 c.op, .int .i64 c.a, .int .i64 c.b, .int .i64 c.m, .slice xn c.n.length nc, .slice xl c.l.length lc, .slice xe c.e.length ec] 50)).alloc (.cells #[.int .i64 c.op, .int .i64 c.a, .int .i64 c.b, .int .i64 c.m, .slice xn c.n.length nc, .slice xl c.l.length lc, .slice xe c.e.length ec] 50)) (some ⟨w.heap.size + 1, 0, none⟩) 1 1 [c] := hc.lies st0.below (hsz ▸ BlkAt.new (w.alloc (.cells #[.int .i64 c.op, .int .i64 c.a, .int .i64 c.b, .int .i64 c.m, .slice xn c.n.length nc, .slice xl c.l.length lc, .slice xe c.e.length ec] 50)) #[.int .i64 c.op, .int .i64 c.a, .int .i64 c.b, .int .i64 c.m, .slice xn c.n.length nc, .slice xl c.l.length lc, .slice xe c.e.length ec] 50)
  have HH := Lib.hid HI
  have HW := Lib.hid (wfL_one hwf)
  unfold constP
  clear h hc hwf sta HI hsz
  go_enter Tryz.func91, Tryz.ntmps91
  go_wp2_with (go_at_call 104; refine (lyInstrs_any W0 l s _ _ _ _ [c] _ st0 HH.out HW.out).mono ?_; rintro e w1 ⟨rfl, ⟨v1, st1⟩, kk1⟩)
  exact bodyPost_void rfl rfl ⟨rfl, ⟨_, st1⟩, kp0.trans kk1⟩
set_option maxRecDepth 100000 in
set_option maxHeartbeats 2000000 in
theorem lyExport_any (W0 : World) (l : Nat) (s : Lay) (v : Value) (x : Exp) (w : World) (h : LyAt W0 l s v w) (hS : x.name.size ≤ maxLen) (hk : x.kind ≤ 9223372036854775807) (hi : x.i ≤ 9223372036854775807) :
    Calls Tryz.prog 41 #[.pointer (some ⟨l, 0, none⟩), .agg #[.string x.name, .int .i64 x.kind, .int .i64 x.i]] w fun e w' => Does W0 l (expP s x) w e w' := by
  have st0 := h.alloc (.cells #[.string x.name, .int .i64 x.kind, .int .i64 x.i] 95)
  have kp0 := h.alloc_keep (.cells #[.string x.name, .int .i64 x.kind, .int .i64 x.i] 95)
  have bx0 := h.own #[.string x.name, .int .i64 x.kind, .int .i64 x.i] 95
  obtain ⟨bxc0_0, bxc0_1, bxc0_2⟩ := bx0.blk.three
  unfold expP
  have HS := Lib.hid hS
  clear hS
  clear h 
  go_enter Tryz.func41, Tryz.ntmps41
  go_wp2_with (first | (go_at_call 81; refine (lyName_any W0 l s _ x.name _ st0 HS.out).mono ?_; rintro e w1 ⟨rfl, ⟨v1, st1⟩, kk1⟩; have kp1 := kp0.trans kk1; have bx1 := bx0.keep kk1; obtain ⟨bxc1_0, bxc1_1, bxc1_2⟩ := bx1.blk.three; clear st0 kp0) | (go_at_call 82; refine (lyKind_any W0 l _ _ x.kind _ st1 hk).mono ?_; rintro e w2 ⟨rfl, ⟨v2, st2⟩, kk2⟩; have kp2 := kp1.trans kk2; have bx2 := bx1.keep kk2; obtain ⟨bxc2_0, bxc2_1, bxc2_2⟩ := bx2.blk.three; clear st1 kp1) | (go_at_call 34; refine (lyIndex_any W0 l _ _ x.i _ st2 hi).mono ?_; rintro e w3 ⟨rfl, ⟨v3, st3⟩, kk3⟩; have kp3 := kp2.trans kk3; have bx3 := bx2.keep kk3; obtain ⟨bxc3_0, bxc3_1, bxc3_2⟩ := bx3.blk.three; clear st2 kp2))
  first | exact bodyPost_void rfl rfl ⟨rfl, ⟨_, st3⟩, kp3⟩ | exact bodyPost_voidr rfl rfl ⟨rfl, ⟨_, st3⟩, kp3⟩
set_option maxRecDepth 100000 in
set_option maxHeartbeats 2000000 in
theorem lyGlobal_any (W0 : World) (l : Nat) (s : Lay) (v : Value) (x : Glo) (xn : Option Addr) (nc : Nat) (xl : Option Addr) (lc : Nat) (xe : Option Addr) (ec : Nat) (w : World) (h : LyAt W0 l s v w) (hc : InsV W0 x.init xn nc xl lc xe ec) (hwf : wfI x.init) :
    Calls Tryz.prog 39 #[.pointer (some ⟨l, 0, none⟩), .agg #[.int .i64 x.t, .bool x.mu, .int .i64 x.init.op, .int .i64 x.init.a, .int .i64 x.init.b, .int .i64 x.init.m, .slice xn x.init.n.length nc, .slice xl x.init.l.length lc, .slice xe x.init.e.length ec]] w fun e w' => Does W0 l (gloP s x) w e w' := by
  have st0 := h.alloc (.cells #[.int .i64 x.t, .bool x.mu, .int .i64 x.init.op, .int .i64 x.init.a, .int .i64 x.init.b, .int .i64 x.init.m, .slice xn x.init.n.length nc, .slice xl x.init.l.length lc, .slice xe x.init.e.length ec] 68)
  have kp0 := h.alloc_keep (.cells #[.int .i64 x.t, .bool x.mu, .int .i64 x.init.op, .int .i64 x.init.a, .int .i64 x.init.b, .int .i64 x.init.m, .slice xn x.init.n.length nc, .slice xl x.init.l.length lc, .slice xe x.init.e.length ec] 68)
  have bx0 := h.own #[.int .i64 x.t, .bool x.mu, .int .i64 x.init.op, .int .i64 x.init.a, .int .i64 x.init.b, .int .i64 x.init.m, .slice xn x.init.n.length nc, .slice xl x.init.l.length lc, .slice xe x.init.e.length ec] 68
  obtain ⟨bxc0_0, bxc0_1, bxc0_2, bxc0_3, bxc0_4, bxc0_5, bxc0_6, bxc0_7, bxc0_8⟩ := bx0.blk.nine
  unfold gloP
  have HC := Lib.hid hc
  have HW := Lib.hid hwf
  clear hc hwf
  clear h 
  go_enter Tryz.func39, Tryz.ntmps39
  go_wp2_with (first | (go_at_call 78; refine (lyTyp_any W0 l s _ x.t _ st0).mono ?_; rintro e w1 ⟨rfl, ⟨v1, st1⟩, kk1⟩; have kp1 := kp0.trans kk1; have bx1 := bx0.keep kk1; obtain ⟨bxc1_0, bxc1_1, bxc1_2, bxc1_3, bxc1_4, bxc1_5, bxc1_6, bxc1_7, bxc1_8⟩ := bx1.blk.nine; clear st0 kp0) | (go_at_call 83; refine (lyYes_any W0 l _ _ x.mu _ st1).mono ?_; rintro e w2 ⟨rfl, ⟨v2, st2⟩, kk2⟩; have kp2 := kp1.trans kk2; have bx2 := bx1.keep kk2; obtain ⟨bxc2_0, bxc2_1, bxc2_2, bxc2_3, bxc2_4, bxc2_5, bxc2_6, bxc2_7, bxc2_8⟩ := bx2.blk.nine; clear st1 kp1) | (go_at_call 91; refine (lyConst_any W0 l _ _ x.init xn nc xl lc xe ec _ st2 HC.out HW.out).mono ?_; rintro e w3 ⟨rfl, ⟨v3, st3⟩, kk3⟩; have kp3 := kp2.trans kk3; have bx3 := bx2.keep kk3; obtain ⟨bxc3_0, bxc3_1, bxc3_2, bxc3_3, bxc3_4, bxc3_5, bxc3_6, bxc3_7, bxc3_8⟩ := bx3.blk.nine; clear st2 kp2))
  first | exact bodyPost_void rfl rfl ⟨rfl, ⟨_, st3⟩, kp3⟩ | exact bodyPost_voidr rfl rfl ⟨rfl, ⟨_, st3⟩, kp3⟩
set_option maxRecDepth 100000 in
set_option maxHeartbeats 2000000 in
theorem lyData_any (W0 : World) (l : Nat) (s : Lay) (v : Value) (x : Dat) (xn : Option Addr) (nc : Nat) (xl : Option Addr) (lc : Nat) (xe : Option Addr) (ec : Nat) (w : World) (h : LyAt W0 l s v w) (hc : InsV W0 x.off xn nc xl lc xe ec) (hwf : wfI x.off) (hS : x.b.size ≤ maxLen) (hm : x.mem ≤ 9223372036854775807) :
    Calls Tryz.prog 48 #[.pointer (some ⟨l, 0, none⟩), .agg #[.int .i64 x.mem, .int .i64 x.off.op, .int .i64 x.off.a, .int .i64 x.off.b, .int .i64 x.off.m, .slice xn x.off.n.length nc, .slice xl x.off.l.length lc, .slice xe x.off.e.length ec, .string x.b]] w fun e w' => Does W0 l (datP s x) w e w' := by
  have st0 := h.alloc (.cells #[.int .i64 x.mem, .int .i64 x.off.op, .int .i64 x.off.a, .int .i64 x.off.b, .int .i64 x.off.m, .slice xn x.off.n.length nc, .slice xl x.off.l.length lc, .slice xe x.off.e.length ec, .string x.b] 52)
  have kp0 := h.alloc_keep (.cells #[.int .i64 x.mem, .int .i64 x.off.op, .int .i64 x.off.a, .int .i64 x.off.b, .int .i64 x.off.m, .slice xn x.off.n.length nc, .slice xl x.off.l.length lc, .slice xe x.off.e.length ec, .string x.b] 52)
  have bx0 := h.own #[.int .i64 x.mem, .int .i64 x.off.op, .int .i64 x.off.a, .int .i64 x.off.b, .int .i64 x.off.m, .slice xn x.off.n.length nc, .slice xl x.off.l.length lc, .slice xe x.off.e.length ec, .string x.b] 52
  obtain ⟨bxc0_0, bxc0_1, bxc0_2, bxc0_3, bxc0_4, bxc0_5, bxc0_6, bxc0_7, bxc0_8⟩ := bx0.blk.nine
  unfold datP
  have HC := Lib.hid hc
  have HW := Lib.hid hwf
  have HS := Lib.hid hS
  clear hc hwf hS
  clear h 
  go_enter Tryz.func48, Tryz.ntmps48
  go_wp2_with (first | (go_at_call 97; refine (lyWhere_any W0 l s _ x.mem _ st0 hm).mono ?_; rintro e w1 ⟨rfl, ⟨v1, st1⟩, kk1⟩; have kp1 := kp0.trans kk1; have bx1 := bx0.keep kk1; obtain ⟨bxc1_0, bxc1_1, bxc1_2, bxc1_3, bxc1_4, bxc1_5, bxc1_6, bxc1_7, bxc1_8⟩ := bx1.blk.nine; clear st0 kp0) | (go_at_call 91; refine (lyConst_any W0 l _ _ x.off xn nc xl lc xe ec _ st1 HC.out HW.out).mono ?_; rintro e w2 ⟨rfl, ⟨v2, st2⟩, kk2⟩; have kp2 := kp1.trans kk2; have bx2 := bx1.keep kk2; obtain ⟨bxc2_0, bxc2_1, bxc2_2, bxc2_3, bxc2_4, bxc2_5, bxc2_6, bxc2_7, bxc2_8⟩ := bx2.blk.nine; clear st1 kp1) | (go_at_call 107; refine (lyBytes_any W0 l _ _ x.b _ st2 HS.out).mono ?_; rintro e w3 ⟨rfl, ⟨v3, st3⟩, kk3⟩; have kp3 := kp2.trans kk3; have bx3 := bx2.keep kk3; obtain ⟨bxc3_0, bxc3_1, bxc3_2, bxc3_3, bxc3_4, bxc3_5, bxc3_6, bxc3_7, bxc3_8⟩ := bx3.blk.nine; clear st2 kp2))
  first | exact bodyPost_void rfl rfl ⟨rfl, ⟨_, st3⟩, kp3⟩ | exact bodyPost_voidr rfl rfl ⟨rfl, ⟨_, st3⟩, kp3⟩
set_option maxRecDepth 100000 in
set_option maxHeartbeats 2000000 in
theorem onlyOwn_any (x : Imp) (w : World) :
    Calls Tryz.prog 84 #[.agg #[.string x.mod, .string x.name, .int .i64 x.kind, .int .i64 x.t, .bool x.mu, .int .i64 x.mn, .int .i64 x.mx]] w fun e w' => e = .returned (.bool (ownB x)) ∧ Below w.heap.size w w' := by
  obtain ⟨c0, c1, c2, c3, c4, c5, c6⟩ := (BlkAt.new w #[.string x.mod, .string x.name, .int .i64 x.kind, .int .i64 x.t, .bool x.mu, .int .i64 x.mn, .int .i64 x.mx] 85).seven'
  obtain ⟨mod, name, kind, t, mu, mn, mx⟩ := x
  unfold ownB
  simp only at *
  by_cases h0 : kind = 0
  · subst h0
    rw [if_pos rfl]
    cases mu
    all_goals
      go_enter Tryz.func84, Tryz.ntmps84
      go_wp2_with fail
      all_goals
        go_ret
        refine ⟨?_, (Below.refl _ _).alloc (Nat.le_refl _) _⟩
        simp_all
  rw [if_neg h0]
  have k0 := eq_no h0
  clear h0
  by_cases h3 : kind = 3
  · subst h3
    rw [if_pos rfl]
    clear k0
    go_enter Tryz.func84, Tryz.ntmps84
    go_wp2_with fail
    all_goals
      go_ret
      refine ⟨?_, (Below.refl _ _).alloc (Nat.le_refl _) _⟩
      simp_all
  · rw [if_neg h3]
    have k3 := eq_no h3
    clear h3
    cases mu
    all_goals
      go_enter Tryz.func84, Tryz.ntmps84
      go_wp2_with fail
      all_goals
        go_ret
        refine ⟨?_, (Below.refl _ _).alloc (Nat.le_refl _) _⟩
        simp_all
set_option maxRecDepth 100000 in
set_option maxHeartbeats 2000000 in
theorem lyImport_any (W0 : World) (l : Nat) (s : Lay) (v : Value) (x : Imp) (w : World) (h : LyAt W0 l s v w) (hS1 : x.mod.size ≤ maxLen) (hS2 : x.name.size ≤ maxLen) (hk : x.kind ≤ 9223372036854775807) (ht : x.t ≤ 9223372036854775807) (hmn : x.mn ≤ 9223372036854775807) (hmx : x.mx ≤ 9223372036854775807) :
    Calls Tryz.prog 32 #[.pointer (some ⟨l, 0, none⟩), .agg #[.string x.mod, .string x.name, .int .i64 x.kind, .int .i64 x.t, .bool x.mu, .int .i64 x.mn, .int .i64 x.mx]] w fun e w' => Does W0 l (impP s x) w e w' := by
  have st0 := h.alloc (.cells #[.string x.mod, .string x.name, .int .i64 x.kind, .int .i64 x.t, .bool x.mu, .int .i64 x.mn, .int .i64 x.mx] 85)
  have kp0 := h.alloc_keep (.cells #[.string x.mod, .string x.name, .int .i64 x.kind, .int .i64 x.t, .bool x.mu, .int .i64 x.mn, .int .i64 x.mx] 85)
  have bx0 := h.own #[.string x.mod, .string x.name, .int .i64 x.kind, .int .i64 x.t, .bool x.mu, .int .i64 x.mn, .int .i64 x.mx] 85
  obtain ⟨bxc0_0, bxc0_1, bxc0_2, bxc0_3, bxc0_4, bxc0_5, bxc0_6⟩ := bx0.blk.seven'
  unfold impP impK
  have HS1 := Lib.hid hS1
  have HS2 := Lib.hid hS2
  by_cases h0 : x.kind = 0
  ·
    rw [if_pos h0]
    have k0 : (x.kind == 0) = true := by simpa using h0
    clear h0
    clear hS1 hS2
    clear h 
    go_enter Tryz.func32, Tryz.ntmps32
    go_wp2_with (first | (go_at_call 81; refine (lyName_any W0 l s _ x.mod _ st0 HS1.out).mono ?_; rintro e w1 ⟨rfl, ⟨v1, st1⟩, kk1⟩; have kp1 := kp0.trans kk1; have bx1 := bx0.keep kk1; obtain ⟨bxc1_0, bxc1_1, bxc1_2, bxc1_3, bxc1_4, bxc1_5, bxc1_6⟩ := bx1.blk.seven'; clear st0 kp0) | (go_at_call 81; refine (lyName_any W0 l _ _ x.name _ st1 HS2.out).mono ?_; rintro e w2 ⟨rfl, ⟨v2, st2⟩, kk2⟩; have kp2 := kp1.trans kk2; have bx2 := bx1.keep kk2; obtain ⟨bxc2_0, bxc2_1, bxc2_2, bxc2_3, bxc2_4, bxc2_5, bxc2_6⟩ := bx2.blk.seven'; clear st1 kp1) | (go_at_call 82; refine (lyKind_any W0 l _ _ x.kind _ st2 hk).mono ?_; rintro e w3 ⟨rfl, ⟨v3, st3⟩, kk3⟩; have kp3 := kp2.trans kk3; have bx3 := bx2.keep kk3; obtain ⟨bxc3_0, bxc3_1, bxc3_2, bxc3_3, bxc3_4, bxc3_5, bxc3_6⟩ := bx3.blk.seven'; clear st2 kp2) | (go_at_call 34; refine (lyIndex_any W0 l _ _ x.t _ st3 ht).mono ?_; rintro e w4 ⟨rfl, ⟨v4, st4⟩, kk4⟩; have kp4 := kp3.trans kk4; have bx4 := bx3.keep kk4; obtain ⟨bxc4_0, bxc4_1, bxc4_2, bxc4_3, bxc4_4, bxc4_5, bxc4_6⟩ := bx4.blk.seven'; clear st3 kp3) | (go_at_call 84; refine (onlyOwn_any x _).mono ?_; rintro e w5 ⟨rfl, hb5⟩; have st5 := st4.next hb5; have kk5 := KeepL.of_below st4.lt hb5; have kp5 := kp4.trans kk5; have bx5 := bx4.keep kk5; obtain ⟨bxc5_0, bxc5_1, bxc5_2, bxc5_3, bxc5_4, bxc5_5, bxc5_6⟩ := bx5.blk.seven'; clear st4 kp4) | (go_at_call 28; refine (lyNeed_any W0 l _ _ (ownB x) _ st5).mono ?_; rintro e w6 ⟨rfl, ⟨v6, st6⟩, kk6⟩; have kp6 := kp5.trans kk6; have bx6 := bx5.keep kk6; obtain ⟨bxc6_0, bxc6_1, bxc6_2, bxc6_3, bxc6_4, bxc6_5, bxc6_6⟩ := bx6.blk.seven'; clear st5 kp5))
    first | exact bodyPost_void rfl rfl ⟨rfl, ⟨_, st6⟩, kp6⟩ | exact bodyPost_voidr rfl rfl ⟨rfl, ⟨_, st6⟩, kp6⟩
  rw [if_neg h0]
  have k0 := eq_no h0
  clear h0
  by_cases h1 : x.kind = 1
  ·
    rw [if_pos h1]
    have k1 : (x.kind == 1) = true := by simpa using h1
    clear h1
    clear hS1 hS2
    clear h 
    go_enter Tryz.func32, Tryz.ntmps32
    go_wp2_with (first | (go_at_call 81; refine (lyName_any W0 l s _ x.mod _ st0 HS1.out).mono ?_; rintro e w1 ⟨rfl, ⟨v1, st1⟩, kk1⟩; have kp1 := kp0.trans kk1; have bx1 := bx0.keep kk1; obtain ⟨bxc1_0, bxc1_1, bxc1_2, bxc1_3, bxc1_4, bxc1_5, bxc1_6⟩ := bx1.blk.seven'; clear st0 kp0) | (go_at_call 81; refine (lyName_any W0 l _ _ x.name _ st1 HS2.out).mono ?_; rintro e w2 ⟨rfl, ⟨v2, st2⟩, kk2⟩; have kp2 := kp1.trans kk2; have bx2 := bx1.keep kk2; obtain ⟨bxc2_0, bxc2_1, bxc2_2, bxc2_3, bxc2_4, bxc2_5, bxc2_6⟩ := bx2.blk.seven'; clear st1 kp1) | (go_at_call 82; refine (lyKind_any W0 l _ _ x.kind _ st2 hk).mono ?_; rintro e w3 ⟨rfl, ⟨v3, st3⟩, kk3⟩; have kp3 := kp2.trans kk3; have bx3 := bx2.keep kk3; obtain ⟨bxc3_0, bxc3_1, bxc3_2, bxc3_3, bxc3_4, bxc3_5, bxc3_6⟩ := bx3.blk.seven'; clear st2 kp2) | (go_at_call 36; refine (lyTable_any W0 l _ _ x.mn x.mx _ st3 hmn hmx).mono ?_; rintro e w4 ⟨rfl, ⟨v4, st4⟩, kk4⟩; have kp4 := kp3.trans kk4; have bx4 := bx3.keep kk4; obtain ⟨bxc4_0, bxc4_1, bxc4_2, bxc4_3, bxc4_4, bxc4_5, bxc4_6⟩ := bx4.blk.seven'; clear st3 kp3) | (go_at_call 84; refine (onlyOwn_any x _).mono ?_; rintro e w5 ⟨rfl, hb5⟩; have st5 := st4.next hb5; have kk5 := KeepL.of_below st4.lt hb5; have kp5 := kp4.trans kk5; have bx5 := bx4.keep kk5; obtain ⟨bxc5_0, bxc5_1, bxc5_2, bxc5_3, bxc5_4, bxc5_5, bxc5_6⟩ := bx5.blk.seven'; clear st4 kp4) | (go_at_call 28; refine (lyNeed_any W0 l _ _ (ownB x) _ st5).mono ?_; rintro e w6 ⟨rfl, ⟨v6, st6⟩, kk6⟩; have kp6 := kp5.trans kk6; have bx6 := bx5.keep kk6; obtain ⟨bxc6_0, bxc6_1, bxc6_2, bxc6_3, bxc6_4, bxc6_5, bxc6_6⟩ := bx6.blk.seven'; clear st5 kp5))
    first | exact bodyPost_void rfl rfl ⟨rfl, ⟨_, st6⟩, kp6⟩ | exact bodyPost_voidr rfl rfl ⟨rfl, ⟨_, st6⟩, kp6⟩
  rw [if_neg h1]
  have k1 := eq_no h1
  clear h1
  by_cases h2 : x.kind = 2
  ·
    rw [if_pos h2]
    have k2 : (x.kind == 2) = true := by simpa using h2
    clear h2
    clear hS1 hS2
    clear h 
    go_enter Tryz.func32, Tryz.ntmps32
    go_wp2_with (first | (go_at_call 81; refine (lyName_any W0 l s _ x.mod _ st0 HS1.out).mono ?_; rintro e w1 ⟨rfl, ⟨v1, st1⟩, kk1⟩; have kp1 := kp0.trans kk1; have bx1 := bx0.keep kk1; obtain ⟨bxc1_0, bxc1_1, bxc1_2, bxc1_3, bxc1_4, bxc1_5, bxc1_6⟩ := bx1.blk.seven'; clear st0 kp0) | (go_at_call 81; refine (lyName_any W0 l _ _ x.name _ st1 HS2.out).mono ?_; rintro e w2 ⟨rfl, ⟨v2, st2⟩, kk2⟩; have kp2 := kp1.trans kk2; have bx2 := bx1.keep kk2; obtain ⟨bxc2_0, bxc2_1, bxc2_2, bxc2_3, bxc2_4, bxc2_5, bxc2_6⟩ := bx2.blk.seven'; clear st1 kp1) | (go_at_call 82; refine (lyKind_any W0 l _ _ x.kind _ st2 hk).mono ?_; rintro e w3 ⟨rfl, ⟨v3, st3⟩, kk3⟩; have kp3 := kp2.trans kk3; have bx3 := bx2.keep kk3; obtain ⟨bxc3_0, bxc3_1, bxc3_2, bxc3_3, bxc3_4, bxc3_5, bxc3_6⟩ := bx3.blk.seven'; clear st2 kp2) | (go_at_call 37; refine (lyLimits_any W0 l _ _ x.mn x.mx _ st3 hmn hmx).mono ?_; rintro e w4 ⟨rfl, ⟨v4, st4⟩, kk4⟩; have kp4 := kp3.trans kk4; have bx4 := bx3.keep kk4; obtain ⟨bxc4_0, bxc4_1, bxc4_2, bxc4_3, bxc4_4, bxc4_5, bxc4_6⟩ := bx4.blk.seven'; clear st3 kp3) | (go_at_call 84; refine (onlyOwn_any x _).mono ?_; rintro e w5 ⟨rfl, hb5⟩; have st5 := st4.next hb5; have kk5 := KeepL.of_below st4.lt hb5; have kp5 := kp4.trans kk5; have bx5 := bx4.keep kk5; obtain ⟨bxc5_0, bxc5_1, bxc5_2, bxc5_3, bxc5_4, bxc5_5, bxc5_6⟩ := bx5.blk.seven'; clear st4 kp4) | (go_at_call 28; refine (lyNeed_any W0 l _ _ (ownB x) _ st5).mono ?_; rintro e w6 ⟨rfl, ⟨v6, st6⟩, kk6⟩; have kp6 := kp5.trans kk6; have bx6 := bx5.keep kk6; obtain ⟨bxc6_0, bxc6_1, bxc6_2, bxc6_3, bxc6_4, bxc6_5, bxc6_6⟩ := bx6.blk.seven'; clear st5 kp5))
    first | exact bodyPost_void rfl rfl ⟨rfl, ⟨_, st6⟩, kp6⟩ | exact bodyPost_voidr rfl rfl ⟨rfl, ⟨_, st6⟩, kp6⟩
  rw [if_neg h2]
  have k2 := eq_no h2
  clear h2
  by_cases h3 : x.kind = 3
  ·
    rw [if_pos h3]
    have k3 : (x.kind == 3) = true := by simpa using h3
    clear h3
    clear hS1 hS2
    clear h 
    go_enter Tryz.func32, Tryz.ntmps32
    go_wp2_with (first | (go_at_call 81; refine (lyName_any W0 l s _ x.mod _ st0 HS1.out).mono ?_; rintro e w1 ⟨rfl, ⟨v1, st1⟩, kk1⟩; have kp1 := kp0.trans kk1; have bx1 := bx0.keep kk1; obtain ⟨bxc1_0, bxc1_1, bxc1_2, bxc1_3, bxc1_4, bxc1_5, bxc1_6⟩ := bx1.blk.seven'; clear st0 kp0) | (go_at_call 81; refine (lyName_any W0 l _ _ x.name _ st1 HS2.out).mono ?_; rintro e w2 ⟨rfl, ⟨v2, st2⟩, kk2⟩; have kp2 := kp1.trans kk2; have bx2 := bx1.keep kk2; obtain ⟨bxc2_0, bxc2_1, bxc2_2, bxc2_3, bxc2_4, bxc2_5, bxc2_6⟩ := bx2.blk.seven'; clear st1 kp1) | (go_at_call 82; refine (lyKind_any W0 l _ _ x.kind _ st2 hk).mono ?_; rintro e w3 ⟨rfl, ⟨v3, st3⟩, kk3⟩; have kp3 := kp2.trans kk3; have bx3 := bx2.keep kk3; obtain ⟨bxc3_0, bxc3_1, bxc3_2, bxc3_3, bxc3_4, bxc3_5, bxc3_6⟩ := bx3.blk.seven'; clear st2 kp2) | (go_at_call 78; refine (lyTyp_any W0 l _ _ x.t _ st3).mono ?_; rintro e w4 ⟨rfl, ⟨v4, st4⟩, kk4⟩; have kp4 := kp3.trans kk4; have bx4 := bx3.keep kk4; obtain ⟨bxc4_0, bxc4_1, bxc4_2, bxc4_3, bxc4_4, bxc4_5, bxc4_6⟩ := bx4.blk.seven'; clear st3 kp3) | (go_at_call 83; refine (lyYes_any W0 l _ _ x.mu _ st4).mono ?_; rintro e w5 ⟨rfl, ⟨v5, st5⟩, kk5⟩; have kp5 := kp4.trans kk5; have bx5 := bx4.keep kk5; obtain ⟨bxc5_0, bxc5_1, bxc5_2, bxc5_3, bxc5_4, bxc5_5, bxc5_6⟩ := bx5.blk.seven'; clear st4 kp4) | (go_at_call 84; refine (onlyOwn_any x _).mono ?_; rintro e w6 ⟨rfl, hb6⟩; have st6 := st5.next hb6; have kk6 := KeepL.of_below st5.lt hb6; have kp6 := kp5.trans kk6; have bx6 := bx5.keep kk6; obtain ⟨bxc6_0, bxc6_1, bxc6_2, bxc6_3, bxc6_4, bxc6_5, bxc6_6⟩ := bx6.blk.seven'; clear st5 kp5) | (go_at_call 28; refine (lyNeed_any W0 l _ _ (ownB x) _ st6).mono ?_; rintro e w7 ⟨rfl, ⟨v7, st7⟩, kk7⟩; have kp7 := kp6.trans kk7; have bx7 := bx6.keep kk7; obtain ⟨bxc7_0, bxc7_1, bxc7_2, bxc7_3, bxc7_4, bxc7_5, bxc7_6⟩ := bx7.blk.seven'; clear st6 kp6))
    first | exact bodyPost_void rfl rfl ⟨rfl, ⟨_, st7⟩, kp7⟩ | exact bodyPost_voidr rfl rfl ⟨rfl, ⟨_, st7⟩, kp7⟩
  rw [if_neg h3]
  have k3 := eq_no h3
  clear h3
  ·
    clear hS1 hS2
    clear h 
    go_enter Tryz.func32, Tryz.ntmps32
    go_wp2_with (first | (go_at_call 81; refine (lyName_any W0 l s _ x.mod _ st0 HS1.out).mono ?_; rintro e w1 ⟨rfl, ⟨v1, st1⟩, kk1⟩; have kp1 := kp0.trans kk1; have bx1 := bx0.keep kk1; obtain ⟨bxc1_0, bxc1_1, bxc1_2, bxc1_3, bxc1_4, bxc1_5, bxc1_6⟩ := bx1.blk.seven'; clear st0 kp0) | (go_at_call 81; refine (lyName_any W0 l _ _ x.name _ st1 HS2.out).mono ?_; rintro e w2 ⟨rfl, ⟨v2, st2⟩, kk2⟩; have kp2 := kp1.trans kk2; have bx2 := bx1.keep kk2; obtain ⟨bxc2_0, bxc2_1, bxc2_2, bxc2_3, bxc2_4, bxc2_5, bxc2_6⟩ := bx2.blk.seven'; clear st1 kp1) | (go_at_call 82; refine (lyKind_any W0 l _ _ x.kind _ st2 hk).mono ?_; rintro e w3 ⟨rfl, ⟨v3, st3⟩, kk3⟩; have kp3 := kp2.trans kk3; have bx3 := bx2.keep kk3; obtain ⟨bxc3_0, bxc3_1, bxc3_2, bxc3_3, bxc3_4, bxc3_5, bxc3_6⟩ := bx3.blk.seven'; clear st2 kp2) | (go_at_call 84; refine (onlyOwn_any x _).mono ?_; rintro e w4 ⟨rfl, hb4⟩; have st4 := st3.next hb4; have kk4 := KeepL.of_below st3.lt hb4; have kp4 := kp3.trans kk4; have bx4 := bx3.keep kk4; obtain ⟨bxc4_0, bxc4_1, bxc4_2, bxc4_3, bxc4_4, bxc4_5, bxc4_6⟩ := bx4.blk.seven'; clear st3 kp3) | (go_at_call 28; refine (lyNeed_any W0 l _ _ (ownB x) _ st4).mono ?_; rintro e w5 ⟨rfl, ⟨v5, st5⟩, kk5⟩; have kp5 := kp4.trans kk5; have bx5 := bx4.keep kk5; obtain ⟨bxc5_0, bxc5_1, bxc5_2, bxc5_3, bxc5_4, bxc5_5, bxc5_6⟩ := bx5.blk.seven'; clear st4 kp4))
    first | exact bodyPost_void rfl rfl ⟨rfl, ⟨_, st5⟩, kp5⟩ | exact bodyPost_voidr rfl rfl ⟨rfl, ⟨_, st5⟩, kp5⟩
end Go.Proofs.YtekonefnniaheaaGreat
