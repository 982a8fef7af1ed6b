/- handles: what is lent can be neither dropped nor taken until the call ends. -/
import Derived.Test.YtjdkhhkjnnbpoaaHeD
set_option linter.unusedVariables false
set_option linter.unusedSimpArgs false
namespace Go.Proofs.Ytjdkhhkjnnbpoaa
open Go.RowKit

theorem i64_mask (n m : Int) (k : Nat) (hk : k ≤ 62) (hm : (BitVec.ofInt 64 m).toNat = 2 ^ k - 1) : bits .and .i64 n m = n % 2 ^ k := by
  have key : (BitVec.ofInt 64 n &&& BitVec.ofInt 64 m).toNat = (n % ((2 ^ 64 : Nat) : Int)).toNat % 2 ^ k := by
    rw [BitVec.toNat_and, BitVec.toNat_ofInt, hm, Nat.and_two_pow_sub_one_eq_mod]
  show IntKind.i64.wrap ((BitVec.ofInt 64 n &&& BitVec.ofInt 64 m).toNat : Nat) = n % 2 ^ k
  rw [key, IntKind.wrap_i64]
  have h2 : (2 : Nat) ^ k ∣ 2 ^ 64 := Nat.pow_dvd_pow 2 (by omega)
  have hlt : (n % ((2 ^ 64 : Nat) : Int)).toNat % 2 ^ k < 2 ^ 62 := Nat.lt_of_lt_of_le (Nat.mod_lt _ (Nat.two_pow_pos k)) (Nat.pow_le_pow_right (by omega) hk)
  have e : (((n % ((2 ^ 64 : Nat) : Int)).toNat % 2 ^ k : Nat) : Int) = n % 2 ^ k := by
    rw [Int.natCast_emod, Int.toNat_of_nonneg (Int.emod_nonneg _ (by decide))]
    have := Int.emod_emod_of_dvd n (m := ((2 ^ k : Nat) : Int)) (k := ((2 ^ 64 : Nat) : Int)) (Int.natCast_dvd_natCast.2 h2)
    rw [this]
    simp
  omega
theorem low32 (x : Int) : ∃ q, bits BinOp.and .i64 x 4294967295 = q ∧ 0 ≤ q ∧ q ≤ 4294967295 := by
  refine ⟨x % 4294967296, i64_mask x 4294967295 32 (by decide) (by decide), by omega, by omega⟩
/-- How many calls are under way, out of the world. -/
def clN (a : Nat) (w : World) : Nat := match w.cell? ⟨a, 2, none⟩ with | some (.slice _ n _) => n | _ => 0
theorem St.clN {B a N : Nat} {w : World} {S : Tb} (h : St B a w S N) : clN a w = S.cl.length := by
  obtain ⟨H, h1⟩ := h.at'
  obtain ⟨ca, cc, _, c2, _⟩ := h1.row
  unfold Go.Proofs.Ytjdkhhkjnnbpoaa.clN
  rw [c2]
theorem leave_cases {S : Tb} (h : S.cl.length ≠ 0) : leaveS S = (18, S) ∨ ∃ S', leaveS S = (0, S') ∧ S'.cl.length + 1 = S.cl.length := by
  unfold leaveS
  rw [if_neg h]
  split
  · exact .inl rfl
  · refine .inr ⟨_, rfl, ?_⟩
    dsimp only
    rw [List.length_take]
    omega
theorem Two.left {B a N M : Nat} {w w' : World} {S S' : Tb} (h : Two B a w S N) (e : leaveS S = (0, S')) (hs : St B a w' S' M) : Two B a w' S' M := by
  refine ⟨hs, ?_, ?_⟩
  · have := leaveS_ms S
    rw [e] at this
    exact this.trans h.ms
  · have := leaveS_tl S
    rw [e] at this
    exact this.trans h.tl
theorem St.leaveE {B a N : Nat} {w : World} {S S' : Tb} {t : Int} (h : St B a w S N) (e : leaveS S = (t, S')) : Calls Try.prog 25 #[.pointer (some ⟨a, 0, none⟩)] w fun e w' => e = .returned (.int .i64 t) ∧ St B a w' S' N ∧ Below B w w' := by
  have := h.leave
  rw [e] at this
  exact this
theorem St.makeE {B a N : Nat} {w : World} {S : Tb} {i r hh n t : Int} {S' : Tb} (h : St B a w S N) (e : makeS S i r hh = (n, t, S')) : Calls Try.prog 26 #[.pointer (some ⟨a, 0, none⟩), .int .i64 i, .int .i64 r, .int .i64 hh] w fun e w' => e = .returned (.tuple #[.int .i64 n, .int .i64 t]) ∧ St B a w' S' N ∧ Below B w w' := by
  have := h.make i r hh
  rw [e] at this
  exact this
theorem St.lendE {B a N : Nat} {w : World} {S : Tb} {i r hh n t : Int} {S' : Tb} (h : St B a w S N) (hN : N < 100000) (hw : wf64 hh) (e : lendS S i r hh = (n, t, S')) : Calls Try.prog 28 #[.pointer (some ⟨a, 0, none⟩), .int .i64 i, .int .i64 r, .int .i64 hh] w fun e w' => e = .returned (.tuple #[.int .i64 n, .int .i64 t]) ∧ St B a w' S' (N + 1) ∧ Below B w w' := by
  have := h.lend hN i r hh hw
  rw [e] at this
  exact this
theorem St.dropE {B a N : Nat} {w : World} {S : Tb} {i r hh n t : Int} {o : Bool} {S' : Tb} (h : St B a w S N) (hw : wf64 hh) (e : dropS S i r hh = (n, o, t, S')) : Calls Try.prog 29 #[.pointer (some ⟨a, 0, none⟩), .int .i64 i, .int .i64 r, .int .i64 hh] w fun e w' => e = .returned (.tuple #[.int .i64 n, .bool o, .int .i64 t]) ∧ St B a w' S' N ∧ Below B w w' := by
  have := h.drop i r hh hw
  rw [e] at this
  exact this
theorem St.takeE {B a N : Nat} {w : World} {S : Tb} {i r hh n t : Int} {S' : Tb} (h : St B a w S N) (hw : wf64 hh) (e : takeS S i r hh = (n, t, S')) : Calls Try.prog 30 #[.pointer (some ⟨a, 0, none⟩), .int .i64 i, .int .i64 r, .int .i64 hh] w fun e w' => e = .returned (.tuple #[.int .i64 n, .int .i64 t]) ∧ St B a w' S' N ∧ Below B w w' := by
  have := h.take i r hh hw
  rw [e] at this
  exact this
theorem St.repE {B a N : Nat} {w : World} {S : Tb} {i r hh n t : Int} (h : St B a w S N) (hw : wf64 hh) (e : repS S i r hh = (n, t)) : Calls Try.prog 23 #[.pointer (some ⟨a, 0, none⟩), .int .i64 i, .int .i64 r, .int .i64 hh] w fun e w' => e = .returned (.tuple #[.int .i64 n, .int .i64 t]) ∧ St B a w' S N ∧ Below B w w' := by
  have := h.rep i r hh hw
  rw [e] at this
  exact this
theorem St.borrowE {B a N : Nat} {w : World} {S : Tb} {i r hh n t : Int} {S' : Tb} (h : St B a w S N) (e : borrowS S i r hh = (n, t, S')) : Calls Try.prog 31 #[.pointer (some ⟨a, 0, none⟩), .int .i64 i, .int .i64 r, .int .i64 hh] w fun e w' => e = .returned (.tuple #[.int .i64 n, .int .i64 t]) ∧ St B a w' S' N ∧ Below B w w' := by
  have := h.borrow i r hh
  rw [e] at this
  exact this
theorem St.enterE {B a N : Nat} {w : World} {S : Tb} {i t : Int} {S' : Tb} (h : St B a w S N) (e : enterS S i = (t, S')) : Calls Try.prog 27 #[.pointer (some ⟨a, 0, none⟩), .int .i64 i] w fun e w' => e = .returned (.int .i64 t) ∧ St B a w' S' N ∧ Below B w w' := by
  have := h.enter i
  rw [e] at this
  exact this
set_option maxRecDepth 100000 in
set_option maxHeartbeats 8000000 in
theorem HandlesLent_walk (x : Option Addr) (len cap : Nat) (ds : List Dh) (rep : Int) (w : World) (hd : DhIn w x len cap ds) :
    Calls Try.prog 7 #[.slice x len cap, .int .i64 rep] w fun e w' => e = .returned (.bool true) ∧ Below w.heap.size w w' := by
  have HM := made x len cap ds w hd
  obtain ⟨q, hq, hq0, hq1⟩ := low32 rep
  have HQ0 := Lib.hid hq0
  have HQ1 := Lib.hid hq1
  clear hd hq0 hq1
  go_enter Try.func7, Try.ntmps7
  go_wp2_with (go_at_call 19; refine HM.mono ?_; rintro e w1 ⟨a, S, rfl, t1, b1⟩; have T1 := Lib.hid t1; have B1 := Lib.hid b1; clear t1 b1)
  clear HM
  go_loopw [] (fun wr => ∃ S, Hid (Two w.heap.size a wr S 150 ∧ Below w.heap.size w wr)) (fun wr => clN a wr)
  case atStart => exact ⟨S, Lib.hid ⟨T1.out, B1.out⟩⟩
  case round =>
    clear T1 B1
    obtain ⟨S, HR⟩ := hrel
    by_cases hz : S.cl.length = 0
    · have hcl : S.cl = [] := List.eq_nil_of_length_eq_zero hz
      have hlen : Hid ((callsS S).length = 0) := Lib.hid (by simpa using hz)
      rcases lent_facts HR.out.1.st.ok HR.out.1.ms HR.out.1.tl hcl HQ0.out HQ1.out with e | ⟨h, S1, S2, S3, S4, S5, S6, hw, e1, e2, e3, e4, e5, e6, e7, e8⟩
      · have E := Lib.hid e
        clear hz hcl e
        go_wp2_with (first
          | (go_at_call 24; refine (HR.out.1.st.callsT).mono ?_; rintro e w2 ⟨v, rfl, hv, t2, b2⟩; obtain ⟨va, vc, rfl⟩ := ints_slice hv; rw [hlen.out]; have T2 := Lib.hid t2; have B2 := Lib.hid (HR.out.2.trans (b2.mono HR.out.2.size)); clear hv t2 b2)
          | (go_at_call 26; refine (T2.out.makeE E.out).mono ?_; rintro e w3 ⟨rfl, t3, b3⟩; have B3 := Lib.hid (B2.out.trans b3); clear t3 b3)
          | (go_at_call 12; refine (awake16 _).mono ?_; rintro e w9 ⟨rfl, b9⟩; have B9 := Lib.hid (B3.out.trans (b9.mono B3.out.size)); clear b9))
        go_ret
        exact ⟨rfl, B9.out⟩
      · have E := Lib.hid (And.intro hw (And.intro e1 (And.intro e2 (And.intro e3 (And.intro e4 (And.intro e5 (And.intro e6 (And.intro e7 e8))))))))
        clear hz hcl hw e1 e2 e3 e4 e5 e6 e7 e8
        go_wp2_with (first
          | (go_at_call 24; refine (HR.out.1.st.callsT).mono ?_; rintro e w2 ⟨v, rfl, hv, t2, b2⟩; obtain ⟨va, vc, rfl⟩ := ints_slice hv; rw [hlen.out]; have T2 := Lib.hid t2; have B2 := Lib.hid (HR.out.2.trans (b2.mono HR.out.2.size)); clear hv t2 b2)
          | (go_at_call 30; refine (T9.out.takeE E.out.1 E.out.2.2.2.2.2.2.2.2).mono ?_; rintro e w10 ⟨rfl, t10, b10⟩; have T10 := Lib.hid t10; have B10 := Lib.hid (B9.out.trans b10); clear t10 b10 T9)
          | (go_at_call 25; refine (T8.out.leaveE E.out.2.2.2.2.2.2.2.1).mono ?_; rintro e w9 ⟨rfl, t9, b9⟩; have T9 := Lib.hid t9; have B9 := Lib.hid (B8.out.trans b9); clear t9 b9 T8)
          | (go_at_call 30; refine (T7.out.takeE E.out.1 E.out.2.2.2.2.2.2.1).mono ?_; rintro e w8 ⟨rfl, t8, b8⟩; have T8 := Lib.hid t8; have B8 := Lib.hid (B7.out.trans b8); clear t8 b8 T7)
          | (go_at_call 29; refine (T6.out.dropE E.out.1 E.out.2.2.2.2.2.1).mono ?_; rintro e w7 ⟨rfl, t7, b7⟩; have T7 := Lib.hid t7; have B7 := Lib.hid (B6.out.trans b7); clear t7 b7 T6)
          | (go_at_call 28; refine (T5.out.lendE (by omega) E.out.1 E.out.2.2.2.2.1).mono ?_; rintro e w6 ⟨rfl, t6, b6⟩; have T6 := Lib.hid t6; have B6 := Lib.hid (B5.out.trans b6); clear t6 b6 T5)
          | (go_at_call 28; refine (T4.out.lendE (by omega) E.out.1 E.out.2.2.2.1).mono ?_; rintro e w5 ⟨rfl, t5, b5⟩; have T5 := Lib.hid t5; have B5 := Lib.hid (B4.out.trans b5); clear t5 b5 T4)
          | (go_at_call 27; refine (T3.out.enterE E.out.2.2.1).mono ?_; rintro e w4 ⟨rfl, t4, b4⟩; have T4 := Lib.hid t4; have B4 := Lib.hid (B3.out.trans b4); clear t4 b4 T3)
          | (go_at_call 26; refine (T2.out.makeE E.out.2.1).mono ?_; rintro e w3 ⟨rfl, t3, b3⟩; have T3 := Lib.hid t3; have B3 := Lib.hid (B2.out.trans b3); clear t3 b3 T2)
          | (go_at_call 12; refine (awake16 _).mono ?_; rintro e w99 ⟨rfl, b99⟩; have B99 := Lib.hid (B10.out.trans (b99.mono B10.out.size)); clear b99))
        go_ret
        exact ⟨rfl, B99.out⟩
    · have HZ := Lib.hid hz
      have hlen : Hid ((callsS S).length = S.cl.length) := Lib.hid (by simp)
      have hpos : 0 < S.cl.length := by omega
      rcases leave_cases hz with e | ⟨S', e, hl⟩
      · have E := Lib.hid e
        clear hz e
        go_wp2_with (first
          | (go_at_call 24; refine (HR.out.1.st.callsT).mono ?_; rintro e w2 ⟨v, rfl, hv, t2, b2⟩; obtain ⟨va, vc, rfl⟩ := ints_slice hv; rw [hlen.out]; have T2 := Lib.hid t2; have B2 := Lib.hid (HR.out.2.trans (b2.mono HR.out.2.size)); clear hv t2 b2)
          | (go_at_call 25; refine (T2.out.leaveE E.out).mono ?_; rintro e w3 ⟨rfl, t3, b3⟩; have B3 := Lib.hid (B2.out.trans b3); clear t3 b3)
          | (go_at_call 12; refine (awake16 _).mono ?_; rintro e w9 ⟨rfl, b9⟩; have B9 := Lib.hid (B3.out.trans (b9.mono B3.out.size)); clear b9))
        go_ret
        exact ⟨rfl, B9.out⟩
      · have E := Lib.hid e
        have HL := Lib.hid hl
        clear hz e hl
        go_wp2_with (first
          | (go_at_call 24; refine (HR.out.1.st.callsT).mono ?_; rintro e w2 ⟨v, rfl, hv, t2, b2⟩; obtain ⟨va, vc, rfl⟩ := ints_slice hv; rw [hlen.out]; have T2 := Lib.hid t2; have B2 := Lib.hid (HR.out.2.trans (b2.mono HR.out.2.size)); clear hv t2 b2)
          | (go_at_call 25; refine (T2.out.leaveE E.out).mono ?_; rintro e w3 ⟨rfl, t3, b3⟩; have T3 := Lib.hid t3; have B3 := Lib.hid (B2.out.trans b3); clear t3 b3))
        exact ⟨⟨S', Lib.hid ⟨HR.out.1.left E.out T3.out, B3.out⟩⟩, by rw [T3.out.clN, HR.out.1.st.clN]; have := HL.out; omega⟩
end Go.Proofs.Ytjdkhhkjnnbpoaa
