/- handles: a call can't end as long as there is a borrowed handle of it. -/
import Derived.Test.YtjdkhhkjnnbpoaaHeE
set_option linter.unusedVariables false
set_option linter.unusedSimpArgs false
namespace Go.Proofs.Ytjdkhhkjnnbpoaa
open Go.RowKit

set_option maxRecDepth 100000 in
set_option maxHeartbeats 8000000 in
theorem HandlesScoped_walk (x : Option Addr) (len cap : Nat) (ds : List Dh) (rep : Int) (w : World) (hd : DhIn w x len cap ds) :
    Calls Try.prog 8 #[.slice x len cap, .int .i64 rep] w fun e w' => e = .returned (.bool true) ∧ Below w.heap.size w w' := by
  have HM := made x len cap ds w hd
  obtain ⟨q, hq, hq0, hq1⟩ := low32 rep
  have HQ0 := Lib.hid hq0
  have HQ1 := Lib.hid hq1
  clear hd hq0 hq1
  go_enter Try.func8, Try.ntmps8
  go_wp2_with (go_at_call 19; refine HM.mono ?_; rintro e w1 ⟨a, S, rfl, t1, b1⟩; have T1 := Lib.hid t1; have B1 := Lib.hid b1; clear t1 b1)
  clear HM
  go_loopw [] (fun wr => ∃ S, Hid (Two w.heap.size a wr S 150 ∧ Below w.heap.size w wr)) (fun wr => clN a wr)
  case atStart => exact ⟨S, Lib.hid ⟨T1.out, B1.out⟩⟩
  case round =>
    clear T1 B1
    obtain ⟨S, HR⟩ := hrel
    by_cases hz : S.cl.length = 0
    · have hcl : S.cl = [] := List.eq_nil_of_length_eq_zero hz
      have hlen : Hid ((callsS S).length = 0) := Lib.hid (by simpa using hz)
      obtain ⟨S1, e1, e2, e3, ee⟩ := scoped_facts HR.out.1.st.ok HR.out.1.ms HR.out.1.tl hcl HQ0.out HQ1.out
      have E := Lib.hid (And.intro e1 (And.intro e2 e3))
      have HLN : Hid (∀ v : Value, ∀ w B, Hds B v (handlesS S1 1) w → ∃ va vc, v = .slice va (handlesS S1 1).length vc) := Lib.hid (fun v w B h => h.len)
      rcases ee with e | ⟨h, S2, S3, S4, hw, d1, d2, d3, d4, d5, d6⟩
      · have D := Lib.hid e
        clear hz hcl e e1 e2 e3
        generalize (handlesS S1 1).length = hn at HLN
        go_wp2_with (first
          | (go_at_call 24; refine (HR.out.1.st.callsT).mono ?_; rintro e w2 ⟨v, rfl, hv, t2, b2⟩; obtain ⟨va, vc, rfl⟩ := ints_slice hv; rw [hlen.out]; have T2 := Lib.hid t2; have B2 := Lib.hid (HR.out.2.trans (b2.mono HR.out.2.size)); clear hv t2 b2)
          | (go_at_call 31; refine (T7.out.borrowE D.out).mono ?_; rintro e w8 ⟨rfl, t8, b8⟩; have T8 := Lib.hid t8; have B8 := Lib.hid (B7.out.trans b8); clear t8 b8 T7)
          | (go_at_call 27; refine (T6.out.enterE E.out.2.2).mono ?_; rintro e w7 ⟨rfl, t7, b7⟩; have T7 := Lib.hid t7; have B7 := Lib.hid (B6.out.trans b7); clear t7 b7 T6)
          | (go_at_call 21; refine (T5.out.handles 1).mono ?_; rintro e w6 ⟨v, rfl, hv, t6, b6⟩; obtain ⟨va6, vc6, rfl⟩ := HLN.out _ _ _ hv; have T6 := Lib.hid t6; have B6 := Lib.hid (B5.out.trans (b6.mono B5.out.size)); clear hv t6 b6 T5)
          | (go_at_call 31; refine (T4.out.borrowE E.out.2.1).mono ?_; rintro e w5 ⟨rfl, t5, b5⟩; have T5 := Lib.hid t5; have B5 := Lib.hid (B4.out.trans b5); clear t5 b5 T4)
          | (go_at_call 21; refine (T3.out.handles 1).mono ?_; rintro e w4 ⟨v, rfl, hv, t4, b4⟩; obtain ⟨va4, vc4, rfl⟩ := HLN.out _ _ _ hv; have T4 := Lib.hid t4; have B4 := Lib.hid (B3.out.trans (b4.mono B3.out.size)); clear hv t4 b4 T3)
          | (go_at_call 27; refine (T2.out.enterE E.out.1).mono ?_; rintro e w3 ⟨rfl, t3, b3⟩; have T3 := Lib.hid t3; have B3 := Lib.hid (B2.out.trans b3); clear t3 b3 T2)
          | (go_at_call 12; refine (awake16 _).mono ?_; rintro e w99 ⟨rfl, b99⟩; have B99 := Lib.hid (B8.out.trans (b99.mono B8.out.size)); clear b99))
        go_ret
        exact ⟨rfl, B99.out⟩
      · have D := Lib.hid (And.intro hw (And.intro d1 (And.intro d2 (And.intro d3 (And.intro d4 (And.intro d5 d6))))))
        clear hz hcl hw d1 d2 d3 d4 d5 d6 e1 e2 e3
        generalize (handlesS S1 1).length = hn at HLN
        go_wp2_with (first
          | (go_at_call 24; refine (HR.out.1.st.callsT).mono ?_; rintro e w2 ⟨v, rfl, hv, t2, b2⟩; obtain ⟨va, vc, rfl⟩ := ints_slice hv; rw [hlen.out]; have T2 := Lib.hid t2; have B2 := Lib.hid (HR.out.2.trans (b2.mono HR.out.2.size)); clear hv t2 b2)
          | (go_at_call 25; refine (T12.out.leaveE D.out.2.2.2.2.2.2).mono ?_; rintro e w13 ⟨rfl, t13, b13⟩; have T13 := Lib.hid t13; have B13 := Lib.hid (B12.out.trans b13); clear t13 b13 T12)
          | (go_at_call 29; refine (T11.out.dropE D.out.1 D.out.2.2.2.2.2.1).mono ?_; rintro e w12 ⟨rfl, t12, b12⟩; have T12 := Lib.hid t12; have B12 := Lib.hid (B11.out.trans b12); clear t12 b12 T11)
          | (go_at_call 23; refine (T10.out.repE D.out.1 D.out.2.2.2.2.1).mono ?_; rintro e w11 ⟨rfl, t11, b11⟩; have T11 := Lib.hid t11; have B11 := Lib.hid (B10.out.trans b11); clear t11 b11 T10)
          | (go_at_call 30; refine (T9.out.takeE D.out.1 D.out.2.2.2.1).mono ?_; rintro e w10 ⟨rfl, t10, b10⟩; have T10 := Lib.hid t10; have B10 := Lib.hid (B9.out.trans b10); clear t10 b10 T9)
          | (go_at_call 25; refine (T8.out.leaveE D.out.2.2.1).mono ?_; rintro e w9 ⟨rfl, t9, b9⟩; have T9 := Lib.hid t9; have B9 := Lib.hid (B8.out.trans b9); clear t9 b9 T8)
          | (go_at_call 31; refine (T7.out.borrowE D.out.2.1).mono ?_; rintro e w8 ⟨rfl, t8, b8⟩; have T8 := Lib.hid t8; have B8 := Lib.hid (B7.out.trans b8); clear t8 b8 T7)
          | (go_at_call 27; refine (T6.out.enterE E.out.2.2).mono ?_; rintro e w7 ⟨rfl, t7, b7⟩; have T7 := Lib.hid t7; have B7 := Lib.hid (B6.out.trans b7); clear t7 b7 T6)
          | (go_at_call 21; refine (T5.out.handles 1).mono ?_; rintro e w6 ⟨v, rfl, hv, t6, b6⟩; obtain ⟨va6, vc6, rfl⟩ := HLN.out _ _ _ hv; have T6 := Lib.hid t6; have B6 := Lib.hid (B5.out.trans (b6.mono B5.out.size)); clear hv t6 b6 T5)
          | (go_at_call 31; refine (T4.out.borrowE E.out.2.1).mono ?_; rintro e w5 ⟨rfl, t5, b5⟩; have T5 := Lib.hid t5; have B5 := Lib.hid (B4.out.trans b5); clear t5 b5 T4)
          | (go_at_call 21; refine (T3.out.handles 1).mono ?_; rintro e w4 ⟨v, rfl, hv, t4, b4⟩; obtain ⟨va4, vc4, rfl⟩ := HLN.out _ _ _ hv; have T4 := Lib.hid t4; have B4 := Lib.hid (B3.out.trans (b4.mono B3.out.size)); clear hv t4 b4 T3)
          | (go_at_call 27; refine (T2.out.enterE E.out.1).mono ?_; rintro e w3 ⟨rfl, t3, b3⟩; have T3 := Lib.hid t3; have B3 := Lib.hid (B2.out.trans b3); clear t3 b3 T2)
          | (go_at_call 12; refine (awake16 _).mono ?_; rintro e w99 ⟨rfl, b99⟩; have B99 := Lib.hid (B13.out.trans (b99.mono B13.out.size)); clear b99))
        go_ret
        exact ⟨rfl, B99.out⟩
    · have HZ := Lib.hid hz
      have hlen : Hid ((callsS S).length = S.cl.length) := Lib.hid (by simp)
      have hpos : 0 < S.cl.length := by omega
      rcases leave_cases hz with e | ⟨S', e, hl⟩
      · have E := Lib.hid e
        clear hz e
        go_wp2_with (first
          | (go_at_call 24; refine (HR.out.1.st.callsT).mono ?_; rintro e w2 ⟨v, rfl, hv, t2, b2⟩; obtain ⟨va, vc, rfl⟩ := ints_slice hv; rw [hlen.out]; have T2 := Lib.hid t2; have B2 := Lib.hid (HR.out.2.trans (b2.mono HR.out.2.size)); clear hv t2 b2)
          | (go_at_call 25; refine (T2.out.leaveE E.out).mono ?_; rintro e w3 ⟨rfl, t3, b3⟩; have B3 := Lib.hid (B2.out.trans b3); clear t3 b3)
          | (go_at_call 12; refine (awake16 _).mono ?_; rintro e w9 ⟨rfl, b9⟩; have B9 := Lib.hid (B3.out.trans (b9.mono B3.out.size)); clear b9))
        go_ret
        exact ⟨rfl, B9.out⟩
      · have E := Lib.hid e
        have HL := Lib.hid hl
        clear hz e hl
        go_wp2_with (first
          | (go_at_call 24; refine (HR.out.1.st.callsT).mono ?_; rintro e w2 ⟨v, rfl, hv, t2, b2⟩; obtain ⟨va, vc, rfl⟩ := ints_slice hv; rw [hlen.out]; have T2 := Lib.hid t2; have B2 := Lib.hid (HR.out.2.trans (b2.mono HR.out.2.size)); clear hv t2 b2)
          | (go_at_call 25; refine (T2.out.leaveE E.out).mono ?_; rintro e w3 ⟨rfl, t3, b3⟩; have T3 := Lib.hid t3; have B3 := Lib.hid (B2.out.trans b3); clear t3 b3))
        exact ⟨⟨S', Lib.hid ⟨HR.out.1.left E.out T3.out, B3.out⟩⟩, by rw [T3.out.clN, HR.out.1.st.clN]; have := HL.out; omega⟩
end Go.Proofs.Ytjdkhhkjnnbpoaa
