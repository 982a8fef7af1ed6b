/- The reference's laying of instructions. -/
import Derived.Test.YtfhifnkekegkkaaInsR5
import Derived.Test.YtfhifnkekegkkaaInsR4
import Derived.Test.YtfhifnkekegkkaaInsBk
import Derived.Test.YtfhifnkekegkkaaInsP9
namespace Go.Proofs.Ytfhifnkekegkkaa
open Go.RowKit Go.Deep
open Leb (putU putS)

theorem ops_hi {op : Int} (h : (shapeV op).2 = 0) (hi : 64512 ≤ op) : (shapeV op).1 = 8 ∨ (shapeV op).1 = 9 := by
  by_cases hm : op ∈ nameOps
  · have key : ∀ op ∈ nameOps, 64512 ≤ op → (shapeV op).1 = 8 ∨ (shapeV op).1 = 9 := by decide
    exact key op hm hi
  · exfalso
    rw [shapeV_other hm] at h
    by_cases hs : 0 < (Num.sig op).1
    · rcases Num.sig_cases op with ⟨h, k⟩ | ⟨h, h', k⟩ | ⟨h, k⟩ | ⟨h, k⟩ | ⟨h, k⟩ | ⟨h, k⟩ | ⟨h, h', k⟩ | ⟨h, h', k⟩ | ⟨h, k⟩ | ⟨h, k⟩ | ⟨h, h', k⟩ | ⟨h, h', k⟩ | ⟨h, h', k⟩ | ⟨h, h', k⟩ | ⟨h, k⟩
      all_goals first
        | omega
        | (exfalso
           unfold Num.sigTup Num.tup3 at k
           simp only [Value.tuple.injEq, Array.mk.injEq, List.cons.injEq, Value.int.injEq, true_and] at k
           omega)
    rw [if_neg hs] at h
    by_cases hw : 0 < (Mem.width op).1
    · have hm2 : op ∈ Mem.wOps := by
        by_cases q : op ∈ Mem.wOps
        · exact q
        · unfold Mem.width at hw
          rw [if_neg q] at hw
          exact absurd hw (by decide)
      have key : ∀ op ∈ Mem.wOps, op < 64512 := by decide
      have := key op hm2
      omega
    rw [if_neg hw] at h
    split at h
    · cases h
    split at h
    · cases h
    · cases h
theorem putI_plain {c : Ins} {sh : Int} (h : shapeV c.op = (sh, 0)) (h2 : sh ≠ 2) : putI c = opB c.op ++ fldB sh c.a c.b c.m c.n := by
  rw [putI_eq, h, if_neg h2, List.append_nil]
set_option maxRecDepth 100000 in
set_option maxHeartbeats 1000000 in
theorem refSingle_any (d : Nat) (c : Ins) (xn xl xe : Option Addr) (nc lc ec : Nat) (w : World) (hok : okI d c = true) (hwf : wfI c) (hvn : View w xn c.n.length c.n) (zl : (putL c.l).length ≤ 100000000) (ze : (putL c.e).length ≤ 100000000)
    (HTL : (shapeV c.op).1 = 2 → ∀ w', Below w.heap.size w w' → Calls Try.prog 14 #[.slice xl c.l.length lc] w' fun e w2 => e = .returned (.string (strOfNums (putL c.l))) ∧ Below w'.heap.size w' w2)
    (HTE : (shapeV c.op).1 = 2 → ∀ w', Below w.heap.size w w' → Calls Try.prog 14 #[.slice xe c.e.length ec] w' fun e w2 => e = .returned (.string (strOfNums (putL c.e))) ∧ Below w'.heap.size w' w2) :
    Calls Try.prog 25 #[.agg #[.int .i64 c.op, .int .i64 c.a, .int .i64 c.b, .int .i64 c.m, .slice xn c.n.length nc, .slice xl c.l.length lc, .slice xe c.e.length ec]] w fun e w' => e = .returned (.string (strOfNums (putI c))) ∧ Below w.heap.size w w' := by
  have hmay : mayI c = true := by
    rw [okI_eq, Bool.and_eq_true] at hok
    exact hok.1
  have her := (mayI_parts hmay).1
  obtain ⟨hbm, hbb, hbn, hbr, _⟩ := mayI_bounds hmay
  have hw2 := (wfI_eq c).1 hwf
  have hin := ops_in her
  have HS : ∀ sh, shapeV c.op = (sh, 0) → ∀ w, Calls Try.prog 27 #[.int .i64 c.op] w fun e w' => e = .returned (.tuple #[.int .i64 sh, .int .i64 0]) ∧ Below w.heap.size w w' := fun sh h w => by
    have := refShape_any c.op w
    rw [h] at this
    exact this
  have hr : ∀ i, i < c.n.length → c.n.getD i 0 ≤ 9223372036854775807 := fun i hi => by have := hbr i hi; omega
  have lo : ∀ sh, shapeV c.op = (sh, 0) → sh ≠ 8 → sh ≠ 9 → c.op < 64512 := fun sh h h8 h9 => by
    by_cases q : c.op < 64512
    · exact q
    · rcases ops_hi her (by omega) with k | k
      · rw [h] at k; exact absurd k h8
      · rw [h] at k; exact absurd k h9
  rcases shapeV_in c.op her with s | s | s | s | s | s | s | s | s | s | s
  · rw [putI_plain s (by decide)]
    exact refSingle_s1 _ _ _ _ _ _ _ _ _ _ _ _ _ _ _ rfl hvn hw2.1.1 hw2.1.2 (by omega) hbb.1 hbb.2 hbn hr (by omega) (by omega) (HS 1 s) (lo 1 s (by decide) (by decide))
  · have hb2 : 2 ≤ c.op ∧ c.op ≤ 4 := shapeV_two (by rw [s])
    have hput := putI_eq c
    rw [s] at hput
    rw [if_pos rfl, opB_lo (by omega), show fldB 2 c.a c.b c.m c.n = putS c.a from rfl] at hput
    by_cases he : c.e.length = 0
    · rw [if_pos he, List.nil_append] at hput
      have := refSingle_s2 c.op c.a c.b c.m xn xl xe c.n.length c.l.length c.e.length nc lc ec w hw2.1.1 hw2.1.2 hb2 (HS 2 s) he (strOfNums (putL c.l)) (strOfNums (putL c.e)) (by rw [strOfNums_size]; exact zl) (by rw [strOfNums_size]; exact ze) (HTL (by rw [s])) (HTE (by rw [s]))
      rw [hput]
      rw [strOfNums_app, strOfNums_app, strOfNums_app, List.append_assoc, List.append_assoc] at this
      exact this
    · rw [if_neg he] at hput
      have := refSingle_s2e c.op c.a c.b c.m xn xl xe c.n.length c.l.length c.e.length nc lc ec w hw2.1.1 hw2.1.2 hb2 (HS 2 s) (by omega) (strOfNums (putL c.l)) (strOfNums (putL c.e)) (by rw [strOfNums_size]; exact zl) (by rw [strOfNums_size]; exact ze) (HTL (by rw [s])) (HTE (by rw [s]))
      rw [hput]
      simp only [strOfNums_app, List.append_assoc] at this
      exact this
  · rw [putI_plain s (by decide)]
    exact refSingle_s3 _ _ _ _ _ _ _ _ _ _ _ _ _ _ _ rfl hvn hw2.1.1 hw2.1.2 (by omega) hbb.1 hbb.2 hbn hr (by omega) (by omega) (HS 3 s) (lo 3 s (by decide) (by decide))
  · rw [putI_plain s (by decide)]
    exact refSingle_s4 _ _ _ _ _ _ _ _ _ _ _ _ _ _ _ rfl hvn hw2.1.1 hw2.1.2 (by omega) hbb.1 hbb.2 hbn hr (by omega) (by omega) (HS 4 s) (lo 4 s (by decide) (by decide))
  · rw [putI_plain s (by decide)]
    exact refSingle_s5 _ _ _ _ _ _ _ _ _ _ _ _ _ _ _ rfl hvn hw2.1.1 hw2.1.2 (by omega) hbb.1 hbb.2 hbn hr (by omega) (by omega) (HS 5 s) (lo 5 s (by decide) (by decide))
  · rw [putI_plain s (by decide)]
    exact refSingle_s6 _ _ _ _ _ _ _ _ _ _ _ _ _ _ _ rfl hvn hw2.1.1 hw2.1.2 (by omega) hbb.1 hbb.2 hbn hr (by omega) (by omega) (HS 6 s) (lo 6 s (by decide) (by decide))
  · rw [putI_plain s (by decide)]
    by_cases hm : c.m = 0
    · exact refSingle_s7 _ _ _ _ _ _ _ _ _ _ _ _ _ _ _ rfl hvn hw2.1.1 hw2.1.2 (by omega) hbb.1 hbb.2 hbn hr (by omega) (by omega) (HS 7 s) (lo 7 s (by decide) (by decide)) hm
    · exact refSingle_s7m _ _ _ _ _ _ _ _ _ _ _ _ _ _ _ rfl hvn hw2.1.1 hw2.1.2 (by omega) hbb.1 hbb.2 hbn hr (by omega) (by omega) (HS 7 s) (lo 7 s (by decide) (by decide)) hm
  · rw [putI_plain s (by decide)]
    by_cases q : c.op < 64512
    · exact refSingle_s8 _ _ _ _ _ _ _ _ _ _ _ _ _ _ _ rfl hvn hw2.1.1 hw2.1.2 (by omega) hbb.1 hbb.2 hbn hr (by omega) (by omega) (HS 8 s) q
    · exact refSingle_s8h _ _ _ _ _ _ _ _ _ _ _ _ _ _ _ rfl hvn hw2.1.1 hw2.1.2 (by omega) hbb.1 hbb.2 hbn hr (by omega) (by omega) (HS 8 s) q
  · rw [putI_plain s (by decide)]
    by_cases q : c.op < 64512
    · exact refSingle_s9 _ _ _ _ _ _ _ _ _ _ _ _ _ _ _ rfl hvn hw2.1.1 hw2.1.2 (by omega) hbb.1 hbb.2 hbn hr (by omega) (by omega) (HS 9 s) q
    · exact refSingle_s9h _ _ _ _ _ _ _ _ _ _ _ _ _ _ _ rfl hvn hw2.1.1 hw2.1.2 (by omega) hbb.1 hbb.2 hbn hr (by omega) (by omega) (HS 9 s) q
  · rw [putI_plain s (by decide)]
    exact refSingle_s10 _ _ _ _ _ _ _ _ _ _ _ _ _ _ _ rfl hvn hw2.1.1 hw2.1.2 (by omega) hbb.1 hbb.2 hbn hr (by omega) (by omega) (HS 10 s) (lo 10 s (by decide) (by decide))
  · rw [putI_plain s (by decide)]
    exact refSingle_s11 _ _ _ _ _ _ _ _ _ _ _ _ _ _ _ rfl hvn hw2.1.1 hw2.1.2 (by omega) hbb.1 hbb.2 hbn hr (by omega) (by omega) (HS 11 s) (lo 11 s (by decide) (by decide))
set_option maxRecDepth 100000 in
set_option maxHeartbeats 4000000 in
theorem refText_all (N : Nat) : ∀ (d : Nat) (ls : List Ins) (x : Option Addr) (len cap : Nat) (w : World), SizeOf.sizeOf ls < N → okL d ls = true → wfL ls → InsIn w x len cap ls → (putL ls).length ≤ 100000000 →
    Calls Try.prog 14 #[.slice x len cap] w fun e w' => e = .returned (.string (strOfNums (putL ls))) ∧ Below w.heap.size w w' := by
  induction N with
  | zero => exact fun _ _ _ _ _ _ h => absurd h (by omega)
  | succ N ih =>
    intro d ls x len cap w hN hok hwf hin hz
    obtain ⟨hlen, hle, htop, hlies⟩ := hin
    have HLEN := Lib.hid hlen
    have HLIES := Lib.hid hlies
    have HIH := Lib.hid ih
    have HNN := Lib.hid hN
    have HOK := Lib.hid hok
    have HWF := Lib.hid hwf
    have HZ := Lib.hid hz
    clear ih hlies hN hlen hok hwf hz
    go_enter Try.func14, Try.ntmps14
    go_wp2_with fail
    go_loopw [3, 4] (fun sv iv wr => ∃ (i : Nat), iv = .int .i64 i ∧ i ≤ len ∧ sv = .string (strOfNums (putL (ls.take i))) ∧ Below w.heap.size w wr) (fun _ iv _ => len - (intOf iv).toNat)
    case atStart =>
      refine ⟨0, rfl, by omega, ?_, Below.refl _ _⟩
      rw [List.take_zero, putL]
      rfl
    case round =>
      obtain ⟨i, rfl, hi, rfl, hb⟩ := hrel
      have HB := Lib.hid hb
      by_cases hlt : i < len
      · have hil : i < ls.length := by rw [← HLEN.out]; exact hlt
        obtain ⟨b, off, rfl⟩ := LiesL.addr HLIES.out (by omega)
        have hli := (LiesL.at HLIES.out i hil).below hb
        have hsz : SizeOf.sizeOf (ls.getD i default) < SizeOf.sizeOf ls := by
          rw [List.getD_eq_getElem?_getD, List.getElem?_eq_getElem hil]
          exact List.sizeOf_lt_of_mem (List.getElem_mem hil)
        have hoc := okL_at HOK.out hil
        have hwc := wfL_at HWF.out hil
        have hsp := putL_split hil
        have hpt := putL_take hil
        have hzz := HZ.out
        revert hli hsz hoc hwc hsp hpt
        generalize ls.getD i default = c
        intro hli hsz hoc hwc hsp hpt
        obtain ⟨xn, nc, xl, lc, xe, ec, c0, c1, c2, c3, c4, c5, c6, hvn, hnc, hncm, hl, he⟩ := hli.may
        have hsl : SizeOf.sizeOf c.l < N ∧ SizeOf.sizeOf c.e < N := by
          have := HNN.out
          cases c with
          | mk op a b' m n' l' e' =>
            simp only [Ins.mk.sizeOf_spec] at hsz
            simp only [Ins.l, Ins.e]
            omega
        have hpl := congrArg List.length (putI_eq c)
        rw [List.length_append, List.length_append] at hpl
        have hsub : (shapeV c.op).1 = 2 → (putL c.l).length + (putL c.e).length ≤ 100000000 := fun h2 => by
          rw [if_pos h2, List.length_append, List.length_append] at hpl
          by_cases h0 : c.e.length = 0
          · have : c.e = [] := List.length_eq_zero_iff.1 h0
            rw [this, putL, List.length_nil]
            omega
          · rw [if_neg h0, List.length_cons] at hpl
            omega
        have hnil : ¬ (shapeV c.op).1 = 2 → c.l = [] ∧ c.e = [] := fun h2 => by
          have hmay : mayI c = true := by
            rw [okI_eq, Bool.and_eq_true] at hoc
            exact hoc.1
          obtain ⟨_, e2, e3⟩ := mayI_parts hmay
          refine ⟨e2.resolve_left h2, e3.resolve_left fun q => h2 ?_⟩
          rw [q]
          decide
        have hz2 : (putL c.l).length ≤ 100000000 ∧ (putL c.e).length ≤ 100000000 := by
          by_cases h2 : (shapeV c.op).1 = 2
          · have := hsub h2
            omega
          · rw [(hnil h2).1, (hnil h2).2, putL]
            exact ⟨Nat.zero_le _, Nat.zero_le _⟩
        have hoks : (shapeV c.op).1 = 2 → okL (d + 1) c.l = true ∧ okL (d + 1) c.e = true := fun h2 => by
          rw [okI_eq, if_pos (shapeV_two h2), Bool.and_eq_true, Bool.and_eq_true, Bool.and_eq_true] at hoc
          exact hoc.2.2
        have hw2 := (wfI_eq c).1 hwc
        have HS := Lib.hid (refSingle_any d c xn xl xe nc lc ec wr hoc hwc hvn hz2.1 hz2.2 (fun h2 w' hb' => HIH.out (d + 1) c.l xl c.l.length lc w' hsl.1 (hoks h2).1 hw2.2.1 (hl.below hb') hz2.1) (fun h2 w' hb' => HIH.out (d + 1) c.e xe c.e.length ec w' hsl.2 (hoks h2).2 hw2.2.2 (he.below hb') hz2.2))
        have HP : Hid (strOfNums (putL (ls.take i)) ++ strOfNums (putI c) = strOfNums (putL (ls.take (i + 1)))) := Lib.hid (by rw [hpt, strOfNums_app])
        have hno : ¬ 9223372036854775807 < (strOfNums (putL (ls.take i))).size + (strOfNums (putI c)).size := by
          rw [strOfNums_size, strOfNums_size]
          omega
        clear hpl hsub hnil hz2 hoks hw2 hsl hsz hoc hwc hsp hpt hzz hvn hnc hncm hl he hli
        revert HS HP hno
        generalize strOfNums (putL (ls.take i)) = S0
        generalize strOfNums (putI c) = S1
        intro HS HP hno
        go_wp2_with (go_at_call 25; refine HS.out.mono ?_; rintro e w1 ⟨rfl, hb2⟩; have hb3 := HB.out.trans (hb2.mono HB.out.size))
        exact ⟨⟨i + 1, by go_num, by omega, congrArg Value.string HP.out, hb3⟩, by simp [intOf]; omega⟩
      · have hie : i = len := by omega
        subst hie
        have HE : Hid (strOfNums (putL (ls.take i)) = strOfNums (putL ls)) := Lib.hid (by rw [HLEN.out, List.take_length])
        go_wp2_with fail
        go_ret
        rw [HE.out]
        exact ⟨rfl, HB.out⟩
set_option maxRecDepth 100000 in
theorem refPut_any (ls : List Ins) (x : Option Addr) (len cap : Nat) (w : World) (h : InsIn w x len cap ls) (hwf : wfL ls) :
    Calls Try.prog 6 #[.slice x len cap] w fun e w' => e = .returned (.tuple #[.string (strOfNums (putV ls).1), .int .i64 (putV ls).2]) ∧ Below w.heap.size w w' := by
  have HC := Lib.hid (refCount_all _ 0 ls x len cap w (Nat.lt_succ_self _) (by decide) h)
  have hc := cntL_ok 0 0 ls (by decide)
  rw [show ((0 : Nat) : Int) = 0 from rfl] at hc
  rw [hc] at HC
  unfold cR at HC
  unfold putV cP
  by_cases hok : okL 0 ls = true ∧ 0 + sizL ls ≤ 8192
  · rw [if_pos hok, if_pos rfl]
    rw [if_pos hok] at HC
    have hlen := putL_len 0 ls hok.1
    have HT := Lib.hid (fun w' (hb : Below w.heap.size w w') => refText_all _ 0 ls x len cap w' (Nat.lt_succ_self _) hok.1 hwf (h.below hb) (by omega))
    have HB := Lib.hid (refByte1_any 11)
    have HR : strOfNums (putL ls ++ [11]) = strOfNums (putL ls) ++ strOfNums [11 % 256] := by rw [strOfNums_app]; rfl
    have hno : ¬ 9223372036854775807 < (strOfNums (putL ls)).size + (strOfNums [11 % 256]).size := by
      rw [strOfNums_size, strOfNums_size]
      show ¬ _ < _ + 1
      omega
    show Calls _ _ _ _ fun e w' => e = .returned (.tuple #[.string (strOfNums (putL ls ++ [11])), .int .i64 0]) ∧ _
    rw [HR]
    clear HR hlen hok hc hwf h
    revert HC HT HB hno
    generalize strOfNums (putL ls) = S0
    generalize strOfNums [11 % 256] = S1
    generalize 0 + sizL ls = k
    intro HC HT HB hno
    have hk : ¬ (k : Int) < 0 := by omega
    go_enter Try.func6, Try.ntmps6
    go_wp2_with (first
      | (go_at_call 8; refine HC.out.mono ?_; rintro e w1 ⟨rfl, hb1⟩)
      | (go_at_call 14; refine (HT.out _ hb1).mono ?_; rintro e w2 ⟨rfl, hb2⟩; have hb3 := hb1.trans (hb2.mono hb1.size))
      | (go_at_call 15; refine (HB.out _).mono ?_; rintro e w3 ⟨rfl, hb4⟩; have hb5 := hb3.trans (hb4.mono hb3.size)))
    go_ret2
    exact ⟨rfl, hb5⟩
  · rw [if_neg hok, if_neg (by decide)]
    rw [if_neg hok] at HC
    clear hok hc hwf h
    go_enter Try.func6, Try.ntmps6
    go_wp2_with (go_at_call 8; refine HC.out.mono ?_; rintro e w1 ⟨rfl, hb1⟩)
    go_ret2
    exact ⟨rfl, hb1⟩
end Go.Proofs.Ytfhifnkekegkkaa
