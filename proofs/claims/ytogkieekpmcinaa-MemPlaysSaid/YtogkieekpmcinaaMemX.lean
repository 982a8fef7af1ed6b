/- A step: growing, loads, reads. -/
import Derived.Test.YtogkieekpmcinaaMemV
namespace Go.Proofs.Ytogkieekpmcinaa
open Go.RowKit

set_option maxRecDepth 100000 in
set_option maxHeartbeats 4000000 in
theorem step_3n (B : Nat) (R : Nat → Prop) (a g cap ar gr : Nat) (S : List Int) (mo : Int) (a2 g2 cap2 ar2 gr2 : Nat) (S2 : List Int) (mo2 : Int) (w : World) (h : Both B R a g cap ar gr S mo a2 g2 cap2 ar2 gr2 S2 mo2 w) (hB : B ≤ w.heap.size)
    (o at' p v nn : Int) (s : ByteArray) (near : Bool) (P : Nat) (hP : S.length = P * 65536) (hno : v < 0 ∨ mostOf mo - P < v) :
    Calls Try.prog 14 #[.pointer (some ⟨a, 0, none⟩), .pointer (some ⟨a2, 0, none⟩), .pointer (some ⟨ar, 0, none⟩), .pointer (some ⟨ar2, 0, none⟩), .agg #[.int .i64 3, .int .i64 o, .int .i64 at', .int .i64 p, .int .i64 v, .int .i64 nn, .string s, .bool near]] w
      fun e w' => e = .returned (.bool true) ∧ Turned B R a ar mo a2 ar2 mo2 w w' := by
  obtain ⟨wd, hwd⟩ : ∃ wd, wd = w.alloc (.cells #[.int .i64 3, .int .i64 o, .int .i64 at', .int .i64 p, .int .i64 v, .int .i64 nn, .string s, .bool near] 37) := ⟨_, rfl⟩
  have hbel : Below w.heap.size w wd := hwd ▸ (Below.refl _ _).alloc (Nat.le_refl _) _
  have hda : DeedAt w.heap.size (3) o at' p v nn s near wd := hwd ▸ deedAt_new w (3) o at' p v nn s near 37
  have hlt : w.heap.size < wd.heap.size := by rw [hwd]; simp
  have hm := (h.more hbel (b := w.heap.size) (Nat.le_refl _) hlt).below ((Below.refl wd.heap.size wd).drew)
  have DA : Hid (DeedAt w.heap.size (3) o at' p v nn s near wd.drew) := Lib.hid (hda.block rfl)
  have HDA := hda
  unfold DeedAt at HDA
  obtain ⟨c0, c1, c2, c3, c4, c5, c6, c7⟩ := HDA
  have HLT : w.heap.size < wd.drew.heap.size := hlt
  obtain ⟨_, nb1, nb2⟩ := hm.off w.heap.size (.inr rfl)
  have n1 : w.heap.size ≠ g := fun e => nb1 (.inr (.inl e))
  have n2 : w.heap.size ≠ gr := fun e => nb1 (.inr (.inr (.inr e)))
  have n3 : w.heap.size ≠ g2 := fun e => nb2 (.inr (.inl e))
  have n4 : w.heap.size ≠ gr2 := fun e => nb2 (.inr (.inr (.inr e)))
  have n5 : w.heap.size ≠ a := fun e => nb1 (.inl e)
  have n6 : w.heap.size ≠ ar := fun e => nb1 (.inr (.inr (.inl e)))
  have HM := Lib.hid hm
  have HBW := Lib.hid (show Below w.heap.size w wd.drew from hbel.drew)
  have HR := Lib.hid (fun k (hk : R k) => (h.off k hk).1)
  have HN := Lib.hid (And.intro n1 (And.intro n2 (And.intro n3 (And.intro n4 (And.intro n5 n6)))))
  have HLT2 := Lib.hid HLT
  have HBB := Lib.hid hB
  have HP := Lib.hid hP
  have HNO := Lib.hid hno
  clear hP hno
  clear hm hbel hda hlt nb1 nb2 n1 n2 n3 n4 n5 n6 HLT h hB
  go_enter Try.func14, Try.ntmps14
  go_wp2_with fail
  rw [← hwd]
  clear hwd
  go_region_held3 (fun w' => w'.cell? ⟨w.heap.size, 0, none⟩ = some (.int .i64 (3)) ∧ w'.cell? ⟨w.heap.size, 1, none⟩ = some (.int .i64 o) ∧ w'.cell? ⟨w.heap.size, 2, none⟩ = some (.int .i64 at') ∧ w'.cell? ⟨w.heap.size, 3, none⟩ = some (.int .i64 p) ∧
      w'.cell? ⟨w.heap.size, 4, none⟩ = some (.int .i64 v) ∧ w'.cell? ⟨w.heap.size, 5, none⟩ = some (.int .i64 nn) ∧ w'.cell? ⟨w.heap.size, 6, none⟩ = some (.string s) ∧ w'.cell? ⟨w.heap.size, 7, none⟩ = some (.bool near))
    (first | exact DA.out | exact DA1.out | exact DA2.out)
    (first
      | (go_at_call 27; refine (grow_no a g cap S mo v P wd.drew HM.out.one.m HP.out HM.out.one.lim HNO.out).mono ?_; rintro e w1 ⟨rfl, b1⟩
         have k1 : Kept (fun k => k = a ∨ k = g) wd.drew w1 := Kept.of_below b1
         have h1 := HM.out.one.m.kept (Kept.of_below (F := fun _ => False) b1) id id
         have R1 := Lib.hid (HM.out.one.r.kept (Kept.of_below (F := fun _ => False) b1) id id)
         have DA1 := Lib.hid (DA.out.block (k1.block w.heap.size HLT2.out (fun e => e.elim HN.out.2.2.2.2.1 HN.out.1)))
         have H1 := Lib.hid h1
         have K1 := Lib.hid k1
         clear h1 k1)
      | (go_at_call 33; refine (refGrow_no ar gr S (mostOf mo) mo v P w1 R1.out HP.out HM.out.one.lim HNO.out).mono ?_; rintro e w2 ⟨rfl, rfl⟩))
  all_goals
    go_wp2_with fail
    go_ret
    exact ⟨by first | rfl | simp, (HM.out.turn (Nat.le_trans HBB.out HBW.out.size) H1.out K1.out (.inl rfl) R1.out (Kept.refl _ _) (.inl rfl) ⟨P, HP.out⟩).back HBW.out HR.out HBB.out⟩
set_option maxRecDepth 100000 in
set_option maxHeartbeats 4000000 in
theorem step_3y (B : Nat) (R : Nat → Prop) (a g cap ar gr : Nat) (S : List Int) (mo : Int) (a2 g2 cap2 ar2 gr2 : Nat) (S2 : List Int) (mo2 : Int) (w : World) (h : Both B R a g cap ar gr S mo a2 g2 cap2 ar2 gr2 S2 mo2 w) (hB : B ≤ w.heap.size)
    (o at' p nn : Int) (s : ByteArray) (near : Bool) (q P : Nat) (hP : S.length = P * 65536) (hno : (q : Int) ≤ mostOf mo - P) :
    Calls Try.prog 14 #[.pointer (some ⟨a, 0, none⟩), .pointer (some ⟨a2, 0, none⟩), .pointer (some ⟨ar, 0, none⟩), .pointer (some ⟨ar2, 0, none⟩), .agg #[.int .i64 3, .int .i64 o, .int .i64 at', .int .i64 p, .int .i64 q, .int .i64 nn, .string s, .bool near]] w
      fun e w' => e = .returned (.bool true) ∧ Turned B R a ar mo a2 ar2 mo2 w w' := by
  obtain ⟨wd, hwd⟩ : ∃ wd, wd = w.alloc (.cells #[.int .i64 3, .int .i64 o, .int .i64 at', .int .i64 p, .int .i64 q, .int .i64 nn, .string s, .bool near] 37) := ⟨_, rfl⟩
  have hbel : Below w.heap.size w wd := hwd ▸ (Below.refl _ _).alloc (Nat.le_refl _) _
  have hda : DeedAt w.heap.size (3) o at' p q nn s near wd := hwd ▸ deedAt_new w (3) o at' p q nn s near 37
  have hlt : w.heap.size < wd.heap.size := by rw [hwd]; simp
  have hm := (h.more hbel (b := w.heap.size) (Nat.le_refl _) hlt).below ((Below.refl wd.heap.size wd).drew)
  have DA : Hid (DeedAt w.heap.size (3) o at' p q nn s near wd.drew) := Lib.hid (hda.block rfl)
  have HDA := hda
  unfold DeedAt at HDA
  obtain ⟨c0, c1, c2, c3, c4, c5, c6, c7⟩ := HDA
  have HLT : w.heap.size < wd.drew.heap.size := hlt
  obtain ⟨_, nb1, nb2⟩ := hm.off w.heap.size (.inr rfl)
  have n1 : w.heap.size ≠ g := fun e => nb1 (.inr (.inl e))
  have n2 : w.heap.size ≠ gr := fun e => nb1 (.inr (.inr (.inr e)))
  have n3 : w.heap.size ≠ g2 := fun e => nb2 (.inr (.inl e))
  have n4 : w.heap.size ≠ gr2 := fun e => nb2 (.inr (.inr (.inr e)))
  have n5 : w.heap.size ≠ a := fun e => nb1 (.inl e)
  have n6 : w.heap.size ≠ ar := fun e => nb1 (.inr (.inr (.inl e)))
  have HM := Lib.hid hm
  have HBW := Lib.hid (show Below w.heap.size w wd.drew from hbel.drew)
  have HR := Lib.hid (fun k (hk : R k) => (h.off k hk).1)
  have HN := Lib.hid (And.intro n1 (And.intro n2 (And.intro n3 (And.intro n4 (And.intro n5 n6)))))
  have HLT2 := Lib.hid HLT
  have HBB := Lib.hid hB
  have HP := Lib.hid hP
  have HNO := Lib.hid hno
  clear hP hno
  clear hm hbel hda hlt nb1 nb2 n1 n2 n3 n4 n5 n6 HLT h hB
  go_enter Try.func14, Try.ntmps14
  go_wp2_with fail
  rw [← hwd]
  clear hwd
  go_region_held3 (fun w' => w'.cell? ⟨w.heap.size, 0, none⟩ = some (.int .i64 (3)) ∧ w'.cell? ⟨w.heap.size, 1, none⟩ = some (.int .i64 o) ∧ w'.cell? ⟨w.heap.size, 2, none⟩ = some (.int .i64 at') ∧ w'.cell? ⟨w.heap.size, 3, none⟩ = some (.int .i64 p) ∧
      w'.cell? ⟨w.heap.size, 4, none⟩ = some (.int .i64 q) ∧ w'.cell? ⟨w.heap.size, 5, none⟩ = some (.int .i64 nn) ∧ w'.cell? ⟨w.heap.size, 6, none⟩ = some (.string s) ∧ w'.cell? ⟨w.heap.size, 7, none⟩ = some (.bool near))
    (first | exact DA.out | exact DA1.out | exact DA2.out)
    (first
      | (go_at_call 27; refine (grow_yes a g cap S mo q P wd.drew HM.out.one.m HP.out HM.out.one.lim HNO.out).mono ?_; rintro e w1 ⟨rfl, g', cap', h1, k1, e1⟩
         have R1 := Lib.hid (HM.out.one.r.kept k1 (fun e => e.elim (fun e => HM.out.one.d1 e.symm) (fun e => HM.out.one.d3 e.symm)) (fun e => e.elim (fun e => HM.out.one.d2 e.symm) (fun e => HM.out.one.d4 e.symm)))
         have E1 := Lib.hid e1
         have DA1 := Lib.hid (DA.out.block (k1.block w.heap.size HLT2.out (fun e => e.elim HN.out.2.2.2.2.1 HN.out.1)))
         have H1 := Lib.hid h1
         have K1 := Lib.hid k1
         clear h1 k1)
      | (go_at_call 33; refine (refGrow_yes ar gr S (mostOf mo) mo q P w1 R1.out HP.out HM.out.one.lim HNO.out).mono ?_; rintro e w2 ⟨rfl, h2, k2⟩
         have DA2 := Lib.hid (DA1.out.block (k2.block w.heap.size (Nat.lt_of_lt_of_le HLT2.out K1.out.size) HN.out.2.2.2.2.2))
         have H2 := Lib.hid h2
         have K2 := Lib.hid k2
         clear h2 k2))
  all_goals
    go_wp2_with fail
    go_ret
    exact ⟨by first | rfl | simp, (HM.out.turn (Nat.le_trans HBB.out HBW.out.size) H1.out K1.out E1.out H2.out (K2.out.mono fun _ e => .inl e) (.inr (Nat.le_refl _)) ⟨P + q, by rw [growS_length, HP.out]; omega⟩).back HBW.out HR.out HBB.out⟩
set_option maxRecDepth 100000 in
set_option maxHeartbeats 4000000 in
theorem step_2 (B : Nat) (R : Nat → Prop) (a g cap ar gr : Nat) (S : List Int) (mo : Int) (a2 g2 cap2 ar2 gr2 : Nat) (S2 : List Int) (mo2 : Int) (w : World) (h : Both B R a g cap ar gr S mo a2 g2 cap2 ar2 gr2 S2 mo2 w) (hB : B ≤ w.heap.size)
    (o at' p v nn : Int) (s : ByteArray) (near : Bool) (hat : at' ≤ 9223372036854775807) :
    Calls Try.prog 14 #[.pointer (some ⟨a, 0, none⟩), .pointer (some ⟨a2, 0, none⟩), .pointer (some ⟨ar, 0, none⟩), .pointer (some ⟨ar2, 0, none⟩), .agg #[.int .i64 2, .int .i64 o, .int .i64 at', .int .i64 p, .int .i64 v, .int .i64 nn, .string s, .bool near]] w
      fun e w' => e = .returned (.bool true) ∧ Turned B R a ar mo a2 ar2 mo2 w w' := by
  obtain ⟨wd, hwd⟩ : ∃ wd, wd = w.alloc (.cells #[.int .i64 2, .int .i64 o, .int .i64 at', .int .i64 p, .int .i64 v, .int .i64 nn, .string s, .bool near] 37) := ⟨_, rfl⟩
  have hbel : Below w.heap.size w wd := hwd ▸ (Below.refl _ _).alloc (Nat.le_refl _) _
  have hm := h.below hbel
  have HL1 := Lib.hid (load_any a g cap S mo o at' wd hm.one.m hat)
  have HL2 := Lib.hid (refLoad_any ar gr S (mostOf mo) mo o at' wd hm.one.r)
  obtain ⟨A, t, hA⟩ : ∃ A t, loadTup S o at' = .tuple #[.int .i64 A, .int .i64 t] := by unfold loadTup; split; exact ⟨_, _, rfl⟩; exact ⟨_, _, rfl⟩
  rw [hA] at HL1 HL2
  have HTU : Hid (∀ w2, Below wd.heap.size wd w2 → Turned B R a ar mo a2 ar2 mo2 w w2) := Lib.hid fun w2 hb => ⟨g, cap, gr, S, g2, cap2, gr2, S2, hm.below hb, (hbel.mono hB).trans (hb.mono (Nat.le_trans hB hbel.size)), fun k hk => (hb.block k (Nat.lt_of_lt_of_le (h.off k hk).1 hbel.size)).trans (hbel.block k (h.off k hk).1)⟩
  clear hm hbel h hB hA
  subst hwd
  go_enter Try.func14, Try.ntmps14
  go_wp2_with (first
    | (go_at_call 23; refine HL1.out.mono ?_; rintro e w1 ⟨rfl, rfl⟩)
    | (go_at_call 32; refine HL2.out.mono ?_; rintro e w2 ⟨rfl, hb2⟩))
  go_ret
  exact ⟨by first | rfl | simp, HTU.out _ hb2⟩
set_option maxRecDepth 100000 in
set_option maxHeartbeats 4000000 in
theorem step_5 (B : Nat) (R : Nat → Prop) (a g cap ar gr : Nat) (S : List Int) (mo : Int) (a2 g2 cap2 ar2 gr2 : Nat) (S2 : List Int) (mo2 : Int) (w : World) (h : Both B R a g cap ar gr S mo a2 g2 cap2 ar2 gr2 S2 mo2 w) (hB : B ≤ w.heap.size)
    (o at' p v nn : Int) (s : ByteArray) (near : Bool) (hat : at' ≤ 9223372036854775807) :
    Calls Try.prog 14 #[.pointer (some ⟨a, 0, none⟩), .pointer (some ⟨a2, 0, none⟩), .pointer (some ⟨ar, 0, none⟩), .pointer (some ⟨ar2, 0, none⟩), .agg #[.int .i64 5, .int .i64 o, .int .i64 at', .int .i64 p, .int .i64 v, .int .i64 nn, .string s, .bool near]] w
      fun e w' => e = .returned (.bool true) ∧ Turned B R a ar mo a2 ar2 mo2 w w' := by
  obtain ⟨wd, hwd⟩ : ∃ wd, wd = w.alloc (.cells #[.int .i64 5, .int .i64 o, .int .i64 at', .int .i64 p, .int .i64 v, .int .i64 nn, .string s, .bool near] 37) := ⟨_, rfl⟩
  have hbel : Below w.heap.size w wd := hwd ▸ (Below.refl _ _).alloc (Nat.le_refl _) _
  have hm := h.below hbel
  have HL1 := Lib.hid (read_any a g cap S mo at' nn wd hm.one.m hat)
  have HL2 := Lib.hid (refRead_any ar gr S (mostOf mo) mo at' nn wd hm.one.r)
  obtain ⟨A, t, hA⟩ : ∃ A t, readTup S at' nn = .tuple #[.string A, .int .i64 t] := by unfold readTup; split; exact ⟨_, _, rfl⟩; exact ⟨_, _, rfl⟩
  rw [hA] at HL1 HL2
  have HTU : Hid (∀ w2, Below wd.heap.size wd w2 → Turned B R a ar mo a2 ar2 mo2 w w2) := Lib.hid fun w2 hb => ⟨g, cap, gr, S, g2, cap2, gr2, S2, hm.below hb, (hbel.mono hB).trans (hb.mono (Nat.le_trans hB hbel.size)), fun k hk => (hb.block k (Nat.lt_of_lt_of_le (h.off k hk).1 hbel.size)).trans (hbel.block k (h.off k hk).1)⟩
  clear hm hbel h hB hA
  subst hwd
  go_enter Try.func14, Try.ntmps14
  go_wp2_with (first
    | (go_at_call 21; refine HL1.out.mono ?_; rintro e w1 ⟨rfl, rfl⟩)
    | (go_at_call 35; refine HL2.out.mono ?_; rintro e w2 ⟨rfl, rfl⟩))
  go_ret
  exact ⟨by first | rfl | simp, HTU.out _ (Below.refl _ _)⟩
end Go.Proofs.Ytogkieekpmcinaa
