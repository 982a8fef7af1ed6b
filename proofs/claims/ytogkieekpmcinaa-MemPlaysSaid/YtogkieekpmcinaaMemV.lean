/- A step: writing, filling, copying. -/
import Derived.Test.YtogkieekpmcinaaMemU
namespace Go.Proofs.Ytogkieekpmcinaa
open Go.RowKit

set_option maxRecDepth 100000 in
set_option maxHeartbeats 4000000 in
theorem step_4 (B : Nat) (R : Nat → Prop) (a g cap ar gr : Nat) (S : List Int) (mo : Int) (a2 g2 cap2 ar2 gr2 : Nat) (S2 : List Int) (mo2 : Int) (w : World) (h : Both B R a g cap ar gr S mo a2 g2 cap2 ar2 gr2 S2 mo2 w) (hB : B ≤ w.heap.size)
    (o at' p v nn : Int) (s : ByteArray) (near : Bool) (hat : at' ≤ 9223372036854775807) (hs : s.size ≤ maxLen) :
    Calls Try.prog 14 #[.pointer (some ⟨a, 0, none⟩), .pointer (some ⟨a2, 0, none⟩), .pointer (some ⟨ar, 0, none⟩), .pointer (some ⟨ar2, 0, none⟩), .agg #[.int .i64 4, .int .i64 o, .int .i64 at', .int .i64 p, .int .i64 v, .int .i64 nn, .string s, .bool near]] w
      fun e w' => e = .returned (.bool true) ∧ Turned B R a ar mo a2 ar2 mo2 w w' := by
  obtain ⟨wd, hwd⟩ : ∃ wd, wd = w.alloc (.cells #[.int .i64 4, .int .i64 o, .int .i64 at', .int .i64 p, .int .i64 v, .int .i64 nn, .string s, .bool near] 37) := ⟨_, rfl⟩
  have hbel : Below w.heap.size w wd := hwd ▸ (Below.refl _ _).alloc (Nat.le_refl _) _
  have hda : DeedAt w.heap.size (4) o at' p v nn s near wd := hwd ▸ deedAt_new w (4) o at' p v nn s near 37
  have hlt : w.heap.size < wd.heap.size := by rw [hwd]; simp
  have hm := (h.more hbel (b := w.heap.size) (Nat.le_refl _) hlt).below ((Below.refl wd.heap.size wd).drew)
  have DA : Hid (DeedAt w.heap.size (4) o at' p v nn s near wd.drew) := Lib.hid (hda.block rfl)
  have HDA := hda
  unfold DeedAt at HDA
  obtain ⟨c0, c1, c2, c3, c4, c5, c6, c7⟩ := HDA
  have HLT : w.heap.size < wd.drew.heap.size := hlt
  obtain ⟨_, nb1, nb2⟩ := hm.off w.heap.size (.inr rfl)
  have n1 : w.heap.size ≠ g := fun e => nb1 (.inr (.inl e))
  have n2 : w.heap.size ≠ gr := fun e => nb1 (.inr (.inr (.inr e)))
  have n3 : w.heap.size ≠ g2 := fun e => nb2 (.inr (.inl e))
  have n4 : w.heap.size ≠ gr2 := fun e => nb2 (.inr (.inr (.inr e)))
  have n5 : w.heap.size ≠ a := fun e => nb1 (.inl e)
  have n6 : w.heap.size ≠ ar := fun e => nb1 (.inr (.inr (.inl e)))
  have HM := Lib.hid hm
  have HBW := Lib.hid (show Below w.heap.size w wd.drew from hbel.drew)
  have HR := Lib.hid (fun k (hk : R k) => (h.off k hk).1)
  have HN := Lib.hid (And.intro n1 (And.intro n2 (And.intro n3 (And.intro n4 (And.intro n5 n6)))))
  have HLT2 := Lib.hid HLT
  have HBB := Lib.hid hB
  clear hm hbel hda hlt nb1 nb2 n1 n2 n3 n4 n5 n6 HLT h hB
  go_enter Try.func14, Try.ntmps14
  go_wp2_with fail
  rw [← hwd]
  clear hwd
  go_region_held3 (fun w' => w'.cell? ⟨w.heap.size, 0, none⟩ = some (.int .i64 (4)) ∧ w'.cell? ⟨w.heap.size, 1, none⟩ = some (.int .i64 o) ∧ w'.cell? ⟨w.heap.size, 2, none⟩ = some (.int .i64 at') ∧ w'.cell? ⟨w.heap.size, 3, none⟩ = some (.int .i64 p) ∧
      w'.cell? ⟨w.heap.size, 4, none⟩ = some (.int .i64 v) ∧ w'.cell? ⟨w.heap.size, 5, none⟩ = some (.int .i64 nn) ∧ w'.cell? ⟨w.heap.size, 6, none⟩ = some (.string s) ∧ w'.cell? ⟨w.heap.size, 7, none⟩ = some (.bool near))
    (first | exact DA.out | exact DA1.out | exact DA2.out)
    (first
      | (go_at_call 28; refine (write_any a g cap S mo at' s wd.drew HM.out.one.m hat).mono ?_; rintro e w1 ⟨rfl, h1, k1⟩
         have DA1 := Lib.hid (DA.out.block (k1.block w.heap.size HLT2.out HN.out.1))
         have H1 := Lib.hid h1
         have K1 := Lib.hid k1
         clear h1 k1)
      | (go_at_call 34; refine (refWrite_any ar gr S (mostOf mo) mo at' s w1 (HM.out.one.r.kept K1.out (fun e => HM.out.one.d3 e.symm) (fun e => HM.out.one.d4 e.symm)) hs).mono ?_; rintro e w2 ⟨rfl, h2, k2⟩
         have DA2 := Lib.hid (DA1.out.block (k2.block w.heap.size (Nat.lt_of_lt_of_le HLT2.out K1.out.size) HN.out.2.1))
         have H2 := Lib.hid h2
         have K2 := Lib.hid k2
         clear h2 k2))
  all_goals
    go_wp2_with fail
    go_ret
    exact ⟨by first | rfl | simp, (HM.out.turn (Nat.le_trans HBB.out HBW.out.size) H1.out (K1.out.mono fun _ e => .inr e) (.inl rfl) H2.out (K2.out.mono fun _ e => .inr e) (.inl rfl) (stores_P HM.out.one.P (writeS_length ..))).back HBW.out HR.out HBB.out⟩
set_option maxRecDepth 100000 in
set_option maxHeartbeats 4000000 in
theorem step_6 (B : Nat) (R : Nat → Prop) (a g cap ar gr : Nat) (S : List Int) (mo : Int) (a2 g2 cap2 ar2 gr2 : Nat) (S2 : List Int) (mo2 : Int) (w : World) (h : Both B R a g cap ar gr S mo a2 g2 cap2 ar2 gr2 S2 mo2 w) (hB : B ≤ w.heap.size)
    (o at' p v nn : Int) (s : ByteArray) (near : Bool) (hat : at' ≤ 9223372036854775807) :
    Calls Try.prog 14 #[.pointer (some ⟨a, 0, none⟩), .pointer (some ⟨a2, 0, none⟩), .pointer (some ⟨ar, 0, none⟩), .pointer (some ⟨ar2, 0, none⟩), .agg #[.int .i64 6, .int .i64 o, .int .i64 at', .int .i64 p, .int .i64 v, .int .i64 nn, .string s, .bool near]] w
      fun e w' => e = .returned (.bool true) ∧ Turned B R a ar mo a2 ar2 mo2 w w' := by
  obtain ⟨wd, hwd⟩ : ∃ wd, wd = w.alloc (.cells #[.int .i64 6, .int .i64 o, .int .i64 at', .int .i64 p, .int .i64 v, .int .i64 nn, .string s, .bool near] 37) := ⟨_, rfl⟩
  have hbel : Below w.heap.size w wd := hwd ▸ (Below.refl _ _).alloc (Nat.le_refl _) _
  have hda : DeedAt w.heap.size (6) o at' p v nn s near wd := hwd ▸ deedAt_new w (6) o at' p v nn s near 37
  have hlt : w.heap.size < wd.heap.size := by rw [hwd]; simp
  have hm := (h.more hbel (b := w.heap.size) (Nat.le_refl _) hlt).below ((Below.refl wd.heap.size wd).drew)
  have DA : Hid (DeedAt w.heap.size (6) o at' p v nn s near wd.drew) := Lib.hid (hda.block rfl)
  have HDA := hda
  unfold DeedAt at HDA
  obtain ⟨c0, c1, c2, c3, c4, c5, c6, c7⟩ := HDA
  have HLT : w.heap.size < wd.drew.heap.size := hlt
  obtain ⟨_, nb1, nb2⟩ := hm.off w.heap.size (.inr rfl)
  have n1 : w.heap.size ≠ g := fun e => nb1 (.inr (.inl e))
  have n2 : w.heap.size ≠ gr := fun e => nb1 (.inr (.inr (.inr e)))
  have n3 : w.heap.size ≠ g2 := fun e => nb2 (.inr (.inl e))
  have n4 : w.heap.size ≠ gr2 := fun e => nb2 (.inr (.inr (.inr e)))
  have n5 : w.heap.size ≠ a := fun e => nb1 (.inl e)
  have n6 : w.heap.size ≠ ar := fun e => nb1 (.inr (.inr (.inl e)))
  have HM := Lib.hid hm
  have HBW := Lib.hid (show Below w.heap.size w wd.drew from hbel.drew)
  have HR := Lib.hid (fun k (hk : R k) => (h.off k hk).1)
  have HN := Lib.hid (And.intro n1 (And.intro n2 (And.intro n3 (And.intro n4 (And.intro n5 n6)))))
  have HLT2 := Lib.hid HLT
  have HBB := Lib.hid hB
  clear hm hbel hda hlt nb1 nb2 n1 n2 n3 n4 n5 n6 HLT h hB
  go_enter Try.func14, Try.ntmps14
  go_wp2_with fail
  rw [← hwd]
  clear hwd
  go_region_held3 (fun w' => w'.cell? ⟨w.heap.size, 0, none⟩ = some (.int .i64 (6)) ∧ w'.cell? ⟨w.heap.size, 1, none⟩ = some (.int .i64 o) ∧ w'.cell? ⟨w.heap.size, 2, none⟩ = some (.int .i64 at') ∧ w'.cell? ⟨w.heap.size, 3, none⟩ = some (.int .i64 p) ∧
      w'.cell? ⟨w.heap.size, 4, none⟩ = some (.int .i64 v) ∧ w'.cell? ⟨w.heap.size, 5, none⟩ = some (.int .i64 nn) ∧ w'.cell? ⟨w.heap.size, 6, none⟩ = some (.string s) ∧ w'.cell? ⟨w.heap.size, 7, none⟩ = some (.bool near))
    (first | exact DA.out | exact DA1.out | exact DA2.out)
    (first
      | (go_at_call 29; refine (fill_any a g cap S mo at' v nn wd.drew HM.out.one.m hat).mono ?_; rintro e w1 ⟨rfl, h1, k1⟩
         have DA1 := Lib.hid (DA.out.block (k1.block w.heap.size HLT2.out HN.out.1))
         have H1 := Lib.hid h1
         have K1 := Lib.hid k1
         clear h1 k1)
      | (go_at_call 36; refine (refFill_any ar gr S (mostOf mo) mo at' v nn w1 (HM.out.one.r.kept K1.out (fun e => HM.out.one.d3 e.symm) (fun e => HM.out.one.d4 e.symm))).mono ?_; rintro e w2 ⟨rfl, h2, k2⟩
         have DA2 := Lib.hid (DA1.out.block (k2.block w.heap.size (Nat.lt_of_lt_of_le HLT2.out K1.out.size) HN.out.2.1))
         have H2 := Lib.hid h2
         have K2 := Lib.hid k2
         clear h2 k2))
  all_goals
    go_wp2_with fail
    go_ret
    exact ⟨by first | rfl | simp, (HM.out.turn (Nat.le_trans HBB.out HBW.out.size) H1.out (K1.out.mono fun _ e => .inr e) (.inl rfl) H2.out (K2.out.mono fun _ e => .inr e) (.inl rfl) (stores_P HM.out.one.P (fillS_length ..))).back HBW.out HR.out HBB.out⟩
set_option maxRecDepth 100000 in
set_option maxHeartbeats 4000000 in
theorem step_7 (B : Nat) (R : Nat → Prop) (a g cap ar gr : Nat) (S : List Int) (mo : Int) (a2 g2 cap2 ar2 gr2 : Nat) (S2 : List Int) (mo2 : Int) (w : World) (h : Both B R a g cap ar gr S mo a2 g2 cap2 ar2 gr2 S2 mo2 w) (hB : B ≤ w.heap.size)
    (o at' p v nn : Int) (s : ByteArray) (near : Bool) (hat : at' ≤ 9223372036854775807) (hp : p ≤ 9223372036854775807) :
    Calls Try.prog 14 #[.pointer (some ⟨a, 0, none⟩), .pointer (some ⟨a2, 0, none⟩), .pointer (some ⟨ar, 0, none⟩), .pointer (some ⟨ar2, 0, none⟩), .agg #[.int .i64 7, .int .i64 o, .int .i64 at', .int .i64 p, .int .i64 v, .int .i64 nn, .string s, .bool near]] w
      fun e w' => e = .returned (.bool true) ∧ Turned B R a ar mo a2 ar2 mo2 w w' := by
  obtain ⟨wd, hwd⟩ : ∃ wd, wd = w.alloc (.cells #[.int .i64 7, .int .i64 o, .int .i64 at', .int .i64 p, .int .i64 v, .int .i64 nn, .string s, .bool near] 37) := ⟨_, rfl⟩
  have hbel : Below w.heap.size w wd := hwd ▸ (Below.refl _ _).alloc (Nat.le_refl _) _
  have hda : DeedAt w.heap.size (7) o at' p v nn s near wd := hwd ▸ deedAt_new w (7) o at' p v nn s near 37
  have hlt : w.heap.size < wd.heap.size := by rw [hwd]; simp
  have hm := (h.more hbel (b := w.heap.size) (Nat.le_refl _) hlt).below ((Below.refl wd.heap.size wd).drew)
  have DA : Hid (DeedAt w.heap.size (7) o at' p v nn s near wd.drew) := Lib.hid (hda.block rfl)
  have HDA := hda
  unfold DeedAt at HDA
  obtain ⟨c0, c1, c2, c3, c4, c5, c6, c7⟩ := HDA
  have HLT : w.heap.size < wd.drew.heap.size := hlt
  obtain ⟨_, nb1, nb2⟩ := hm.off w.heap.size (.inr rfl)
  have n1 : w.heap.size ≠ g := fun e => nb1 (.inr (.inl e))
  have n2 : w.heap.size ≠ gr := fun e => nb1 (.inr (.inr (.inr e)))
  have n3 : w.heap.size ≠ g2 := fun e => nb2 (.inr (.inl e))
  have n4 : w.heap.size ≠ gr2 := fun e => nb2 (.inr (.inr (.inr e)))
  have n5 : w.heap.size ≠ a := fun e => nb1 (.inl e)
  have n6 : w.heap.size ≠ ar := fun e => nb1 (.inr (.inr (.inl e)))
  have HM := Lib.hid hm
  have HBW := Lib.hid (show Below w.heap.size w wd.drew from hbel.drew)
  have HR := Lib.hid (fun k (hk : R k) => (h.off k hk).1)
  have HN := Lib.hid (And.intro n1 (And.intro n2 (And.intro n3 (And.intro n4 (And.intro n5 n6)))))
  have HLT2 := Lib.hid HLT
  have HBB := Lib.hid hB
  clear hm hbel hda hlt nb1 nb2 n1 n2 n3 n4 n5 n6 HLT h hB
  go_enter Try.func14, Try.ntmps14
  go_wp2_with fail
  rw [← hwd]
  clear hwd
  go_region_held3 (fun w' => w'.cell? ⟨w.heap.size, 0, none⟩ = some (.int .i64 (7)) ∧ w'.cell? ⟨w.heap.size, 1, none⟩ = some (.int .i64 o) ∧ w'.cell? ⟨w.heap.size, 2, none⟩ = some (.int .i64 at') ∧ w'.cell? ⟨w.heap.size, 3, none⟩ = some (.int .i64 p) ∧
      w'.cell? ⟨w.heap.size, 4, none⟩ = some (.int .i64 v) ∧ w'.cell? ⟨w.heap.size, 5, none⟩ = some (.int .i64 nn) ∧ w'.cell? ⟨w.heap.size, 6, none⟩ = some (.string s) ∧ w'.cell? ⟨w.heap.size, 7, none⟩ = some (.bool near))
    (first | exact DA.out | exact DA1.out | exact DA2.out)
    (first
      | (go_at_call 24; refine (copy_any a g cap S mo at' a g cap S mo p nn wd.drew HM.out.one.m HM.out.one.m hat hp).mono ?_; rintro e w1 ⟨rfl, h1, k1⟩
         have DA1 := Lib.hid (DA.out.block (k1.block w.heap.size HLT2.out HN.out.1))
         have H1 := Lib.hid h1
         have K1 := Lib.hid k1
         clear h1 k1)
      | (go_at_call 37; refine (refCopy_any ar gr S (mostOf mo) mo at' ar gr S (mostOf mo) mo p nn w1 (HM.out.one.r.kept K1.out (fun e => HM.out.one.d3 e.symm) (fun e => HM.out.one.d4 e.symm)) (HM.out.one.r.kept K1.out (fun e => HM.out.one.d3 e.symm) (fun e => HM.out.one.d4 e.symm))).mono ?_; rintro e w2 ⟨rfl, h2, k2⟩
         have DA2 := Lib.hid (DA1.out.block (k2.block w.heap.size (Nat.lt_of_lt_of_le HLT2.out K1.out.size) HN.out.2.1))
         have H2 := Lib.hid h2
         have K2 := Lib.hid k2
         clear h2 k2))
  all_goals
    go_wp2_with fail
    go_ret
    exact ⟨by first | rfl | simp, (HM.out.turn (Nat.le_trans HBB.out HBW.out.size) H1.out (K1.out.mono fun _ e => .inr e) (.inl rfl) H2.out (K2.out.mono fun _ e => .inr e) (.inl rfl) (stores_P HM.out.one.P (copyS_length ..))).back HBW.out HR.out HBB.out⟩
set_option maxRecDepth 100000 in
set_option maxHeartbeats 4000000 in
theorem step_8 (B : Nat) (R : Nat → Prop) (a g cap ar gr : Nat) (S : List Int) (mo : Int) (a2 g2 cap2 ar2 gr2 : Nat) (S2 : List Int) (mo2 : Int) (w : World) (h : Both B R a g cap ar gr S mo a2 g2 cap2 ar2 gr2 S2 mo2 w) (hB : B ≤ w.heap.size)
    (o at' p v nn : Int) (s : ByteArray) (near : Bool) (hat : at' ≤ 9223372036854775807) (hp : p ≤ 9223372036854775807) :
    Calls Try.prog 14 #[.pointer (some ⟨a, 0, none⟩), .pointer (some ⟨a2, 0, none⟩), .pointer (some ⟨ar, 0, none⟩), .pointer (some ⟨ar2, 0, none⟩), .agg #[.int .i64 8, .int .i64 o, .int .i64 at', .int .i64 p, .int .i64 v, .int .i64 nn, .string s, .bool near]] w
      fun e w' => e = .returned (.bool true) ∧ Turned B R a ar mo a2 ar2 mo2 w w' := by
  obtain ⟨wd, hwd⟩ : ∃ wd, wd = w.alloc (.cells #[.int .i64 8, .int .i64 o, .int .i64 at', .int .i64 p, .int .i64 v, .int .i64 nn, .string s, .bool near] 37) := ⟨_, rfl⟩
  have hbel : Below w.heap.size w wd := hwd ▸ (Below.refl _ _).alloc (Nat.le_refl _) _
  have hda : DeedAt w.heap.size (8) o at' p v nn s near wd := hwd ▸ deedAt_new w (8) o at' p v nn s near 37
  have hlt : w.heap.size < wd.heap.size := by rw [hwd]; simp
  have hm := (h.more hbel (b := w.heap.size) (Nat.le_refl _) hlt).below ((Below.refl wd.heap.size wd).drew)
  have DA : Hid (DeedAt w.heap.size (8) o at' p v nn s near wd.drew) := Lib.hid (hda.block rfl)
  have HDA := hda
  unfold DeedAt at HDA
  obtain ⟨c0, c1, c2, c3, c4, c5, c6, c7⟩ := HDA
  have HLT : w.heap.size < wd.drew.heap.size := hlt
  obtain ⟨_, nb1, nb2⟩ := hm.off w.heap.size (.inr rfl)
  have n1 : w.heap.size ≠ g := fun e => nb1 (.inr (.inl e))
  have n2 : w.heap.size ≠ gr := fun e => nb1 (.inr (.inr (.inr e)))
  have n3 : w.heap.size ≠ g2 := fun e => nb2 (.inr (.inl e))
  have n4 : w.heap.size ≠ gr2 := fun e => nb2 (.inr (.inr (.inr e)))
  have n5 : w.heap.size ≠ a := fun e => nb1 (.inl e)
  have n6 : w.heap.size ≠ ar := fun e => nb1 (.inr (.inr (.inl e)))
  have HM := Lib.hid hm
  have HBW := Lib.hid (show Below w.heap.size w wd.drew from hbel.drew)
  have HR := Lib.hid (fun k (hk : R k) => (h.off k hk).1)
  have HN := Lib.hid (And.intro n1 (And.intro n2 (And.intro n3 (And.intro n4 (And.intro n5 n6)))))
  have HLT2 := Lib.hid HLT
  have HBB := Lib.hid hB
  clear hm hbel hda hlt nb1 nb2 n1 n2 n3 n4 n5 n6 HLT h hB
  go_enter Try.func14, Try.ntmps14
  go_wp2_with fail
  rw [← hwd]
  clear hwd
  go_region_held3 (fun w' => w'.cell? ⟨w.heap.size, 0, none⟩ = some (.int .i64 (8)) ∧ w'.cell? ⟨w.heap.size, 1, none⟩ = some (.int .i64 o) ∧ w'.cell? ⟨w.heap.size, 2, none⟩ = some (.int .i64 at') ∧ w'.cell? ⟨w.heap.size, 3, none⟩ = some (.int .i64 p) ∧
      w'.cell? ⟨w.heap.size, 4, none⟩ = some (.int .i64 v) ∧ w'.cell? ⟨w.heap.size, 5, none⟩ = some (.int .i64 nn) ∧ w'.cell? ⟨w.heap.size, 6, none⟩ = some (.string s) ∧ w'.cell? ⟨w.heap.size, 7, none⟩ = some (.bool near))
    (first | exact DA.out | exact DA1.out | exact DA2.out)
    (first
      | (go_at_call 24; refine (copy_any a g cap S mo at' a2 g2 cap2 S2 mo2 p nn wd.drew HM.out.one.m HM.out.two.m hat hp).mono ?_; rintro e w1 ⟨rfl, h1, k1⟩
         have DA1 := Lib.hid (DA.out.block (k1.block w.heap.size HLT2.out HN.out.1))
         have H1 := Lib.hid h1
         have K1 := Lib.hid k1
         clear h1 k1)
      | (go_at_call 37; refine (refCopy_any ar gr S (mostOf mo) mo at' ar2 gr2 S2 (mostOf mo2) mo2 p nn w1 (HM.out.one.r.kept K1.out (fun e => HM.out.one.d3 e.symm) (fun e => HM.out.one.d4 e.symm)) (HM.out.two.r.kept K1.out (fun e => HM.out.ap _ (.inr (.inl rfl)) (e ▸ .inr (.inr (.inl rfl)))) (fun e => HM.out.ap _ (.inr (.inl rfl)) (e ▸ .inr (.inr (.inr rfl)))))).mono ?_; rintro e w2 ⟨rfl, h2, k2⟩
         have DA2 := Lib.hid (DA1.out.block (k2.block w.heap.size (Nat.lt_of_lt_of_le HLT2.out K1.out.size) HN.out.2.1))
         have H2 := Lib.hid h2
         have K2 := Lib.hid k2
         clear h2 k2))
  all_goals
    go_wp2_with fail
    go_ret
    exact ⟨by first | rfl | simp, (HM.out.turn (Nat.le_trans HBB.out HBW.out.size) H1.out (K1.out.mono fun _ e => .inr e) (.inl rfl) H2.out (K2.out.mono fun _ e => .inr e) (.inl rfl) (stores_P HM.out.one.P (copyS_length ..))).back HBW.out HR.out HBB.out⟩
set_option maxRecDepth 100000 in
set_option maxHeartbeats 4000000 in
theorem step_9 (B : Nat) (R : Nat → Prop) (a g cap ar gr : Nat) (S : List Int) (mo : Int) (a2 g2 cap2 ar2 gr2 : Nat) (S2 : List Int) (mo2 : Int) (w : World) (h : Both B R a g cap ar gr S mo a2 g2 cap2 ar2 gr2 S2 mo2 w) (hB : B ≤ w.heap.size)
    (k o at' p v nn : Int) (s : ByteArray) (near : Bool) (hat : at' ≤ 9223372036854775807) (hp : p ≤ 9223372036854775807) (hk0 : (k == 0) = false) (hk1 : (k == 1) = false) (hk2 : (k == 2) = false) (hk3 : (k == 3) = false) (hk4 : (k == 4) = false) (hk5 : (k == 5) = false) (hk6 : (k == 6) = false) (hk7 : (k == 7) = false) (hk8 : (k == 8) = false) :
    Calls Try.prog 14 #[.pointer (some ⟨a, 0, none⟩), .pointer (some ⟨a2, 0, none⟩), .pointer (some ⟨ar, 0, none⟩), .pointer (some ⟨ar2, 0, none⟩), .agg #[.int .i64 k, .int .i64 o, .int .i64 at', .int .i64 p, .int .i64 v, .int .i64 nn, .string s, .bool near]] w
      fun e w' => e = .returned (.bool true) ∧ Turned B R a ar mo a2 ar2 mo2 w w' := by
  obtain ⟨wd, hwd⟩ : ∃ wd, wd = w.alloc (.cells #[.int .i64 k, .int .i64 o, .int .i64 at', .int .i64 p, .int .i64 v, .int .i64 nn, .string s, .bool near] 37) := ⟨_, rfl⟩
  have hbel : Below w.heap.size w wd := hwd ▸ (Below.refl _ _).alloc (Nat.le_refl _) _
  have hda : DeedAt w.heap.size (k) o at' p v nn s near wd := hwd ▸ deedAt_new w (k) o at' p v nn s near 37
  have hlt : w.heap.size < wd.heap.size := by rw [hwd]; simp
  have hm := (h.more hbel (b := w.heap.size) (Nat.le_refl _) hlt).below ((Below.refl wd.heap.size wd).drew)
  have DA : Hid (DeedAt w.heap.size (k) o at' p v nn s near wd.drew) := Lib.hid (hda.block rfl)
  have HDA := hda
  unfold DeedAt at HDA
  obtain ⟨c0, c1, c2, c3, c4, c5, c6, c7⟩ := HDA
  have HLT : w.heap.size < wd.drew.heap.size := hlt
  obtain ⟨_, nb1, nb2⟩ := hm.off w.heap.size (.inr rfl)
  have n1 : w.heap.size ≠ g := fun e => nb1 (.inr (.inl e))
  have n2 : w.heap.size ≠ gr := fun e => nb1 (.inr (.inr (.inr e)))
  have n3 : w.heap.size ≠ g2 := fun e => nb2 (.inr (.inl e))
  have n4 : w.heap.size ≠ gr2 := fun e => nb2 (.inr (.inr (.inr e)))
  have n5 : w.heap.size ≠ a := fun e => nb1 (.inl e)
  have n6 : w.heap.size ≠ ar := fun e => nb1 (.inr (.inr (.inl e)))
  have HM := Lib.hid hm
  have HBW := Lib.hid (show Below w.heap.size w wd.drew from hbel.drew)
  have HR := Lib.hid (fun k (hk : R k) => (h.off k hk).1)
  have HN := Lib.hid (And.intro n1 (And.intro n2 (And.intro n3 (And.intro n4 (And.intro n5 n6)))))
  have HLT2 := Lib.hid HLT
  have HBB := Lib.hid hB
  clear hm hbel hda hlt nb1 nb2 n1 n2 n3 n4 n5 n6 HLT h hB
  go_enter Try.func14, Try.ntmps14
  go_wp2_with fail
  rw [← hwd]
  clear hwd
  go_region_held3 (fun w' => w'.cell? ⟨w.heap.size, 0, none⟩ = some (.int .i64 (k)) ∧ w'.cell? ⟨w.heap.size, 1, none⟩ = some (.int .i64 o) ∧ w'.cell? ⟨w.heap.size, 2, none⟩ = some (.int .i64 at') ∧ w'.cell? ⟨w.heap.size, 3, none⟩ = some (.int .i64 p) ∧
      w'.cell? ⟨w.heap.size, 4, none⟩ = some (.int .i64 v) ∧ w'.cell? ⟨w.heap.size, 5, none⟩ = some (.int .i64 nn) ∧ w'.cell? ⟨w.heap.size, 6, none⟩ = some (.string s) ∧ w'.cell? ⟨w.heap.size, 7, none⟩ = some (.bool near))
    (first | exact DA.out | exact DA1.out | exact DA2.out)
    (first
      | (go_at_call 24; refine (copy_any a2 g2 cap2 S2 mo2 at' a g cap S mo p nn wd.drew HM.out.two.m HM.out.one.m hat hp).mono ?_; rintro e w1 ⟨rfl, h1, k1⟩
         have DA1 := Lib.hid (DA.out.block (k1.block w.heap.size HLT2.out HN.out.2.2.1))
         have H1 := Lib.hid h1
         have K1 := Lib.hid k1
         clear h1 k1)
      | (go_at_call 37; refine (refCopy_any ar2 gr2 S2 (mostOf mo2) mo2 at' ar gr S (mostOf mo) mo p nn w1 (HM.out.two.r.kept K1.out (fun e => HM.out.two.d3 e.symm) (fun e => HM.out.two.d4 e.symm)) (HM.out.one.r.kept K1.out (fun e => HM.out.ap _ (.inr (.inr (.inl rfl))) (e ▸ .inr (.inl rfl))) (fun e => HM.out.ap _ (.inr (.inr (.inr rfl))) (e ▸ .inr (.inl rfl))))).mono ?_; rintro e w2 ⟨rfl, h2, k2⟩
         have DA2 := Lib.hid (DA1.out.block (k2.block w.heap.size (Nat.lt_of_lt_of_le HLT2.out K1.out.size) HN.out.2.2.2.1))
         have H2 := Lib.hid h2
         have K2 := Lib.hid k2
         clear h2 k2))
  all_goals
    go_wp2_with fail
    go_ret
    exact ⟨by first | rfl | simp, (HM.out.swap.turn (Nat.le_trans HBB.out HBW.out.size) H1.out (K1.out.mono fun _ e => .inr e) (.inl rfl) H2.out (K2.out.mono fun _ e => .inr e) (.inl rfl) (stores_P HM.out.two.P (copyS_length ..))).swap.back HBW.out HR.out HBB.out⟩
end Go.Proofs.Ytogkieekpmcinaa
