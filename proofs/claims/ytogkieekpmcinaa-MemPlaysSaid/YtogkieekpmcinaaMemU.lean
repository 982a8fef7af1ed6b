/- A step: stores. -/
import Derived.Test.YtogkieekpmcinaaMemT
import Derived.Deep.RegionHeld3
namespace Go.Proofs.Ytogkieekpmcinaa
open Go.RowKit

/-- A deed's cells in a block. -/
def DeedAt (bd : Nat) (k o at' p v nn : Int) (s : ByteArray) (near : Bool) (w : World) : Prop :=
  w.cell? ⟨bd, 0, none⟩ = some (.int .i64 k) ∧ w.cell? ⟨bd, 1, none⟩ = some (.int .i64 o) ∧ w.cell? ⟨bd, 2, none⟩ = some (.int .i64 at') ∧ w.cell? ⟨bd, 3, none⟩ = some (.int .i64 p) ∧
  w.cell? ⟨bd, 4, none⟩ = some (.int .i64 v) ∧ w.cell? ⟨bd, 5, none⟩ = some (.int .i64 nn) ∧ w.cell? ⟨bd, 6, none⟩ = some (.string s) ∧ w.cell? ⟨bd, 7, none⟩ = some (.bool near)
theorem DeedAt.block {bd : Nat} {k o at' p v nn : Int} {s : ByteArray} {near : Bool} {w w' : World} (h : DeedAt bd k o at' p v nn s near w) (hb : w'.heap[bd]? = w.heap[bd]?) : DeedAt bd k o at' p v nn s near w' := by
  have key : ∀ o, w'.cell? ⟨bd, o, none⟩ = w.cell? ⟨bd, o, none⟩ := fun o => World.cell?_of_block hb
  obtain ⟨h0, h1, h2, h3, h4, h5, h6, h7⟩ := h
  exact ⟨(key _).trans h0, (key _).trans h1, (key _).trans h2, (key _).trans h3, (key _).trans h4, (key _).trans h5, (key _).trans h6, (key _).trans h7⟩
theorem deedAt_new (w : World) (k o at' p v nn : Int) (s : ByteArray) (near : Bool) (T : TypeId) : DeedAt w.heap.size k o at' p v nn s near (w.alloc (.cells #[.int .i64 k, .int .i64 o, .int .i64 at', .int .i64 p, .int .i64 v, .int .i64 nn, .string s, .bool near] T)) :=
  ⟨World.cell?_alloc_mark w _ _ _ 0, World.cell?_alloc_mark w _ _ _ 1, World.cell?_alloc_mark w _ _ _ 2, World.cell?_alloc_mark w _ _ _ 3, World.cell?_alloc_mark w _ _ _ 4, World.cell?_alloc_mark w _ _ _ 5, World.cell?_alloc_mark w _ _ _ 6, World.cell?_alloc_mark w _ _ _ 7⟩
theorem stores_P {S : List Int} (h : ∃ P, S.length = P * 65536) {S' : List Int} (hl : S'.length = S.length) : ∃ P, S'.length = P * 65536 := by
  obtain ⟨P, hP⟩ := h
  exact ⟨P, hl.trans hP⟩
theorem Turned.back {B bd : Nat} {R : Nat → Prop} {a ar : Nat} {mo : Int} {a2 ar2 : Nat} {mo2 : Int} {w wd w2 : World} (t : Turned B (fun k => R k ∨ k = bd) a ar mo a2 ar2 mo2 wd w2) (hb : Below w.heap.size w wd) (hR : ∀ k, R k → k < w.heap.size) (hB : B ≤ w.heap.size) : Turned B R a ar mo a2 ar2 mo2 w w2 := by
  obtain ⟨g, cap, gr, S, g2, cap2, gr2, S2, h1, h2, h3⟩ := t
  exact ⟨g, cap, gr, S, g2, cap2, gr2, S2, h1.less (fun k hk => .inl hk), (hb.mono hB).trans h2, fun k hk => (h3 k (.inl hk)).trans (hb.block k (hR k hk))⟩
set_option maxRecDepth 100000 in
set_option maxHeartbeats 4000000 in
theorem step_0 (B : Nat) (R : Nat → Prop) (a g cap ar gr : Nat) (S : List Int) (mo : Int) (a2 g2 cap2 ar2 gr2 : Nat) (S2 : List Int) (mo2 : Int) (w : World) (h : Both B R a g cap ar gr S mo a2 g2 cap2 ar2 gr2 S2 mo2 w) (hB : B ≤ w.heap.size)
    (o at' p v nn : Int) (s : ByteArray) (near : Bool) (hat : at' ≤ 9223372036854775807) :
    Calls Try.prog 14 #[.pointer (some ⟨a, 0, none⟩), .pointer (some ⟨a2, 0, none⟩), .pointer (some ⟨ar, 0, none⟩), .pointer (some ⟨ar2, 0, none⟩), .agg #[.int .i64 0, .int .i64 o, .int .i64 at', .int .i64 p, .int .i64 v, .int .i64 nn, .string s, .bool near]] w
      fun e w' => e = .returned (.bool true) ∧ Turned B R a ar mo a2 ar2 mo2 w w' := by
  obtain ⟨wd, hwd⟩ : ∃ wd, wd = w.alloc (.cells #[.int .i64 0, .int .i64 o, .int .i64 at', .int .i64 p, .int .i64 v, .int .i64 nn, .string s, .bool near] 37) := ⟨_, rfl⟩
  have hbel : Below w.heap.size w wd := hwd ▸ (Below.refl _ _).alloc (Nat.le_refl _) _
  have hda : DeedAt w.heap.size (0) o at' p v nn s near wd := hwd ▸ deedAt_new w (0) o at' p v nn s near 37
  have hlt : w.heap.size < wd.heap.size := by rw [hwd]; simp
  have hm := (h.more hbel (b := w.heap.size) (Nat.le_refl _) hlt).below ((Below.refl wd.heap.size wd).drew)
  have DA : Hid (DeedAt w.heap.size (0) o at' p v nn s near wd.drew) := Lib.hid (hda.block rfl)
  have HDA := hda
  unfold DeedAt at HDA
  obtain ⟨c0, c1, c2, c3, c4, c5, c6, c7⟩ := HDA
  have HLT : w.heap.size < wd.drew.heap.size := hlt
  obtain ⟨_, nb1, nb2⟩ := hm.off w.heap.size (.inr rfl)
  have n1 : w.heap.size ≠ g := fun e => nb1 (.inr (.inl e))
  have n2 : w.heap.size ≠ gr := fun e => nb1 (.inr (.inr (.inr e)))
  have n3 : w.heap.size ≠ g2 := fun e => nb2 (.inr (.inl e))
  have n4 : w.heap.size ≠ gr2 := fun e => nb2 (.inr (.inr (.inr e)))
  have n5 : w.heap.size ≠ a := fun e => nb1 (.inl e)
  have n6 : w.heap.size ≠ ar := fun e => nb1 (.inr (.inr (.inl e)))
  have HM := Lib.hid hm
  have HBW := Lib.hid (show Below w.heap.size w wd.drew from hbel.drew)
  have HR := Lib.hid (fun k (hk : R k) => (h.off k hk).1)
  have HN := Lib.hid (And.intro n1 (And.intro n2 (And.intro n3 (And.intro n4 (And.intro n5 n6)))))
  have HLT2 := Lib.hid HLT
  have HBB := Lib.hid hB
  clear hm hbel hda hlt nb1 nb2 n1 n2 n3 n4 n5 n6 HLT h hB
  go_enter Try.func14, Try.ntmps14
  go_wp2_with fail
  rw [← hwd]
  clear hwd
  go_region_held3 (fun w' => w'.cell? ⟨w.heap.size, 0, none⟩ = some (.int .i64 (0)) ∧ w'.cell? ⟨w.heap.size, 1, none⟩ = some (.int .i64 o) ∧ w'.cell? ⟨w.heap.size, 2, none⟩ = some (.int .i64 at') ∧ w'.cell? ⟨w.heap.size, 3, none⟩ = some (.int .i64 p) ∧
      w'.cell? ⟨w.heap.size, 4, none⟩ = some (.int .i64 v) ∧ w'.cell? ⟨w.heap.size, 5, none⟩ = some (.int .i64 nn) ∧ w'.cell? ⟨w.heap.size, 6, none⟩ = some (.string s) ∧ w'.cell? ⟨w.heap.size, 7, none⟩ = some (.bool near))
    (first | exact DA.out | exact DA1.out | exact DA2.out)
    (first
      | (go_at_call 22; refine (store_any a g cap S mo o at' v wd.drew HM.out.one.m hat).mono ?_; rintro e w1 ⟨rfl, h1, k1⟩
         have DA1 := Lib.hid (DA.out.block (k1.block w.heap.size HLT2.out HN.out.1))
         have H1 := Lib.hid h1
         have K1 := Lib.hid k1
         clear h1 k1)
      | (go_at_call 31; refine (refStore_any ar gr S (mostOf mo) mo o at' v w1 (HM.out.one.r.kept K1.out (fun e => HM.out.one.d3 e.symm) (fun e => HM.out.one.d4 e.symm))).mono ?_; rintro e w2 ⟨rfl, h2, k2⟩
         have DA2 := Lib.hid (DA1.out.block (k2.block w.heap.size (Nat.lt_of_lt_of_le HLT2.out K1.out.size) HN.out.2.1))
         have H2 := Lib.hid h2
         have K2 := Lib.hid k2
         clear h2 k2))
  all_goals
    go_wp2_with fail
    go_ret
    exact ⟨by first | rfl | simp, (HM.out.turn (Nat.le_trans HBB.out HBW.out.size) H1.out (K1.out.mono fun _ e => .inr e) (.inl rfl) H2.out (K2.out.mono fun _ e => .inr e) (.inl rfl) (stores_P HM.out.one.P (storeS_length ..))).back HBW.out HR.out HBB.out⟩
set_option maxRecDepth 100000 in
set_option maxHeartbeats 4000000 in
theorem step_1 (B : Nat) (R : Nat → Prop) (a g cap ar gr : Nat) (S : List Int) (mo : Int) (a2 g2 cap2 ar2 gr2 : Nat) (S2 : List Int) (mo2 : Int) (w : World) (h : Both B R a g cap ar gr S mo a2 g2 cap2 ar2 gr2 S2 mo2 w) (hB : B ≤ w.heap.size)
    (o at' p v nn : Int) (s : ByteArray) (near : Bool) (hat : at' ≤ 9223372036854775807) :
    Calls Try.prog 14 #[.pointer (some ⟨a, 0, none⟩), .pointer (some ⟨a2, 0, none⟩), .pointer (some ⟨ar, 0, none⟩), .pointer (some ⟨ar2, 0, none⟩), .agg #[.int .i64 1, .int .i64 o, .int .i64 at', .int .i64 p, .int .i64 v, .int .i64 nn, .string s, .bool near]] w
      fun e w' => e = .returned (.bool true) ∧ Turned B R a ar mo a2 ar2 mo2 w w' := by
  obtain ⟨wd, hwd⟩ : ∃ wd, wd = w.alloc (.cells #[.int .i64 1, .int .i64 o, .int .i64 at', .int .i64 p, .int .i64 v, .int .i64 nn, .string s, .bool near] 37) := ⟨_, rfl⟩
  have hbel : Below w.heap.size w wd := hwd ▸ (Below.refl _ _).alloc (Nat.le_refl _) _
  have hda : DeedAt w.heap.size (1) o at' p v nn s near wd := hwd ▸ deedAt_new w (1) o at' p v nn s near 37
  have hlt : w.heap.size < wd.heap.size := by rw [hwd]; simp
  have hm := (h.more hbel (b := w.heap.size) (Nat.le_refl _) hlt).below ((Below.refl wd.heap.size wd).drew)
  have DA : Hid (DeedAt w.heap.size (1) o at' p v nn s near wd.drew) := Lib.hid (hda.block rfl)
  have HDA := hda
  unfold DeedAt at HDA
  obtain ⟨c0, c1, c2, c3, c4, c5, c6, c7⟩ := HDA
  have HLT : w.heap.size < wd.drew.heap.size := hlt
  obtain ⟨_, nb1, nb2⟩ := hm.off w.heap.size (.inr rfl)
  have n1 : w.heap.size ≠ g := fun e => nb1 (.inr (.inl e))
  have n2 : w.heap.size ≠ gr := fun e => nb1 (.inr (.inr (.inr e)))
  have n3 : w.heap.size ≠ g2 := fun e => nb2 (.inr (.inl e))
  have n4 : w.heap.size ≠ gr2 := fun e => nb2 (.inr (.inr (.inr e)))
  have n5 : w.heap.size ≠ a := fun e => nb1 (.inl e)
  have n6 : w.heap.size ≠ ar := fun e => nb1 (.inr (.inr (.inl e)))
  have HM := Lib.hid hm
  have HBW := Lib.hid (show Below w.heap.size w wd.drew from hbel.drew)
  have HR := Lib.hid (fun k (hk : R k) => (h.off k hk).1)
  have HN := Lib.hid (And.intro n1 (And.intro n2 (And.intro n3 (And.intro n4 (And.intro n5 n6)))))
  have HLT2 := Lib.hid HLT
  have HBB := Lib.hid hB
  clear hm hbel hda hlt nb1 nb2 n1 n2 n3 n4 n5 n6 HLT h hB
  go_enter Try.func14, Try.ntmps14
  go_wp2_with fail
  rw [← hwd]
  clear hwd
  go_region_held3 (fun w' => w'.cell? ⟨w.heap.size, 0, none⟩ = some (.int .i64 (1)) ∧ w'.cell? ⟨w.heap.size, 1, none⟩ = some (.int .i64 o) ∧ w'.cell? ⟨w.heap.size, 2, none⟩ = some (.int .i64 at') ∧ w'.cell? ⟨w.heap.size, 3, none⟩ = some (.int .i64 p) ∧
      w'.cell? ⟨w.heap.size, 4, none⟩ = some (.int .i64 v) ∧ w'.cell? ⟨w.heap.size, 5, none⟩ = some (.int .i64 nn) ∧ w'.cell? ⟨w.heap.size, 6, none⟩ = some (.string s) ∧ w'.cell? ⟨w.heap.size, 7, none⟩ = some (.bool near))
    (first | exact DA.out | exact DA1.out | exact DA2.out)
    (first
      | (go_at_call 22; refine (store_any a g cap S mo o at' v wd.drew HM.out.one.m hat).mono ?_; rintro e w1 ⟨rfl, h1, k1⟩
         have DA1 := Lib.hid (DA.out.block (k1.block w.heap.size HLT2.out HN.out.1))
         have H1 := Lib.hid h1
         have K1 := Lib.hid k1
         clear h1 k1)
      | (go_at_call 31; refine (refStore_any ar gr S (mostOf mo) mo o at' v w1 (HM.out.one.r.kept K1.out (fun e => HM.out.one.d3 e.symm) (fun e => HM.out.one.d4 e.symm))).mono ?_; rintro e w2 ⟨rfl, h2, k2⟩
         have DA2 := Lib.hid (DA1.out.block (k2.block w.heap.size (Nat.lt_of_lt_of_le HLT2.out K1.out.size) HN.out.2.1))
         have H2 := Lib.hid h2
         have K2 := Lib.hid k2
         clear h2 k2))
  all_goals
    go_wp2_with fail
    go_ret
    exact ⟨by first | rfl | simp, (HM.out.turn (Nat.le_trans HBB.out HBW.out.size) H1.out (K1.out.mono fun _ e => .inr e) (.inl rfl) H2.out (K2.out.mono fun _ e => .inr e) (.inl rfl) (stores_P HM.out.one.P (storeS_length ..))).back HBW.out HR.out HBB.out⟩
end Go.Proofs.Ytogkieekpmcinaa
