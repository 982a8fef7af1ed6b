/- Texts of the proof of ModulePutsUptoProof, part 22. -/
import Derived.IntWalk
import Derived.Test.YtekonefnniaheaaGreatModulePutsUptoProofQ21
set_option linter.unusedVariables false
namespace Go.Proofs.YtekonefnniaheaaGreat
open Go.RowKit Go.Deep
open Leb (putU putS)

set_option maxRecDepth 100000 in
set_option maxHeartbeats 2000000 in
theorem rmText_k0 (md nm : ByteArray) (k t : Int) (mu : Bool) (mn mx : Int) (w : World) (h1 : md.size ≤ 1048576) (h2 : nm.size ≤ 1048576) (ht : t ≤ 9223372036854775807) (hmn : mn ≤ 9223372036854775807) (hmx : mx ≤ 9223372036854775807) (hk : k = 0) :
    Calls Tryz.prog 57 #[.agg #[.string md, .string nm, .int .i64 k, .int .i64 t, .bool mu, .int .i64 mn, .int .i64 mx]] w fun e w' => e = .returned (.string ((((strOfNums (putU md.size) ++ md) ++ (strOfNums (putU nm.size) ++ nm)) ++ strOfNums [k % 256]) ++ strOfNums (putU t))) ∧ Below w.heap.size w w' := by
  have bk := BlkAt.new w #[.string md, .string nm, .int .i64 k, .int .i64 t, .bool mu, .int .i64 mn, .int .i64 mx] 85
  have HB := Lib.hid ((Below.refl w.heap.size w).alloc (Nat.le_refl _) (.cells #[.string md, .string nm, .int .i64 k, .int .i64 t, .bool mu, .int .i64 mn, .int .i64 mx] 85))
  have q0 : Below (w.alloc (.cells #[.string md, .string nm, .int .i64 k, .int .i64 t, .bool mu, .int .i64 mn, .int .i64 mx] 85)).heap.size (w.alloc (.cells #[.string md, .string nm, .int .i64 k, .int .i64 t, .bool mu, .int .i64 mn, .int .i64 mx] 85)) (w.alloc (.cells #[.string md, .string nm, .int .i64 k, .int .i64 t, .bool mu, .int .i64 mn, .int .i64 mx] 85)).drew := (Below.refl (w.alloc (.cells #[.string md, .string nm, .int .i64 k, .int .i64 t, .bool mu, .int .i64 mn, .int .i64 mx] 85)).heap.size (w.alloc (.cells #[.string md, .string nm, .int .i64 k, .int .i64 t, .bool mu, .int .i64 mn, .int .i64 mx] 85))).drew
  have D0 := Lib.hid (fun (w2 : World) (h : Below (w.alloc (.cells #[.string md, .string nm, .int .i64 k, .int .i64 t, .bool mu, .int .i64 mn, .int .i64 mx] 85)).heap.size (w.alloc (.cells #[.string md, .string nm, .int .i64 k, .int .i64 t, .bool mu, .int .i64 mn, .int .i64 mx] 85)) w2) => (bk.below h).seven')
  obtain ⟨c00, c01, c02, c03, c04, c05, c06⟩ := D0.out _ (Below.refl _ _)
  have DS0 := Lib.hid (show _ ∧ _ ∧ _ from ⟨(D0.out _ q0).1, (D0.out _ q0).2.1, (D0.out _ q0).2.2.1⟩)
  have H1 := Lib.hid (fun w2 => rPutBytes_any md (by omega) w2)
  have H2 := Lib.hid (fun w2 => rPutBytes_any nm (by omega) w2)
  have H3 := Lib.hid (fun w2 => rmOne_any k w2)
  have z1 : (strOfNums (putU md.size) ++ md).size ≤ 2000000 := by rw [ByteArray.size_append, strOfNums_size]; have := Leb.putU_length (md.size : Int); omega
  have z2 : (strOfNums (putU nm.size) ++ nm).size ≤ 2000000 := by rw [ByteArray.size_append, strOfNums_size]; have := Leb.putU_length (nm.size : Int); omega
  have z3 : (strOfNums [k % 256]).size ≤ 2000000 := by rw [strOfNums_size]; show 1 ≤ 2000000; omega
  revert H1 H2 H3 z1 z2 z3
  generalize strOfNums (putU md.size) ++ md = S1
  generalize strOfNums (putU nm.size) ++ nm = S2
  generalize strOfNums [k % 256] = S3
  intro H1 H2 H3 z1 z2 z3
  have n1 : ¬ 9223372036854775807 < S1.size + S2.size := by omega
  have n2 : ¬ 9223372036854775807 < (S1 ++ S2).size + S3.size := by rw [ByteArray.size_append]; omega
  have n2f : ¬ 9223372036854775807 < S1.size + S2.size + S3.size := by omega
  clear bk h1 h2
  subst hk
  have H4 := Lib.hid (fun w2 => refPutU_any t w2 ht)
  have z4 : (strOfNums (putU t)).size ≤ 2000000 := by rw [strOfNums_size]; have := Leb.putU_length t; omega
  revert H4 z4
  generalize strOfNums (putU t) = S4
  intro H4 z4
  have n3 : ¬ 9223372036854775807 < ((S1 ++ S2) ++ S3).size + S4.size := by rw [ByteArray.size_append, ByteArray.size_append]; omega
  have n3f : ¬ 9223372036854775807 < S1.size + S2.size + S3.size + S4.size := by omega
  clear ht hmn hmx
  go_enter Tryz.func57, Tryz.ntmps57
  go_wp2_with fail
  go_region_held3 (fun w' => w'.cell? ⟨w.heap.size, 0, none⟩ = some (.string md) ∧ w'.cell? ⟨w.heap.size, 1, none⟩ = some (.string nm) ∧ w'.cell? ⟨w.heap.size, 2, none⟩ = some (.int .i64 0))
    (first | exact DS0.out | exact DS1.out | exact DS2.out | exact DS3.out)
    (first
      | (go_at_call 63; refine (H1.out _).mono ?_; rintro e w1 ⟨rfl, k1⟩; replace q0 := q0.trans (k1.mono q0.size); obtain ⟨c10, c11, c12, c13, c14, c15, c16⟩ := D0.out _ q0; have DS1 := Lib.hid (show _ ∧ _ ∧ _ from ⟨c10, c11, c12⟩); clear k1 H1)
      | (go_at_call 63; refine (H2.out _).mono ?_; rintro e w2 ⟨rfl, k2⟩; replace q0 := q0.trans (k2.mono q0.size); obtain ⟨c20, c21, c22, c23, c24, c25, c26⟩ := D0.out _ q0; have DS2 := Lib.hid (show _ ∧ _ ∧ _ from ⟨c20, c21, c22⟩); clear k2 H2)
      | (go_at_call 55; refine (H3.out _).mono ?_; rintro e w3 ⟨rfl, k3⟩; replace q0 := q0.trans (k3.mono q0.size); obtain ⟨c30, c31, c32, c33, c34, c35, c36⟩ := D0.out _ q0; have DS3 := Lib.hid (show _ ∧ _ ∧ _ from ⟨c30, c31, c32⟩); clear k3 H3))
  all_goals go_wp2_with (go_at_call 58; refine (H4.out _).mono ?_; rintro e w4 ⟨rfl, k4⟩; replace q0 := q0.trans (k4.mono q0.size); obtain ⟨c40, c41, c42, c43, c44, c45, c46⟩ := D0.out _ q0; clear k4 H4)
  all_goals go_ret
  all_goals exact ⟨rfl, HB.out.trans (q0.mono HB.out.size)⟩
set_option maxRecDepth 100000 in
set_option maxHeartbeats 2000000 in
theorem rmText_k1 (md nm : ByteArray) (k t : Int) (mu : Bool) (mn mx : Int) (w : World) (h1 : md.size ≤ 1048576) (h2 : nm.size ≤ 1048576) (ht : t ≤ 9223372036854775807) (hmn : mn ≤ 9223372036854775807) (hmx : mx ≤ 9223372036854775807) (hk : k = 1) :
    Calls Tryz.prog 57 #[.agg #[.string md, .string nm, .int .i64 k, .int .i64 t, .bool mu, .int .i64 mn, .int .i64 mx]] w fun e w' => e = .returned (.string ((((strOfNums (putU md.size) ++ md) ++ (strOfNums (putU nm.size) ++ nm)) ++ strOfNums [k % 256]) ++ strOfNums [112 % 256] ++ strOfNums (bLim mn mx))) ∧ Below w.heap.size w w' := by
  have bk := BlkAt.new w #[.string md, .string nm, .int .i64 k, .int .i64 t, .bool mu, .int .i64 mn, .int .i64 mx] 85
  have HB := Lib.hid ((Below.refl w.heap.size w).alloc (Nat.le_refl _) (.cells #[.string md, .string nm, .int .i64 k, .int .i64 t, .bool mu, .int .i64 mn, .int .i64 mx] 85))
  have q0 : Below (w.alloc (.cells #[.string md, .string nm, .int .i64 k, .int .i64 t, .bool mu, .int .i64 mn, .int .i64 mx] 85)).heap.size (w.alloc (.cells #[.string md, .string nm, .int .i64 k, .int .i64 t, .bool mu, .int .i64 mn, .int .i64 mx] 85)) (w.alloc (.cells #[.string md, .string nm, .int .i64 k, .int .i64 t, .bool mu, .int .i64 mn, .int .i64 mx] 85)).drew := (Below.refl (w.alloc (.cells #[.string md, .string nm, .int .i64 k, .int .i64 t, .bool mu, .int .i64 mn, .int .i64 mx] 85)).heap.size (w.alloc (.cells #[.string md, .string nm, .int .i64 k, .int .i64 t, .bool mu, .int .i64 mn, .int .i64 mx] 85))).drew
  have D0 := Lib.hid (fun (w2 : World) (h : Below (w.alloc (.cells #[.string md, .string nm, .int .i64 k, .int .i64 t, .bool mu, .int .i64 mn, .int .i64 mx] 85)).heap.size (w.alloc (.cells #[.string md, .string nm, .int .i64 k, .int .i64 t, .bool mu, .int .i64 mn, .int .i64 mx] 85)) w2) => (bk.below h).seven')
  obtain ⟨c00, c01, c02, c03, c04, c05, c06⟩ := D0.out _ (Below.refl _ _)
  have DS0 := Lib.hid (show _ ∧ _ ∧ _ from ⟨(D0.out _ q0).1, (D0.out _ q0).2.1, (D0.out _ q0).2.2.1⟩)
  have H1 := Lib.hid (fun w2 => rPutBytes_any md (by omega) w2)
  have H2 := Lib.hid (fun w2 => rPutBytes_any nm (by omega) w2)
  have H3 := Lib.hid (fun w2 => rmOne_any k w2)
  have z1 : (strOfNums (putU md.size) ++ md).size ≤ 2000000 := by rw [ByteArray.size_append, strOfNums_size]; have := Leb.putU_length (md.size : Int); omega
  have z2 : (strOfNums (putU nm.size) ++ nm).size ≤ 2000000 := by rw [ByteArray.size_append, strOfNums_size]; have := Leb.putU_length (nm.size : Int); omega
  have z3 : (strOfNums [k % 256]).size ≤ 2000000 := by rw [strOfNums_size]; show 1 ≤ 2000000; omega
  revert H1 H2 H3 z1 z2 z3
  generalize strOfNums (putU md.size) ++ md = S1
  generalize strOfNums (putU nm.size) ++ nm = S2
  generalize strOfNums [k % 256] = S3
  intro H1 H2 H3 z1 z2 z3
  have n1 : ¬ 9223372036854775807 < S1.size + S2.size := by omega
  have n2 : ¬ 9223372036854775807 < (S1 ++ S2).size + S3.size := by rw [ByteArray.size_append]; omega
  have n2f : ¬ 9223372036854775807 < S1.size + S2.size + S3.size := by omega
  clear bk h1 h2
  subst hk
  have H4 := Lib.hid (fun w2 => rmOne_any 112 w2)
  have H5 := Lib.hid (fun w2 => rmSpan_any mn mx w2 hmn hmx)
  have z4 : (strOfNums [(112 : Int) % 256]).size ≤ 2000000 := by rw [strOfNums_size]; show 1 ≤ 2000000; omega
  have z5 : (strOfNums (bLim mn mx)).size ≤ 2000000 := by rw [strOfNums_size]; have := bLim_len mn mx; omega
  unfold bLim at z5 ⊢
  revert H4 z4 H5 z5
  generalize strOfNums [(112 : Int) % 256] = S4
  generalize strOfNums (if mx = -1 then [0 % 256] ++ putU mn else [1 % 256] ++ putU mn ++ putU mx) = S5
  intro H4 H5 z4 z5
  have n3 : ¬ 9223372036854775807 < ((S1 ++ S2) ++ S3).size + S4.size := by rw [ByteArray.size_append, ByteArray.size_append]; omega
  have n3f : ¬ 9223372036854775807 < S1.size + S2.size + S3.size + S4.size := by omega
  have n4 : ¬ 9223372036854775807 < (((S1 ++ S2) ++ S3) ++ S4).size + S5.size := by rw [ByteArray.size_append, ByteArray.size_append, ByteArray.size_append]; omega
  have n4f : ¬ 9223372036854775807 < S1.size + S2.size + S3.size + S4.size + S5.size := by omega
  clear ht hmn hmx
  go_enter Tryz.func57, Tryz.ntmps57
  go_wp2_with fail
  go_region_held3 (fun w' => w'.cell? ⟨w.heap.size, 0, none⟩ = some (.string md) ∧ w'.cell? ⟨w.heap.size, 1, none⟩ = some (.string nm) ∧ w'.cell? ⟨w.heap.size, 2, none⟩ = some (.int .i64 1))
    (first | exact DS0.out | exact DS1.out | exact DS2.out | exact DS3.out)
    (first
      | (go_at_call 63; refine (H1.out _).mono ?_; rintro e w1 ⟨rfl, k1⟩; replace q0 := q0.trans (k1.mono q0.size); obtain ⟨c10, c11, c12, c13, c14, c15, c16⟩ := D0.out _ q0; have DS1 := Lib.hid (show _ ∧ _ ∧ _ from ⟨c10, c11, c12⟩); clear k1 H1)
      | (go_at_call 63; refine (H2.out _).mono ?_; rintro e w2 ⟨rfl, k2⟩; replace q0 := q0.trans (k2.mono q0.size); obtain ⟨c20, c21, c22, c23, c24, c25, c26⟩ := D0.out _ q0; have DS2 := Lib.hid (show _ ∧ _ ∧ _ from ⟨c20, c21, c22⟩); clear k2 H2)
      | (go_at_call 55; refine (H3.out _).mono ?_; rintro e w3 ⟨rfl, k3⟩; replace q0 := q0.trans (k3.mono q0.size); obtain ⟨c30, c31, c32, c33, c34, c35, c36⟩ := D0.out _ q0; have DS3 := Lib.hid (show _ ∧ _ ∧ _ from ⟨c30, c31, c32⟩); clear k3 H3))
  all_goals go_wp2_with fail
  replace q0 := q0.drew
  have DS0 := Lib.hid (show _ ∧ _ from ⟨(D0.out _ q0).2.2.2.2.2.1, (D0.out _ q0).2.2.2.2.2.2⟩)
  go_region_held3 (fun w' => w'.cell? ⟨w.heap.size, 5, none⟩ = some (.int .i64 mn) ∧ w'.cell? ⟨w.heap.size, 6, none⟩ = some (.int .i64 mx))
    (first | exact DS0.out | exact DS4.out | exact DS5.out)
    (first
      | (go_at_call 55; refine (H4.out _).mono ?_; rintro e w4 ⟨rfl, k4⟩; replace q0 := q0.trans (k4.mono q0.size); obtain ⟨c40, c41, c42, c43, c44, c45, c46⟩ := D0.out _ q0; have DS4 := Lib.hid (show _ ∧ _ from ⟨c45, c46⟩); clear k4 H4)
      | (go_at_call 59; refine (H5.out _).mono ?_; rintro e w5 ⟨rfl, k5⟩; replace q0 := q0.trans (k5.mono q0.size); obtain ⟨c50, c51, c52, c53, c54, c55, c56⟩ := D0.out _ q0; have DS5 := Lib.hid (show _ ∧ _ from ⟨c55, c56⟩); clear k5 H5))
  all_goals go_wp2_with fail
  all_goals go_ret
  all_goals exact ⟨rfl, HB.out.trans (q0.mono HB.out.size)⟩
set_option maxRecDepth 100000 in
set_option maxHeartbeats 2000000 in
theorem rmText_k2 (md nm : ByteArray) (k t : Int) (mu : Bool) (mn mx : Int) (w : World) (h1 : md.size ≤ 1048576) (h2 : nm.size ≤ 1048576) (ht : t ≤ 9223372036854775807) (hmn : mn ≤ 9223372036854775807) (hmx : mx ≤ 9223372036854775807) (hk : k = 2) :
    Calls Tryz.prog 57 #[.agg #[.string md, .string nm, .int .i64 k, .int .i64 t, .bool mu, .int .i64 mn, .int .i64 mx]] w fun e w' => e = .returned (.string ((((strOfNums (putU md.size) ++ md) ++ (strOfNums (putU nm.size) ++ nm)) ++ strOfNums [k % 256]) ++ strOfNums (bLim mn mx))) ∧ Below w.heap.size w w' := by
  have bk := BlkAt.new w #[.string md, .string nm, .int .i64 k, .int .i64 t, .bool mu, .int .i64 mn, .int .i64 mx] 85
  have HB := Lib.hid ((Below.refl w.heap.size w).alloc (Nat.le_refl _) (.cells #[.string md, .string nm, .int .i64 k, .int .i64 t, .bool mu, .int .i64 mn, .int .i64 mx] 85))
  have q0 : Below (w.alloc (.cells #[.string md, .string nm, .int .i64 k, .int .i64 t, .bool mu, .int .i64 mn, .int .i64 mx] 85)).heap.size (w.alloc (.cells #[.string md, .string nm, .int .i64 k, .int .i64 t, .bool mu, .int .i64 mn, .int .i64 mx] 85)) (w.alloc (.cells #[.string md, .string nm, .int .i64 k, .int .i64 t, .bool mu, .int .i64 mn, .int .i64 mx] 85)).drew := (Below.refl (w.alloc (.cells #[.string md, .string nm, .int .i64 k, .int .i64 t, .bool mu, .int .i64 mn, .int .i64 mx] 85)).heap.size (w.alloc (.cells #[.string md, .string nm, .int .i64 k, .int .i64 t, .bool mu, .int .i64 mn, .int .i64 mx] 85))).drew
  have D0 := Lib.hid (fun (w2 : World) (h : Below (w.alloc (.cells #[.string md, .string nm, .int .i64 k, .int .i64 t, .bool mu, .int .i64 mn, .int .i64 mx] 85)).heap.size (w.alloc (.cells #[.string md, .string nm, .int .i64 k, .int .i64 t, .bool mu, .int .i64 mn, .int .i64 mx] 85)) w2) => (bk.below h).seven')
  obtain ⟨c00, c01, c02, c03, c04, c05, c06⟩ := D0.out _ (Below.refl _ _)
  have DS0 := Lib.hid (show _ ∧ _ ∧ _ from ⟨(D0.out _ q0).1, (D0.out _ q0).2.1, (D0.out _ q0).2.2.1⟩)
  have H1 := Lib.hid (fun w2 => rPutBytes_any md (by omega) w2)
  have H2 := Lib.hid (fun w2 => rPutBytes_any nm (by omega) w2)
  have H3 := Lib.hid (fun w2 => rmOne_any k w2)
  have z1 : (strOfNums (putU md.size) ++ md).size ≤ 2000000 := by rw [ByteArray.size_append, strOfNums_size]; have := Leb.putU_length (md.size : Int); omega
  have z2 : (strOfNums (putU nm.size) ++ nm).size ≤ 2000000 := by rw [ByteArray.size_append, strOfNums_size]; have := Leb.putU_length (nm.size : Int); omega
  have z3 : (strOfNums [k % 256]).size ≤ 2000000 := by rw [strOfNums_size]; show 1 ≤ 2000000; omega
  revert H1 H2 H3 z1 z2 z3
  generalize strOfNums (putU md.size) ++ md = S1
  generalize strOfNums (putU nm.size) ++ nm = S2
  generalize strOfNums [k % 256] = S3
  intro H1 H2 H3 z1 z2 z3
  have n1 : ¬ 9223372036854775807 < S1.size + S2.size := by omega
  have n2 : ¬ 9223372036854775807 < (S1 ++ S2).size + S3.size := by rw [ByteArray.size_append]; omega
  have n2f : ¬ 9223372036854775807 < S1.size + S2.size + S3.size := by omega
  clear bk h1 h2
  subst hk
  have H5 := Lib.hid (fun w2 => rmSpan_any mn mx w2 hmn hmx)
  have z5 : (strOfNums (bLim mn mx)).size ≤ 2000000 := by rw [strOfNums_size]; have := bLim_len mn mx; omega
  unfold bLim at z5 ⊢
  revert H5 z5
  generalize strOfNums (if mx = -1 then [0 % 256] ++ putU mn else [1 % 256] ++ putU mn ++ putU mx) = S5
  intro H5 z5
  have n4 : ¬ 9223372036854775807 < ((S1 ++ S2) ++ S3).size + S5.size := by rw [ByteArray.size_append, ByteArray.size_append]; omega
  have n4f : ¬ 9223372036854775807 < S1.size + S2.size + S3.size + S5.size := by omega
  clear ht hmn hmx
  go_enter Tryz.func57, Tryz.ntmps57
  go_wp2_with fail
  go_region_held3 (fun w' => w'.cell? ⟨w.heap.size, 0, none⟩ = some (.string md) ∧ w'.cell? ⟨w.heap.size, 1, none⟩ = some (.string nm) ∧ w'.cell? ⟨w.heap.size, 2, none⟩ = some (.int .i64 2))
    (first | exact DS0.out | exact DS1.out | exact DS2.out | exact DS3.out)
    (first
      | (go_at_call 63; refine (H1.out _).mono ?_; rintro e w1 ⟨rfl, k1⟩; replace q0 := q0.trans (k1.mono q0.size); obtain ⟨c10, c11, c12, c13, c14, c15, c16⟩ := D0.out _ q0; have DS1 := Lib.hid (show _ ∧ _ ∧ _ from ⟨c10, c11, c12⟩); clear k1 H1)
      | (go_at_call 63; refine (H2.out _).mono ?_; rintro e w2 ⟨rfl, k2⟩; replace q0 := q0.trans (k2.mono q0.size); obtain ⟨c20, c21, c22, c23, c24, c25, c26⟩ := D0.out _ q0; have DS2 := Lib.hid (show _ ∧ _ ∧ _ from ⟨c20, c21, c22⟩); clear k2 H2)
      | (go_at_call 55; refine (H3.out _).mono ?_; rintro e w3 ⟨rfl, k3⟩; replace q0 := q0.trans (k3.mono q0.size); obtain ⟨c30, c31, c32, c33, c34, c35, c36⟩ := D0.out _ q0; have DS3 := Lib.hid (show _ ∧ _ ∧ _ from ⟨c30, c31, c32⟩); clear k3 H3))
  all_goals go_wp2_with (go_at_call 59; refine (H5.out _).mono ?_; rintro e w5 ⟨rfl, k5⟩; replace q0 := q0.trans (k5.mono q0.size); obtain ⟨c50, c51, c52, c53, c54, c55, c56⟩ := D0.out _ q0; clear k5 H5)
  all_goals go_ret
  all_goals exact ⟨rfl, HB.out.trans (q0.mono HB.out.size)⟩
set_option maxRecDepth 100000 in
set_option maxHeartbeats 2000000 in
theorem rmText_k3 (md nm : ByteArray) (k t : Int) (mu : Bool) (mn mx : Int) (w : World) (h1 : md.size ≤ 1048576) (h2 : nm.size ≤ 1048576) (ht : t ≤ 9223372036854775807) (hmn : mn ≤ 9223372036854775807) (hmx : mx ≤ 9223372036854775807) (hk : k = 3) :
    Calls Tryz.prog 57 #[.agg #[.string md, .string nm, .int .i64 k, .int .i64 t, .bool mu, .int .i64 mn, .int .i64 mx]] w fun e w' => e = .returned (.string ((((strOfNums (putU md.size) ++ md) ++ (strOfNums (putU nm.size) ++ nm)) ++ strOfNums [k % 256]) ++ strOfNums [t % 256] ++ strOfNums [if mu = true then 1 else 0])) ∧ Below w.heap.size w w' := by
  have bk := BlkAt.new w #[.string md, .string nm, .int .i64 k, .int .i64 t, .bool mu, .int .i64 mn, .int .i64 mx] 85
  have HB := Lib.hid ((Below.refl w.heap.size w).alloc (Nat.le_refl _) (.cells #[.string md, .string nm, .int .i64 k, .int .i64 t, .bool mu, .int .i64 mn, .int .i64 mx] 85))
  have q0 : Below (w.alloc (.cells #[.string md, .string nm, .int .i64 k, .int .i64 t, .bool mu, .int .i64 mn, .int .i64 mx] 85)).heap.size (w.alloc (.cells #[.string md, .string nm, .int .i64 k, .int .i64 t, .bool mu, .int .i64 mn, .int .i64 mx] 85)) (w.alloc (.cells #[.string md, .string nm, .int .i64 k, .int .i64 t, .bool mu, .int .i64 mn, .int .i64 mx] 85)).drew := (Below.refl (w.alloc (.cells #[.string md, .string nm, .int .i64 k, .int .i64 t, .bool mu, .int .i64 mn, .int .i64 mx] 85)).heap.size (w.alloc (.cells #[.string md, .string nm, .int .i64 k, .int .i64 t, .bool mu, .int .i64 mn, .int .i64 mx] 85))).drew
  have D0 := Lib.hid (fun (w2 : World) (h : Below (w.alloc (.cells #[.string md, .string nm, .int .i64 k, .int .i64 t, .bool mu, .int .i64 mn, .int .i64 mx] 85)).heap.size (w.alloc (.cells #[.string md, .string nm, .int .i64 k, .int .i64 t, .bool mu, .int .i64 mn, .int .i64 mx] 85)) w2) => (bk.below h).seven')
  obtain ⟨c00, c01, c02, c03, c04, c05, c06⟩ := D0.out _ (Below.refl _ _)
  have DS0 := Lib.hid (show _ ∧ _ ∧ _ from ⟨(D0.out _ q0).1, (D0.out _ q0).2.1, (D0.out _ q0).2.2.1⟩)
  have H1 := Lib.hid (fun w2 => rPutBytes_any md (by omega) w2)
  have H2 := Lib.hid (fun w2 => rPutBytes_any nm (by omega) w2)
  have H3 := Lib.hid (fun w2 => rmOne_any k w2)
  have z1 : (strOfNums (putU md.size) ++ md).size ≤ 2000000 := by rw [ByteArray.size_append, strOfNums_size]; have := Leb.putU_length (md.size : Int); omega
  have z2 : (strOfNums (putU nm.size) ++ nm).size ≤ 2000000 := by rw [ByteArray.size_append, strOfNums_size]; have := Leb.putU_length (nm.size : Int); omega
  have z3 : (strOfNums [k % 256]).size ≤ 2000000 := by rw [strOfNums_size]; show 1 ≤ 2000000; omega
  revert H1 H2 H3 z1 z2 z3
  generalize strOfNums (putU md.size) ++ md = S1
  generalize strOfNums (putU nm.size) ++ nm = S2
  generalize strOfNums [k % 256] = S3
  intro H1 H2 H3 z1 z2 z3
  have n1 : ¬ 9223372036854775807 < S1.size + S2.size := by omega
  have n2 : ¬ 9223372036854775807 < (S1 ++ S2).size + S3.size := by rw [ByteArray.size_append]; omega
  have n2f : ¬ 9223372036854775807 < S1.size + S2.size + S3.size := by omega
  clear bk h1 h2
  subst hk
  have H4 := Lib.hid (fun w2 => rmOne_any t w2)
  have H5 := Lib.hid (fun w2 => rmYes_any mu w2)
  have z4 : (strOfNums [t % 256]).size ≤ 2000000 := by rw [strOfNums_size]; show 1 ≤ 2000000; omega
  have z5 : (strOfNums [if mu = true then (1 : Int) else 0]).size ≤ 2000000 := by rw [strOfNums_size]; show 1 ≤ 2000000; omega
  revert H4 z4 H5 z5
  generalize strOfNums [t % 256] = S4
  generalize strOfNums [if mu = true then (1 : Int) else 0] = S5
  intro H4 H5 z4 z5
  have n3 : ¬ 9223372036854775807 < ((S1 ++ S2) ++ S3).size + S4.size := by rw [ByteArray.size_append, ByteArray.size_append]; omega
  have n3f : ¬ 9223372036854775807 < S1.size + S2.size + S3.size + S4.size := by omega
  have n4 : ¬ 9223372036854775807 < (((S1 ++ S2) ++ S3) ++ S4).size + S5.size := by rw [ByteArray.size_append, ByteArray.size_append, ByteArray.size_append]; omega
  have n4f : ¬ 9223372036854775807 < S1.size + S2.size + S3.size + S4.size + S5.size := by omega
  clear ht hmn hmx
  go_enter Tryz.func57, Tryz.ntmps57
  go_wp2_with fail
  go_region_held3 (fun w' => w'.cell? ⟨w.heap.size, 0, none⟩ = some (.string md) ∧ w'.cell? ⟨w.heap.size, 1, none⟩ = some (.string nm) ∧ w'.cell? ⟨w.heap.size, 2, none⟩ = some (.int .i64 3))
    (first | exact DS0.out | exact DS1.out | exact DS2.out | exact DS3.out)
    (first
      | (go_at_call 63; refine (H1.out _).mono ?_; rintro e w1 ⟨rfl, k1⟩; replace q0 := q0.trans (k1.mono q0.size); obtain ⟨c10, c11, c12, c13, c14, c15, c16⟩ := D0.out _ q0; have DS1 := Lib.hid (show _ ∧ _ ∧ _ from ⟨c10, c11, c12⟩); clear k1 H1)
      | (go_at_call 63; refine (H2.out _).mono ?_; rintro e w2 ⟨rfl, k2⟩; replace q0 := q0.trans (k2.mono q0.size); obtain ⟨c20, c21, c22, c23, c24, c25, c26⟩ := D0.out _ q0; have DS2 := Lib.hid (show _ ∧ _ ∧ _ from ⟨c20, c21, c22⟩); clear k2 H2)
      | (go_at_call 55; refine (H3.out _).mono ?_; rintro e w3 ⟨rfl, k3⟩; replace q0 := q0.trans (k3.mono q0.size); obtain ⟨c30, c31, c32, c33, c34, c35, c36⟩ := D0.out _ q0; have DS3 := Lib.hid (show _ ∧ _ ∧ _ from ⟨c30, c31, c32⟩); clear k3 H3))
  all_goals go_wp2_with fail
  replace q0 := q0.drew
  have DS0 := Lib.hid (show _ ∧ _ from ⟨(D0.out _ q0).2.2.2.1, (D0.out _ q0).2.2.2.2.1⟩)
  go_region_held3 (fun w' => w'.cell? ⟨w.heap.size, 3, none⟩ = some (.int .i64 t) ∧ w'.cell? ⟨w.heap.size, 4, none⟩ = some (.bool mu))
    (first | exact DS0.out | exact DS4.out | exact DS5.out)
    (first
      | (go_at_call 55; refine (H4.out _).mono ?_; rintro e w4 ⟨rfl, k4⟩; replace q0 := q0.trans (k4.mono q0.size); obtain ⟨c40, c41, c42, c43, c44, c45, c46⟩ := D0.out _ q0; have DS4 := Lib.hid (show _ ∧ _ from ⟨c43, c44⟩); clear k4 H4)
      | (go_at_call 61; refine (H5.out _).mono ?_; rintro e w5 ⟨rfl, k5⟩; replace q0 := q0.trans (k5.mono q0.size); obtain ⟨c50, c51, c52, c53, c54, c55, c56⟩ := D0.out _ q0; have DS5 := Lib.hid (show _ ∧ _ from ⟨c53, c54⟩); clear k5 H5))
  all_goals go_wp2_with fail
  all_goals go_ret
  all_goals exact ⟨rfl, HB.out.trans (q0.mono HB.out.size)⟩
theorem bStr_str (s : ByteArray) : strOfNums (putU s.size) ++ s = strOfNums (bStr s) := by
  unfold bStr
  rw [bl_length, ← strOfNums_app, bl_back]
theorem rmText_any (x : Imp) (w : World) (h1 : x.mod.size ≤ 1048576) (h2 : x.name.size ≤ 1048576) (ht : x.t ≤ 9223372036854775807) (hmn : x.mn ≤ 9223372036854775807) (hmx : x.mx ≤ 9223372036854775807) (hk : 0 ≤ x.kind ∧ x.kind ≤ 3) :
    Calls Tryz.prog 57 #[.agg #[.string x.mod, .string x.name, .int .i64 x.kind, .int .i64 x.t, .bool x.mu, .int .i64 x.mn, .int .i64 x.mx]] w fun e w' => e = .returned (.string (strOfNums (bImp x))) ∧ Below w.heap.size w w' := by
  unfold bImp bImpK
  by_cases k0 : x.kind = 0
  · rw [if_pos k0, ← strOfNums_app, ← strOfNums_app, ← strOfNums_app, ← bStr_str, ← bStr_str]
    exact rmText_k0 _ _ _ _ _ _ _ w h1 h2 ht hmn hmx k0
  · rw [if_neg k0]
    by_cases k1 : x.kind = 1
    · unfold bTab
      rw [if_pos k1, ← List.append_assoc, ← strOfNums_app, ← strOfNums_app, ← strOfNums_app, ← strOfNums_app, ← bStr_str, ← bStr_str]
      exact rmText_k1 _ _ _ _ _ _ _ w h1 h2 ht hmn hmx k1
    · rw [if_neg k1]
      by_cases k2 : x.kind = 2
      · rw [if_pos k2, ← strOfNums_app, ← strOfNums_app, ← strOfNums_app, ← bStr_str, ← bStr_str]
        exact rmText_k2 _ _ _ _ _ _ _ w h1 h2 ht hmn hmx k2
      · have k3 : x.kind = 3 := by omega
        unfold bTyp bYes
        rw [if_neg k2, if_pos k3, show (if x.mu = true then (1 : Int) else 0) % 256 = (if x.mu = true then 1 else 0) by split <;> rfl, ← List.append_assoc, ← strOfNums_app, ← strOfNums_app, ← strOfNums_app, ← strOfNums_app, ← bStr_str, ← bStr_str]
        exact rmText_k3 _ _ _ _ _ _ _ w h1 h2 ht hmn hmx k3
end Go.Proofs.YtekonefnniaheaaGreat
set_option linter.unusedVariables false
namespace Go.Proofs.YtekonefnniaheaaGreat
open Go.RowKit Go.Deep
open Leb (putU putS)

theorem addRow_len (rs : List (Int × Int)) (t : Int) : (addRow rs t).length ≤ rs.length + 1 := by
  unfold addRow
  cases hq : rs.getLast? with
  | none => simp
  | some q =>
    simp only
    split
    · rw [List.length_append, List.length_dropLast, List.length_singleton]
      omega
    · simp
theorem rows_len (ts : List Int) : ∀ i, i ≤ ts.length → (rowsL (ts.take i)).length ≤ i := by
  intro i
  induction i with
  | zero => intro _; exact Nat.le_refl _
  | succ i ih =>
    intro hi
    rw [rowsL_next (by omega)]
    have := addRow_len (rowsL (ts.take i)) (ts.getD i 0)
    have := ih (by omega)
    omega
theorem addRow_last (rs : List (Int × Int)) (t : Int) (q : Int × Int) (h : (addRow rs t).getLast? = some q) : q.2 = t := by
  unfold addRow at h
  cases hq : rs.getLast? with
  | none =>
    rw [hq] at h
    simp at h
    rw [← h]
  | some p =>
    rw [hq] at h
    simp only at h
    split at h
    · rw [List.getLast?_append] at h
      simp at h
      rw [← h]
    · rw [List.getLast?_append] at h
      simp at h
      rw [← h]
theorem rows_last {ts : List Int} {i : Nat} (hi : i ≤ ts.length) {q : Int × Int} (h : (rowsL (ts.take i)).getLast? = some q) : 0 < i ∧ q.2 = ts.getD (i - 1) 0 := by
  cases i with
  | zero => cases h
  | succ i =>
    rw [rowsL_next (by omega)] at h
    exact ⟨Nat.succ_pos _, addRow_last _ _ _ h⟩
/-- A run of one type. -/
theorem rows_run {ts : List Int} {i : Nat} (h0 : 0 < i → ts.getD i 0 ≠ ts.getD (i - 1) 0) : ∀ d, i + d < ts.length → (∀ p, i ≤ p → p ≤ i + d → ts.getD p 0 = ts.getD i 0) → rowsL (ts.take (i + d + 1)) = rowsL (ts.take i) ++ [((d : Int) + 1, ts.getD i 0)] := by
  intro d
  induction d with
  | zero =>
    intro hi _
    rw [Nat.add_zero, rowsL_next (by omega), addRow_new]
    · rfl
    · intro q hq
      obtain ⟨h1, h2⟩ := rows_last (by omega) hq
      rw [h2]
      exact h0 h1
  | succ d ih =>
    intro hi hp
    rw [rowsL_next (by omega), show i + (d + 1) = i + d + 1 by omega, ih (by omega) (fun p h1 h2 => hp p h1 (by omega)), hp (i + d + 1) (by omega) (by omega), addRow_same]
    rfl
def rmRows (rs : List (Int × Int)) : List Int := rs.flatMap bRow
theorem rmRows_len (rs : List (Int × Int)) : (rmRows rs).length ≤ rs.length * 12 := by
  induction rs with
  | nil => exact Nat.le_refl _
  | cons r rs ih =>
    unfold rmRows at ih ⊢
    rw [List.flatMap_cons, List.length_append, List.length_cons]
    have h1 := Leb.putU_length r.1
    have h2 : (bRow r).length = (putU r.1).length + 1 := by
      unfold bRow bTyp
      rw [List.length_append]
      rfl
    omega
/-- Where the reference's loop over locals stands. -/
structure RmLocAt (ts : List Int) (i j : Nat) : Prop where
  le : i ≤ j ∧ j ≤ ts.length
  run : ∀ p, i ≤ p → p < j → 0 < p ∧ ts.getD p 0 = ts.getD (p - 1) 0
  stop : j < ts.length → 0 < j → ts.getD j 0 ≠ ts.getD (j - 1) 0
theorem RmLocAt.on {ts : List Int} {i j : Nat} (h : RmLocAt ts i j) (hi : i < ts.length) (h0 : 0 < i) (he : ts.getD i 0 = ts.getD (i - 1) 0) : RmLocAt ts (i + 1) j := by
  have hij : i < j := by
    rcases Nat.lt_or_ge i j with q | q
    · exact q
    · obtain rfl : i = j := by have := h.le; omega
      exact absurd he (h.stop hi h0)
  exact ⟨⟨hij, h.le.2⟩, fun p h1 h2 => h.run p (by omega) h2, h.stop⟩
theorem RmLocAt.here {ts : List Int} {i j : Nat} (h : RmLocAt ts i j) (he : ¬ (0 < i ∧ ts.getD i 0 = ts.getD (i - 1) 0)) : i = j := by
  rcases Nat.lt_or_ge i j with q | q
  · exact absurd (h.run i (Nat.le_refl _) q) he
  · have := h.le
    omega
theorem rmLocAt_next {ts : List Int} {i k : Nat} (hik : i < k) (hk : k ≤ ts.length) (hp : ∀ p, i ≤ p → p < k → ts.getD p 0 = ts.getD i 0) (hs : k < ts.length → ts.getD k 0 ≠ ts.getD i 0) : RmLocAt ts (i + 1) k :=
  ⟨⟨hik, hk⟩, fun p h1 h2 => ⟨by omega, by rw [hp p (by omega) h2, hp (p - 1) (by omega) (by omega)]⟩, fun h1 h2 => by
    rw [hp (k - 1) (by omega) (by omega)]
    exact hs h1⟩
theorem rows_upto {ts : List Int} {i k : Nat} (hik : i < k) (hk : k ≤ ts.length) (h0 : 0 < i → ts.getD i 0 ≠ ts.getD (i - 1) 0) (hp : ∀ p, i ≤ p → p < k → ts.getD p 0 = ts.getD i 0) :
    rowsL (ts.take k) = rowsL (ts.take i) ++ [((k : Int) - i, ts.getD i 0)] := by
  obtain ⟨d, rfl⟩ : ∃ d, k = i + d + 1 := ⟨k - i - 1, by omega⟩
  rw [rows_run h0 d (by omega) (fun p h1 h2 => hp p h1 (by omega))]
  congr 3
  omega
theorem bel_step {w W w5 : World} (h : Below w.heap.size w W) (k : Below W.heap.size W w5) : Below w.heap.size w w5 := h.trans (k.mono h.size)
def RmLocRel (l : List Int) (w : World) (nv sv iv : Value) (wr : World) : Prop :=
  ∃ i j : Nat, iv = .int .i64 i ∧ RmLocAt l i j ∧ nv = .int .i64 (((rowsL (l.take j)).length : Nat) : Int) ∧ sv = .string (strOfNums (rmRows (rowsL (l.take j)))) ∧ Below w.heap.size w wr
set_option maxRecDepth 100000 in
set_option maxHeartbeats 2000000 in
theorem rmLocals_any (l : List Int) (a : Option Addr) (len cap : Nat) (w : World) (hv : View w a len l) (hl : len = l.length) (hlen : len ≤ 256) :
    Calls Tryz.prog 66 #[.slice a len cap] w fun e w' => e = .returned (.string (strOfNums (bList bRow (rowsL l)))) ∧ Below w.heap.size w w' := by
  have HL := Lib.hid hl
  have HV := Lib.hid hv
  have q0 := Below.refl w.heap.size w
  clear hl hv
  go_enter Tryz.func66, Tryz.ntmps66
  go_wp2_with fail
  go_loopw [3, 4, 5] (fun nv sv iv wr => RmLocRel l w nv sv iv wr) (fun _ _ iv _ => len - (intOf iv).toNat)
  case atStart => exact ⟨0, 0, rfl, ⟨⟨Nat.le_refl _, Nat.zero_le _⟩, fun p _ h => absurd h (Nat.not_lt_zero _), fun _ h => absurd h (Nat.lt_irrefl 0)⟩, rfl, rfl, q0⟩
  case round =>
    obtain ⟨i, j, rfl, hloc, rfl, rfl, hb⟩ := hrel
    clear q0
    have hil := hloc.le
    rw [← HL.out] at hil
    have LOC := Lib.hid hloc
    clear hloc
    by_cases hlt : i < len
    · obtain ⟨b, off, rfl, hc⟩ := (HV.out.below hb).resolve_left (by omega)
      have hin : (i : Int) < len := by omega
      by_cases he : 0 < i ∧ l.getD i 0 = l.getD (i - 1) 0
      · have LN := Lib.hid (LOC.out.on (by rw [← HL.out]; exact hlt) he.1 he.2)
        obtain ⟨k, rfl⟩ : ∃ k, i = k + 1 := ⟨i - 1, by omega⟩
        have c0 := hc k (by omega)
        have c1 := hc (k + 1) hlt
        rw [he.2, Nat.add_sub_cancel] at c1
        clear hc he
        revert c0 c1
        generalize l.getD k 0 = z
        intro c0 c1
        have w1 : IntKind.i64.wrap ((k : Int) + 1 - 1) = (k : Int) := by rw [IntKind.wrap_i64]; omega
        have w2 : (0 : Int) < (k : Int) + 1 := by omega
        have w3 : (k : Int) < len := by omega
        go_wp2_with fail
        go_quiet (fail)
        go_wp2
        exact ⟨⟨k + 1 + 1, j, by go_num, LN.out, rfl, rfl, below_drewN hb _⟩, by simp [intOf]; omega⟩
      · obtain rfl := LOC.out.here he
        have h0 : 0 < i → l.getD i 0 ≠ l.getD (i - 1) 0 := fun q1 q2 => he ⟨q1, q2⟩
        obtain ⟨z, hzd⟩ : ∃ z, z = l.getD i 0 := ⟨_, rfl⟩
        have ci := hc i hlt
        rw [← hzd] at ci
        have HZD := Lib.hid hzd
        have hrl := rows_len l i (by rw [← HL.out]; omega)
        have H0 := Lib.hid h0
        have HC := Lib.hid hc
        have h0z : 0 < i → z ≠ l.getD (i - 1) 0 := fun q1 => by rw [hzd]; exact h0 q1
        clear hzd
        rcases Nat.eq_zero_or_pos i with hz | hz
        · have w0 : decide ((0 : Int) < i) = false := by rw [hz]; rfl
          have w00 : decide (0 < i) = false := by rw [hz]; rfl
          clear hc he h0 h0z hz
          go_wp2_with fail
          go_quiet (fail)
          go_wp2
          go_loopw [6] (fun kv wr2 => ∃ k : Nat, kv = .int .i64 k ∧ i ≤ k ∧ k ≤ len ∧ (∀ p, i ≤ p → p < k → l.getD p 0 = z) ∧ Below w.heap.size w wr2) (fun kv _ => len - (intOf kv).toNat)
          case atStart => exact ⟨i, rfl, Nat.le_refl _, by omega, fun p h1 h2 => absurd h1 (by omega), below_drewN hb _⟩
          case round =>
            obtain ⟨k, rfl, hik, hkl, hrun, hb2⟩ := hrel
            obtain ⟨b2, off2, he2, hc2⟩ := (HV.out.below hb2).resolve_left (by omega)
            injection he2 with he2
            injection he2 with e1 e2
            subst e1 e2
            have CI : Hid (∀ w3, Below w.heap.size w w3 → w3.cell? ⟨b, off + i, none⟩ = some (.int .i64 z)) := Lib.hid fun w3 h3 => by
              obtain ⟨b4, off4, he4, hc4⟩ := (HV.out.below h3).resolve_left (by omega)
              injection he4 with he4
              injection he4 with e1 e2
              subst e1 e2
              rw [HZD.out]
              exact hc4 i hlt
            have di := CI.out _ hb2
            have hkn : k < len → wr.cell? ⟨b, off + k, none⟩ = some (.int .i64 (l.getD k 0)) := hc2 k
            clear hc2 ci
            have RUN := Lib.hid hrun
            clear hrun
            by_cases hkc : k < len ∧ l.getD k 0 = z
            · have dk := hkn hkc.1
              rw [hkc.2] at dk
              have hkL : (k : Int) < len := by omega
              have NX : Hid (∀ p, i ≤ p → p < k + 1 → l.getD p 0 = z) := Lib.hid fun p h1 h2 => by
                rcases Nat.lt_or_ge p k with q | q
                · exact RUN.out p h1 q
                · obtain rfl : p = k := by omega
                  exact hkc.2
              have hkm := hkc.1
              clear hkn hkc
              go_wp2_with fail
              go_quiet (fail)
              go_wp2
              exact ⟨⟨k + 1, by go_num, by omega, by omega, NX.out, below_drewN hb2 _⟩, by simp [intOf]; omega⟩
            · have hik2 : i < k := by
                rcases Nat.lt_or_ge i k with q | q
                · exact q
                · obtain rfl : i = k := by omega
                  exact absurd ⟨hlt, HZD.out.symm⟩ hkc
              have LN : Hid (RmLocAt l (i + 1) k) := Lib.hid (rmLocAt_next hik2 (by rw [← HL.out]; exact hkl) (fun p h1 h2 => by rw [RUN.out p h1 h2, HZD.out]) (fun h1 h2 => hkc ⟨by rw [HL.out]; exact h1, by rw [h2, HZD.out]⟩))
              have RR := rows_upto hik2 (by rw [← HL.out]; exact hkl) H0.out (fun p h1 h2 => by rw [RUN.out p h1 h2, HZD.out])
              rw [← HZD.out] at RR
              have RS : Hid (strOfNums (rmRows (rowsL (l.take k))) = (strOfNums (rmRows (rowsL (l.take i))) ++ strOfNums (putU ((k : Int) - i))) ++ strOfNums [z % 256]) := Lib.hid (by
                rw [RR]
                unfold rmRows bRow bTyp
                rw [List.flatMap_append, strOfNums_app, strOfNums_app]
                simp)
              have RN : Hid ((((rowsL (l.take k)).length : Nat) : Int) = (((rowsL (l.take i)).length : Nat) : Int) + 1) := Lib.hid (by rw [RR]; simp)
              have H1 := Lib.hid (fun w2 => refPutU_any ((k : Int) - i) w2 (by omega))
              have H2 := Lib.hid (fun w2 => rmOne_any z w2)
              have z0 : (strOfNums (rmRows (rowsL (l.take i)))).size ≤ 100000 := by rw [strOfNums_size]; have := rmRows_len (rowsL (l.take i)); omega
              have z1 : (strOfNums (putU ((k : Int) - i))).size ≤ 100000 := by rw [strOfNums_size]; have := Leb.putU_length ((k : Int) - i); omega
              have z2 : (strOfNums [z % 256]).size ≤ 100000 := by rw [strOfNums_size]; show 1 ≤ 100000; omega
              have hwk : IntKind.i64.wrap ((k : Int) - i) = (k : Int) - i := IntWalk.i64_in _ (by omega)
              have hrl2 : (((rowsL (l.take i)).length : Nat) : Int) ≤ 256 := by omega
              have hrl3 : 0 ≤ (((rowsL (l.take i)).length : Nat) : Int) := by omega
              clear RR hrl
              have dki : (k = len ∧ decide (k < len) = false) ∨ (((k : Int) < len) ∧ wr.cell? ⟨b, off + k, none⟩ = some (.int .i64 (l.getD k 0)) ∧ (l.getD k 0 == z) = false) := by
                rcases Nat.lt_or_ge k len with q | q
                · exact .inr ⟨by omega, hkn q, eq_no fun e => hkc ⟨q, e⟩⟩
                · exact .inl ⟨by omega, decide_eq_false (by omega)⟩
              clear hkn hkc
              revert RS RN H1 H2 z0 z1 z2 hrl2 hrl3
              generalize strOfNums (rmRows (rowsL (l.take i))) = S0
              generalize strOfNums (putU ((k : Int) - i)) = S1
              generalize strOfNums [z % 256] = S2
              generalize (((rowsL (l.take i)).length : Nat) : Int) = n0
              intro RS RN H1 H2 z0 z1 z2 hrl2 hrl3
              have n1 : ¬ 9223372036854775807 < S0.size + S1.size := by omega
              have n2 : ¬ 9223372036854775807 < S0.size + S1.size + S2.size := by omega
              have n3 : ¬ 9223372036854775807 < (S0 ++ S1).size + S2.size := by rw [ByteArray.size_append]; omega
              have hwn : IntKind.i64.wrap (n0 + 1) = n0 + 1 := IntWalk.i64_in _ (by omega)
              rcases dki with ⟨hk1, hk2⟩ | ⟨hk1, dk, hk2⟩
              · clear hk1
                go_wp2_with fail
                go_quiet (fail)
                go_wp2
                go_region_held3 (fun w' => w'.cell? ⟨b, off + i, none⟩ = some (.int .i64 z))
                  (first | exact CI.out _ (below_drewN hb2 _).drew | exact CI.out _ q5 | exact CI.out _ q6)
                  (first
                    | (go_at_call 58; refine (H1.out _).mono ?_; rintro e w5 ⟨rfl, k5⟩; have q5 := bel_step (below_drewN hb2 _).drew k5; clear k5)
                    | (go_at_call 55; refine (H2.out _).mono ?_; rintro e w6 ⟨rfl, k6⟩; have q6 := bel_step q5 k6; clear k6))
                all_goals go_wp2_with fail
                all_goals exact ⟨⟨i + 1, k, by go_num, LN.out, by rw [RN.out], congrArg Value.string RS.out.symm, q6⟩, by simp [intOf]; omega⟩
              · revert dk hk2
                generalize l.getD k 0 = zk
                intro dk hk2
                go_wp2_with fail
                go_quiet (fail)
                go_wp2
                go_region_held3 (fun w' => w'.cell? ⟨b, off + i, none⟩ = some (.int .i64 z))
                  (first | exact CI.out _ (below_drewN hb2 _).drew | exact CI.out _ q5 | exact CI.out _ q6)
                  (first
                    | (go_at_call 58; refine (H1.out _).mono ?_; rintro e w5 ⟨rfl, k5⟩; have q5 := bel_step (below_drewN hb2 _).drew k5; clear k5)
                    | (go_at_call 55; refine (H2.out _).mono ?_; rintro e w6 ⟨rfl, k6⟩; have q6 := bel_step q5 k6; clear k6))
                all_goals go_wp2_with fail
                all_goals exact ⟨⟨i + 1, k, by go_num, LN.out, by rw [RN.out], congrArg Value.string RS.out.symm, q6⟩, by simp [intOf]; omega⟩
        · have cp := hc (i - 1) (by omega)
          have ne := h0z hz
          clear hc he h0 h0z
          have w0 : (0 : Int) < i := by omega
          have w1 : IntKind.i64.wrap ((i : Int) - 1) = (i : Int) - 1 := by rw [IntKind.wrap_i64]; omega
          have w2 : ((i : Int) - 1).toNat = i - 1 := by omega
          have w3 : (i : Int) - 1 < len := by omega
          have w4 : (0 : Int) ≤ (i : Int) - 1 := by omega
          have ne1 : (z == l.getD (i - 1) 0) = false := eq_no ne
          clear ne
          revert ne1 cp
          generalize l.getD (i - 1) 0 = zp
          intro ne1 cp
          go_wp2_with fail
          go_quiet (fail)
          go_wp2
          clear w0 w1 w2 w3 w4 ne1 cp
          go_loopw [6] (fun kv wr2 => ∃ k : Nat, kv = .int .i64 k ∧ i ≤ k ∧ k ≤ len ∧ (∀ p, i ≤ p → p < k → l.getD p 0 = z) ∧ Below w.heap.size w wr2) (fun kv _ => len - (intOf kv).toNat)
          case atStart => exact ⟨i, rfl, Nat.le_refl _, by omega, fun p h1 h2 => absurd h1 (by omega), below_drewN hb _⟩
          case round =>
            obtain ⟨k, rfl, hik, hkl, hrun, hb2⟩ := hrel
            obtain ⟨b2, off2, he2, hc2⟩ := (HV.out.below hb2).resolve_left (by omega)
            injection he2 with he2
            injection he2 with e1 e2
            subst e1 e2
            have CI : Hid (∀ w3, Below w.heap.size w w3 → w3.cell? ⟨b, off + i, none⟩ = some (.int .i64 z)) := Lib.hid fun w3 h3 => by
              obtain ⟨b4, off4, he4, hc4⟩ := (HV.out.below h3).resolve_left (by omega)
              injection he4 with he4
              injection he4 with e1 e2
              subst e1 e2
              rw [HZD.out]
              exact hc4 i hlt
            have di := CI.out _ hb2
            have hkn : k < len → wr.cell? ⟨b, off + k, none⟩ = some (.int .i64 (l.getD k 0)) := hc2 k
            clear hc2 ci
            have RUN := Lib.hid hrun
            clear hrun
            by_cases hkc : k < len ∧ l.getD k 0 = z
            · have dk := hkn hkc.1
              rw [hkc.2] at dk
              have hkL : (k : Int) < len := by omega
              have NX : Hid (∀ p, i ≤ p → p < k + 1 → l.getD p 0 = z) := Lib.hid fun p h1 h2 => by
                rcases Nat.lt_or_ge p k with q | q
                · exact RUN.out p h1 q
                · obtain rfl : p = k := by omega
                  exact hkc.2
              have hkm := hkc.1
              clear hkn hkc
              go_wp2_with fail
              go_quiet (fail)
              go_wp2
              exact ⟨⟨k + 1, by go_num, by omega, by omega, NX.out, below_drewN hb2 _⟩, by simp [intOf]; omega⟩
            · have hik2 : i < k := by
                rcases Nat.lt_or_ge i k with q | q
                · exact q
                · obtain rfl : i = k := by omega
                  exact absurd ⟨hlt, HZD.out.symm⟩ hkc
              have LN : Hid (RmLocAt l (i + 1) k) := Lib.hid (rmLocAt_next hik2 (by rw [← HL.out]; exact hkl) (fun p h1 h2 => by rw [RUN.out p h1 h2, HZD.out]) (fun h1 h2 => hkc ⟨by rw [HL.out]; exact h1, by rw [h2, HZD.out]⟩))
              have RR := rows_upto hik2 (by rw [← HL.out]; exact hkl) H0.out (fun p h1 h2 => by rw [RUN.out p h1 h2, HZD.out])
              rw [← HZD.out] at RR
              have RS : Hid (strOfNums (rmRows (rowsL (l.take k))) = (strOfNums (rmRows (rowsL (l.take i))) ++ strOfNums (putU ((k : Int) - i))) ++ strOfNums [z % 256]) := Lib.hid (by
                rw [RR]
                unfold rmRows bRow bTyp
                rw [List.flatMap_append, strOfNums_app, strOfNums_app]
                simp)
              have RN : Hid ((((rowsL (l.take k)).length : Nat) : Int) = (((rowsL (l.take i)).length : Nat) : Int) + 1) := Lib.hid (by rw [RR]; simp)
              have H1 := Lib.hid (fun w2 => refPutU_any ((k : Int) - i) w2 (by omega))
              have H2 := Lib.hid (fun w2 => rmOne_any z w2)
              have z0 : (strOfNums (rmRows (rowsL (l.take i)))).size ≤ 100000 := by rw [strOfNums_size]; have := rmRows_len (rowsL (l.take i)); omega
              have z1 : (strOfNums (putU ((k : Int) - i))).size ≤ 100000 := by rw [strOfNums_size]; have := Leb.putU_length ((k : Int) - i); omega
              have z2 : (strOfNums [z % 256]).size ≤ 100000 := by rw [strOfNums_size]; show 1 ≤ 100000; omega
              have hwk : IntKind.i64.wrap ((k : Int) - i) = (k : Int) - i := IntWalk.i64_in _ (by omega)
              have hrl2 : (((rowsL (l.take i)).length : Nat) : Int) ≤ 256 := by omega
              have hrl3 : 0 ≤ (((rowsL (l.take i)).length : Nat) : Int) := by omega
              clear RR hrl
              have dki : (k = len ∧ decide (k < len) = false) ∨ (((k : Int) < len) ∧ wr.cell? ⟨b, off + k, none⟩ = some (.int .i64 (l.getD k 0)) ∧ (l.getD k 0 == z) = false) := by
                rcases Nat.lt_or_ge k len with q | q
                · exact .inr ⟨by omega, hkn q, eq_no fun e => hkc ⟨q, e⟩⟩
                · exact .inl ⟨by omega, decide_eq_false (by omega)⟩
              clear hkn hkc
              revert RS RN H1 H2 z0 z1 z2 hrl2 hrl3
              generalize strOfNums (rmRows (rowsL (l.take i))) = S0
              generalize strOfNums (putU ((k : Int) - i)) = S1
              generalize strOfNums [z % 256] = S2
              generalize (((rowsL (l.take i)).length : Nat) : Int) = n0
              intro RS RN H1 H2 z0 z1 z2 hrl2 hrl3
              have n1 : ¬ 9223372036854775807 < S0.size + S1.size := by omega
              have n2 : ¬ 9223372036854775807 < S0.size + S1.size + S2.size := by omega
              have n3 : ¬ 9223372036854775807 < (S0 ++ S1).size + S2.size := by rw [ByteArray.size_append]; omega
              have hwn : IntKind.i64.wrap (n0 + 1) = n0 + 1 := IntWalk.i64_in _ (by omega)
              rcases dki with ⟨hk1, hk2⟩ | ⟨hk1, dk, hk2⟩
              · clear hk1
                go_wp2_with fail
                go_quiet (fail)
                go_wp2
                go_region_held3 (fun w' => w'.cell? ⟨b, off + i, none⟩ = some (.int .i64 z))
                  (first | exact CI.out _ (below_drewN hb2 _).drew | exact CI.out _ q5 | exact CI.out _ q6)
                  (first
                    | (go_at_call 58; refine (H1.out _).mono ?_; rintro e w5 ⟨rfl, k5⟩; have q5 := bel_step (below_drewN hb2 _).drew k5; clear k5)
                    | (go_at_call 55; refine (H2.out _).mono ?_; rintro e w6 ⟨rfl, k6⟩; have q6 := bel_step q5 k6; clear k6))
                all_goals go_wp2_with fail
                all_goals exact ⟨⟨i + 1, k, by go_num, LN.out, by rw [RN.out], congrArg Value.string RS.out.symm, q6⟩, by simp [intOf]; omega⟩
              · revert dk hk2
                generalize l.getD k 0 = zk
                intro dk hk2
                go_wp2_with fail
                go_quiet (fail)
                go_wp2
                go_region_held3 (fun w' => w'.cell? ⟨b, off + i, none⟩ = some (.int .i64 z))
                  (first | exact CI.out _ (below_drewN hb2 _).drew | exact CI.out _ q5 | exact CI.out _ q6)
                  (first
                    | (go_at_call 58; refine (H1.out _).mono ?_; rintro e w5 ⟨rfl, k5⟩; have q5 := bel_step (below_drewN hb2 _).drew k5; clear k5)
                    | (go_at_call 55; refine (H2.out _).mono ?_; rintro e w6 ⟨rfl, k6⟩; have q6 := bel_step q5 k6; clear k6))
                all_goals go_wp2_with fail
                all_goals exact ⟨⟨i + 1, k, by go_num, LN.out, by rw [RN.out], congrArg Value.string RS.out.symm, q6⟩, by simp [intOf]; omega⟩
    · have hle := LOC.out.le
      obtain rfl : i = j := by omega
      obtain rfl : i = len := by omega
      have htk : l.take i = l := by rw [HL.out, List.take_length]
      have hrl := rows_len l i (by rw [← HL.out]; omega)
      rw [htk] at hrl
      have HR : Hid (strOfNums (putU (((rowsL l).length : Nat) : Int)) ++ strOfNums (rmRows (rowsL l)) = strOfNums (bList bRow (rowsL l))) := Lib.hid (by rw [strOfNums_app]; rfl)
      have H1 := Lib.hid (fun w2 => refPutU_any (((rowsL l).length : Nat) : Int) w2 (by omega))
      have z0 : (strOfNums (rmRows (rowsL l))).size ≤ 100000 := by rw [strOfNums_size]; have := rmRows_len (rowsL l); omega
      have z1 : (strOfNums (putU (((rowsL l).length : Nat) : Int))).size ≤ 100000 := by rw [strOfNums_size]; have := Leb.putU_length (((rowsL l).length : Nat) : Int); omega
      rw [htk]
      clear htk hrl
      revert HR H1 z0 z1
      generalize strOfNums (rmRows (rowsL l)) = S0
      generalize strOfNums (putU (((rowsL l).length : Nat) : Int)) = S1
      generalize (((rowsL l).length : Nat) : Int) = n0
      intro HR H1 z0 z1
      have n1 : ¬ 9223372036854775807 < S1.size + S0.size := by omega
      go_wp2_with (go_at_call 58; refine (H1.out _).mono ?_; rintro e w5 ⟨rfl, k5⟩)
      go_ret
      exact ⟨congrArg (fun x => Ending.returned (.string x)) HR.out, bel_step hb k5⟩
end Go.Proofs.YtekonefnniaheaaGreat
