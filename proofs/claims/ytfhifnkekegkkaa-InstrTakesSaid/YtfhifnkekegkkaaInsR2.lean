/- The reference's reading of indices. -/
import Derived.Test.YtfhifnkekegkkaaInsR1
namespace Go.Proofs.Ytfhifnkekegkkaa
open Go.RowKit
open Leb (byt byt_lt byt_get)

theorem block_fits (s : ByteArray) : ∃ n r f, blockTup s = .tuple #[.int .i64 n, .string r, .int .i64 f] ∧ FitsE (blkT s) n r f := by
  unfold blockTup blkT
  by_cases h : 0 < s.size ∧ 64 ≤ byt s 0 ∧ byt s 0 < 128
  · rw [if_pos h, if_pos h]
    by_cases h64 : byt s 0 = 64
    · rw [if_pos h64, if_pos h64]
      exact ⟨_, _, _, rfl, rfl, rfl, rfl⟩
    · rw [if_neg h64, if_neg h64]
      refine ⟨_, _, _, rfl, ?_⟩
      have hy : tyE s = (typeV (byt s 0 : Nat)).2 := by unfold tyE; rw [if_neg (by omega)]
      unfold yT
      by_cases h0 : tyE s = 0
      · rw [if_pos h0, ← hy, h0]
        refine ⟨rfl, rfl, ?_⟩
        show _ = tyR s
        unfold tyR
        rw [if_pos h0]
      · rw [if_neg h0, ← hy]
        exact ⟨rfl, h0⟩
  · rw [if_neg h, if_neg h]
    refine ⟨_, _, _, rfl, ?_⟩
    have hs := (fits_s s 5 4294967296).toE
    revert hs
    generalize sN s 5 4294967296 = n
    generalize sE s 5 4294967296 = f
    generalize sR s 5 4294967296 = r
    intro hs
    refine fitsE_bind hs (fun hf => ?_) fun hf => if_neg (fun q => hf q.1)
    by_cases hn : n < 0
    · rw [if_pos hn, if_pos ⟨hf, hn⟩]
      exact ⟨rfl, by decide⟩
    · rw [if_neg hn, if_neg (fun q => hn q.2), hf]
      exact ⟨rfl, rfl, rfl⟩
def twoT (s : ByteArray) : Except Int ((Int × Int) × ByteArray) := (uT s).bind fun q => (uT q.2).bind fun p => .ok ((q.1, p.1), p.2)
theorem two_fits (s : ByteArray) : ∃ a m r f, twoTup s = .tuple #[.int .i64 a, .int .i64 m, .string r, .int .i64 f] ∧ FitsE (twoT s) (a, m) r f := by
  unfold twoTup twoT
  by_cases h : okU s = true
  · rw [if_pos h]
    refine ⟨_, _, _, _, rfl, fitsE_bind (fits_u s).toE (fun _ => ?_) fun hf => absurd (if_pos h) hf⟩
    exact fitsE_bind (fits_u (uR s)).toE (fun h2 => ⟨h2, rfl, rfl⟩) fun _ => rfl
  · rw [if_neg h]
    refine ⟨_, _, _, _, rfl, ?_⟩
    unfold uT
    rw [if_neg h]
    exact ⟨rfl, by decide⟩
theorem typed_fits (s : ByteArray) : ∃ t r f, typedTup s = .tuple #[.int .i64 t, .string r, .int .i64 f] ∧ FitsE (yT s) t r f := by
  unfold typedTup yT
  by_cases h : s.size = 0
  · rw [if_pos h]
    refine ⟨_, _, _, rfl, ?_⟩
    have he : tyE s = 2 := by unfold tyE; rw [if_pos h]
    rw [he, if_neg (by decide)]
    exact ⟨rfl, by decide⟩
  · rw [if_neg h]
    have he : tyE s = (typeV (byt s 0 : Nat)).2 := by unfold tyE; rw [if_neg h]
    refine ⟨_, _, _, rfl, ?_⟩
    by_cases h0 : tyE s = 0
    · rw [if_pos h0]
      refine ⟨he ▸ h0, ?_, ?_⟩
      · show _ = tyN s
        unfold tyN
        rw [if_pos h0]
      · show _ = tyR s
        unfold tyR
        rw [if_pos h0]
    · rw [if_neg h0, he]
      exact ⟨rfl, he ▸ h0⟩
/-- What reading one index, or two, comes to: A, M; what is behind. -/
def idxT (op sh : Int) (s : ByteArray) : Except Int ((Int × Int) × ByteArray) :=
  if sh = 2 then (blkT s).bind fun q => .ok ((q.1, 0), q.2)
  else if sh = 3 then (uT s).bind fun q => .ok ((q.1, 0), q.2)
  else if sh = 5 then twoT s
  else if sh = 8 then (uT s).bind fun q => .ok ((0, q.1), q.2)
  else if sh = 9 then (twoT s).bind fun q => .ok ((q.1.2, q.1.1), q.2)
  else (constT op s).bind fun q => .ok ((q.1, 0), q.2)
theorem fitsE_map {X Y : Type} {res : Except Int (X × ByteArray)} {x : X} {r : ByteArray} {f : Int} (h : FitsE res x r f) (g : X → Y) : FitsE (res.bind fun q => .ok (g q.1, q.2)) (g x) r f :=
  fitsE_bind h (fun h0 => ⟨h0, rfl, rfl⟩) fun _ => rfl
set_option maxRecDepth 100000 in
set_option maxHeartbeats 1000000 in
theorem refIndices_any (sh op : Int) (hsh : sh = 2 ∨ sh = 3 ∨ sh = 5 ∨ sh = 8 ∨ sh = 9 ∨ (sh = 10 ∧ (op = 65 ∨ op = 66))) (s : ByteArray) (hs : s.size ≤ maxLen) (w : World) :
    Calls Try.prog 60 #[.int .i64 sh, .int .i64 op, .string s] w fun e w' => ∃ a m r f, e = .returned (.tuple #[.int .i64 a, .int .i64 m, .string r, .int .i64 f]) ∧ Below w.heap.size w w' ∧ FitsE (idxT op sh s) (a, m) r f := by
  rcases hsh with rfl | rfl | rfl | rfl | rfl | ⟨rfl, ho⟩
  · obtain ⟨n, r, f, h1, h2⟩ := block_fits s
    have HC := Lib.hid (refBlock_any s hs)
    rw [h1] at HC
    have HF : Hid (FitsE (idxT op 2 s) (n, 0) r f) := Lib.hid (fitsE_map h2 fun x => (x, 0))
    clear h1 h2 hs
    go_enter Try.func60, Try.ntmps60
    go_wp2_with (go_at_call 79; refine (HC.out _).mono ?_; rintro e w1 ⟨rfl, k1⟩)
    refine bodyPost_ret (v := .tuple #[.int .i64 n, .int .i64 0, .string r, .int .i64 f]) (by simp [results, Try.results60, go_sem]) rfl ⟨_, _, _, _, rfl, k1, HF.out⟩
  · have HC := Lib.hid (refTakeU_any s hs)
    unfold uTup at HC
    have HF : Hid (FitsE (idxT op 3 s) (uN s, 0) (uR s) (uE s)) := Lib.hid (fitsE_map (fits_u s).toE fun x => (x, 0))
    revert HC HF
    generalize uN s = n
    generalize uR s = r
    generalize uE s = f
    intro HC HF
    clear hs
    go_enter Try.func60, Try.ntmps60
    go_wp2_with (go_at_call 34; refine (HC.out _).mono ?_; rintro e w1 ⟨rfl, k1⟩)
    refine bodyPost_ret (v := .tuple #[.int .i64 n, .int .i64 0, .string r, .int .i64 f]) (by simp [results, Try.results60, go_sem]) rfl ⟨_, _, _, _, rfl, k1, HF.out⟩
  · obtain ⟨n, m, r, f, h1, h2⟩ := two_fits s
    have HC := Lib.hid (refTwo_any s hs)
    rw [h1] at HC
    have HF : Hid (FitsE (idxT op 5 s) (n, m) r f) := Lib.hid h2
    clear h1 h2 hs
    go_enter Try.func60, Try.ntmps60
    go_wp2_with (go_at_call 80; refine (HC.out _).mono ?_; rintro e w1 ⟨rfl, k1⟩)
    refine bodyPost_ret (v := .tuple #[.int .i64 n, .int .i64 m, .string r, .int .i64 f]) (by simp [results, Try.results60, go_sem]) rfl ⟨_, _, _, _, rfl, k1, HF.out⟩
  · have HC := Lib.hid (refTakeU_any s hs)
    unfold uTup at HC
    have HF : Hid (FitsE (idxT op 8 s) (0, uN s) (uR s) (uE s)) := Lib.hid (fitsE_map (fits_u s).toE fun x => (0, x))
    revert HC HF
    generalize uN s = n
    generalize uR s = r
    generalize uE s = f
    intro HC HF
    clear hs
    go_enter Try.func60, Try.ntmps60
    go_wp2_with (go_at_call 34; refine (HC.out _).mono ?_; rintro e w1 ⟨rfl, k1⟩)
    refine bodyPost_ret (v := .tuple #[.int .i64 0, .int .i64 n, .string r, .int .i64 f]) (by simp [results, Try.results60, go_sem]) rfl ⟨_, _, _, _, rfl, k1, HF.out⟩
  · obtain ⟨n, m, r, f, h1, h2⟩ := two_fits s
    have HC := Lib.hid (refTwo_any s hs)
    rw [h1] at HC
    have HF : Hid (FitsE (idxT op 9 s) (m, n) r f) := Lib.hid (fitsE_map h2 fun x => (x.2, x.1))
    clear h1 h2 hs
    go_enter Try.func60, Try.ntmps60
    go_wp2_with (go_at_call 80; refine (HC.out _).mono ?_; rintro e w1 ⟨rfl, k1⟩)
    refine bodyPost_ret (v := .tuple #[.int .i64 m, .int .i64 n, .string r, .int .i64 f]) (by simp [results, Try.results60, go_sem]) rfl ⟨_, _, _, _, rfl, k1, HF.out⟩
  · rcases ho with rfl | rfl
    · have HC := Lib.hid (refTakeS_any s 32 5 2147483648 (.inl ⟨rfl, rfl, rfl⟩) hs)
      unfold sTup at HC
      have HF : Hid (FitsE (idxT 65 10 s) (sN s 5 2147483648, 0) (sR s 5 2147483648) (sE s 5 2147483648)) := Lib.hid (fitsE_map (res := constT 65 s) (fits_s s 5 2147483648).toE fun x => (x, 0))
      revert HC HF
      generalize sN s 5 2147483648 = n
      generalize sR s 5 2147483648 = r
      generalize sE s 5 2147483648 = f
      intro HC HF
      clear hs
      go_enter Try.func60, Try.ntmps60
      go_wp2_with (go_at_call 81; refine (HC.out _).mono ?_; rintro e w1 ⟨rfl, k1⟩)
      refine bodyPost_ret (v := .tuple #[.int .i64 n, .int .i64 0, .string r, .int .i64 f]) (by simp [results, Try.results60, go_sem]) rfl ⟨_, _, _, _, rfl, k1, HF.out⟩
    · have HC := Lib.hid (refTakeS_any s 64 10 9223372036854775808 (.inr (.inr ⟨rfl, rfl, rfl⟩)) hs)
      unfold sTup at HC
      have HF : Hid (FitsE (idxT 66 10 s) (sN s 10 9223372036854775808, 0) (sR s 10 9223372036854775808) (sE s 10 9223372036854775808)) := Lib.hid (fitsE_map (res := constT 66 s) (fits_s s 10 9223372036854775808).toE fun x => (x, 0))
      revert HC HF
      generalize sN s 10 9223372036854775808 = n
      generalize sR s 10 9223372036854775808 = r
      generalize sE s 10 9223372036854775808 = f
      intro HC HF
      clear hs
      go_enter Try.func60, Try.ntmps60
      go_wp2_with (go_at_call 81; refine (HC.out _).mono ?_; rintro e w1 ⟨rfl, k1⟩)
      refine bodyPost_ret (v := .tuple #[.int .i64 n, .int .i64 0, .string r, .int .i64 f]) (by simp [results, Try.results60, go_sem]) rfl ⟨_, _, _, _, rfl, k1, HF.out⟩
end Go.Proofs.Ytfhifnkekegkkaa
