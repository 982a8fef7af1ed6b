/- The project's reading of an instruction's numbers. -/
import Derived.Test.YtgacnelpdhmeiaaInsT3
namespace Go.Proofs.Ytgacnelpdhmeiaa
open Go.RowKit
open Leb (byt byt_lt byt_get)

theorem bodyPost_voidr {P : Program} {fn : Func} {R : Ending → World → Prop} {a : Act} {w : World} (hr : fn.results = #[]) (hd : a.defers = []) (hR : R (.returned (.tuple #[])) w) : bodyPost P fn R .ret a w :=
  ⟨hd, .tuple #[], by simp [results, hr, go_sem], hR⟩
def constT (op : Int) (s : ByteArray) : Except Int (Int × ByteArray) := if op = 66 then sT s 10 9223372036854775808 else sT s 5 2147483648
/-- What reading an instruction's numbers comes to: A, B, M, the labels; what is behind. -/
def numsT (op sh : Int) (s : ByteArray) : Except Int ((Int × Int × Int × List Int) × ByteArray) :=
  if sh = 2 then (blkT s).bind fun q => .ok ((q.1, 0, 0, []), q.2)
  else if sh = 3 then (uT s).bind fun q => .ok ((q.1, 0, 0, []), q.2)
  else if sh = 4 then (aT s).bind fun q => (uT q.2).bind fun p => .ok ((p.1, 0, 0, q.1), p.2)
  else if sh = 5 then (uT s).bind fun q => (uT q.2).bind fun p => .ok ((q.1, 0, p.1, []), p.2)
  else if sh = 6 then (typesT s).bind fun q => .ok ((q.1, 0, 0, []), q.2)
  else if sh = 7 then (placeT s).bind fun q => .ok ((q.1.1, q.1.2.1, q.1.2.2, []), q.2)
  else if sh = 8 then (uT s).bind fun q => .ok ((0, 0, q.1, []), q.2)
  else if sh = 9 then (uT s).bind fun q => (uT q.2).bind fun p => .ok ((p.1, 0, q.1, []), p.2)
  else if sh = 10 then (constT op s).bind fun q => .ok ((q.1, 0, 0, []), q.2)
  else if sh = 11 then (nullT s).bind fun q => .ok ((0, 0, 0, []), q.2)
  else .ok ((0, 0, 0, []), s)
theorem fits_map {X Y : Type} {res : Except Int (X × ByteArray)} {x : X} {r : ByteArray} {f : Int} (h : Fits res x r f) (g : X → Y) : Fits (res.bind fun q => .ok (g q.1, q.2)) (g x) r f :=
  fits_bind h (fun h0 => ⟨h0, rfl, rfl⟩) fun _ => ⟨rfl, rfl⟩
def InsCs (op a b m : Int) (nv : Value) : Array Value := #[.int .i64 op, .int .i64 a, .int .i64 b, .int .i64 m, nv, .slice none 0 0, .slice none 0 0]
def nil3 : Value := .slice none 0 0
/-- What reading an instruction's numbers leaves. -/
def GivesF (t b : Nat) (op sh : Int) (r : ByteArray) (c : Int) (w : World) (x : Ending) (w' : World) : Prop :=
  ∃ a' b' m' x1 c1 n r' f', Took t r' c f' b #[.int .i64 op, .int .i64 a', .int .i64 b', .int .i64 m', .slice x1 n.length c1, .slice none 0 0, .slice none 0 0] 57 w x w' ∧ Fits (numsT op sh r) (a', b', m', n) r' f' ∧ Ints w.heap.size (.slice x1 n.length c1) n w'
theorem ints_nil (B : Nat) (w : World) : Ints B (.slice none 0 0) [] w := World.ownsRow_nil _ _ _ _
set_option maxRecDepth 100000 in
theorem takerConst_any (t b : Nat) (op : Int) (r : ByteArray) (c : Int) (w : World) (hop : op = 65 ∨ op = 66) (h : TkAt w t r c 0) (hb : BlkAt w b #[.int .i64 op, .int .i64 0, .int .i64 0, .int .i64 0, .slice none 0 0, .slice none 0 0, .slice none 0 0] 57) (hne : b ≠ t) (hs : r.size ≤ maxLen) :
    Calls Try.prog 84 #[.pointer (some ⟨t, 0, none⟩), .pointer (some ⟨b, 0, none⟩)] w fun x w' => ∃ a' r' f', Took t r' c f' b #[.int .i64 op, .int .i64 a', .int .i64 0, .int .i64 0, .slice none 0 0, .slice none 0 0, .slice none 0 0] 57 w x w' ∧ Fits (constT op r) a' r' f' := by
  have d0 := hb.cell 0
  simp at d0
  rcases hop with rfl | rfl
  · have HN := Lib.hid (signed_any' t b 1 _ _ r c 0 0 32 5 2147483648 (.inl ⟨rfl, rfl, rfl⟩) w h hb hne rfl hs)
    rw [tkR0, tkF0] at HN
    have HF : Hid (Fits (constT 65 r) (sN r 5 2147483648) (sR r 5 2147483648) (sE r 5 2147483648)) := Lib.hid (fits_s r 5 2147483648)
    clear h hb
    go_enter Try.func84, Try.ntmps84
    go_wp2_with (go_at_call 90; refine HN.out.mono ?_; rintro x w1 ⟨rfl, t1, b1, k1⟩)
    exact bodyPost_voidr rfl rfl ⟨_, _, _, ⟨rfl, t1, b1, k1⟩, HF.out⟩
  · have HN := Lib.hid (signed_any' t b 1 _ _ r c 0 0 64 10 9223372036854775808 (.inr (.inr ⟨rfl, rfl, rfl⟩)) w h hb hne rfl hs)
    rw [tkR0, tkF0] at HN
    have HF : Hid (Fits (constT 66 r) (sN r 10 9223372036854775808) (sR r 10 9223372036854775808) (sE r 10 9223372036854775808)) := Lib.hid (fits_s r 10 9223372036854775808)
    clear h hb
    go_enter Try.func84, Try.ntmps84
    go_wp2_with (go_at_call 90; refine HN.out.mono ?_; rintro x w1 ⟨rfl, t1, b1, k1⟩)
    exact bodyPost_void rfl rfl ⟨_, _, _, ⟨rfl, t1, b1, k1⟩, HF.out⟩
set_option maxRecDepth 100000 in
set_option maxHeartbeats 1000000 in
theorem takerBlock_any (t b i : Nat) (cs : Array Value) (T : TypeId) (r : ByteArray) (c z : Int) (w : World) (h : TkAt w t r c 0) (hb : BlkAt w b cs T) (hne : b ≠ t) (hi : cs[i]? = some (.int .i64 z)) (hil : i < cs.size) (hs : r.size ≤ maxLen) :
    Calls Try.prog 80 #[.pointer (some ⟨t, 0, none⟩), .pointer (some ⟨b, i, none⟩)] w fun x w' => ∃ n r' f', Took t r' c f' b (cs.setIfInBounds i (.int .i64 n)) T w x w' ∧ Fits (blkT r) n r' f' := by
  have d0 := h.cell 0
  simp at d0
  have k0 := hb.cell i
  rw [hi] at k0
  have z0 := hb.frozen i
  have hlt := h.lt
  have hlb := hb.lt
  have H := Lib.hid h
  have HB := Lib.hid hb
  have e5 := byt_lt r 0
  by_cases hin : 0 < r.size ∧ 64 ≤ byt r 0 ∧ byt r 0 < 128
  · obtain ⟨hpos, g1, g2⟩ := hin
    have e3 := byt_get r 0 hpos
    have hnn := toList_some hpos
    have b1' : (1 : Int) ≤ r.size := by omega
    have HBT : Hid (blkT r = if byt r 0 = 64 then .ok (-64, r.extract 1 r.size) else (yT r).bind fun q => .ok ((byt r 0 : Int) - 128, q.2)) := Lib.hid (by unfold blkT; rw [if_pos ⟨hpos, g1, g2⟩])
    have wz : IntKind.i64.wrap ((byt r 0 : Int) - 128) = (byt r 0 : Int) - 128 := by rw [IntKind.wrap_i64]; omega
    unfold maxLen at hs
    by_cases h64 : byt r 0 = 64
    · have HT := Lib.hid (took_any t r (r.extract 1 r.size) c 0 0 _ (h.other (fun q => hne q.symm) i (.int .i64 (-64))))
      rw [tkR0, tkF0] at HT
      have HE := Lib.hid (HBT.out.trans (if_pos h64))
      clear h hb
      go_enter Try.func80, Try.ntmps80
      go_wp2_with (go_at_call 65; refine HT.out.mono ?_; rintro x w1 ⟨rfl, t1, k1⟩)
      exact bodyPost_voidr rfl rfl ⟨-64, _, 0, ⟨rfl, t1, ((HB.out.put i _).kept k1 hne), ((Kept.refl (fun k => k = t ∨ k = b) w).set (p := ⟨b, i, none⟩) (.inr rfl) _).trans (k1.mono fun _ q => .inl q)⟩, by rw [HE.out]; exact ⟨rfl, rfl, rfl⟩⟩
    · have HE := Lib.hid (HBT.out.trans (if_neg h64))
      have hb0 : Below (w.setCell ⟨b, i, none⟩ (.int .i64 ((byt r 0 : Int) - 128))).heap.size (w.setCell ⟨b, i, none⟩ (.int .i64 ((byt r 0 : Int) - 128))) ((w.setCell ⟨b, i, none⟩ (.int .i64 ((byt r 0 : Int) - 128))).alloc (.cells #[.int .i64 0] 3)) := (Below.refl _ _).alloc (Nat.le_refl _) _
      have hzs : (w.setCell ⟨b, i, none⟩ (.int .i64 ((byt r 0 : Int) - 128))).heap.size = w.heap.size := by simp [World.setCell]
      have HN := Lib.hid (typ_any t w.heap.size 0 #[.int .i64 0] 3 r c 0 0 _ ((h.other (fun q => hne q.symm) i (.int .i64 ((byt r 0 : Int) - 128))).below hb0) (hzs ▸ BlkAt.new (w.setCell ⟨b, i, none⟩ (.int .i64 ((byt r 0 : Int) - 128))) _ _) (by omega) rfl (by unfold maxLen; omega))
      rw [tkR0, tkF0] at HN
      have HB2 := Lib.hid ((HB.out.put i (.int .i64 ((byt r 0 : Int) - 128))).below hb0)
      have HK : Hid (Kept (fun k => k = t ∨ k = b) w ((w.setCell ⟨b, i, none⟩ (.int .i64 ((byt r 0 : Int) - 128))).alloc (.cells #[.int .i64 0] 3))) := Lib.hid (((Kept.refl (fun k => k = t ∨ k = b) w).set (p := ⟨b, i, none⟩) (.inr rfl) _).trans (.of_below hb0))
      have hn64 : ((byt r 0 : Int) - 128 == -64) = false := eq_no (by omega)
      clear h hb hb0 HBT h64
      go_enter Try.func80, Try.ntmps80
      go_wp2_with (go_at_call 91; refine HN.out.mono ?_; rintro x w1 ⟨rfl, t1, b1, k1⟩)
      refine bodyPost_void rfl rfl ⟨_, _, _, ⟨rfl, t1, HB2.out.kept k1 (by rintro (q | q) <;> omega), HK.out.then k1 (by rintro j hj (q | q); exact .inl q; omega)⟩, ?_⟩
      rw [HE.out]
      exact fits_bind (fits_y r) (fun h0 => ⟨h0, rfl, rfl⟩) fun _ => ⟨rfl, rfl⟩
  · have HBT : Hid (blkT r = (sT r 5 4294967296).bind fun q => if 0 ≤ q.1 then .ok q else .error 2) := Lib.hid (by
      unfold blkT
      rw [if_neg hin]
      congr 1
      funext q
      by_cases h : 0 ≤ q.1
      · rw [if_pos h, if_neg (by omega)]
      · rw [if_neg h, if_pos (by omega)])
    have HN := Lib.hid (signed_any' t b i cs T r c 0 z 33 5 4294967296 (.inr (.inl ⟨rfl, rfl, rfl⟩)) w h hb hne hi hs)
    rw [tkR0, tkF0] at HN
    have HFS := Lib.hid (fits_s r 5 4294967296)
    have key : r.size = 0 ∨ (0 < r.size ∧ byt r 0 < 64) ∨ (0 < r.size ∧ 64 ≤ byt r 0 ∧ 128 ≤ byt r 0) := by omega
    have e3 : ∀ h : 0 < r.size, r[0].toNat = byt r 0 := byt_get r 0
    revert HN HFS HBT
    generalize sN r 5 4294967296 = n
    generalize sR r 5 4294967296 = r2
    generalize sE r 5 4294967296 = f2
    intro HBT HN HFS
    have hcell : (cs.setIfInBounds i (.int .i64 n))[i]? = some (.int .i64 n) := by simp [hil]
    have HFIN : Hid (Fits (blkT r) n (ndR (decide (0 ≤ n)) f2 r2) (ndF (decide (0 ≤ n)) f2 2)) := Lib.hid (by
      rw [HBT.out]
      refine fits_bind HFS.out (fun h0 => fits_need (q := decide (0 ≤ n)) (r1 := r2) (f1 := f2) rfl (by decide) h0 (fun hp => ?_) fun _ => ⟨rfl, rfl⟩) fun h0 => nd_no h0
      rw [decide_eq_true hp]
      exact ⟨h0, rfl, rfl⟩)
    clear h hb hin hi hs HBT HFS
    rcases key with k | ⟨k, q1⟩ | ⟨k, q1, q2⟩
    · have hse : r = ⟨#[]⟩ := ByteArray.size_eq_zero_iff.1 k
      subst hse
      clear e3 k e5
      go_enter Try.func80, Try.ntmps80
      go_wp2_with (first
        | (go_at_call 90; refine HN.out.mono ?_; rintro x w1 ⟨rfl, t1, b1, k1⟩; have c1 := b1.cell i; rw [hcell] at c1)
        | (go_at_call 49; refine (need_any t r2 c f2 2 (decide (0 ≤ n)) _ t1).mono ?_; rintro x w2 ⟨rfl, t2, k2⟩))
      exact bodyPost_voidr rfl rfl ⟨_, _, _, ⟨rfl, t2, b1.kept k2 hne, k1.trans (k2.mono fun _ q => .inl q)⟩, HFIN.out⟩
    all_goals
      have e4 := e3 k
      have hnn := toList_some k
      clear e3
      go_enter Try.func80, Try.ntmps80
      go_wp2_with (first
        | (go_at_call 90; refine HN.out.mono ?_; rintro x w1 ⟨rfl, t1, b1, k1⟩; have c1 := b1.cell i; rw [hcell] at c1)
        | (go_at_call 49; refine (need_any t r2 c f2 2 (decide (0 ≤ n)) _ t1).mono ?_; rintro x w2 ⟨rfl, t2, k2⟩))
      exact bodyPost_voidr rfl rfl ⟨_, _, _, ⟨rfl, t2, b1.kept k2 hne, k1.trans (k2.mono fun _ q => .inl q)⟩, HFIN.out⟩
end Go.Proofs.Ytgacnelpdhmeiaa
