/- The project's taker: numbers with a sign, labels, types. -/
import Derived.Test.YtgacnelpdhmeiaaInsT1
namespace Go.Proofs.Ytgacnelpdhmeiaa
open Go.RowKit
open Leb (byt byt_lt byt_get)

set_option maxRecDepth 100000 in
theorem signed_any' (t b i : Nat) (cs : Array Value) (T : TypeId) (r : ByteArray) (c f z bits : Int) (most : Nat) (half : Int) (hw : Bw bits most half) (w : World) (h : TkAt w t r c f) (hb : BlkAt w b cs T) (hne : b ≠ t) (hi : cs[i]? = some (.int .i64 z)) (hs : r.size ≤ maxLen) :
    Calls Try.prog 90 #[.pointer (some ⟨t, 0, none⟩), .pointer (some ⟨b, i, none⟩), .int .i64 bits] w fun x w' => Took t (tkR f (sR r most half) r) c (tkF f (sE r most half)) b (cs.setIfInBounds i (.int .i64 (sN r most half))) T w x w' := by
  have d0 := h.cell 0
  simp at d0
  have HU := Lib.hid (fun w => TakeS_any r bits most half hw hs w)
  unfold sTup at HU
  have H := Lib.hid h
  have HB := Lib.hid hb
  clear h hb hs hw
  revert HU
  generalize sN r most half = n
  generalize sR r most half = r2
  generalize sE r most half = e2
  intro HU
  go_enter Try.func90, Try.ntmps90
  go_wp2_with (first
    | (go_at_call 93; refine (HU.out _).mono ?_; rintro x w1 ⟨rfl, hb1⟩
       have k1 := (HB.out.below hb1).cell i
       rw [hi] at k1
       have k2 := (HB.out.below hb1).frozen i)
    | (go_at_call 65; refine (took_any t r r2 c f e2 _ ((H.out.below hb1).other (fun q => hne q.symm) i _)).mono ?_; rintro x w3 ⟨rfl, h3, hk3⟩))
  exact bodyPost_void rfl rfl ⟨rfl, h3, (((HB.out.below hb1).put i _).kept hk3 hne), ((Kept.of_below hb1).set (p := ⟨b, i, none⟩) (.inr rfl) _).trans (hk3.mono fun k q => .inl q)⟩
theorem Ints.kept {F : Nat → Prop} {base : Nat} {v : Value} {xs : List Int} {w w' : World} (h : Ints base v xs w) (hk : Kept F w w') (hf : ∀ k, F k → k < base) : Ints base v xs w' := by
  refine ⟨h.1, ?_⟩
  rcases h.2 with hn | ⟨g, cap, cur, rfl, hg, hgg, rest⟩
  · exact .inl hn
  · exact .inr ⟨g, cap, cur, rfl, hg, hk.cells hgg (fun q => by have := hf g q; omega), rest⟩
set_option maxRecDepth 100000 in
theorem labels_any (t b i : Nat) (cs : Array Value) (T : TypeId) (r : ByteArray) (c f : Int) (x0 : Option Addr) (l0 c0 : Nat) (w : World) (h : TkAt w t r c f) (hb : BlkAt w b cs T) (hne : b ≠ t) (hi : cs[i]? = some (.slice x0 l0 c0)) (hs : r.size ≤ 1000000000) :
    Calls Try.prog 81 #[.pointer (some ⟨t, 0, none⟩), .pointer (some ⟨b, i, none⟩)] w fun x w' => ∃ v, Took t (tkR f (allRes r 1000).2.1 r) c (tkF f (allRes r 1000).2.2) b (cs.setIfInBounds i v) T w x w' ∧ Ints w.heap.size v (allRes r 1000).1 w' := by
  have d0 := h.cell 0
  simp at d0
  have HU := Lib.hid (fun w => TakeAll_any r 1000 hs w)
  have H := Lib.hid h
  have HB := Lib.hid hb
  have ht := h.lt
  have hbl := hb.lt
  clear h hb hs
  revert HU
  generalize allRes r 1000 = res
  intro HU
  go_enter Try.func81, Try.ntmps81
  go_wp2_with (first
    | (go_at_call 92; refine (HU.out _).mono ?_; rintro x w1 ⟨v1, rfl, hi1, hb1⟩
       have k1 := (HB.out.below hb1).cell i
       rw [hi] at k1
       have k2 := (HB.out.below hb1).frozen i
       obtain ⟨a1, cap1, hv1, hview⟩ := hi1.view
       subst hv1)
    | (go_at_call 65; refine (took_any t r res.2.1 c f res.2.2 _ ((H.out.below hb1).other (fun q => hne q.symm) i _)).mono ?_; rintro x w3 ⟨rfl, h3, hk3⟩))
  have hkk := (Kept.refl (fun k => k = t ∨ k = b) w1).set (p := ⟨b, i, none⟩) (.inr rfl) (.slice a1 res.1.length cap1)
  exact bodyPost_void rfl rfl ⟨_, ⟨rfl, h3, (((HB.out.below hb1).put i _).kept hk3 hne), ((Kept.of_below hb1).set (p := ⟨b, i, none⟩) (.inr rfl) _).trans (hk3.mono fun k q => .inl q)⟩, (hi1.kept hkk (fun k q => by rcases q with rfl | rfl <;> assumption)).kept hk3 (fun k q => by rw [q]; exact ht)⟩
def tyE (s : ByteArray) : Int := if s.size = 0 then 2 else (typeV (byt s 0 : Nat)).2
def tyN (s : ByteArray) : Int := if tyE s = 0 then (typeV (byt s 0 : Nat)).1 else 0
def tyR (s : ByteArray) : ByteArray := if tyE s = 0 then s.extract 1 s.size else ⟨#[]⟩
theorem typeTup_eq (s : ByteArray) : typeTup s = .tuple #[.int .i64 (tyN s), .string (tyR s), .int .i64 (tyE s)] := by
  unfold typeTup tyN tyR tyE
  by_cases h : s.size = 0
  · simp only [h, if_true]
    rw [if_neg (by decide), if_neg (by decide)]
  · simp only [h, if_false]
    by_cases h2 : (typeV (byt s 0 : Nat)).2 = 0
    · simp only [h2, if_true]
    · simp only [h2, if_false]
set_option maxRecDepth 100000 in
theorem typ_any (t b i : Nat) (cs : Array Value) (T : TypeId) (r : ByteArray) (c f z : Int) (w : World) (h : TkAt w t r c f) (hb : BlkAt w b cs T) (hne : b ≠ t) (hi : cs[i]? = some (.int .i64 z)) (hs : r.size ≤ maxLen) :
    Calls Try.prog 91 #[.pointer (some ⟨t, 0, none⟩), .pointer (some ⟨b, i, none⟩)] w fun x w' => Took t (tkR f (tyR r) r) c (tkF f (tyE r)) b (cs.setIfInBounds i (.int .i64 (tyN r))) T w x w' := by
  have d0 := h.cell 0
  simp at d0
  have HU := Lib.hid (fun w => takeType_any r hs w)
  rw [typeTup_eq] at HU
  have H := Lib.hid h
  have HB := Lib.hid hb
  clear h hb hs
  revert HU
  generalize tyN r = n
  generalize tyR r = r2
  generalize tyE r = e2
  intro HU
  go_enter Try.func91, Try.ntmps91
  go_wp2_with (first
    | (go_at_call 23; refine (HU.out _).mono ?_; rintro x w1 ⟨rfl, hb1⟩
       have k1 := (HB.out.below hb1).cell i
       rw [hi] at k1
       have k2 := (HB.out.below hb1).frozen i)
    | (go_at_call 65; refine (took_any t r r2 c f e2 _ ((H.out.below hb1).other (fun q => hne q.symm) i _)).mono ?_; rintro x w3 ⟨rfl, h3, hk3⟩))
  exact bodyPost_void rfl rfl ⟨rfl, h3, (((HB.out.below hb1).put i _).kept hk3 hne), ((Kept.of_below hb1).set (p := ⟨b, i, none⟩) (.inr rfl) _).trans (hk3.mono fun k q => .inl q)⟩
theorem sR_size (s : ByteArray) (most : Nat) (half : Int) : (sR s most half).size ≤ s.size := by
  unfold sR
  split
  · rw [ByteArray.size_extract]; omega
  · exact Nat.zero_le _
theorem tyR_size (s : ByteArray) : (tyR s).size ≤ s.size := by
  unfold tyR
  split
  · rw [ByteArray.size_extract]; omega
  · exact Nat.zero_le _
theorem aR_size (s : ByteArray) (most : Int) : (allRes s most).2.1.size ≤ s.size := by
  unfold allRes
  split
  · split
    · exact Nat.zero_le _
    · cases hr : rowsF (Leb.sum7 s (Leb.len7 s 5)) [] (s.extract (Leb.len7 s 5) s.size) with
      | none => exact Nat.zero_le _
      | some x =>
        have h := rowsF_len _ _ _ _ hr
        have h2 := size_rest s
        simp only [List.length_nil] at h
        show x.2.size ≤ s.size
        omega
  · exact Nat.zero_le _
theorem tkR_size {f : Int} {b r : ByteArray} {n : Nat} (h1 : b.size ≤ n) (h2 : r.size ≤ n) : (tkR f b r).size ≤ n := by
  unfold tkR
  split <;> assumption
end Go.Proofs.Ytgacnelpdhmeiaa
