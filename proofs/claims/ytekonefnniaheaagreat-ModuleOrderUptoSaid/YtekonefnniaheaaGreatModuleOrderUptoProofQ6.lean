/- Texts of the proof of ModuleOrderUptoProof, part 6. -/
import Derived.Deep.AppendLies
import Derived.Test.YtekonefnniaheaaGreatModuleOrderUptoProofQ1
import Derived.Test.YtekonefnniaheaaGreatModuleOrderUptoProofQ2
import Derived.Test.YtekonefnniaheaaGreatModuleOrderUptoProofQ5
/- The project's taker: what it holds, and its smallest steps. -/
namespace Go.Proofs.YtekonefnniaheaaGreat
open Go.RowKit
open Leb (byt byt_lt byt_get)

/-- Of what was there, only these blocks may have turned. -/
structure Kept (F : Nat → Prop) (w w' : World) : Prop where
  os : w'.os = w.os
  tape : w'.tape = w.tape
  output : w'.output = w.output
  size : w.heap.size ≤ w'.heap.size
  block : ∀ k, k < w.heap.size → ¬ F k → w'.heap[k]? = w.heap[k]?
theorem Kept.refl (F : Nat → Prop) (w : World) : Kept F w w := ⟨rfl, rfl, rfl, Nat.le_refl _, fun _ _ _ => rfl⟩
theorem Kept.trans {F : Nat → Prop} {a b c : World} (h : Kept F a b) (k : Kept F b c) : Kept F a c :=
  ⟨k.os.trans h.os, k.tape.trans h.tape, k.output.trans h.output, Nat.le_trans h.size k.size, fun i hi hf => (k.block i (Nat.lt_of_lt_of_le hi h.size) hf).trans (h.block i hi hf)⟩
theorem Kept.of_below {F : Nat → Prop} {w w' : World} (h : Below w.heap.size w w') : Kept F w w' := ⟨h.os, h.tape, h.output, h.size, fun k hk _ => h.block k hk⟩
theorem Kept.set {F : Nat → Prop} {a w : World} (h : Kept F a w) {p : Addr} (hp : F p.block) (u : Value) : Kept F a (w.setCell p u) :=
  h.trans ⟨rfl, rfl, rfl, by simp [World.setCell], fun k _ hf => Below.heap_setCell _ _ _ _ (fun e => hf (e ▸ hp))⟩
theorem Kept.mono {F G : Nat → Prop} {w w' : World} (h : Kept F w w') (hf : ∀ k, F k → G k) : Kept G w w' := ⟨h.os, h.tape, h.output, h.size, fun k hk hg => h.block k hk (fun h => hg (hf k h))⟩
theorem Kept.below {F : Nat → Prop} {B : Nat} {w w' : World} (h : Kept F w w') (hB : B ≤ w.heap.size) (hf : ∀ k, F k → B ≤ k) : Below B w w' :=
  ⟨h.os, h.tape, h.output, h.size, fun k hk => h.block k (by omega) (fun hF => by have := hf k hF; omega)⟩
theorem Kept.cells {F : Nat → Prop} {w w' : World} (h : Kept F w w') {k : Nat} {o : Obj} (hk : w.heap[k]? = some o) (hf : ¬ F k) : w'.heap[k]? = some o := (h.block k (Array.getElem?_eq_some_iff.1 hk).1 hf).trans hk
/-- Blocks of cells. -/
def BlkAt (w : World) (b : Nat) (cs : Array Value) (T : TypeId) : Prop := w.heap[b]? = some (.cells cs T (0, 0))
theorem BlkAt.lt {w : World} {b : Nat} {cs : Array Value} {T : TypeId} (h : BlkAt w b cs T) : b < w.heap.size := (Array.getElem?_eq_some_iff.1 h).1
theorem BlkAt.below {w w' : World} {b : Nat} {cs : Array Value} {T : TypeId} (h : BlkAt w b cs T) (hb : Below w.heap.size w w') : BlkAt w' b cs T := (hb.block b h.lt).trans h
theorem BlkAt.kept {F : Nat → Prop} {w w' : World} {b : Nat} {cs : Array Value} {T : TypeId} (h : BlkAt w b cs T) (hk : Kept F w w') (hf : ¬ F b) : BlkAt w' b cs T := hk.cells h hf
theorem BlkAt.cell {w : World} {b : Nat} {cs : Array Value} {T : TypeId} (h : BlkAt w b cs T) (i : Nat) : w.cell? ⟨b, i, none⟩ = cs[i]? := by
  unfold World.cell?
  rw [show w.heap[(⟨b, i, none⟩ : Addr).block]? = some (.cells cs T (0, 0)) from h]
  rfl
theorem BlkAt.frozen {w : World} {b : Nat} {cs : Array Value} {T : TypeId} (h : BlkAt w b cs T) (i : Nat) : w.frozen? ⟨b, i, none⟩ = false := by
  unfold World.frozen?
  rw [show w.heap[(⟨b, i, none⟩ : Addr).block]? = some (.cells cs T (0, 0)) from h]
  simp
theorem BlkAt.put {w : World} {b : Nat} {cs : Array Value} {T : TypeId} (h : BlkAt w b cs T) (i : Nat) (v : Value) : BlkAt (w.setCell ⟨b, i, none⟩ v) b (cs.setIfInBounds i v) T := by
  unfold BlkAt at h ⊢
  simp only [World.setCell, Array.getElem?_modify, if_pos, h, Option.map_some]
  simp
theorem BlkAt.other {w : World} {b b' : Nat} {cs : Array Value} {T : TypeId} (h : BlkAt w b cs T) (hne : b ≠ b') (i : Nat) (v : Value) : BlkAt (w.setCell ⟨b', i, none⟩ v) b cs T :=
  (Below.heap_setCell _ _ _ _ (fun e => hne e)).trans h
theorem BlkAt.new (w : World) (cs : Array Value) (T : TypeId) : BlkAt (w.alloc (.cells cs T)) w.heap.size cs T := heap_alloc_new w _
/-- What a taker holds: what is behind, how many there were, the first fault. -/
def TkAt (w : World) (t : Nat) (r : ByteArray) (c f : Int) : Prop := BlkAt w t #[.string r, .int .i64 c, .int .i64 f] 208
theorem bodyPost_void {P : Program} {fn : Func} {R : Ending → World → Prop} {a : Act} {w : World} (hr : fn.results = #[]) (hd : a.defers = []) (hR : R (.returned (.tuple #[])) w) : bodyPost P fn R .normal a w :=
  ⟨hd, .tuple #[], by simp [results, hr, go_sem], hR⟩
/-- What stays of what is behind, and of the fault, when something is taken. -/
def tkR (f : Int) (b r : ByteArray) : ByteArray := if f = 0 then b else r
def tkF (f e : Int) : Int := if f = 0 then e else f
def ndR (p : Bool) (f : Int) (r : ByteArray) : ByteArray := if p = true then r else tkR f ⟨#[]⟩ r
def ndF (p : Bool) (f e : Int) : Int := if p = true then f else tkF f e
set_option maxRecDepth 100000 in
theorem took_any (t : Nat) (r b : ByteArray) (c f e : Int) (w : World) (h : TkAt w t r c f) :
    Calls Tryz.prog 214 #[.pointer (some ⟨t, 0, none⟩), .string b, .int .i64 e] w fun x w' => x = .returned (.tuple #[]) ∧ TkAt w' t (tkR f b r) c (tkF f e) ∧ Kept (· = t) w w' := by
  have d0 := h.cell 0
  have d2 := h.cell 2
  have z0 := h.frozen 0
  have z2 := h.frozen 2
  simp at d0 d2
  have H := Lib.hid h
  clear h
  unfold tkR tkF
  by_cases hf : f = 0
  · subst hf
    rw [if_pos rfl, if_pos rfl]
    have HN : Hid (TkAt ((w.setCell ⟨t, 0, none⟩ (.string b)).setCell ⟨t, 2, none⟩ (.int .i64 e)) t b c e) := Lib.hid ((H.out.put 0 (.string b)).put 2 (.int .i64 e))
    have HK : Hid (Kept (· = t) w ((w.setCell ⟨t, 0, none⟩ (.string b)).setCell ⟨t, 2, none⟩ (.int .i64 e))) := Lib.hid (((Kept.refl (· = t) w).set (p := ⟨t, 0, none⟩) rfl _).set (p := ⟨t, 2, none⟩) rfl _)
    go_enter Tryz.func214, Tryz.ntmps214
    go_wp2_with fail
    exact bodyPost_void rfl rfl ⟨rfl, HN.out, HK.out⟩
  · rw [if_neg hf, if_neg hf]
    have hf2 := eq_no hf
    clear hf
    go_enter Tryz.func214, Tryz.ntmps214
    go_wp2_with fail
    exact bodyPost_void rfl rfl ⟨rfl, H.out, Kept.refl _ _⟩
theorem need_any (t : Nat) (r : ByteArray) (c f e : Int) (p : Bool) (w : World) (h : TkAt w t r c f) :
    Calls Tryz.prog 211 #[.pointer (some ⟨t, 0, none⟩), .bool p, .int .i64 e] w fun x w' => x = .returned (.tuple #[]) ∧ TkAt w' t (ndR p f r) c (ndF p f e) ∧ Kept (· = t) w w' := by
  have HT := Lib.hid (took_any t r ⟨#[]⟩ c f e w h)
  have H := Lib.hid h
  clear h
  unfold ndR ndF
  cases p
  · rw [if_neg (show ¬ false = true by decide), if_neg (show ¬ false = true by decide)]
    go_enter Tryz.func211, Tryz.ntmps211
    go_wp2_with (go_at_call 214; refine HT.out.mono ?_; rintro x w1 ⟨rfl, h1, h2⟩)
    exact bodyPost_void rfl rfl ⟨rfl, h1, h2⟩
  · rw [if_pos rfl, if_pos rfl]
    go_enter Tryz.func211, Tryz.ntmps211
    go_wp2_with fail
    exact bodyPost_void rfl rfl ⟨rfl, H.out, Kept.refl _ _⟩
/-- The number that closes. -/
theorem closed_any (t : Nat) (r : ByteArray) (c f last : Int) (w : World) (h : TkAt w t r c f) :
    Calls Tryz.prog 200 #[.pointer (some ⟨t, 0, none⟩), .int .i64 last] w fun x w' => x = .returned (.tuple #[]) ∧ TkAt w' t (ndR (last == 11) f r) c (ndF (last == 11) f 2) ∧ Kept (· = t) w w' := by
  have HT := Lib.hid (need_any t r c f 2 (last == 11) w h)
  clear h
  by_cases hl : last = 11
  · subst hl
    go_enter Tryz.func200, Tryz.ntmps200
    go_wp2_with (go_at_call 211; refine HT.out.mono ?_; rintro x w1 ⟨rfl, h1, h2⟩)
    exact bodyPost_void rfl rfl ⟨rfl, h1, h2⟩
  · have hl2 := eq_no hl
    rw [hl2] at HT ⊢
    clear hl
    go_enter Tryz.func200, Tryz.ntmps200
    go_wp2_with (go_at_call 211; refine HT.out.mono ?_; rintro x w1 ⟨rfl, h1, h2⟩)
    exact bodyPost_void rfl rfl ⟨rfl, h1, h2⟩
/-- What a step leaves that takes a value into a place. -/
def Took (t : Nat) (r' : ByteArray) (c f' : Int) (b : Nat) (cs' : Array Value) (T : TypeId) (w : World) (x : Ending) (w' : World) : Prop :=
  x = .returned (.tuple #[]) ∧ TkAt w' t r' c f' ∧ BlkAt w' b cs' T ∧ Kept (fun k => k = t ∨ k = b) w w'
set_option maxRecDepth 100000 in
theorem number_any (t b i : Nat) (cs : Array Value) (T : TypeId) (r : ByteArray) (c f z : Int) (w : World) (h : TkAt w t r c f) (hb : BlkAt w b cs T) (hne : b ≠ t) (hi : cs[i]? = some (.int .i64 z)) (hs : r.size ≤ maxLen) :
    Calls Tryz.prog 215 #[.pointer (some ⟨t, 0, none⟩), .pointer (some ⟨b, i, none⟩)] w fun x w' => Took t (tkR f (uR r) r) c (tkF f (uE r)) b (cs.setIfInBounds i (.int .i64 (uN r))) T w x w' := by
  have d0 := h.cell 0
  simp at d0
  have HU := Lib.hid (fun w => TakeU_any r hs w)
  unfold uTup at HU
  have H := Lib.hid h
  have HB := Lib.hid hb
  clear h hb hs
  revert HU
  generalize uN r = n
  generalize uR r = r2
  generalize uE r = e2
  intro HU
  go_enter Tryz.func215, Tryz.ntmps215
  go_wp2_with (first
    | (go_at_call 168; refine (HU.out _).mono ?_; rintro x w1 ⟨rfl, hb1⟩
       have k1 := (HB.out.below hb1).cell i
       rw [hi] at k1
       have k2 := (HB.out.below hb1).frozen i)
    | (go_at_call 214; refine (took_any t r r2 c f e2 _ ((H.out.below hb1).other (fun q => hne q.symm) i _)).mono ?_; rintro x w3 ⟨rfl, h3, hk3⟩))
  exact bodyPost_void rfl rfl ⟨rfl, h3, (((HB.out.below hb1).put i _).kept hk3 hne), ((Kept.of_below hb1).set (p := ⟨b, i, none⟩) (.inr rfl) _).trans (hk3.mono fun k q => .inl q)⟩
end Go.Proofs.YtekonefnniaheaaGreat

/- The project's taker: numbers with a sign, labels, types. -/
namespace Go.Proofs.YtekonefnniaheaaGreat
open Go.RowKit
open Leb (byt byt_lt byt_get)

set_option maxRecDepth 100000 in
theorem signed_any' (t b i : Nat) (cs : Array Value) (T : TypeId) (r : ByteArray) (c f z bits : Int) (most : Nat) (half : Int) (hw : Bw bits most half) (w : World) (h : TkAt w t r c f) (hb : BlkAt w b cs T) (hne : b ≠ t) (hi : cs[i]? = some (.int .i64 z)) (hs : r.size ≤ maxLen) :
    Calls Tryz.prog 224 #[.pointer (some ⟨t, 0, none⟩), .pointer (some ⟨b, i, none⟩), .int .i64 bits] w fun x w' => Took t (tkR f (sR r most half) r) c (tkF f (sE r most half)) b (cs.setIfInBounds i (.int .i64 (sN r most half))) T w x w' := by
  have d0 := h.cell 0
  simp at d0
  have HU := Lib.hid (fun w => TakeS_any r bits most half hw hs w)
  unfold sTup at HU
  have H := Lib.hid h
  have HB := Lib.hid hb
  clear h hb hs hw
  revert HU
  generalize sN r most half = n
  generalize sR r most half = r2
  generalize sE r most half = e2
  intro HU
  go_enter Tryz.func224, Tryz.ntmps224
  go_wp2_with (first
    | (go_at_call 227; refine (HU.out _).mono ?_; rintro x w1 ⟨rfl, hb1⟩
       have k1 := (HB.out.below hb1).cell i
       rw [hi] at k1
       have k2 := (HB.out.below hb1).frozen i)
    | (go_at_call 214; refine (took_any t r r2 c f e2 _ ((H.out.below hb1).other (fun q => hne q.symm) i _)).mono ?_; rintro x w3 ⟨rfl, h3, hk3⟩))
  exact bodyPost_void rfl rfl ⟨rfl, h3, (((HB.out.below hb1).put i _).kept hk3 hne), ((Kept.of_below hb1).set (p := ⟨b, i, none⟩) (.inr rfl) _).trans (hk3.mono fun k q => .inl q)⟩
theorem Ints.kept {F : Nat → Prop} {base : Nat} {v : Value} {xs : List Int} {w w' : World} (h : Ints base v xs w) (hk : Kept F w w') (hf : ∀ k, F k → k < base) : Ints base v xs w' := by
  refine ⟨h.1, ?_⟩
  rcases h.2 with hn | ⟨g, cap, cur, rfl, hg, hgg, rest⟩
  · exact .inl hn
  · exact .inr ⟨g, cap, cur, rfl, hg, hk.cells hgg (fun q => by have := hf g q; omega), rest⟩
set_option maxRecDepth 100000 in
theorem labels_any (t b i : Nat) (cs : Array Value) (T : TypeId) (r : ByteArray) (c f : Int) (x0 : Option Addr) (l0 c0 : Nat) (w : World) (h : TkAt w t r c f) (hb : BlkAt w b cs T) (hne : b ≠ t) (hi : cs[i]? = some (.slice x0 l0 c0)) (hs : r.size ≤ 1000000000) :
    Calls Tryz.prog 219 #[.pointer (some ⟨t, 0, none⟩), .pointer (some ⟨b, i, none⟩)] w fun x w' => ∃ v, Took t (tkR f (allRes r 1000).2.1 r) c (tkF f (allRes r 1000).2.2) b (cs.setIfInBounds i v) T w x w' ∧ Ints w.heap.size v (allRes r 1000).1 w' := by
  have d0 := h.cell 0
  simp at d0
  have HU := Lib.hid (fun w => TakeAll_any r 1000 hs w)
  have H := Lib.hid h
  have HB := Lib.hid hb
  have ht := h.lt
  have hbl := hb.lt
  clear h hb hs
  revert HU
  generalize allRes r 1000 = res
  intro HU
  go_enter Tryz.func219, Tryz.ntmps219
  go_wp2_with (first
    | (go_at_call 226; refine (HU.out _).mono ?_; rintro x w1 ⟨v1, rfl, hi1, hb1⟩
       have k1 := (HB.out.below hb1).cell i
       rw [hi] at k1
       have k2 := (HB.out.below hb1).frozen i
       obtain ⟨a1, cap1, hv1, hview⟩ := hi1.view
       subst hv1)
    | (go_at_call 214; refine (took_any t r res.2.1 c f res.2.2 _ ((H.out.below hb1).other (fun q => hne q.symm) i _)).mono ?_; rintro x w3 ⟨rfl, h3, hk3⟩))
  have hkk := (Kept.refl (fun k => k = t ∨ k = b) w1).set (p := ⟨b, i, none⟩) (.inr rfl) (.slice a1 res.1.length cap1)
  exact bodyPost_void rfl rfl ⟨_, ⟨rfl, h3, (((HB.out.below hb1).put i _).kept hk3 hne), ((Kept.of_below hb1).set (p := ⟨b, i, none⟩) (.inr rfl) _).trans (hk3.mono fun k q => .inl q)⟩, (hi1.kept hkk (fun k q => by rcases q with rfl | rfl <;> assumption)).kept hk3 (fun k q => by rw [q]; exact ht)⟩
def tyE (s : ByteArray) : Int := if s.size = 0 then 2 else (typeV (byt s 0 : Nat)).2
def tyN (s : ByteArray) : Int := if tyE s = 0 then (typeV (byt s 0 : Nat)).1 else 0
def tyR (s : ByteArray) : ByteArray := if tyE s = 0 then s.extract 1 s.size else ⟨#[]⟩
theorem typeTup_eq (s : ByteArray) : typeTup s = .tuple #[.int .i64 (tyN s), .string (tyR s), .int .i64 (tyE s)] := by
  unfold typeTup tyN tyR tyE
  by_cases h : s.size = 0
  · simp only [h, if_true]
    rw [if_neg (by decide), if_neg (by decide)]
  · simp only [h, if_false]
    by_cases h2 : (typeV (byt s 0 : Nat)).2 = 0
    · simp only [h2, if_true]
    · simp only [h2, if_false]
set_option maxRecDepth 100000 in
theorem typ_any (t b i : Nat) (cs : Array Value) (T : TypeId) (r : ByteArray) (c f z : Int) (w : World) (h : TkAt w t r c f) (hb : BlkAt w b cs T) (hne : b ≠ t) (hi : cs[i]? = some (.int .i64 z)) (hs : r.size ≤ maxLen) :
    Calls Tryz.prog 225 #[.pointer (some ⟨t, 0, none⟩), .pointer (some ⟨b, i, none⟩)] w fun x w' => Took t (tkR f (tyR r) r) c (tkF f (tyE r)) b (cs.setIfInBounds i (.int .i64 (tyN r))) T w x w' := by
  have d0 := h.cell 0
  simp at d0
  have HU := Lib.hid (fun w => takeType_any r hs w)
  rw [typeTup_eq] at HU
  have H := Lib.hid h
  have HB := Lib.hid hb
  clear h hb hs
  revert HU
  generalize tyN r = n
  generalize tyR r = r2
  generalize tyE r = e2
  intro HU
  go_enter Tryz.func225, Tryz.ntmps225
  go_wp2_with (first
    | (go_at_call 185; refine (HU.out _).mono ?_; rintro x w1 ⟨rfl, hb1⟩
       have k1 := (HB.out.below hb1).cell i
       rw [hi] at k1
       have k2 := (HB.out.below hb1).frozen i)
    | (go_at_call 214; refine (took_any t r r2 c f e2 _ ((H.out.below hb1).other (fun q => hne q.symm) i _)).mono ?_; rintro x w3 ⟨rfl, h3, hk3⟩))
  exact bodyPost_void rfl rfl ⟨rfl, h3, (((HB.out.below hb1).put i _).kept hk3 hne), ((Kept.of_below hb1).set (p := ⟨b, i, none⟩) (.inr rfl) _).trans (hk3.mono fun k q => .inl q)⟩
theorem sR_size (s : ByteArray) (most : Nat) (half : Int) : (sR s most half).size ≤ s.size := by
  unfold sR
  split
  · rw [ByteArray.size_extract]; omega
  · exact Nat.zero_le _
theorem tyR_size (s : ByteArray) : (tyR s).size ≤ s.size := by
  unfold tyR
  split
  · rw [ByteArray.size_extract]; omega
  · exact Nat.zero_le _
theorem aR_size (s : ByteArray) (most : Int) : (allRes s most).2.1.size ≤ s.size := by
  unfold allRes
  split
  · split
    · exact Nat.zero_le _
    · cases hr : rowsF (Leb.sum7 s (Leb.len7 s 5)) [] (s.extract (Leb.len7 s 5) s.size) with
      | none => exact Nat.zero_le _
      | some x =>
        have h := rowsF_len _ _ _ _ hr
        have h2 := size_rest s
        simp only [List.length_nil] at h
        show x.2.size ≤ s.size
        omega
  · exact Nat.zero_le _
theorem tkR_size {f : Int} {b r : ByteArray} {n : Nat} (h1 : b.size ≤ n) (h2 : r.size ≤ n) : (tkR f b r).size ≤ n := by
  unfold tkR
  split <;> assumption
end Go.Proofs.YtekonefnniaheaaGreat

/- What reading comes to; the project's reading of types, places, constants. -/
namespace Go.Proofs.YtekonefnniaheaaGreat
open Go.RowKit
open Leb (byt byt_lt byt_get)

theorem Kept.then {F G : Nat → Prop} {a b c : World} (h : Kept F a b) (k : Kept G b c) (hg : ∀ i, i < a.heap.size → G i → F i) : Kept F a c :=
  ⟨k.os.trans h.os, k.tape.trans h.tape, k.output.trans h.output, Nat.le_trans h.size k.size, fun i hi hf => (k.block i (Nat.lt_of_lt_of_le hi h.size) (fun q => hf (hg i hi q))).trans (h.block i hi hf)⟩
/-- What reading a number comes to: it and what is behind, or a fault. -/
def uT (s : ByteArray) : Except Int (Int × ByteArray) := if okU s = true then .ok (uN s, uR s) else .error 2
def sT (s : ByteArray) (most : Nat) (half : Int) : Except Int (Int × ByteArray) := if okS s most half = true then .ok (sN s most half, sR s most half) else .error 2
def aT (s : ByteArray) : Except Int (List Int × ByteArray) := if (allRes s 1000).2.2 = 0 then .ok ((allRes s 1000).1, (allRes s 1000).2.1) else .error (allRes s 1000).2.2
def yT (s : ByteArray) : Except Int (Int × ByteArray) := if tyE s = 0 then .ok (tyN s, tyR s) else .error (tyE s)
def typesT (s : ByteArray) : Except Int (Int × ByteArray) := (uT s).bind fun q => if q.1 = 1 then yT q.2 else .error 2
def nullT (s : ByteArray) : Except Int (Int × ByteArray) := (yT s).bind fun q => if q.1 = 112 then .ok q else .error 2
def placeT (s : ByteArray) : Except Int ((Int × Int × Int) × ByteArray) := (uT s).bind fun q => if 128 ≤ q.1 then .error 2 else if 64 ≤ q.1 then (uT q.2).bind fun p => (uT p.2).bind fun o => .ok ((o.1, q.1 - 64, p.1), o.2) else (uT q.2).bind fun o => .ok ((o.1, q.1, 0), o.2)
def blkT (s : ByteArray) : Except Int (Int × ByteArray) :=
  if 0 < s.size ∧ 64 ≤ byt s 0 ∧ byt s 0 < 128 then (if byt s 0 = 64 then .ok (-64, s.extract 1 s.size) else (yT s).bind fun q => .ok ((byt s 0 : Int) - 128, q.2))
  else (sT s 5 4294967296).bind fun q => if q.1 < 0 then .error 2 else .ok q
/-- A step's outcome is what reading comes to. -/
def Fits {X : Type} (res : Except Int (X × ByteArray)) (x : X) (r : ByteArray) (f : Int) : Prop :=
  match res with
  | .ok q => f = 0 ∧ x = q.1 ∧ r = q.2
  | .error e => f = e ∧ e ≠ 0 ∧ r = ⟨#[]⟩
theorem fits_u (s : ByteArray) : Fits (uT s) (uN s) (uR s) (uE s) := by
  unfold uT Fits uE
  by_cases h : okU s = true
  · simp [h]
  · rw [if_neg h, if_neg h]
    exact ⟨rfl, by decide, if_neg h⟩
theorem fits_s (s : ByteArray) (most : Nat) (half : Int) : Fits (sT s most half) (sN s most half) (sR s most half) (sE s most half) := by
  unfold sT Fits sE
  by_cases h : okS s most half = true
  · simp [h]
  · rw [if_neg h, if_neg h]
    exact ⟨rfl, by decide, if_neg h⟩
theorem fits_y (s : ByteArray) : Fits (yT s) (tyN s) (tyR s) (tyE s) := by
  unfold yT Fits
  by_cases h : tyE s = 0
  · rw [if_pos h]
    exact ⟨h, rfl, rfl⟩
  · rw [if_neg h]
    exact ⟨rfl, h, if_neg h⟩
theorem allRes_fault (s : ByteArray) (most : Int) (h : (allRes s most).2.2 ≠ 0) : (allRes s most).2.1 = ⟨#[]⟩ := by
  unfold allRes at h ⊢
  split
  · split
    · rfl
    · rename_i h1 h2
      rw [if_pos h1, if_neg h2] at h
      cases hr : rowsF (Leb.sum7 s (Leb.len7 s 5)) [] (s.extract (Leb.len7 s 5) s.size) with
      | none => rfl
      | some x =>
        rw [hr] at h
        exact absurd rfl h
  · rfl
theorem fits_a (s : ByteArray) : Fits (aT s) (allRes s 1000).1 (allRes s 1000).2.1 (allRes s 1000).2.2 := by
  unfold aT Fits
  by_cases h : (allRes s 1000).2.2 = 0
  · rw [if_pos h]
    exact ⟨h, rfl, rfl⟩
  · rw [if_neg h]
    exact ⟨rfl, h, allRes_fault s 1000 h⟩
theorem fits_bind {X Y : Type} {res : Except Int (X × ByteArray)} {k : X × ByteArray → Except Int (Y × ByteArray)} {x : X} {y : Y} {r1 r2 : ByteArray} {f1 f2 : Int} (h : Fits res x r1 f1) (h1 : f1 = 0 → Fits (k (x, r1)) y r2 f2) (h2 : f1 ≠ 0 → r2 = r1 ∧ f2 = f1) : Fits (res.bind k) y r2 f2 := by
  unfold Fits at h
  cases res with
  | error e =>
    obtain ⟨a, b, c⟩ := h
    obtain ⟨p, q⟩ := h2 (by rw [a]; exact b)
    exact ⟨q.trans a, b, p.trans c⟩
  | ok q =>
    obtain ⟨a, b, c⟩ := h
    subst b c
    exact h1 a
theorem fits_tk {X : Type} {res : Except Int (X × ByteArray)} {x : X} {b r : ByteArray} {e f : Int} (hf : f = 0) (h : Fits res x b e) : Fits res x (tkR f b r) (tkF f e) := by
  unfold tkR tkF
  rw [if_pos hf, if_pos hf]
  exact h
theorem tk_no {f e : Int} {b r : ByteArray} (hf : f ≠ 0) : tkR f b r = r ∧ tkF f e = f := ⟨if_neg hf, if_neg hf⟩
theorem tkR0 (b r : ByteArray) : tkR 0 b r = b := rfl
theorem tkF0 (e : Int) : tkF 0 e = e := rfl
theorem nd_yes (f e : Int) (r : ByteArray) : ndR true f r = r ∧ ndF true f e = f := ⟨rfl, rfl⟩
theorem nd_no {p : Bool} {f e : Int} {r : ByteArray} (h : f ≠ 0) : ndR p f r = r ∧ ndF p f e = f := by
  cases p
  · exact tk_no h
  · exact ⟨rfl, rfl⟩
theorem ndR_size {p : Bool} {f : Int} {r : ByteArray} {n : Nat} (h : r.size ≤ n) : (ndR p f r).size ≤ n := by
  unfold ndR
  split
  · exact h
  · exact tkR_size (Nat.zero_le _) h
/-- A number that is asked to be so, and what is read behind it. -/
theorem fits_need {X : Type} {res : Except Int (X × ByteArray)} {p : Prop} [Decidable p] {q : Bool} (hq : q = decide p) {x : X} {r1 r2 : ByteArray} {f1 f2 e : Int} (he : e ≠ 0) (hf : f1 = 0) (h1 : p → Fits res x r2 f2) (h2 : ¬ p → r2 = ndR q f1 r1 ∧ f2 = ndF q f1 e) : Fits (if p then res else .error e) x r2 f2 := by
  by_cases hp : p
  · rw [if_pos hp]
    exact h1 hp
  · rw [if_neg hp]
    obtain ⟨a, b⟩ := h2 hp
    rw [a, b, hq, decide_eq_false hp, hf]
    exact ⟨rfl, he, rfl⟩
theorem ndF_ne {q : Bool} {f e : Int} (he : e ≠ 0) (h : q = false) : ndF q f e ≠ 0 := by
  subst h
  show tkF f e ≠ 0
  unfold tkF
  split
  · exact he
  · assumption
set_option maxRecDepth 100000 in
theorem types_any (t b i : Nat) (cs : Array Value) (T : TypeId) (r : ByteArray) (c z : Int) (w : World) (h : TkAt w t r c 0) (hb : BlkAt w b cs T) (hne : b ≠ t) (hi : cs[i]? = some (.int .i64 z)) (hs : r.size ≤ maxLen) :
    Calls Tryz.prog 220 #[.pointer (some ⟨t, 0, none⟩), .pointer (some ⟨b, i, none⟩)] w fun x w' => ∃ n r' f', Took t r' c f' b (cs.setIfInBounds i (.int .i64 n)) T w x w' ∧ Fits (typesT r) n r' f' := by
  have hlt := h.lt
  have hlb := hb.lt
  have hb0 : Below w.heap.size w (w.alloc (.cells #[.int .i64 0] 3)) := (Below.refl _ _).alloc (Nat.le_refl _) _
  have HN := Lib.hid (number_any t w.heap.size 0 #[.int .i64 0] 3 r c 0 0 _ (h.below hb0) (BlkAt.new w _ _) (by omega) rfl hs)
  rw [tkR0, tkF0] at HN
  have HB0 := Lib.hid hb0
  have HBB := Lib.hid (hb.below hb0)
  have s1 : Hid (∀ p f, (ndR p f (uR r)).size ≤ maxLen) := Lib.hid fun p f => ndR_size (Nat.le_trans (uR_size r) hs)
  clear h hb
  go_enter Tryz.func220, Tryz.ntmps220
  go_wp2_with (first
    | (go_at_call 215; refine HN.out.mono ?_; rintro x w1 ⟨rfl, t1, b1, k1⟩; have c1 := b1.cell 0; rw [show (#[Value.int .i64 0].setIfInBounds 0 (.int .i64 (uN r)))[0]? = some (.int .i64 (uN r)) from rfl] at c1)
    | (go_at_call 211; refine (need_any t _ c _ 2 (uN r == 1) _ t1).mono ?_; rintro x w2 ⟨rfl, t2, k2⟩)
    | (go_at_call 225; refine (typ_any t b i cs T _ c _ z _ t2 (((HBB.out.kept k1 (by rintro (q | q) <;> omega)).kept k2 hne)) hne hi (s1.out _ _)).mono ?_; rintro x w3 ⟨rfl, t3, b3, k3⟩))
  refine bodyPost_void rfl rfl ⟨_, _, _, ⟨rfl, t3, b3, ?_⟩, ?_⟩
  · exact (((Kept.of_below HB0.out).then k1 (by rintro i hi (q | q); exact .inl q; omega)).trans (k2.mono fun _ q => .inl q)).trans k3
  · refine fits_bind (fits_u r) (fun h0 => fits_need (q := uN r == 1) (r1 := uR r) (f1 := uE r) rfl (by decide) h0 (fun hp => ?_) fun hp => ?_) fun h0 => ?_
    · rw [show (uN r == 1) = true from decide_eq_true hp]
      exact fits_tk h0 (fits_y _)
    · exact tk_no (ndF_ne (by decide) (decide_eq_false hp))
    · obtain ⟨q1, q2⟩ := nd_no (p := uN r == 1) (e := 2) (r := uR r) h0
      rw [q1, q2]
      exact tk_no h0
set_option maxRecDepth 100000 in
theorem null_any (t : Nat) (r : ByteArray) (c : Int) (w : World) (h : TkAt w t r c 0) (hs : r.size ≤ maxLen) :
    Calls Tryz.prog 223 #[.pointer (some ⟨t, 0, none⟩)] w fun x w' => ∃ n r' f', x = .returned (.tuple #[]) ∧ TkAt w' t r' c f' ∧ Kept (· = t) w w' ∧ Fits (nullT r) n r' f' := by
  have hlt := h.lt
  have hb0 : Below w.heap.size w (w.alloc (.cells #[.int .i64 0] 3)) := (Below.refl _ _).alloc (Nat.le_refl _) _
  have HN := Lib.hid (typ_any t w.heap.size 0 #[.int .i64 0] 3 r c 0 0 _ (h.below hb0) (BlkAt.new w _ _) (by omega) rfl hs)
  rw [tkR0, tkF0] at HN
  have HB0 := Lib.hid hb0
  clear h
  go_enter Tryz.func223, Tryz.ntmps223
  go_wp2_with (first
    | (go_at_call 225; refine HN.out.mono ?_; rintro x w1 ⟨rfl, t1, b1, k1⟩; have c1 := b1.cell 0; rw [show (#[Value.int .i64 0].setIfInBounds 0 (.int .i64 (tyN r)))[0]? = some (.int .i64 (tyN r)) from rfl] at c1)
    | (go_at_call 211; refine (need_any t _ c _ 2 (tyN r == 112) _ t1).mono ?_; rintro x w2 ⟨rfl, t2, k2⟩))
  refine bodyPost_void rfl rfl ⟨tyN r, _, _, rfl, t2, ?_, ?_⟩
  · exact (((Kept.of_below HB0.out).then k1 (by rintro i hi (q | q); exact q; omega)).trans k2)
  · refine fits_bind (fits_y r) (fun h0 => fits_need (q := tyN r == 112) (r1 := tyR r) (f1 := tyE r) rfl (by decide) h0 (fun hp => ?_) fun hp => ?_) fun h0 => ?_
    · rw [show (tyN r == 112) = true from decide_eq_true hp]
      exact ⟨h0, rfl, rfl⟩
    · exact ⟨rfl, rfl⟩
    · exact nd_no h0
theorem uN_range (r : ByteArray) : 0 ≤ uN r ∧ uN r ≤ 4294967295 := by
  unfold uN
  split
  · rename_i h
    have := (okU_parts h).2
    omega
  · omega
theorem fits_place64 (uT : ByteArray → Except Int (Int × ByteArray)) (uN : ByteArray → Int) (uR : ByteArray → ByteArray) (uE : ByteArray → Int) (hu : ∀ s, Fits (uT s) (uN s) (uR s) (uE s)) (r : ByteArray) (h64 : 64 ≤ uN r) :
    Fits ((uT r).bind fun q => if q.1 < 128 then (if 64 ≤ q.1 then (uT q.2).bind fun p => (uT p.2).bind fun o => .ok ((o.1, q.1 - 64, p.1), o.2) else (uT q.2).bind fun o => .ok ((o.1, q.1, 0), o.2)) else .error 2)
      (uN (tkR (ndF (decide (uN r < 128)) (uE r) 2) (uR (ndR (decide (uN r < 128)) (uE r) (uR r))) (ndR (decide (uN r < 128)) (uE r) (uR r))), uN r - 64, uN (ndR (decide (uN r < 128)) (uE r) (uR r)))
      (tkR (tkF (ndF (decide (uN r < 128)) (uE r) 2) (uE (ndR (decide (uN r < 128)) (uE r) (uR r)))) (uR (tkR (ndF (decide (uN r < 128)) (uE r) 2) (uR (ndR (decide (uN r < 128)) (uE r) (uR r))) (ndR (decide (uN r < 128)) (uE r) (uR r)))) (tkR (ndF (decide (uN r < 128)) (uE r) 2) (uR (ndR (decide (uN r < 128)) (uE r) (uR r))) (ndR (decide (uN r < 128)) (uE r) (uR r))))
      (tkF (tkF (ndF (decide (uN r < 128)) (uE r) 2) (uE (ndR (decide (uN r < 128)) (uE r) (uR r)))) (uE (tkR (ndF (decide (uN r < 128)) (uE r) 2) (uR (ndR (decide (uN r < 128)) (uE r) (uR r))) (ndR (decide (uN r < 128)) (uE r) (uR r))))) := by
  refine fits_bind (hu r) (fun h0 => fits_need (q := decide (uN r < 128)) (r1 := uR r) (f1 := uE r) rfl (by decide) h0 (fun hp => ?_) fun hp => ?_) fun h0 => ?_
  · rw [decide_eq_true hp, if_pos h64]
    rw [(nd_yes (uE r) 2 (uR r)).1, (nd_yes (uE r) 2 (uR r)).2, h0, tkR0, tkF0]
    refine fits_bind (hu (uR r)) (fun h1 => ?_) fun h1 => tk_no h1
    exact fits_bind (fits_tk h1 (hu (uR (uR r)))) (fun h2 => ⟨h2, rfl, rfl⟩) fun _ => ⟨rfl, rfl⟩
  · have hn := ndF_ne (f := uE r) (e := 2) (by decide) (decide_eq_false hp)
    obtain ⟨q1, q2⟩ := tk_no (e := uE (ndR (decide (uN r < 128)) (uE r) (uR r))) (b := uR (ndR (decide (uN r < 128)) (uE r) (uR r))) (r := ndR (decide (uN r < 128)) (uE r) (uR r)) hn
    rw [q1, q2]
    exact tk_no hn
  · obtain ⟨q1, q2⟩ := nd_no (p := decide (uN r < 128)) (e := 2) (r := uR r) h0
    rw [q1, q2]
    obtain ⟨q3, q4⟩ := tk_no (e := uE (uR r)) (b := uR (uR r)) (r := uR r) h0
    rw [q3, q4]
    exact tk_no h0
theorem fits_place (uT : ByteArray → Except Int (Int × ByteArray)) (uN : ByteArray → Int) (uR : ByteArray → ByteArray) (uE : ByteArray → Int) (hu : ∀ s, Fits (uT s) (uN s) (uR s) (uE s)) (r : ByteArray) (h64 : ¬ 64 ≤ uN r) :
    Fits ((uT r).bind fun q => if q.1 < 128 then (if 64 ≤ q.1 then (uT q.2).bind fun p => (uT p.2).bind fun o => .ok ((o.1, q.1 - 64, p.1), o.2) else (uT q.2).bind fun o => .ok ((o.1, q.1, 0), o.2)) else .error 2)
      (uN (ndR (decide (uN r < 128)) (uE r) (uR r)), uN r, 0)
      (tkR (ndF (decide (uN r < 128)) (uE r) 2) (uR (ndR (decide (uN r < 128)) (uE r) (uR r))) (ndR (decide (uN r < 128)) (uE r) (uR r)))
      (tkF (ndF (decide (uN r < 128)) (uE r) 2) (uE (ndR (decide (uN r < 128)) (uE r) (uR r)))) := by
  have hp : uN r < 128 := by omega
  refine fits_bind (hu r) (fun h0 => ?_) fun h0 => ?_
  · rw [if_pos hp, if_neg h64, decide_eq_true hp]
    rw [(nd_yes (uE r) 2 (uR r)).1, (nd_yes (uE r) 2 (uR r)).2]
    exact fits_bind (fits_tk h0 (hu (uR r))) (fun h2 => ⟨h2, rfl, rfl⟩) fun _ => ⟨rfl, rfl⟩
  · obtain ⟨q1, q2⟩ := nd_no (p := decide (uN r < 128)) (e := 2) (r := uR r) h0
    rw [q1, q2]
    exact tk_no h0
set_option maxRecDepth 100000 in
set_option maxHeartbeats 1000000 in
theorem takerPlace_any (t b : Nat) (op : Int) (nv lv ev : Value) (T : TypeId) (r : ByteArray) (c : Int) (w : World) (h : TkAt w t r c 0) (hb : BlkAt w b #[.int .i64 op, .int .i64 0, .int .i64 0, .int .i64 0, nv, lv, ev] T) (hne : b ≠ t) (hs : r.size ≤ maxLen) :
    Calls Tryz.prog 221 #[.pointer (some ⟨t, 0, none⟩), .pointer (some ⟨b, 0, none⟩)] w fun x w' => ∃ a' b' m' r' f', Took t r' c f' b #[.int .i64 op, .int .i64 a', .int .i64 b', .int .i64 m', nv, lv, ev] T w x w' ∧ Fits (placeT r) (a', b', m') r' f' := by
  have HN := Lib.hid (number_any t b 2 _ T r c 0 0 w h hb hne rfl hs)
  rw [tkR0, tkF0] at HN
  have hrg := uN_range r
  have s1 := uR_size r
  have s2 : Hid (∀ p f, (ndR p f (uR r)).size ≤ maxLen) := Lib.hid fun p f => ndR_size (Nat.le_trans (uR_size r) hs)
  have s3 : Hid (∀ p f g, (tkR g (uR (ndR p f (uR r))) (ndR p f (uR r))).size ≤ maxLen) := Lib.hid fun p f g => tkR_size (Nat.le_trans (uR_size _) (s2.out p f)) (s2.out p f)
  have HPT : Hid (placeT r = (uT r).bind fun q => if q.1 < 128 then (if 64 ≤ q.1 then (uT q.2).bind fun p => (uT p.2).bind fun o => .ok ((o.1, q.1 - 64, p.1), o.2) else (uT q.2).bind fun o => .ok ((o.1, q.1, 0), o.2)) else .error 2) := Lib.hid (by
    unfold placeT
    congr 1
    funext q
    by_cases h : q.1 < 128
    · rw [if_pos h, if_neg (by omega)]
    · rw [if_neg h, if_pos (by omega)])
  have wz : IntKind.i64.wrap (uN r - 64) = uN r - 64 := by rw [IntKind.wrap_i64]; omega
  clear h hb s1
  by_cases h64 : 64 ≤ uN r
  · go_enter Tryz.func221, Tryz.ntmps221
    go_wp2_with (first
      | (go_at_call 215; refine HN.out.mono ?_; rintro x w1 ⟨rfl, t1, b1, k1⟩; have c1 := b1.cell 2; rw [show (_ : Array Value)[2]? = some (.int .i64 (uN r)) from rfl] at c1; clear HN)
      | (go_at_call 211; refine (need_any t _ c _ 2 (decide (uN r < 128)) _ t1).mono ?_; rintro x w2 ⟨rfl, t2, k2⟩; have b2 := b1.kept k2 hne; have c2 := b2.cell 2; rw [show (_ : Array Value)[2]? = some (.int .i64 (uN r)) from rfl] at c2; have z2 := b2.frozen 2; have b3 := b2.put 2 (.int .i64 (uN r - 64)); have t3 := t2.other (fun q => hne q.symm) 2 (.int .i64 (uN r - 64)); have HM := Lib.hid (number_any t b 3 _ T _ c _ 0 _ t3 b3 hne rfl (s2.out _ _)))
      | (go_at_call 215; refine HM.out.mono ?_; rintro x w4 ⟨rfl, t4, b4, k4⟩; clear HM)
      | (go_at_call 215; refine (number_any t b 1 _ T _ c _ 0 _ t4 b4 hne rfl (s3.out _ _ _)).mono ?_; rintro x w5 ⟨rfl, t5, b5, k5⟩))
    refine bodyPost_void rfl rfl ⟨_, _, _, _, _, ⟨rfl, t5, b5, ?_⟩, ?_⟩
    · exact (((k1.trans (k2.mono fun _ q => .inl q)).set (p := ⟨b, 2, none⟩) (.inr rfl) _).trans k4).trans k5
    · rw [HPT.out]
      exact fits_place64 uT uN uR uE fits_u r h64
  · go_enter Tryz.func221, Tryz.ntmps221
    go_wp2_with (first
      | (go_at_call 215; refine HN.out.mono ?_; rintro x w1 ⟨rfl, t1, b1, k1⟩; have c1 := b1.cell 2; rw [show (_ : Array Value)[2]? = some (.int .i64 (uN r)) from rfl] at c1; clear HN)
      | (go_at_call 211; refine (need_any t _ c _ 2 (decide (uN r < 128)) _ t1).mono ?_; rintro x w2 ⟨rfl, t2, k2⟩; have b2 := b1.kept k2 hne; have c2 := b2.cell 2; rw [show (_ : Array Value)[2]? = some (.int .i64 (uN r)) from rfl] at c2; have HM := Lib.hid (number_any t b 1 _ T _ c _ 0 _ t2 b2 hne rfl (s2.out _ _)))
      | (go_at_call 215; refine HM.out.mono ?_; rintro x w4 ⟨rfl, t4, b4, k4⟩; clear HM))
    refine bodyPost_void rfl rfl ⟨_, _, _, _, _, ⟨rfl, t4, b4, ?_⟩, ?_⟩
    · exact (k1.trans (k2.mono fun _ q => .inl q)).trans k4
    · rw [HPT.out]
      exact fits_place uT uN uR uE fits_u r (by omega)
end Go.Proofs.YtekonefnniaheaaGreat

/- The project's reading of an instruction's numbers. -/
namespace Go.Proofs.YtekonefnniaheaaGreat
open Go.RowKit
open Leb (byt byt_lt byt_get)

theorem bodyPost_voidr {P : Program} {fn : Func} {R : Ending → World → Prop} {a : Act} {w : World} (hr : fn.results = #[]) (hd : a.defers = []) (hR : R (.returned (.tuple #[])) w) : bodyPost P fn R .ret a w :=
  ⟨hd, .tuple #[], by simp [results, hr, go_sem], hR⟩
def constT (op : Int) (s : ByteArray) : Except Int (Int × ByteArray) := if op = 66 then sT s 10 9223372036854775808 else sT s 5 2147483648
/-- What reading an instruction's numbers comes to: A, B, M, the labels; what is behind. -/
def numsT (op sh : Int) (s : ByteArray) : Except Int ((Int × Int × Int × List Int) × ByteArray) :=
  if sh = 2 then (blkT s).bind fun q => .ok ((q.1, 0, 0, []), q.2)
  else if sh = 3 then (uT s).bind fun q => .ok ((q.1, 0, 0, []), q.2)
  else if sh = 4 then (aT s).bind fun q => (uT q.2).bind fun p => .ok ((p.1, 0, 0, q.1), p.2)
  else if sh = 5 then (uT s).bind fun q => (uT q.2).bind fun p => .ok ((q.1, 0, p.1, []), p.2)
  else if sh = 6 then (typesT s).bind fun q => .ok ((q.1, 0, 0, []), q.2)
  else if sh = 7 then (placeT s).bind fun q => .ok ((q.1.1, q.1.2.1, q.1.2.2, []), q.2)
  else if sh = 8 then (uT s).bind fun q => .ok ((0, 0, q.1, []), q.2)
  else if sh = 9 then (uT s).bind fun q => (uT q.2).bind fun p => .ok ((p.1, 0, q.1, []), p.2)
  else if sh = 10 then (constT op s).bind fun q => .ok ((q.1, 0, 0, []), q.2)
  else if sh = 11 then (nullT s).bind fun q => .ok ((0, 0, 0, []), q.2)
  else .ok ((0, 0, 0, []), s)
theorem fits_map {X Y : Type} {res : Except Int (X × ByteArray)} {x : X} {r : ByteArray} {f : Int} (h : Fits res x r f) (g : X → Y) : Fits (res.bind fun q => .ok (g q.1, q.2)) (g x) r f :=
  fits_bind h (fun h0 => ⟨h0, rfl, rfl⟩) fun _ => ⟨rfl, rfl⟩
/-- What reading an instruction's numbers leaves. -/
def GivesF (t b : Nat) (op sh : Int) (r : ByteArray) (c : Int) (w : World) (x : Ending) (w' : World) : Prop :=
  ∃ a' b' m' x1 c1 n r' f', Took t r' c f' b #[.int .i64 op, .int .i64 a', .int .i64 b', .int .i64 m', .slice x1 n.length c1, .slice none 0 0, .slice none 0 0] 50 w x w' ∧ Fits (numsT op sh r) (a', b', m', n) r' f' ∧ Ints w.heap.size (.slice x1 n.length c1) n w'
theorem ints_nil (B : Nat) (w : World) : Ints B (.slice none 0 0) [] w := World.ownsRow_nil _ _ _ _
set_option maxRecDepth 100000 in
theorem takerConst_any (t b : Nat) (op : Int) (r : ByteArray) (c : Int) (w : World) (hop : op = 65 ∨ op = 66) (h : TkAt w t r c 0) (hb : BlkAt w b #[.int .i64 op, .int .i64 0, .int .i64 0, .int .i64 0, .slice none 0 0, .slice none 0 0, .slice none 0 0] 50) (hne : b ≠ t) (hs : r.size ≤ maxLen) :
    Calls Tryz.prog 222 #[.pointer (some ⟨t, 0, none⟩), .pointer (some ⟨b, 0, none⟩)] w fun x w' => ∃ a' r' f', Took t r' c f' b #[.int .i64 op, .int .i64 a', .int .i64 0, .int .i64 0, .slice none 0 0, .slice none 0 0, .slice none 0 0] 50 w x w' ∧ Fits (constT op r) a' r' f' := by
  have d0 := hb.cell 0
  simp at d0
  rcases hop with rfl | rfl
  · have HN := Lib.hid (signed_any' t b 1 _ _ r c 0 0 32 5 2147483648 (.inl ⟨rfl, rfl, rfl⟩) w h hb hne rfl hs)
    rw [tkR0, tkF0] at HN
    have HF : Hid (Fits (constT 65 r) (sN r 5 2147483648) (sR r 5 2147483648) (sE r 5 2147483648)) := Lib.hid (fits_s r 5 2147483648)
    clear h hb
    go_enter Tryz.func222, Tryz.ntmps222
    go_wp2_with (go_at_call 224; refine HN.out.mono ?_; rintro x w1 ⟨rfl, t1, b1, k1⟩)
    exact bodyPost_voidr rfl rfl ⟨_, _, _, ⟨rfl, t1, b1, k1⟩, HF.out⟩
  · have HN := Lib.hid (signed_any' t b 1 _ _ r c 0 0 64 10 9223372036854775808 (.inr (.inr ⟨rfl, rfl, rfl⟩)) w h hb hne rfl hs)
    rw [tkR0, tkF0] at HN
    have HF : Hid (Fits (constT 66 r) (sN r 10 9223372036854775808) (sR r 10 9223372036854775808) (sE r 10 9223372036854775808)) := Lib.hid (fits_s r 10 9223372036854775808)
    clear h hb
    go_enter Tryz.func222, Tryz.ntmps222
    go_wp2_with (go_at_call 224; refine HN.out.mono ?_; rintro x w1 ⟨rfl, t1, b1, k1⟩)
    exact bodyPost_void rfl rfl ⟨_, _, _, ⟨rfl, t1, b1, k1⟩, HF.out⟩
set_option maxRecDepth 100000 in
set_option maxHeartbeats 1000000 in
theorem takerBlock_any (t b i : Nat) (cs : Array Value) (T : TypeId) (r : ByteArray) (c z : Int) (w : World) (h : TkAt w t r c 0) (hb : BlkAt w b cs T) (hne : b ≠ t) (hi : cs[i]? = some (.int .i64 z)) (hil : i < cs.size) (hs : r.size ≤ maxLen) :
    Calls Tryz.prog 218 #[.pointer (some ⟨t, 0, none⟩), .pointer (some ⟨b, i, none⟩)] w fun x w' => ∃ n r' f', Took t r' c f' b (cs.setIfInBounds i (.int .i64 n)) T w x w' ∧ Fits (blkT r) n r' f' := by
  have d0 := h.cell 0
  simp at d0
  have k0 := hb.cell i
  rw [hi] at k0
  have z0 := hb.frozen i
  have hlt := h.lt
  have hlb := hb.lt
  have H := Lib.hid h
  have HB := Lib.hid hb
  have e5 := byt_lt r 0
  by_cases hin : 0 < r.size ∧ 64 ≤ byt r 0 ∧ byt r 0 < 128
  · obtain ⟨hpos, g1, g2⟩ := hin
    have e3 := byt_get r 0 hpos
    have hnn := toList_some hpos
    have b1' : (1 : Int) ≤ r.size := by omega
    have HBT : Hid (blkT r = if byt r 0 = 64 then .ok (-64, r.extract 1 r.size) else (yT r).bind fun q => .ok ((byt r 0 : Int) - 128, q.2)) := Lib.hid (by unfold blkT; rw [if_pos ⟨hpos, g1, g2⟩])
    have wz : IntKind.i64.wrap ((byt r 0 : Int) - 128) = (byt r 0 : Int) - 128 := by rw [IntKind.wrap_i64]; omega
    unfold maxLen at hs
    by_cases h64 : byt r 0 = 64
    · have HT := Lib.hid (took_any t r (r.extract 1 r.size) c 0 0 _ (h.other (fun q => hne q.symm) i (.int .i64 (-64))))
      rw [tkR0, tkF0] at HT
      have HE := Lib.hid (HBT.out.trans (if_pos h64))
      clear h hb
      go_enter Tryz.func218, Tryz.ntmps218
      go_wp2_with (go_at_call 214; refine HT.out.mono ?_; rintro x w1 ⟨rfl, t1, k1⟩)
      exact bodyPost_voidr rfl rfl ⟨-64, _, 0, ⟨rfl, t1, ((HB.out.put i _).kept k1 hne), ((Kept.refl (fun k => k = t ∨ k = b) w).set (p := ⟨b, i, none⟩) (.inr rfl) _).trans (k1.mono fun _ q => .inl q)⟩, by rw [HE.out]; exact ⟨rfl, rfl, rfl⟩⟩
    · have HE := Lib.hid (HBT.out.trans (if_neg h64))
      have hb0 : Below (w.setCell ⟨b, i, none⟩ (.int .i64 ((byt r 0 : Int) - 128))).heap.size (w.setCell ⟨b, i, none⟩ (.int .i64 ((byt r 0 : Int) - 128))) ((w.setCell ⟨b, i, none⟩ (.int .i64 ((byt r 0 : Int) - 128))).alloc (.cells #[.int .i64 0] 3)) := (Below.refl _ _).alloc (Nat.le_refl _) _
      have hzs : (w.setCell ⟨b, i, none⟩ (.int .i64 ((byt r 0 : Int) - 128))).heap.size = w.heap.size := by simp [World.setCell]
      have HN := Lib.hid (typ_any t w.heap.size 0 #[.int .i64 0] 3 r c 0 0 _ ((h.other (fun q => hne q.symm) i (.int .i64 ((byt r 0 : Int) - 128))).below hb0) (hzs ▸ BlkAt.new (w.setCell ⟨b, i, none⟩ (.int .i64 ((byt r 0 : Int) - 128))) _ _) (by omega) rfl (by unfold maxLen; omega))
      rw [tkR0, tkF0] at HN
      have HB2 := Lib.hid ((HB.out.put i (.int .i64 ((byt r 0 : Int) - 128))).below hb0)
      have HK : Hid (Kept (fun k => k = t ∨ k = b) w ((w.setCell ⟨b, i, none⟩ (.int .i64 ((byt r 0 : Int) - 128))).alloc (.cells #[.int .i64 0] 3))) := Lib.hid (((Kept.refl (fun k => k = t ∨ k = b) w).set (p := ⟨b, i, none⟩) (.inr rfl) _).trans (.of_below hb0))
      have hn64 : ((byt r 0 : Int) - 128 == -64) = false := eq_no (by omega)
      clear h hb hb0 HBT h64
      go_enter Tryz.func218, Tryz.ntmps218
      go_wp2_with (go_at_call 225; refine HN.out.mono ?_; rintro x w1 ⟨rfl, t1, b1, k1⟩)
      refine bodyPost_void rfl rfl ⟨_, _, _, ⟨rfl, t1, HB2.out.kept k1 (by rintro (q | q) <;> omega), HK.out.then k1 (by rintro j hj (q | q); exact .inl q; omega)⟩, ?_⟩
      rw [HE.out]
      exact fits_bind (fits_y r) (fun h0 => ⟨h0, rfl, rfl⟩) fun _ => ⟨rfl, rfl⟩
  · have HBT : Hid (blkT r = (sT r 5 4294967296).bind fun q => if 0 ≤ q.1 then .ok q else .error 2) := Lib.hid (by
      unfold blkT
      rw [if_neg hin]
      congr 1
      funext q
      by_cases h : 0 ≤ q.1
      · rw [if_pos h, if_neg (by omega)]
      · rw [if_neg h, if_pos (by omega)])
    have HN := Lib.hid (signed_any' t b i cs T r c 0 z 33 5 4294967296 (.inr (.inl ⟨rfl, rfl, rfl⟩)) w h hb hne hi hs)
    rw [tkR0, tkF0] at HN
    have HFS := Lib.hid (fits_s r 5 4294967296)
    have key : r.size = 0 ∨ (0 < r.size ∧ byt r 0 < 64) ∨ (0 < r.size ∧ 64 ≤ byt r 0 ∧ 128 ≤ byt r 0) := by omega
    have e3 : ∀ h : 0 < r.size, r[0].toNat = byt r 0 := byt_get r 0
    revert HN HFS HBT
    generalize sN r 5 4294967296 = n
    generalize sR r 5 4294967296 = r2
    generalize sE r 5 4294967296 = f2
    intro HBT HN HFS
    have hcell : (cs.setIfInBounds i (.int .i64 n))[i]? = some (.int .i64 n) := by simp [hil]
    have HFIN : Hid (Fits (blkT r) n (ndR (decide (0 ≤ n)) f2 r2) (ndF (decide (0 ≤ n)) f2 2)) := Lib.hid (by
      rw [HBT.out]
      refine fits_bind HFS.out (fun h0 => fits_need (q := decide (0 ≤ n)) (r1 := r2) (f1 := f2) rfl (by decide) h0 (fun hp => ?_) fun _ => ⟨rfl, rfl⟩) fun h0 => nd_no h0
      rw [decide_eq_true hp]
      exact ⟨h0, rfl, rfl⟩)
    clear h hb hin hi hs HBT HFS
    rcases key with k | ⟨k, q1⟩ | ⟨k, q1, q2⟩
    · have hse : r = ⟨#[]⟩ := ByteArray.size_eq_zero_iff.1 k
      subst hse
      clear e3 k e5
      go_enter Tryz.func218, Tryz.ntmps218
      go_wp2_with (first
        | (go_at_call 224; refine HN.out.mono ?_; rintro x w1 ⟨rfl, t1, b1, k1⟩; have c1 := b1.cell i; rw [hcell] at c1)
        | (go_at_call 211; refine (need_any t r2 c f2 2 (decide (0 ≤ n)) _ t1).mono ?_; rintro x w2 ⟨rfl, t2, k2⟩))
      exact bodyPost_voidr rfl rfl ⟨_, _, _, ⟨rfl, t2, b1.kept k2 hne, k1.trans (k2.mono fun _ q => .inl q)⟩, HFIN.out⟩
    all_goals
      have e4 := e3 k
      have hnn := toList_some k
      clear e3
      go_enter Tryz.func218, Tryz.ntmps218
      go_wp2_with (first
        | (go_at_call 224; refine HN.out.mono ?_; rintro x w1 ⟨rfl, t1, b1, k1⟩; have c1 := b1.cell i; rw [hcell] at c1)
        | (go_at_call 211; refine (need_any t r2 c f2 2 (decide (0 ≤ n)) _ t1).mono ?_; rintro x w2 ⟨rfl, t2, k2⟩))
      exact bodyPost_voidr rfl rfl ⟨_, _, _, ⟨rfl, t2, b1.kept k2 hne, k1.trans (k2.mono fun _ q => .inl q)⟩, HFIN.out⟩
end Go.Proofs.YtekonefnniaheaaGreat

/- The project's reading of an instruction's numbers, each shape. -/
namespace Go.Proofs.YtekonefnniaheaaGreat
open Go.RowKit

set_option maxRecDepth 100000 in
set_option maxHeartbeats 1000000 in
theorem tf_s1 (t b : Nat) (op : Int) (r : ByteArray) (c : Int) (w : World) (_h : TkAt w t r c 0) (_hb : BlkAt w b #[.int .i64 op, .int .i64 0, .int .i64 0, .int .i64 0, .slice none 0 0, .slice none 0 0, .slice none 0 0] 50) (_hne : b ≠ t) (_hs : r.size ≤ 1000000000) :
    Calls Tryz.prog 216 #[.pointer (some ⟨t, 0, none⟩), .pointer (some ⟨b, 0, none⟩), .int .i64 1] w fun x w' => GivesF t b op 1 r c w x w' := by
  have h := _h
  have hb := _hb
  have hne := _hne
  have hs := _hs
  have hlt := h.lt
  have hlb := hb.lt
  have hm : r.size ≤ maxLen := by unfold maxLen; omega
  have _HT := Lib.hid h
  have _HB := Lib.hid hb
  clear h hb hs _h _hb _hs _hne hm hne hlt hlb
  go_enter Tryz.func216, Tryz.ntmps216
  go_wp2_with fail
  exact bodyPost_void rfl rfl ⟨0, 0, 0, none, 0, [], r, 0, ⟨rfl, _HT.out, _HB.out, Kept.refl _ _⟩, ⟨rfl, rfl, rfl⟩, ints_nil _ _⟩
set_option maxRecDepth 100000 in
set_option maxHeartbeats 1000000 in
theorem tf_s2 (t b : Nat) (op : Int) (r : ByteArray) (c : Int) (w : World) (_h : TkAt w t r c 0) (_hb : BlkAt w b #[.int .i64 op, .int .i64 0, .int .i64 0, .int .i64 0, .slice none 0 0, .slice none 0 0, .slice none 0 0] 50) (_hne : b ≠ t) (_hs : r.size ≤ 1000000000) :
    Calls Tryz.prog 216 #[.pointer (some ⟨t, 0, none⟩), .pointer (some ⟨b, 0, none⟩), .int .i64 2] w fun x w' => GivesF t b op 2 r c w x w' := by
  have h := _h
  have hb := _hb
  have hne := _hne
  have hs := _hs
  have hlt := h.lt
  have hlb := hb.lt
  have hm : r.size ≤ maxLen := by unfold maxLen; omega
  have H1 := Lib.hid (takerBlock_any t b 1 _ _ r c 0 w h hb hne rfl (show 1 < 7 by decide) hm)
  clear h hb hs _h _hb _hs _hne hm
  go_enter Tryz.func216, Tryz.ntmps216
  go_wp2_with (first
    | (go_at_call 218; refine H1.out.mono ?_; rintro x w1 ⟨n, r1, f1, ⟨rfl, t1, b1, k1⟩, q1⟩))
  exact bodyPost_void rfl rfl ⟨n, 0, 0, none, 0, [], _, _, ⟨rfl, t1, b1, k1⟩, fits_map q1 (fun a => ((a, 0, 0, []) : Int × Int × Int × List Int)), ints_nil _ _⟩
set_option maxRecDepth 100000 in
set_option maxHeartbeats 1000000 in
theorem tf_s3 (t b : Nat) (op : Int) (r : ByteArray) (c : Int) (w : World) (_h : TkAt w t r c 0) (_hb : BlkAt w b #[.int .i64 op, .int .i64 0, .int .i64 0, .int .i64 0, .slice none 0 0, .slice none 0 0, .slice none 0 0] 50) (_hne : b ≠ t) (_hs : r.size ≤ 1000000000) :
    Calls Tryz.prog 216 #[.pointer (some ⟨t, 0, none⟩), .pointer (some ⟨b, 0, none⟩), .int .i64 3] w fun x w' => GivesF t b op 3 r c w x w' := by
  have h := _h
  have hb := _hb
  have hne := _hne
  have hs := _hs
  have hlt := h.lt
  have hlb := hb.lt
  have hm : r.size ≤ maxLen := by unfold maxLen; omega
  have H1 := Lib.hid (number_any t b 1 _ _ r c 0 0 w h hb hne rfl hm)
  rw [tkR0, tkF0] at H1
  clear h hb hs _h _hb _hs _hne hm
  go_enter Tryz.func216, Tryz.ntmps216
  go_wp2_with (first
    | (go_at_call 215; refine H1.out.mono ?_; rintro x w1 ⟨rfl, t1, b1, k1⟩))
  exact bodyPost_void rfl rfl ⟨uN r, 0, 0, none, 0, [], _, _, ⟨rfl, t1, b1, k1⟩, fits_map (fits_u r) (fun a => ((a, 0, 0, []) : Int × Int × Int × List Int)), ints_nil _ _⟩
set_option maxRecDepth 100000 in
set_option maxHeartbeats 1000000 in
theorem tf_s5 (t b : Nat) (op : Int) (r : ByteArray) (c : Int) (w : World) (_h : TkAt w t r c 0) (_hb : BlkAt w b #[.int .i64 op, .int .i64 0, .int .i64 0, .int .i64 0, .slice none 0 0, .slice none 0 0, .slice none 0 0] 50) (_hne : b ≠ t) (_hs : r.size ≤ 1000000000) :
    Calls Tryz.prog 216 #[.pointer (some ⟨t, 0, none⟩), .pointer (some ⟨b, 0, none⟩), .int .i64 5] w fun x w' => GivesF t b op 5 r c w x w' := by
  have h := _h
  have hb := _hb
  have hne := _hne
  have hs := _hs
  have hlt := h.lt
  have hlb := hb.lt
  have hm : r.size ≤ maxLen := by unfold maxLen; omega
  have H1 := Lib.hid (number_any t b 1 _ _ r c 0 0 w h hb hne rfl hm)
  rw [tkR0, tkF0] at H1
  have s1 : Hid ((uR r).size ≤ maxLen) := Lib.hid (Nat.le_trans (uR_size r) hm)
  clear h hb hs _h _hb _hs _hne hm
  go_enter Tryz.func216, Tryz.ntmps216
  go_wp2_with (first
    | (go_at_call 215; refine H1.out.mono ?_; rintro x w1 ⟨rfl, t1, b1, k1⟩; clear H1; have H2 := Lib.hid (number_any t b 3 _ _ _ c _ 0 w1 t1 b1 hne rfl s1.out))
    | (go_at_call 215; refine H2.out.mono ?_; rintro x w2 ⟨rfl, t2, b2, k2⟩))
  exact bodyPost_void rfl rfl ⟨uN r, 0, uN (uR r), none, 0, [], _, _, ⟨rfl, t2, b2, k1.trans k2⟩, fits_bind (fits_u r) (fun h0 => fits_bind (k := fun o => .ok (((uN r, 0, o.1, []) : Int × Int × Int × List Int), o.2)) (fits_tk h0 (fits_u (uR r))) (fun h1 => ⟨h1, rfl, rfl⟩) fun _ => ⟨rfl, rfl⟩) fun h0 => tk_no h0, ints_nil _ _⟩
set_option maxRecDepth 100000 in
set_option maxHeartbeats 1000000 in
theorem tf_s6 (t b : Nat) (op : Int) (r : ByteArray) (c : Int) (w : World) (_h : TkAt w t r c 0) (_hb : BlkAt w b #[.int .i64 op, .int .i64 0, .int .i64 0, .int .i64 0, .slice none 0 0, .slice none 0 0, .slice none 0 0] 50) (_hne : b ≠ t) (_hs : r.size ≤ 1000000000) :
    Calls Tryz.prog 216 #[.pointer (some ⟨t, 0, none⟩), .pointer (some ⟨b, 0, none⟩), .int .i64 6] w fun x w' => GivesF t b op 6 r c w x w' := by
  have h := _h
  have hb := _hb
  have hne := _hne
  have hs := _hs
  have hlt := h.lt
  have hlb := hb.lt
  have hm : r.size ≤ maxLen := by unfold maxLen; omega
  have H1 := Lib.hid (types_any t b 1 _ _ r c 0 w h hb hne rfl hm)
  clear h hb hs _h _hb _hs _hne hm
  go_enter Tryz.func216, Tryz.ntmps216
  go_wp2_with (first
    | (go_at_call 220; refine H1.out.mono ?_; rintro x w1 ⟨n, r1, f1, ⟨rfl, t1, b1, k1⟩, q1⟩))
  exact bodyPost_void rfl rfl ⟨n, 0, 0, none, 0, [], _, _, ⟨rfl, t1, b1, k1⟩, fits_map q1 (fun a => ((a, 0, 0, []) : Int × Int × Int × List Int)), ints_nil _ _⟩
set_option maxRecDepth 100000 in
set_option maxHeartbeats 1000000 in
theorem tf_s7 (t b : Nat) (op : Int) (r : ByteArray) (c : Int) (w : World) (_h : TkAt w t r c 0) (_hb : BlkAt w b #[.int .i64 op, .int .i64 0, .int .i64 0, .int .i64 0, .slice none 0 0, .slice none 0 0, .slice none 0 0] 50) (_hne : b ≠ t) (_hs : r.size ≤ 1000000000) :
    Calls Tryz.prog 216 #[.pointer (some ⟨t, 0, none⟩), .pointer (some ⟨b, 0, none⟩), .int .i64 7] w fun x w' => GivesF t b op 7 r c w x w' := by
  have h := _h
  have hb := _hb
  have hne := _hne
  have hs := _hs
  have hlt := h.lt
  have hlb := hb.lt
  have hm : r.size ≤ maxLen := by unfold maxLen; omega
  have H1 := Lib.hid (takerPlace_any t b op _ _ _ _ r c w h hb hne hm)
  clear h hb hs _h _hb _hs _hne hm
  go_enter Tryz.func216, Tryz.ntmps216
  go_wp2_with (first
    | (go_at_call 221; refine H1.out.mono ?_; rintro x w1 ⟨a1, a2, a3, r1, f1, ⟨rfl, t1, b1, k1⟩, q1⟩))
  exact bodyPost_void rfl rfl ⟨a1, a2, a3, none, 0, [], _, _, ⟨rfl, t1, b1, k1⟩, fits_map q1 (fun a => ((a.1, a.2.1, a.2.2, []) : Int × Int × Int × List Int)), ints_nil _ _⟩
set_option maxRecDepth 100000 in
set_option maxHeartbeats 1000000 in
theorem tf_s8 (t b : Nat) (op : Int) (r : ByteArray) (c : Int) (w : World) (_h : TkAt w t r c 0) (_hb : BlkAt w b #[.int .i64 op, .int .i64 0, .int .i64 0, .int .i64 0, .slice none 0 0, .slice none 0 0, .slice none 0 0] 50) (_hne : b ≠ t) (_hs : r.size ≤ 1000000000) :
    Calls Tryz.prog 216 #[.pointer (some ⟨t, 0, none⟩), .pointer (some ⟨b, 0, none⟩), .int .i64 8] w fun x w' => GivesF t b op 8 r c w x w' := by
  have h := _h
  have hb := _hb
  have hne := _hne
  have hs := _hs
  have hlt := h.lt
  have hlb := hb.lt
  have hm : r.size ≤ maxLen := by unfold maxLen; omega
  have H1 := Lib.hid (number_any t b 3 _ _ r c 0 0 w h hb hne rfl hm)
  rw [tkR0, tkF0] at H1
  clear h hb hs _h _hb _hs _hne hm
  go_enter Tryz.func216, Tryz.ntmps216
  go_wp2_with (first
    | (go_at_call 215; refine H1.out.mono ?_; rintro x w1 ⟨rfl, t1, b1, k1⟩))
  exact bodyPost_void rfl rfl ⟨0, 0, uN r, none, 0, [], _, _, ⟨rfl, t1, b1, k1⟩, fits_map (fits_u r) (fun a => ((0, 0, a, []) : Int × Int × Int × List Int)), ints_nil _ _⟩
set_option maxRecDepth 100000 in
set_option maxHeartbeats 1000000 in
theorem tf_s9 (t b : Nat) (op : Int) (r : ByteArray) (c : Int) (w : World) (_h : TkAt w t r c 0) (_hb : BlkAt w b #[.int .i64 op, .int .i64 0, .int .i64 0, .int .i64 0, .slice none 0 0, .slice none 0 0, .slice none 0 0] 50) (_hne : b ≠ t) (_hs : r.size ≤ 1000000000) :
    Calls Tryz.prog 216 #[.pointer (some ⟨t, 0, none⟩), .pointer (some ⟨b, 0, none⟩), .int .i64 9] w fun x w' => GivesF t b op 9 r c w x w' := by
  have h := _h
  have hb := _hb
  have hne := _hne
  have hs := _hs
  have hlt := h.lt
  have hlb := hb.lt
  have hm : r.size ≤ maxLen := by unfold maxLen; omega
  have H1 := Lib.hid (number_any t b 3 _ _ r c 0 0 w h hb hne rfl hm)
  rw [tkR0, tkF0] at H1
  have s1 : Hid ((uR r).size ≤ maxLen) := Lib.hid (Nat.le_trans (uR_size r) hm)
  clear h hb hs _h _hb _hs _hne hm
  go_enter Tryz.func216, Tryz.ntmps216
  go_wp2_with (first
    | (go_at_call 215; refine H1.out.mono ?_; rintro x w1 ⟨rfl, t1, b1, k1⟩; clear H1; have H2 := Lib.hid (number_any t b 1 _ _ _ c _ 0 w1 t1 b1 hne rfl s1.out))
    | (go_at_call 215; refine H2.out.mono ?_; rintro x w2 ⟨rfl, t2, b2, k2⟩))
  exact bodyPost_void rfl rfl ⟨uN (uR r), 0, uN r, none, 0, [], _, _, ⟨rfl, t2, b2, k1.trans k2⟩, fits_bind (fits_u r) (fun h0 => fits_bind (k := fun o => .ok (((o.1, 0, uN r, []) : Int × Int × Int × List Int), o.2)) (fits_tk h0 (fits_u (uR r))) (fun h1 => ⟨h1, rfl, rfl⟩) fun _ => ⟨rfl, rfl⟩) fun h0 => tk_no h0, ints_nil _ _⟩
set_option maxRecDepth 100000 in
set_option maxHeartbeats 1000000 in
theorem tf_s10 (t b : Nat) (op : Int) (r : ByteArray) (c : Int) (w : World) (_h : TkAt w t r c 0) (_hb : BlkAt w b #[.int .i64 op, .int .i64 0, .int .i64 0, .int .i64 0, .slice none 0 0, .slice none 0 0, .slice none 0 0] 50) (_hne : b ≠ t) (_hs : r.size ≤ 1000000000) (hop : op = 65 ∨ op = 66) :
    Calls Tryz.prog 216 #[.pointer (some ⟨t, 0, none⟩), .pointer (some ⟨b, 0, none⟩), .int .i64 10] w fun x w' => GivesF t b op 10 r c w x w' := by
  have h := _h
  have hb := _hb
  have hne := _hne
  have hs := _hs
  have hlt := h.lt
  have hlb := hb.lt
  have hm : r.size ≤ maxLen := by unfold maxLen; omega
  have H1 := Lib.hid (takerConst_any t b op r c w hop h hb hne hm)
  clear h hb hs _h _hb _hs _hne hm
  go_enter Tryz.func216, Tryz.ntmps216
  go_wp2_with (first
    | (go_at_call 222; refine H1.out.mono ?_; rintro x w1 ⟨n, r1, f1, ⟨rfl, t1, b1, k1⟩, q1⟩))
  exact bodyPost_void rfl rfl ⟨n, 0, 0, none, 0, [], _, _, ⟨rfl, t1, b1, k1⟩, fits_map q1 (fun a => ((a, 0, 0, []) : Int × Int × Int × List Int)), ints_nil _ _⟩
set_option maxRecDepth 100000 in
set_option maxHeartbeats 1000000 in
theorem tf_s11 (t b : Nat) (op : Int) (r : ByteArray) (c : Int) (w : World) (_h : TkAt w t r c 0) (_hb : BlkAt w b #[.int .i64 op, .int .i64 0, .int .i64 0, .int .i64 0, .slice none 0 0, .slice none 0 0, .slice none 0 0] 50) (_hne : b ≠ t) (_hs : r.size ≤ 1000000000) :
    Calls Tryz.prog 216 #[.pointer (some ⟨t, 0, none⟩), .pointer (some ⟨b, 0, none⟩), .int .i64 11] w fun x w' => GivesF t b op 11 r c w x w' := by
  have h := _h
  have hb := _hb
  have hne := _hne
  have hs := _hs
  have hlt := h.lt
  have hlb := hb.lt
  have hm : r.size ≤ maxLen := by unfold maxLen; omega
  have H1 := Lib.hid (null_any t r c w h hm)
  have HB := Lib.hid hb
  clear h hb hs _h _hb _hs _hne hm
  go_enter Tryz.func216, Tryz.ntmps216
  go_wp2_with (first
    | (go_at_call 223; refine H1.out.mono ?_; rintro x w1 ⟨n, r1, f1, rfl, t1, k1, q1⟩))
  exact bodyPost_void rfl rfl ⟨0, 0, 0, none, 0, [], _, _, ⟨rfl, t1, HB.out.kept k1 hne, k1.mono fun _ q => .inl q⟩, fits_map q1 (fun _ => ((0, 0, 0, []) : Int × Int × Int × List Int)), ints_nil _ _⟩
set_option maxRecDepth 100000 in
set_option maxHeartbeats 1000000 in
theorem tf_s4 (t b : Nat) (op : Int) (r : ByteArray) (c : Int) (w : World) (_h : TkAt w t r c 0) (_hb : BlkAt w b #[.int .i64 op, .int .i64 0, .int .i64 0, .int .i64 0, .slice none 0 0, .slice none 0 0, .slice none 0 0] 50) (_hne : b ≠ t) (_hs : r.size ≤ 1000000000) :
    Calls Tryz.prog 216 #[.pointer (some ⟨t, 0, none⟩), .pointer (some ⟨b, 0, none⟩), .int .i64 4] w fun x w' => GivesF t b op 4 r c w x w' := by
  have h := _h
  have hb := _hb
  have hne := _hne
  have hs := _hs
  have hlt := h.lt
  have hlb := hb.lt
  have hm : r.size ≤ maxLen := by unfold maxLen; omega
  have H1 := Lib.hid (labels_any t b 4 _ _ r c 0 none 0 0 w h hb hne rfl hs)
  rw [tkR0, tkF0] at H1
  have s1 : Hid ((allRes r 1000).2.1.size ≤ maxLen) := Lib.hid (Nat.le_trans (aR_size r 1000) hm)
  clear h hb hs _h _hb _hs _hne hm
  go_enter Tryz.func216, Tryz.ntmps216
  go_wp2_with (first
    | (go_at_call 219; refine H1.out.mono ?_; rintro x w1 ⟨v1, ⟨rfl, t1, b1, k1⟩, i1⟩; clear H1; obtain ⟨x1, c1, hv1, _⟩ := i1.view; subst hv1; have H2 := Lib.hid (number_any t b 1 _ _ _ c _ 0 w1 t1 b1 hne rfl s1.out))
    | (go_at_call 215; refine H2.out.mono ?_; rintro x w2 ⟨rfl, t2, b2, k2⟩))
  exact bodyPost_void rfl rfl ⟨uN (allRes r 1000).2.1, 0, 0, x1, c1, (allRes r 1000).1, _, _, ⟨rfl, t2, b2, k1.trans k2⟩, fits_bind (fits_a r) (fun h0 => fits_bind (k := fun o => .ok (((o.1, 0, 0, (allRes r 1000).1) : Int × Int × Int × List Int), o.2)) (fits_tk h0 (fits_u (allRes r 1000).2.1)) (fun h1 => ⟨h1, rfl, rfl⟩) fun _ => ⟨rfl, rfl⟩) fun h0 => tk_no h0, i1.kept k2 (by rintro k (q | q) <;> omega)⟩
/-- The opcodes of constants. -/
theorem shape10 {op : Int} (h : shapeV op = (10, 0)) : op = 65 ∨ op = 66 := by
  by_cases hm : op ∈ nameOps
  · have key : ∀ op ∈ nameOps, (shapeV op).1 = 10 → op = 65 ∨ op = 66 := by decide
    exact key op hm (by rw [h])
  · rw [shapeV_other hm] at h
    split at h
    · cases h
    split at h
    · cases h
    split at h
    · cases h
    split at h
    · cases h
    · cases h
theorem tf_any (t b : Nat) (op : Int) (r : ByteArray) (c : Int) (w : World) (h : TkAt w t r c 0) (hb : BlkAt w b #[.int .i64 op, .int .i64 0, .int .i64 0, .int .i64 0, .slice none 0 0, .slice none 0 0, .slice none 0 0] 50) (hne : b ≠ t) (hs : r.size ≤ 1000000000) (her : (shapeV op).2 = 0) :
    Calls Tryz.prog 216 #[.pointer (some ⟨t, 0, none⟩), .pointer (some ⟨b, 0, none⟩), .int .i64 (shapeV op).1] w fun x w' => GivesF t b op (shapeV op).1 r c w x w' := by
  rcases shapeV_in op her with s | s | s | s | s | s | s | s | s | s | s
  all_goals rw [s]
  · exact tf_s1 t b op r c w h hb hne hs
  · exact tf_s2 t b op r c w h hb hne hs
  · exact tf_s3 t b op r c w h hb hne hs
  · exact tf_s4 t b op r c w h hb hne hs
  · exact tf_s5 t b op r c w h hb hne hs
  · exact tf_s6 t b op r c w h hb hne hs
  · exact tf_s7 t b op r c w h hb hne hs
  · exact tf_s8 t b op r c w h hb hne hs
  · exact tf_s9 t b op r c w h hb hne hs
  · exact tf_s10 t b op r c w h hb hne hs (shape10 s)
  · exact tf_s11 t b op r c w h hb hne hs
end Go.Proofs.YtekonefnniaheaaGreat

/- What reading instructions comes to; trees that a call makes. -/
namespace Go.Proofs.YtekonefnniaheaaGreat
open Go.RowKit Go.Deep
open Leb (byt byt_lt byt_get)

/-- What reading an opcode comes to. -/
def opT (s : ByteArray) : Except Int (Int × ByteArray) := if s.size = 0 then .error 2 else if byt s 0 = 252 then (uT (s.extract 1 s.size)).bind fun q => .ok (64512 + q.1, q.2) else .ok ((byt s 0 : Int), s.extract 1 s.size)
/-- What reading instructions comes to: they, the opcode behind them, how many there were; what is behind. -/
abbrev LRes := Except Int ((List Ins × Int × Nat) × ByteArray)
def blockT (L : ByteArray → Nat → Nat → LRes) (op a b m : Int) (ns : List Int) (s : ByteArray) (d n : Nat) : Except Int ((Ins × Nat) × ByteArray) :=
  (L s (d + 1) n).bind fun l => if l.1.2.1 = 11 then .ok ((.mk op a b m ns l.1.1 [], l.1.2.2), l.2) else if op = 4 then (L l.2 (d + 1) l.1.2.2).bind fun e => if e.1.2.1 = 11 then .ok ((.mk op a b m ns l.1.1 e.1.1, e.1.2.2), e.2) else .error 2 else .error 2
def instrT (L : ByteArray → Nat → Nat → LRes) (op : Int) (s : ByteArray) (d n : Nat) : Except Int ((Ins × Nat) × ByteArray) :=
  if (shapeV op).2 = 0 then (numsT op (shapeV op).1 s).bind fun p => if n + 1 ≤ 8192 then (if (shapeV op).1 = 2 then (if d < 32 then blockT L op p.1.1 p.1.2.1 p.1.2.2.1 p.1.2.2.2 p.2 d (n + 1) else .error 14) else .ok ((.mk op p.1.1 p.1.2.1 p.1.2.2.1 p.1.2.2.2 [] [], n + 1), p.2)) else .error 14 else .error (shapeV op).2
def takeL : Nat → ByteArray → Nat → Nat → LRes
  | 0, _, _, _ => .error 2
  | f + 1, s, d, n => (opT s).bind fun q => if q.1 = 11 ∨ q.1 = 5 then .ok (([], q.1, n), q.2) else (instrT (takeL f) q.1 q.2 d n).bind fun i => (takeL f i.2 d i.1.2).bind fun r => .ok ((i.1.1 :: r.1.1, r.1.2.1, r.1.2.2), r.2)
theorem bind_ok {X Y : Type} {res : Except Int X} {k : X → Except Int Y} {y : Y} (h : res.bind k = .ok y) : ∃ x, res = .ok x ∧ k x = .ok y := by
  cases res with
  | error e => cases h
  | ok x => exact ⟨x, rfl, h⟩
theorem uT_size {s : ByteArray} {q : Int × ByteArray} (h : uT s = .ok q) : q.2.size ≤ s.size := by
  unfold uT at h
  split at h
  · injection h with h
    rw [← h]
    exact uR_size s
  · cases h
theorem sT_size {s : ByteArray} {most : Nat} {half : Int} {q : Int × ByteArray} (h : sT s most half = .ok q) : q.2.size ≤ s.size := by
  unfold sT at h
  split at h
  · injection h with h
    rw [← h]
    exact sR_size s most half
  · cases h
theorem yT_size {s : ByteArray} {q : Int × ByteArray} (h : yT s = .ok q) : q.2.size ≤ s.size := by
  unfold yT at h
  split at h
  · injection h with h
    rw [← h]
    exact tyR_size s
  · cases h
theorem aT_size {s : ByteArray} {q : List Int × ByteArray} (h : aT s = .ok q) : q.2.size ≤ s.size := by
  unfold aT at h
  split at h
  · injection h with h
    rw [← h]
    exact aR_size s 1000
  · cases h
theorem blkT_size {s : ByteArray} {q : Int × ByteArray} (h : blkT s = .ok q) : q.2.size ≤ s.size := by
  unfold blkT at h
  split at h
  · split at h
    · injection h with h
      rw [← h]
      show (s.extract 1 s.size).size ≤ _
      rw [ByteArray.size_extract]; omega
    · obtain ⟨p, hp, h⟩ := bind_ok h
      injection h with h
      rw [← h]
      exact (yT_size hp : p.2.size ≤ s.size)
  · obtain ⟨p, hp, h⟩ := bind_ok h
    split at h
    · cases h
    · injection h with h
      rw [← h]
      exact sT_size hp
theorem numsT_size {op sh : Int} {s : ByteArray} {q : (Int × Int × Int × List Int) × ByteArray} (h : numsT op sh s = .ok q) : q.2.size ≤ s.size := by
  unfold numsT at h
  split at h
  · obtain ⟨p, hp, h⟩ := bind_ok h
    injection h with h
    rw [← h]
    exact blkT_size hp
  split at h
  · obtain ⟨p, hp, h⟩ := bind_ok h
    injection h with h
    rw [← h]
    exact uT_size hp
  split at h
  · obtain ⟨p, hp, h⟩ := bind_ok h
    obtain ⟨p2, hp2, h⟩ := bind_ok h
    injection h with h
    rw [← h]
    exact Nat.le_trans (uT_size hp2) (aT_size hp)
  split at h
  · obtain ⟨p, hp, h⟩ := bind_ok h
    obtain ⟨p2, hp2, h⟩ := bind_ok h
    injection h with h
    rw [← h]
    exact Nat.le_trans (uT_size hp2) (uT_size hp)
  split at h
  · obtain ⟨p, hp, h⟩ := bind_ok h
    injection h with h
    rw [← h]
    unfold typesT at hp
    obtain ⟨p2, hp2, hp⟩ := bind_ok hp
    split at hp
    · exact Nat.le_trans (yT_size hp) (uT_size hp2)
    · cases hp
  split at h
  · obtain ⟨p, hp, h⟩ := bind_ok h
    injection h with h
    rw [← h]
    unfold placeT at hp
    obtain ⟨p2, hp2, hp⟩ := bind_ok hp
    split at hp
    · cases hp
    split at hp
    · obtain ⟨p3, hp3, hp⟩ := bind_ok hp
      obtain ⟨p4, hp4, hp⟩ := bind_ok hp
      injection hp with hp
      rw [← hp]
      exact Nat.le_trans (uT_size hp4) (Nat.le_trans (uT_size hp3) (uT_size hp2))
    · obtain ⟨p3, hp3, hp⟩ := bind_ok hp
      injection hp with hp
      rw [← hp]
      exact Nat.le_trans (uT_size hp3) (uT_size hp2)
  split at h
  · obtain ⟨p, hp, h⟩ := bind_ok h
    injection h with h
    rw [← h]
    exact uT_size hp
  split at h
  · obtain ⟨p, hp, h⟩ := bind_ok h
    obtain ⟨p2, hp2, h⟩ := bind_ok h
    injection h with h
    rw [← h]
    exact Nat.le_trans (uT_size hp2) (uT_size hp)
  split at h
  · obtain ⟨p, hp, h⟩ := bind_ok h
    injection h with h
    rw [← h]
    unfold constT at hp
    split at hp
    · exact sT_size hp
    · exact sT_size hp
  split at h
  · obtain ⟨p, hp, h⟩ := bind_ok h
    injection h with h
    rw [← h]
    unfold nullT at hp
    obtain ⟨p2, hp2, hp⟩ := bind_ok hp
    split at hp
    · injection hp with hp
      rw [← hp]
      exact yT_size hp2
    · cases hp
  · injection h with h
    rw [← h]
    exact Nat.le_refl _
theorem opT_size {s : ByteArray} {q : Int × ByteArray} (h : opT s = .ok q) : q.2.size < s.size := by
  unfold opT at h
  split at h
  · cases h
  rename_i h0
  split at h
  · obtain ⟨p, hp, h⟩ := bind_ok h
    injection h with h
    rw [← h]
    have := uT_size hp
    rw [ByteArray.size_extract] at this
    show p.2.size < _
    omega
  · injection h with h
    rw [← h]
    show (s.extract 1 s.size).size < _
    rw [ByteArray.size_extract]
    omega
/-- Of what is read, less is behind, and there are not too many. -/
def LGood (L : ByteArray → Nat → Nat → LRes) : Prop := ∀ s d n q, L s d n = .ok q → n ≤ 8192 → q.2.size < s.size ∧ q.1.2.2 ≤ 8192 ∧ (q.1.2.1 = 11 ∨ q.1.2.1 = 5)
theorem blockT_good {L : ByteArray → Nat → Nat → LRes} (hL : LGood L) {op a b m : Int} {ns : List Int} {s : ByteArray} {d n : Nat} {q : (Ins × Nat) × ByteArray} (h : blockT L op a b m ns s d n = .ok q) (hn : n ≤ 8192) : q.2.size < s.size ∧ q.1.2 ≤ 8192 := by
  unfold blockT at h
  obtain ⟨l, hl, h⟩ := bind_ok h
  obtain ⟨g1, g2, g3⟩ := hL _ _ _ _ hl hn
  split at h
  · injection h with h
    rw [← h]
    exact ⟨g1, g2⟩
  split at h
  · obtain ⟨e, he, h⟩ := bind_ok h
    obtain ⟨k1, k2, k3⟩ := hL _ _ _ _ he g2
    split at h
    · injection h with h
      rw [← h]
      exact ⟨Nat.lt_trans k1 g1, k2⟩
    · cases h
  · cases h
theorem instrT_good {L : ByteArray → Nat → Nat → LRes} (hL : LGood L) {op : Int} {s : ByteArray} {d n : Nat} {q : (Ins × Nat) × ByteArray} (h : instrT L op s d n = .ok q) : q.2.size ≤ s.size ∧ q.1.2 ≤ 8192 := by
  unfold instrT at h
  split at h
  · obtain ⟨p, hp, h⟩ := bind_ok h
    have hs := numsT_size hp
    split at h
    · rename_i h8
      split at h
      · split at h
        · obtain ⟨g1, g2⟩ := blockT_good hL h h8
          exact ⟨by omega, g2⟩
        · cases h
      · injection h with h
        rw [← h]
        exact ⟨hs, h8⟩
    · cases h
  · cases h
theorem takeL_good (f : Nat) : LGood (takeL f) := by
  induction f with
  | zero => intro s d n q h; cases h
  | succ f ih =>
    intro s d n q h hn
    rw [takeL] at h
    obtain ⟨o, ho, h⟩ := bind_ok h
    have h0 := opT_size ho
    split at h
    · rename_i hor
      injection h with h
      rw [← h]
      exact ⟨h0, hn, hor⟩
    · obtain ⟨i, hi, h⟩ := bind_ok h
      obtain ⟨g1, g2⟩ := instrT_good ih hi
      obtain ⟨r, hr, h⟩ := bind_ok h
      obtain ⟨k1, k2, k3⟩ := ih _ _ _ _ hr g2
      injection h with h
      rw [← h]
      exact ⟨by show r.2.size < _; omega, k2, k3⟩
/-- Worlds that agree on these blocks. -/
def Agree (P : Nat → Prop) (w w' : World) : Prop := ∀ k, P k → k < w.heap.size → w'.heap[k]? = w.heap[k]?
/-- Instructions that lie, whatever happens to other blocks than these. -/
structure OwnP (P : Nat → Prop) (w : World) (x : Option Addr) (len cap : Nat) (ls : List Ins) : Prop where
  eq : len = ls.length
  le : len ≤ cap
  top : cap ≤ 9223372036854775807
  lies : ∀ w', Agree P w w' → LiesL w' x ls
theorem Agree.refl (P : Nat → Prop) (w : World) : Agree P w w := fun _ _ _ => rfl
theorem Agree.next {P Q : Nat → Prop} {w w1 w' : World} (h : Agree Q w1 w') (h1 : Agree P w w1) (hz : w.heap.size ≤ w1.heap.size) (hq : ∀ k, P k → k < w.heap.size → Q k) : Agree P w w' :=
  fun k hp hk => (h k (hq k hp hk) (by omega)).trans (h1 k hp hk)
theorem OwnP.next {P Q : Nat → Prop} {w w1 : World} {x : Option Addr} {len cap : Nat} {ls : List Ins} (h : OwnP P w x len cap ls) (h1 : Agree P w w1) (hz : w.heap.size ≤ w1.heap.size) (hq : ∀ k, P k → k < w.heap.size → Q k) : OwnP Q w1 x len cap ls :=
  ⟨h.eq, h.le, h.top, fun w' hw => h.lies w' (hw.next h1 hz hq)⟩
theorem Kept.agree {F P : Nat → Prop} {w w' : World} (h : Kept F w w') (hp : ∀ k, P k → k < w.heap.size → ¬ F k) : Agree P w w' := fun k hk hl => h.block k hl (hp k hk hl)
theorem own_nil (P : Nat → Prop) (w : World) : OwnP P w none 0 0 [] := ⟨rfl, Nat.le_refl _, by decide, fun _ _ => by unfold LiesL; trivial⟩
/-- Seven values are an instruction, whatever happens to other blocks than these. -/
def ElP (P : Nat → Prop) (w : World) (i : Ins) (us : List Value) : Prop :=
  ∃ xn cn xl cl xe ce, us = [.int .i64 i.op, .int .i64 i.a, .int .i64 i.b, .int .i64 i.m, .slice xn i.n.length cn, .slice xl i.l.length cl, .slice xe i.e.length ce] ∧
    (i.n.length ≤ cn ∧ cn ≤ 9223372036854775807) ∧ (∀ w', Agree P w w' → View w' xn i.n.length i.n) ∧ OwnP P w xl i.l.length cl i.l ∧ OwnP P w xe i.e.length ce i.e
theorem ElP.next {P Q : Nat → Prop} {w w1 : World} {i : Ins} {us : List Value} (h : ElP P w i us) (h1 : Agree P w w1) (hz : w.heap.size ≤ w1.heap.size) (hq : ∀ k, P k → k < w.heap.size → Q k) : ElP Q w1 i us := by
  obtain ⟨xn, cn, xl, cl, xe, ce, e, hc, hv, hl, he⟩ := h
  exact ⟨xn, cn, xl, cl, xe, ce, e, hc, fun w' hw => hv w' (hw.next h1 hz hq), hl.next h1 hz hq, he.next h1 hz hq⟩
/-- Values, seven for each of these instructions. -/
inductive ElsP (P : Nat → Prop) (w : World) : List Ins → List Value → Prop
  | nil : ElsP P w [] []
  | cons {i : Ins} {us : List Value} {ls : List Ins} {vs : List Value} : ElP P w i us → ElsP P w ls vs → ElsP P w (i :: ls) (us ++ vs)
theorem ElsP.next {P Q : Nat → Prop} {w w1 : World} {ls : List Ins} {vs : List Value} (h : ElsP P w ls vs) (h1 : Agree P w w1) (hz : w.heap.size ≤ w1.heap.size) (hq : ∀ k, P k → k < w.heap.size → Q k) : ElsP Q w1 ls vs := by
  induction h with
  | nil => exact .nil
  | cons a _ ih => exact .cons (a.next h1 hz hq) ih
theorem ElsP.snoc {P : Nat → Prop} {w : World} {ls : List Ins} {vs : List Value} {i : Ins} {us : List Value} (h : ElsP P w ls vs) (hi : ElP P w i us) : ElsP P w (ls ++ [i]) (vs ++ us) := by
  induction h with
  | nil => simpa using ElsP.cons hi .nil
  | cons a _ ih =>
    rw [List.cons_append, List.append_assoc]
    exact .cons a ih
theorem ElP.length {P : Nat → Prop} {w : World} {i : Ins} {us : List Value} (h : ElP P w i us) : us.length = 7 := by
  obtain ⟨xn, cn, xl, cl, xe, ce, e, _⟩ := h
  rw [e]; rfl
theorem ElsP.length {P : Nat → Prop} {w : World} {ls : List Ins} {vs : List Value} (h : ElsP P w ls vs) : vs.length = ls.length * 7 := by
  induction h with
  | nil => rfl
  | cons a _ ih =>
    rw [List.length_append, a.length, ih, List.length_cons]
    omega
theorem ElsP.lies {P : Nat → Prop} {w w' : World} {ls : List Ins} {vs : List Value} (h : ElsP P w ls vs) (ha : Agree P w w') (g off : Nat) (hc : ∀ j v, vs[j]? = some v → w'.cell? ⟨g, off + j, none⟩ = some v) : LiesL w' (some ⟨g, off, none⟩) ls := by
  induction h generalizing off with
  | nil => unfold LiesL; trivial
  | @cons i us ls vs a b ih =>
    have h7 := a.length
    obtain ⟨xn, cn, xl, cl, xe, ce, e, hn, hv, hl, he⟩ := a
    unfold LiesL
    refine ⟨g, off, rfl, ?_, ih (off + 7) fun j v hj => ?_⟩
    · have key : ∀ j v, us[j]? = some v → w'.cell? ⟨g, off + j, none⟩ = some v := fun j v hj => hc j v (by
        have hlt := (List.getElem?_eq_some_iff.1 hj).1
        rw [List.getElem?_append_left hlt]
        exact hj)
      subst e
      have k0 := key 0 _ rfl
      have k1 := key 1 _ rfl
      have k2 := key 2 _ rfl
      have k3 := key 3 _ rfl
      have k4 := key 4 _ rfl
      have k5 := key 5 _ rfl
      have k6 := key 6 _ rfl
      cases i with
      | mk op a b' m n l e =>
        unfold LiesI
        exact ⟨k0, k1, k2, k3, ⟨xn, cn, k4, hv w' ha, hn.1, hn.2⟩, ⟨xl, cl, k5, hl.lies w' ha, hl.le, hl.top⟩, ⟨xe, ce, k6, he.lies w' ha, he.le, he.top⟩⟩
    · rw [show off + 7 + j = off + (j + 7) by omega]
      refine hc (j + 7) v ?_
      rw [List.getElem?_append_right (by omega), h7, Nat.add_sub_cancel]
      exact hj
/-- A slice that a call has made so far, and what lies in it. -/
def RowP (B : Nat) (w : World) (v : Value) (ls : List Ins) : Prop := ∃ vs, w.ownsRow B 50 7 v ls.length vs ∧ ElsP (fun k => B ≤ k ∧ some k ≠ v.ownBlock) w ls vs
theorem RowP.own {B : Nat} {w : World} {v : Value} {ls : List Ins} (h : RowP B w v ls) : ∃ x cap, v = .slice x ls.length cap ∧ OwnP (B ≤ ·) w x ls.length cap ls := by
  obtain ⟨vs, hown, hel⟩ := h
  rcases hown.2 with ⟨hn, h0⟩ | ⟨g, cap, cur, hn, hb, hg, hcap, htop, hcs, htk⟩
  · have hl : ls = [] := List.length_eq_zero_iff.1 h0
    subst hl
    exact ⟨none, 0, hn, own_nil _ _⟩
  · subst hn
    unfold maxLen at htop
    refine ⟨_, cap, rfl, rfl, hcap, by omega, fun w' hw => ?_⟩
    have hgl : g < w.heap.size := (Array.getElem?_eq_some_iff.1 hg).1
    have hg' := (hw g hb hgl).trans hg
    refine hel.lies (fun k hk hl => hw k hk.1 hl) g 0 fun j v hj => ?_
    unfold World.cell?
    rw [hg']
    show cur[0 + j]? = some v
    rw [Nat.zero_add, ← hj, ← htk, List.getElem?_take, if_pos, Array.getElem?_toList]
    have := (List.getElem?_eq_some_iff.1 hj).1
    rw [hel.length] at this
    exact this
end Go.Proofs.YtekonefnniaheaaGreat

/- The project's reading of an opcode; a taker that has a fault. -/
namespace Go.Proofs.YtekonefnniaheaaGreat
open Go.RowKit Go.Deep
open Leb (byt byt_lt byt_get)

set_option maxRecDepth 100000 in
set_option maxHeartbeats 1000000 in
theorem takerOp_any (t b : Nat) (r : ByteArray) (c : Int) (w : World) (h : TkAt w t r c 0) (hb : BlkAt w b #[.int .i64 0, .int .i64 0, .int .i64 0, .int .i64 0, .slice none 0 0, .slice none 0 0, .slice none 0 0] 50) (hne : b ≠ t) (hs : r.size ≤ 1000000000) :
    Calls Tryz.prog 209 #[.pointer (some ⟨t, 0, none⟩), .pointer (some ⟨b, 0, none⟩)] w fun x w' => ∃ op r' f', Took t r' c f' b #[.int .i64 op, .int .i64 0, .int .i64 0, .int .i64 0, .slice none 0 0, .slice none 0 0, .slice none 0 0] 50 w x w' ∧ Fits (opT r) op r' f' := by
  have d0 := h.cell 0
  simp at d0
  have k0 := hb.cell 0
  simp at k0
  have z0 := hb.frozen 0
  have hlt := h.lt
  have hlb := hb.lt
  have H := Lib.hid h
  have HB := Lib.hid hb
  have e5 := byt_lt r 0
  by_cases hs0 : r.size = 0
  · have hse : r = ⟨#[]⟩ := ByteArray.size_eq_zero_iff.1 hs0
    have HE : Hid (opT r = .error 2) := Lib.hid (if_pos hs0)
    subst hse
    have HT := Lib.hid (took_any t ⟨#[]⟩ ⟨#[]⟩ c 0 2 w h)
    rw [tkR0, tkF0] at HT
    clear h hb e5 hs0 hs
    go_enter Tryz.func209, Tryz.ntmps209
    go_wp2_with (go_at_call 214; refine HT.out.mono ?_; rintro x w1 ⟨rfl, t1, k1⟩)
    exact bodyPost_voidr rfl rfl ⟨0, _, _, ⟨rfl, t1, HB.out.kept k1 hne, k1.mono fun _ q => .inl q⟩, by rw [HE.out]; exact ⟨rfl, by decide, rfl⟩⟩
  · have hpos : 0 < r.size := by omega
    have e3 := byt_get r 0 hpos
    have hnn := toList_some hpos
    have b1' : (1 : Int) ≤ r.size := by omega
    have hm : r.size ≤ 9223372036854775807 := by omega
    have HT := Lib.hid (took_any t r (r.extract 1 r.size) c 0 0 _ (h.other (fun q => hne q.symm) 0 (.int .i64 (byt r 0 : Int))))
    rw [tkR0, tkF0] at HT
    have HB2 := Lib.hid (hb.put 0 (.int .i64 (byt r 0 : Int)))
    have HK := Lib.hid ((Kept.refl (fun k => k = t ∨ k = b) w).set (p := ⟨b, 0, none⟩) (.inr rfl) (.int .i64 (byt r 0 : Int)))
    have hx : (r.extract 1 r.size).size ≤ maxLen := by rw [ByteArray.size_extract]; unfold maxLen; omega
    have HX := Lib.hid hx
    by_cases h252 : byt r 0 = 252
    · have HE : Hid (opT r = (uT (r.extract 1 r.size)).bind fun q => .ok (64512 + q.1, q.2)) := Lib.hid ((if_neg hs0).trans (if_pos h252))
      have wz : IntKind.i64.wrap (uN (r.extract 1 r.size) + 64512) = 64512 + uN (r.extract 1 r.size) := by
        have := uN_range (r.extract 1 r.size)
        rw [IntKind.wrap_i64]; omega
      rw [h252] at HT HB2 HK e3
      have HF := Lib.hid (fits_u (r.extract 1 r.size))
      clear h hb e5 hs0 hs hx h252
      go_enter Tryz.func209, Tryz.ntmps209
      go_wp2_with (first
        | (go_at_call 214; refine HT.out.mono ?_; rintro x w1 ⟨rfl, t1, k1⟩; have b1 := HB2.out.kept k1 hne; have c1 := b1.cell 0; rw [show (_ : Array Value)[0]? = some (.int .i64 252) from rfl] at c1; have HN := Lib.hid (number_any t b 0 _ _ _ c 0 252 w1 t1 b1 hne rfl HX.out))
        | (go_at_call 215; refine HN.out.mono ?_; rw [tkR0, tkF0]; rintro x w2 ⟨rfl, t2, b2, k2⟩; have c2 := b2.cell 0; rw [show (_ : Array Value)[0]? = some (.int .i64 (uN (r.extract 1 r.size))) from rfl] at c2; have z2 := b2.frozen 0; have b3 := b2.put 0 (.int .i64 (64512 + uN (r.extract 1 r.size))); have t3 := t2.other (fun q => hne q.symm) 0 (.int .i64 (64512 + uN (r.extract 1 r.size)))))
      refine bodyPost_void rfl rfl ⟨_, _, _, ⟨rfl, t3, b3, (((HK.out.trans (k1.mono fun _ q => .inl q)).trans k2).set (p := ⟨b, 0, none⟩) (.inr rfl) _)⟩, ?_⟩
      rw [HE.out]
      exact fits_map HF.out (fun a => 64512 + a)
    · have HE : Hid (opT r = .ok ((byt r 0 : Int), r.extract 1 r.size)) := Lib.hid ((if_neg hs0).trans (if_neg h252))
      have hn : ((byt r 0 : Int) == 252) = false := eq_no (by omega)
      clear h hb hs0 hs hx h252
      go_enter Tryz.func209, Tryz.ntmps209
      go_wp2_with (go_at_call 214; refine HT.out.mono ?_; rintro x w1 ⟨rfl, t1, k1⟩; have b1 := HB2.out.kept k1 hne; have c1 := b1.cell 0; rw [show (_ : Array Value)[0]? = some (.int .i64 (byt r 0 : Int)) from rfl] at c1)
      exact bodyPost_void rfl rfl ⟨_, _, _, ⟨rfl, t1, b1, HK.out.trans (k1.mono fun _ q => .inl q)⟩, by rw [HE.out]; exact ⟨rfl, rfl, rfl⟩⟩
set_option maxRecDepth 100000 in
theorem opcode_dead (t b : Nat) (c f : Int) (hf : f ≠ 0) (w : World) (h : TkAt w t ⟨#[]⟩ c f) :
    Calls Tryz.prog 209 #[.pointer (some ⟨t, 0, none⟩), .pointer (some ⟨b, 0, none⟩)] w fun x w' => x = .returned (.tuple #[]) ∧ TkAt w' t ⟨#[]⟩ c f ∧ Kept (· = t) w w' := by
  have d0 := h.cell 0
  simp at d0
  have HT := Lib.hid (took_any t ⟨#[]⟩ ⟨#[]⟩ c f 2 w h)
  rw [show tkR f (⟨#[]⟩ : ByteArray) ⟨#[]⟩ = ⟨#[]⟩ from if_neg hf, show tkF f 2 = f from if_neg hf] at HT
  clear h hf
  go_enter Tryz.func209, Tryz.ntmps209
  go_wp2_with (go_at_call 214; refine HT.out.mono ?_; rintro x w1 ⟨rfl, t1, k1⟩)
  exact bodyPost_voidr rfl rfl ⟨rfl, t1, k1⟩
set_option maxRecDepth 100000 in
set_option maxHeartbeats 1000000 in
theorem list_dead (t : Nat) (c f d : Int) (hf : f ≠ 0) (w : World) (h : TkAt w t ⟨#[]⟩ c f) :
    Calls Tryz.prog 199 #[.pointer (some ⟨t, 0, none⟩), .int .i64 d] w fun x w' => x = .returned (.tuple #[.slice none 0 0, .int .i64 0]) ∧ TkAt w' t ⟨#[]⟩ c f ∧ Kept (· = t) w w' := by
  have H := Lib.hid h
  have hlt := h.lt
  have HF := Lib.hid hf
  have hf2 : (f != 0) = true := by simpa using hf
  clear h hf
  go_enter Tryz.func199, Tryz.ntmps199
  go_wp2_with fail
  go_loopw [6] (fun v wr => v = .slice none 0 0 ∧ wr = w) (fun _ _ => 0)
  case atStart => exact ⟨rfl, rfl⟩
  case round =>
    obtain ⟨rfl, rfl⟩ := hrel
    have hb0 := Lib.hid ((Below.refl wr.heap.size wr).alloc (Nat.le_refl _) (.cells #[.int .i64 0, .int .i64 0, .int .i64 0, .int .i64 0, .slice none 0 0, .slice none 0 0, .slice none 0 0] 50))
    have HO := Lib.hid (opcode_dead t wr.heap.size c f HF.out _ (H.out.below hb0.out))
    have HBN := Lib.hid (BlkAt.new wr #[.int .i64 0, .int .i64 0, .int .i64 0, .int .i64 0, .slice none 0 0, .slice none 0 0, .slice none 0 0] 50)
    go_wp2_with (go_at_call 209; refine HO.out.mono ?_; rintro x w1 ⟨rfl, t1, k1⟩; have b1 := HBN.out.kept k1 (by omega); have c0 := b1.cell 0; rw [show (_ : Array Value)[0]? = some (.int .i64 0) from rfl] at c0; have f1 := t1.cell 2; rw [show (_ : Array Value)[2]? = some (.int .i64 f) from rfl] at f1)
    go_quiet (fail)
    go_wp2
    go_ret2
    exact ⟨rfl, t1, (Kept.of_below hb0.out).trans ⟨k1.os, k1.tape, k1.output, k1.size, k1.block⟩⟩
end Go.Proofs.YtekonefnniaheaaGreat

/- The project's reading of a block, and of an instruction, as far as lists are read. -/
namespace Go.Proofs.YtekonefnniaheaaGreat
open Go.RowKit Go.Deep
open Leb (byt byt_lt byt_get)

/-- A step's outcome is what reading comes to, and of what is read this holds. -/
def FitsB {X : Type} (res : Except Int (X × ByteArray)) (r : ByteArray) (f : Int) (Q : X → Prop) : Prop :=
  match res with
  | .ok q => f = 0 ∧ r = q.2 ∧ Q q.1
  | .error e => f = e ∧ e ≠ 0 ∧ r = ⟨#[]⟩
theorem FitsB.cases {X : Type} {res : Except Int (X × ByteArray)} {r : ByteArray} {f : Int} {Q : X → Prop} (h : FitsB res r f Q) : (f = 0 ∧ ∃ x, res = .ok (x, r) ∧ Q x) ∨ (f ≠ 0 ∧ r = ⟨#[]⟩ ∧ res = .error f) := by
  unfold FitsB at h
  cases res with
  | error e =>
    obtain ⟨a, b, c⟩ := h
    exact .inr ⟨by rw [a]; exact b, c, by rw [a]⟩
  | ok q =>
    obtain ⟨a, b, c⟩ := h
    exact .inl ⟨a, q.1, by rw [b], c⟩
theorem Fits.cases {X : Type} {res : Except Int (X × ByteArray)} {x : X} {r : ByteArray} {f : Int} (h : Fits res x r f) : (f = 0 ∧ res = .ok (x, r)) ∨ (f ≠ 0 ∧ r = ⟨#[]⟩ ∧ res = .error f) := by
  unfold Fits at h
  cases res with
  | error e =>
    obtain ⟨a, b, c⟩ := h
    exact .inr ⟨by rw [a]; exact b, c, by rw [a]⟩
  | ok q =>
    obtain ⟨a, b, c⟩ := h
    exact .inl ⟨a, by rw [b, c]⟩
theorem FitsB.mono {X : Type} {res : Except Int (X × ByteArray)} {r : ByteArray} {f : Int} {Q Q' : X → Prop} (h : FitsB res r f Q) (hq : ∀ x, Q x → Q' x) : FitsB res r f Q' := by
  unfold FitsB at h ⊢
  cases res with
  | error e => exact h
  | ok q => exact ⟨h.1, h.2.1, hq _ h.2.2⟩
theorem fitsB_err {X : Type} {r : ByteArray} {f : Int} {Q : X → Prop} (hf : f ≠ 0) (hr : r = ⟨#[]⟩) : FitsB (.error f) r f Q := ⟨rfl, hf, hr⟩
/-- A taker reads lists so, with this much fuel. -/
def ListOk (g : Nat) : Prop := ∀ (t : Nat) (r : ByteArray) (n d : Nat) (w : World), TkAt w t r n 0 → r.size < g → r.size ≤ 1000000000 → d ≤ 32 → n ≤ 8192 →
  Calls Tryz.prog 199 #[.pointer (some ⟨t, 0, none⟩), .int .i64 d] w fun x w' => ∃ x0 len cap last r' c' f', x = .returned (.tuple #[.slice x0 len cap, .int .i64 last]) ∧ TkAt w' t r' c' f' ∧ Kept (· = t) w w' ∧
    FitsB (takeL g r d n) r' f' (fun q => last = q.2.1 ∧ c' = (q.2.2 : Nat) ∧ OwnP (w.heap.size ≤ ·) w' x0 len cap q.1)
/-- Whatever state it is in. -/
theorem list_both (g : Nat) (hL : ListOk g) (t : Nat) (r : ByteArray) (c f : Int) (d : Nat) (w : World) (h : TkAt w t r c f) (hs : (f ≠ 0 ∧ r = ⟨#[]⟩) ∨ (f = 0 ∧ r.size < g ∧ r.size ≤ 1000000000 ∧ d ≤ 32 ∧ ∃ n : Nat, c = n ∧ n ≤ 8192)) :
    Calls Tryz.prog 199 #[.pointer (some ⟨t, 0, none⟩), .int .i64 d] w fun x w' => ∃ x0 len cap last r' c' f', x = .returned (.tuple #[.slice x0 len cap, .int .i64 last]) ∧ TkAt w' t r' c' f' ∧ Kept (· = t) w w' ∧ (f = 0 ∨ last = 0) ∧
      FitsB (if f = 0 then takeL g r d c.toNat else .error f) r' f' (fun q => last = q.2.1 ∧ c' = (q.2.2 : Nat) ∧ OwnP (w.heap.size ≤ ·) w' x0 len cap q.1) := by
  rcases hs with ⟨hf, rfl⟩ | ⟨rfl, h1, h2, h3, n, rfl, h4⟩
  · refine (list_dead t c f d hf w h).mono ?_
    rintro x w' ⟨rfl, t1, k1⟩
    exact ⟨none, 0, 0, 0, _, _, _, rfl, t1, k1, .inr rfl, by rw [if_neg hf]; exact fitsB_err hf rfl⟩
  · refine (hL t r n d w h h1 h2 h3 h4).mono ?_
    rintro x w' ⟨x0, len, cap, last, r', c', f', rfl, t1, k1, hq⟩
    exact ⟨x0, len, cap, last, r', c', f', rfl, t1, k1, .inl rfl, by rw [if_pos rfl, Int.toNat_natCast]; exact hq⟩
/-- What reading a block comes to, whatever state the taker is in. -/
def blockB (g : Nat) (op a b m : Int) (ns : List Int) (r : ByteArray) (d : Nat) (c f : Int) : Except Int ((Ins × Nat) × ByteArray) := if f = 0 then blockT (takeL g) op a b m ns r d c.toNat else .error f
def StOk (g : Nat) (r : ByteArray) (c f : Int) (d : Nat) : Prop := (f ≠ 0 ∧ r = ⟨#[]⟩) ∨ (f = 0 ∧ r.size < g ∧ r.size ≤ 1000000000 ∧ d ≤ 32 ∧ ∃ n : Nat, c = n ∧ n ≤ 8192)
theorem StOk.next {g : Nat} {r r1 : ByteArray} {c f c1 f1 last : Int} {d : Nat} {P : List Ins → Prop} (h : StOk g r c f d) (q1 : FitsB (if f = 0 then takeL g r d c.toNat else .error f) r1 f1 (fun q => last = q.2.1 ∧ c1 = (q.2.2 : Nat) ∧ P q.1)) : StOk g r1 c1 f1 d := by
  rcases q1.cases with ⟨hf, x, hx, h1, h2, h3⟩ | ⟨hf, hr, _⟩
  · rcases h with ⟨h0, _⟩ | ⟨h0, k1, k2, k3, n, k4, k5⟩
    · rw [if_neg h0] at hx
      cases hx
    · rw [if_pos h0, k4, Int.toNat_natCast] at hx
      obtain ⟨g1, g2, g3⟩ := takeL_good g _ _ _ _ hx k5
      exact .inr ⟨hf, Nat.lt_trans g1 k1, Nat.le_trans (Nat.le_of_lt g1) k2, k3, _, h2, g2⟩
  · exact .inl ⟨hf, hr⟩
theorem blk_one {g : Nat} {op a b m : Int} {ns : List Int} {r r1 : ByteArray} {c f c1 f1 last : Int} {d : Nat} {P Q : List Ins → Prop} (h : StOk g r c f (d + 1)) (q1 : FitsB (if f = 0 then takeL g r (d + 1) c.toNat else .error f) r1 f1 (fun q => last = q.2.1 ∧ c1 = (q.2.2 : Nat) ∧ P q.1))
    (hop : ¬ (op = 4 ∧ last = 5)) (hQ : Q []) : FitsB (blockB g op a b m ns r d c f) (ndR (last == 11) f1 r1) (ndF (last == 11) f1 2) (fun q => c1 = (q.2 : Nat) ∧ ∃ l e, q.1 = .mk op a b m ns l e ∧ P l ∧ Q e) := by
  unfold blockB
  rcases q1.cases with ⟨hf, x, hx, h1, h2, h3⟩ | ⟨hf, hr, hx⟩
  · rcases h with ⟨h0, _⟩ | ⟨h0, k1, k2, k3, n, k4, k5⟩
    · rw [if_neg h0] at hx
      cases hx
    · rw [if_pos h0] at hx ⊢
      subst k4
      rw [Int.toNat_natCast] at hx ⊢
      obtain ⟨g1, g2, g3⟩ := takeL_good g _ _ _ _ hx k5
      subst h1
      unfold blockT
      rw [hx]
      show FitsB (if x.2.1 = 11 then _ else _) _ _ _
      by_cases h11 : x.2.1 = 11
      · rw [if_pos h11, h11]
        exact ⟨hf, rfl, h2, x.1, [], rfl, h3, hQ⟩
      · rw [if_neg h11, if_neg (fun q => hop ⟨q, g3.resolve_left h11⟩), eq_no h11, hf]
        exact ⟨rfl, by decide, rfl⟩
  · obtain ⟨e1, e2⟩ := nd_no (p := last == 11) (e := 2) (r := r1) hf
    rw [e1, e2]
    by_cases h0 : f = 0
    · rw [if_pos h0] at hx ⊢
      unfold blockT
      rw [hx]
      exact fitsB_err hf hr
    · rw [if_neg h0] at hx ⊢
      injection hx with hx
      rw [hx]
      exact fitsB_err hf hr
theorem blk_two {g : Nat} {a b m : Int} {ns : List Int} {r r1 r2 : ByteArray} {c f c1 f1 c2 f2 last2 : Int} {d : Nat} {P Q : List Ins → Prop} (h : StOk g r c f (d + 1)) (q1 : FitsB (if f = 0 then takeL g r (d + 1) c.toNat else .error f) r1 f1 (fun q => (5 : Int) = q.2.1 ∧ c1 = (q.2.2 : Nat) ∧ P q.1))
    (q2 : FitsB (if f1 = 0 then takeL g r1 (d + 1) c1.toNat else .error f1) r2 f2 (fun q => last2 = q.2.1 ∧ c2 = (q.2.2 : Nat) ∧ Q q.1)) : FitsB (blockB g 4 a b m ns r d c f) (ndR (last2 == 11) f2 r2) (ndF (last2 == 11) f2 2) (fun q => c2 = (q.2 : Nat) ∧ ∃ l e, q.1 = .mk 4 a b m ns l e ∧ P l ∧ Q e) := by
  unfold blockB
  rcases q1.cases with ⟨hf, x, hx, h1, h2, h3⟩ | ⟨hf, hr, hx⟩
  · rcases h with ⟨h0, _⟩ | ⟨h0, k1, k2, k3, n, k4, k5⟩
    · rw [if_neg h0] at hx
      cases hx
    · rw [if_pos h0] at hx ⊢
      subst k4
      rw [Int.toNat_natCast] at hx ⊢
      rw [if_pos hf, h2, Int.toNat_natCast] at q2
      unfold blockT
      rw [hx]
      show FitsB (if x.2.1 = 11 then _ else if (4 : Int) = 4 then _ else _) _ _ _
      rw [if_neg (by rw [← h1]; decide), if_pos rfl]
      rcases q2.cases with ⟨jf, y, hy, j1, j2, j3⟩ | ⟨jf, jr, hy⟩
      · show FitsB ((takeL g r1 (d + 1) x.2.2).bind _) _ _ _
        rw [hy]
        show FitsB (if y.2.1 = 11 then _ else _) _ _ _
        subst j1
        by_cases h11 : y.2.1 = 11
        · rw [if_pos h11, h11]
          exact ⟨jf, rfl, j2, x.1, y.1, rfl, h3, j3⟩
        · rw [if_neg h11, eq_no h11, jf]
          exact ⟨rfl, by decide, rfl⟩
      · show FitsB ((takeL g r1 (d + 1) x.2.2).bind _) _ _ _
        rw [hy]
        obtain ⟨e1, e2⟩ := nd_no (p := last2 == 11) (e := 2) (r := r2) jf
        rw [e1, e2]
        exact fitsB_err jf jr
  · rw [if_neg hf] at q2
    obtain ⟨p1, p2, p3⟩ := q2
    obtain ⟨e1, e2⟩ := nd_no (p := last2 == 11) (e := 2) (r := r2) (show f2 ≠ 0 by rw [p1]; exact hf)
    rw [e1, e2, p1, p3]
    by_cases h0 : f = 0
    · rw [if_pos h0] at hx ⊢
      unfold blockT
      rw [hx]
      exact fitsB_err hf rfl
    · rw [if_neg h0] at hx ⊢
      injection hx with hx
      rw [hx]
      exact fitsB_err hf rfl
set_option maxRecDepth 100000 in
set_option maxHeartbeats 2000000 in
theorem block_any (g : Nat) (hL : ListOk g) (t b : Nat) (op a b' m : Int) (ns : List Int) (nv : Value) (r : ByteArray) (c f : Int) (d : Nat) (w : World) (h : TkAt w t r c f) (hb : BlkAt w b #[.int .i64 op, .int .i64 a, .int .i64 b', .int .i64 m, nv, .slice none 0 0, .slice none 0 0] 50) (hne : b ≠ t)
    (hs : StOk g r c f (d + 1)) :
    Calls Tryz.prog 217 #[.pointer (some ⟨t, 0, none⟩), .pointer (some ⟨b, 0, none⟩), .int .i64 ((d : Int) + 1)] w fun x w' => ∃ xl ll cl xe le ce r' c' f', x = .returned (.tuple #[]) ∧ TkAt w' t r' c' f' ∧
      BlkAt w' b #[.int .i64 op, .int .i64 a, .int .i64 b', .int .i64 m, nv, .slice xl ll cl, .slice xe le ce] 50 ∧ Kept (fun k => k = t ∨ k = b) w w' ∧
      FitsB (blockB g op a b' m ns r d c f) r' f' (fun q => c' = (q.2 : Nat) ∧ ∃ l e, q.1 = .mk op a b' m ns l e ∧ OwnP (w.heap.size ≤ ·) w' xl ll cl l ∧ OwnP (w.heap.size ≤ ·) w' xe le ce e) := by
  have hlt := h.lt
  have hlb := hb.lt
  have HB := Lib.hid hb
  have H1 := Lib.hid (list_both g hL t r c f (d + 1) w h hs)
  rw [Int.natCast_add] at H1
  have HS := Lib.hid hs
  clear h hb hs
  go_enter Tryz.func217, Tryz.ntmps217
  go_wp2_with (first
    | (go_at_call 199; refine H1.out.mono ?_; rintro x w1 ⟨x0, len, cap, last, r1, c1, f1, rfl, t1, k1, hl1, q1⟩; clear H1
       have b1 := HB.out.kept k1 hne
       have e5 := b1.cell 5
       rw [show (_ : Array Value)[5]? = some (.slice none 0 0) from rfl] at e5
       have e0 := b1.cell 0
       rw [show (_ : Array Value)[0]? = some (.int .i64 op) from rfl] at e0
       have z5 := b1.frozen 5
       have b2 := b1.put 5 (.slice x0 len cap)
       have t2 := t1.other (fun q => hne q.symm) 5 (.slice x0 len cap)
       have HQ1 := Lib.hid q1
       have HS2 := Lib.hid (HS.out.next q1)
       clear q1
       have H2 := Lib.hid (list_both g hL t r1 c1 f1 (d + 1) _ t2 HS2.out)
       rw [Int.natCast_add] at H2)
    | (go_at_call 199; refine H2.out.mono ?_; rintro x w3 ⟨x3, len3, cap3, last2, r2, c2, f2, rfl, t3, k3, hl3, q2⟩; clear H2
       have b3 := b2.kept k3 hne
       have e6 := b3.cell 6
       rw [show (_ : Array Value)[6]? = some (.slice none 0 0) from rfl] at e6
       have z6 := b3.frozen 6
       have b4 := b3.put 6 (.slice x3 len3 cap3)
       have t4 := t3.other (fun q => hne q.symm) 6 (.slice x3 len3 cap3)
       have HQ2 := Lib.hid q2
       clear q2)
    | (go_at_call 200; first | (refine (closed_any t r2 c2 f2 last2 _ t4).mono ?_; rintro x w5 ⟨rfl, t5, k5⟩) | (refine (closed_any t r1 c1 f1 last _ t2).mono ?_; rintro x w5 ⟨rfl, t5, k5⟩)))
  · rename_i h4 h5
    have h5' : last = 5 := by simpa using h5
    subst h5'
    subst h4
    have K1 := (Kept.refl (fun k => k = t ∨ k = b) w1).set (p := ⟨b, 5, none⟩) (.inr rfl) (.slice x0 len cap)
    have K2 := (K1.trans (k3.mono fun _ q => .inl q))
    have K3 := (Kept.refl (fun k => k = t ∨ k = b) w3).set (p := ⟨b, 6, none⟩) (.inr rfl) (.slice x3 len3 cap3)
    have K4 := K3.trans (k5.mono fun _ q => .inl q)
    have hz1 := k1.size
    have hz3 := k3.size
    have hzs : (w1.setCell ⟨b, 5, none⟩ (.slice x0 len cap)).heap.size = w1.heap.size := by simp [World.setCell]
    refine bodyPost_void rfl rfl ⟨x0, len, cap, x3, len3, cap3, _, _, _, rfl, t5, b4.kept k5 hne, ((k1.mono fun _ q => .inl q).trans K2).trans K4, ?_⟩
    refine blk_two HS.out (HQ1.out.mono fun q hq => ⟨hq.1, hq.2.1, hq.2.2.next ((K2.trans K4).agree fun k hk hl => by rintro (q | q) <;> omega) (K2.trans K4).size fun k hk _ => hk⟩) (HQ2.out.mono fun q hq => ⟨hq.1, hq.2.1, hq.2.2.next (K4.agree fun k hk hl => by rintro (q | q) <;> omega) K4.size fun k hk _ => by omega⟩)
  all_goals
    have hop : ¬ (op = 4 ∧ last = 5) := by rintro ⟨p1, p2⟩; simp_all
    have K1 := (Kept.refl (fun k => k = t ∨ k = b) w1).set (p := ⟨b, 5, none⟩) (.inr rfl) (.slice x0 len cap)
    have K2 := (K1.trans (k5.mono fun _ q => .inl q))
    have hz1 := k1.size
    refine bodyPost_void rfl rfl ⟨x0, len, cap, none, 0, 0, _, _, _, rfl, t5, b2.kept k5 hne, (k1.mono fun _ q => .inl q).trans K2, ?_⟩
    exact blk_one HS.out (HQ1.out.mono fun q hq => ⟨hq.1, hq.2.1, hq.2.2.next (K2.agree fun k hk hl => by rintro (q | q) <;> omega) K2.size fun k hk _ => hk⟩) hop (own_nil _ _)
end Go.Proofs.YtekonefnniaheaaGreat

/- The project's reading of an instruction, as far as lists are read. -/
namespace Go.Proofs.YtekonefnniaheaaGreat
open Go.RowKit Go.Deep
open Leb (byt byt_lt byt_get)

theorem shape_err {op : Int} (h : (shapeV op).2 ≠ 0) : (shapeV op).1 = 0 := by
  by_cases hm : op ∈ nameOps
  · exact absurd (by rw [(shapeV_named op hm).1]) h
  · rw [shapeV_other hm] at h ⊢
    split at h
    · exact absurd rfl h
    rename_i h1
    rw [if_neg h1]
    split at h
    · exact absurd rfl h
    rename_i h2
    rw [if_neg h2]
    split
    · rfl
    split
    · rfl
    · rfl
set_option maxRecDepth 100000 in
theorem tf_zero (t b : Nat) (w : World) :
    Calls Tryz.prog 216 #[.pointer (some ⟨t, 0, none⟩), .pointer (some ⟨b, 0, none⟩), .int .i64 0] w fun x w' => x = .returned (.tuple #[]) ∧ w = w' := by
  go_enter Tryz.func216, Tryz.ntmps216
  go_wp2_with fail
  exact bodyPost_void rfl rfl ⟨rfl, rfl⟩
theorem ins_plain {L : ByteArray → Nat → Nat → LRes} {op a b m : Int} {ns : List Int} {r r' : ByteArray} {f' : Int} {d n : Nat} (her : (shapeV op).2 = 0) (h : Fits (numsT op (shapeV op).1 r) (a, b, m, ns) r' f') (h2 : ¬ (shapeV op).1 = 2) :
    FitsB (instrT L op r d n) (ndR (decide ((n : Int) + 1 ≤ 8192)) f' r') (ndF (decide ((n : Int) + 1 ≤ 8192)) f' 14) (fun q => (n : Int) + 1 = (q.2 : Nat) ∧ q.1 = .mk op a b m ns [] []) := by
  unfold instrT
  rw [if_pos her]
  rcases h.cases with ⟨hf, hx⟩ | ⟨hf, hr, hx⟩
  · rw [hx, hf]
    show FitsB (if n + 1 ≤ 8192 then _ else _) _ _ _
    by_cases h8 : n + 1 ≤ 8192
    · rw [if_pos h8, if_neg h2, decide_eq_true (show (n : Int) + 1 ≤ 8192 by omega)]
      exact ⟨rfl, rfl, by show (n : Int) + 1 = ((n + 1 : Nat) : Int); omega, rfl⟩
    · rw [if_neg h8, decide_eq_false (show ¬ (n : Int) + 1 ≤ 8192 by omega)]
      exact ⟨rfl, by decide, rfl⟩
  · rw [hx]
    obtain ⟨e1, e2⟩ := nd_no (p := decide ((n : Int) + 1 ≤ 8192)) (e := 14) (r := r') hf
    rw [e1, e2]
    exact fitsB_err hf hr
theorem ins_block {g : Nat} {op a b m : Int} {ns : List Int} {r r' r4 : ByteArray} {f' f4 : Int} {d n : Nat} {Q : Ins × Nat → Prop} (her : (shapeV op).2 = 0) (h : Fits (numsT op (shapeV op).1 r) (a, b, m, ns) r' f') (h2 : (shapeV op).1 = 2)
    (hq : FitsB (blockB g op a b m ns (ndR (decide ((d : Int) < 32)) (ndF (decide ((n : Int) + 1 ≤ 8192)) f' 14) (ndR (decide ((n : Int) + 1 ≤ 8192)) f' r')) d ((n : Int) + 1) (ndF (decide ((d : Int) < 32)) (ndF (decide ((n : Int) + 1 ≤ 8192)) f' 14) 14)) r4 f4 Q) :
    FitsB (instrT (takeL g) op r d n) r4 f4 Q := by
  unfold instrT
  rw [if_pos her]
  rcases h.cases with ⟨hf, hx⟩ | ⟨hf, hr, hx⟩
  · rw [hx]
    rw [hf] at hq
    show FitsB (if n + 1 ≤ 8192 then _ else _) _ _ _
    by_cases h8 : n + 1 ≤ 8192
    · rw [if_pos h8, if_pos h2]
      rw [decide_eq_true (show (n : Int) + 1 ≤ 8192 by omega)] at hq
      by_cases h32 : d < 32
      · rw [if_pos h32]
        rw [decide_eq_true (show (d : Int) < 32 by omega)] at hq
        have e : (((n : Int) + 1).toNat) = n + 1 := by omega
        have hq' : FitsB (if (0 : Int) = 0 then blockT (takeL g) op a b m ns r' d ((n : Int) + 1).toNat else .error 0) r4 f4 Q := hq
        rw [if_pos rfl, e] at hq'
        exact hq'
      · rw [if_neg h32]
        rw [decide_eq_false (show ¬ (d : Int) < 32 by omega)] at hq
        exact hq
    · rw [if_neg h8]
      rw [decide_eq_false (show ¬ (n : Int) + 1 ≤ 8192 by omega)] at hq
      have e2 := (nd_no (p := decide ((d : Int) < 32)) (e := 14) (r := r') (show (14 : Int) ≠ 0 by decide)).2
      have hq' : FitsB (blockB g op a b m ns (ndR (decide ((d : Int) < 32)) 14 ⟨#[]⟩) d ((n : Int) + 1) (ndF (decide ((d : Int) < 32)) 14 14)) r4 f4 Q := hq
      rw [e2] at hq'
      exact hq'
  · rw [hx]
    obtain ⟨e1, e2⟩ := nd_no (p := decide ((n : Int) + 1 ≤ 8192)) (e := 14) (r := r') hf
    rw [e2, (nd_no (p := decide ((d : Int) < 32)) (e := 14) (r := r') hf).2] at hq
    unfold blockB at hq
    rw [if_neg hf] at hq
    exact hq
theorem ins_st {g : Nat} {r' : ByteArray} {f' : Int} {d n : Nat} (h : (f' = 0 ∧ r'.size < g ∧ r'.size ≤ 1000000000) ∨ (f' ≠ 0 ∧ r' = ⟨#[]⟩)) :
    StOk g (ndR (decide ((d : Int) < 32)) (ndF (decide ((n : Int) + 1 ≤ 8192)) f' 14) (ndR (decide ((n : Int) + 1 ≤ 8192)) f' r')) ((n : Int) + 1) (ndF (decide ((d : Int) < 32)) (ndF (decide ((n : Int) + 1 ≤ 8192)) f' 14) 14) (d + 1) := by
  rcases h with ⟨rfl, h1, h2⟩ | ⟨hf, rfl⟩
  · by_cases h8 : n + 1 ≤ 8192
    · rw [decide_eq_true (show (n : Int) + 1 ≤ 8192 by omega)]
      by_cases h32 : d < 32
      · rw [decide_eq_true (show (d : Int) < 32 by omega)]
        exact .inr ⟨rfl, h1, h2, by omega, n + 1, by omega, h8⟩
      · rw [decide_eq_false (show ¬ (d : Int) < 32 by omega)]
        exact .inl ⟨by decide, rfl⟩
    · rw [decide_eq_false (show ¬ (n : Int) + 1 ≤ 8192 by omega)]
      have e := nd_no (p := decide ((d : Int) < 32)) (e := 14) (f := 14) (r := (⟨#[]⟩ : ByteArray)) (by decide)
      have e1 : ndF false 0 14 = 14 := rfl
      have e2 : ndR false 0 r' = ⟨#[]⟩ := rfl
      rw [e1, e2, e.1, e.2]
      exact .inl ⟨by decide, rfl⟩
  · have e := nd_no (p := decide ((n : Int) + 1 ≤ 8192)) (e := 14) (r := (⟨#[]⟩ : ByteArray)) hf
    rw [e.1, e.2]
    have e3 := nd_no (p := decide ((d : Int) < 32)) (e := 14) (r := (⟨#[]⟩ : ByteArray)) hf
    rw [e3.1, e3.2]
    exact .inl ⟨hf, rfl⟩
/-- Read values of one instruction. -/
def GivesIns (t b : Nat) (op : Int) (res : Except Int ((Ins × Nat) × ByteArray)) (w : World) (x : Ending) (w' : World) : Prop :=
  ∃ a b' m x1 l1 c1 x2 l2 c2 x3 l3 c3 r' c' f', x = .returned (.tuple #[]) ∧ TkAt w' t r' c' f' ∧ BlkAt w' b #[.int .i64 op, .int .i64 a, .int .i64 b', .int .i64 m, .slice x1 l1 c1, .slice x2 l2 c2, .slice x3 l3 c3] 50 ∧ Kept (fun k => k = t ∨ k = b) w w' ∧
    FitsB res r' f' (fun q => c' = (q.2 : Nat) ∧ ElP (w.heap.size ≤ ·) w' q.1 [.int .i64 op, .int .i64 a, .int .i64 b', .int .i64 m, .slice x1 l1 c1, .slice x2 l2 c2, .slice x3 l3 c3])
theorem Ints.stay {B : Nat} {x : Option Addr} {n : List Int} {cap : Nat} {w : World} (h : Ints B (.slice x n.length cap) n w) : (n.length ≤ cap ∧ cap ≤ 9223372036854775807) ∧ ∀ w', Agree (B ≤ ·) w w' → View w' x n.length n := by
  rcases h.2 with ⟨hn, h0⟩ | ⟨g, cap', cur, hn, hb, hg, hc, hm, hcs, htk⟩
  · injection hn with h1 h2 h3
    exact ⟨by omega, fun w' _ => .inl h2⟩
  · injection hn with h1 h2 h3
    subst h1 h3
    unfold maxLen at hm
    refine ⟨by omega, fun w' hw => .inr ⟨g, 0, rfl, fun i hi => ?_⟩⟩
    have hg' := (hw g hb (Array.getElem?_eq_some_iff.1 hg).1).trans hg
    have hc := World.ownsRow.cells h (g := g) rfl i (.int .i64 (n.getD i 0)) (by simp [List.getElem?_eq_getElem hi])
    have hadd : (⟨g, 0, none⟩ : Addr).add i = ⟨g, 0 + i, none⟩ := by unfold Addr.add; split <;> simp_all
    rw [hadd] at hc
    rw [← hc]
    unfold World.cell?
    rw [hg', hg]
set_option maxRecDepth 100000 in
set_option maxHeartbeats 2000000 in
theorem instr_bad (g : Nat) (t b : Nat) (op : Int) (r : ByteArray) (n d : Nat) (w : World) (her : (shapeV op).2 ≠ 0) (h : TkAt w t r n 0) (hb : BlkAt w b #[.int .i64 op, .int .i64 0, .int .i64 0, .int .i64 0, .slice none 0 0, .slice none 0 0, .slice none 0 0] 50) (hne : b ≠ t) (hn : n ≤ 8192) :
    Calls Tryz.prog 210 #[.pointer (some ⟨t, 0, none⟩), .pointer (some ⟨b, 0, none⟩), .int .i64 d] w fun x w' => GivesIns t b op (instrT (takeL g) op r d n) w x w' := by
  have HS := Lib.hid (shape_any op)
  rw [shape_err her] at HS
  have k0 := hb.cell 0
  rw [show (_ : Array Value)[0]? = some (.int .i64 op) from rfl] at k0
  have HB := Lib.hid hb
  have HR : Hid (instrT (takeL g) op r d n = .error (shapeV op).2) := Lib.hid (if_neg her)
  have HER := Lib.hid her
  have he2 : ((shapeV op).2 == 0) = false := eq_no her
  revert HS HR HER he2
  generalize (shapeV op).2 = er
  intro HS HR HER he2
  have HN1 := Lib.hid (need_any t r n 0 er false w h)
  have HZ := Lib.hid (tf_zero t b)
  have wn : IntKind.i64.wrap ((n : Int) + 1) = (n : Int) + 1 := by rw [IntKind.wrap_i64]; omega
  clear h hb her
  go_enter Tryz.func210, Tryz.ntmps210
  go_wp2_with (first
    | (go_at_call 179; refine (HS.out _).mono ?_; rintro x w1 ⟨rfl, rfl⟩)
    | (go_at_call 211; refine HN1.out.mono ?_; rintro x w1 ⟨rfl, t1, k1⟩; clear HN1; have e1 := t1.cell 1; rw [show (_ : Array Value)[1]? = some (.int .i64 (n : Int)) from rfl] at e1; have z1 := t1.frozen 1; have t2 := t1.put 1 (.int .i64 ((n : Int) + 1)))
    | (go_at_call 216; refine (HZ.out _).mono ?_; rintro x w2 ⟨rfl, rfl⟩)
    | (go_at_call 211; refine (need_any t ⟨#[]⟩ ((n : Int) + 1) er 14 (decide ((n : Int) + 1 ≤ 8192)) _ t2).mono ?_; rintro x w3 ⟨rfl, t3, k3⟩))
  obtain ⟨e4, e5⟩ := nd_no (p := decide ((n : Int) + 1 ≤ 8192)) (e := 14) (r := (⟨#[]⟩ : ByteArray)) HER.out
  rw [e4, e5] at t3
  exact bodyPost_void rfl rfl ⟨0, 0, 0, none, 0, 0, none, 0, 0, none, 0, 0, _, _, _, rfl, t3, ((HB.out.kept k1 hne).other hne 1 _).kept k3 hne, (((k1.mono fun _ q => .inl q).set (p := ⟨t, 1, none⟩) (.inl rfl) _).trans (k3.mono fun _ q => .inl q)), by rw [HR.out]; exact fitsB_err HER.out rfl⟩
set_option maxRecDepth 100000 in
set_option maxHeartbeats 2000000 in
theorem instr_good (g : Nat) (hL : ListOk g) (t b : Nat) (op : Int) (r : ByteArray) (n d : Nat) (w : World) (her : (shapeV op).2 = 0) (h : TkAt w t r n 0) (hb : BlkAt w b #[.int .i64 op, .int .i64 0, .int .i64 0, .int .i64 0, .slice none 0 0, .slice none 0 0, .slice none 0 0] 50) (hne : b ≠ t) (hr : r.size < g) (hs : r.size ≤ 1000000000) (hn : n ≤ 8192) (hd : d ≤ 32) :
    Calls Tryz.prog 210 #[.pointer (some ⟨t, 0, none⟩), .pointer (some ⟨b, 0, none⟩), .int .i64 d] w fun x w' => GivesIns t b op (instrT (takeL g) op r d n) w x w' := by
  have HS := Lib.hid (shape_any op)
  rw [her] at HS
  have k0 := hb.cell 0
  rw [show (_ : Array Value)[0]? = some (.int .i64 op) from rfl] at k0
  have HB := Lib.hid hb
  have HER := Lib.hid her
  have HN1 := Lib.hid (need_any t r n 0 0 true w h)
  have hlt := h.lt
  have hlb := hb.lt
  have HSZ : Hid (∀ a b' m ns q, numsT op (shapeV op).1 r = .ok ((a, b', m, ns), q) → q.size < g ∧ q.size ≤ 1000000000) := Lib.hid fun a b' m ns q hq => by
    have : q.size ≤ r.size := numsT_size hq
    omega
  have wn : IntKind.i64.wrap ((n : Int) + 1) = (n : Int) + 1 := by rw [IntKind.wrap_i64]; omega
  have wd : IntKind.i64.wrap ((d : Int) + 1) = (d : Int) + 1 := by rw [IntKind.wrap_i64]; omega
  obtain ⟨sh, hsh⟩ : ∃ sh, (shapeV op).1 = sh := ⟨_, rfl⟩
  rw [hsh] at HS
  have HSH := Lib.hid hsh
  have HF : Hid (∀ w', TkAt w' t r n 0 → BlkAt w' b #[.int .i64 op, .int .i64 0, .int .i64 0, .int .i64 0, .slice none 0 0, .slice none 0 0, .slice none 0 0] 50 → Calls Tryz.prog 216 #[.pointer (some ⟨t, 0, none⟩), .pointer (some ⟨b, 0, none⟩), .int .i64 sh] w' fun x w2 => GivesF t b op sh r n w' x w2) := Lib.hid fun w' h1 h2 => by
    have := tf_any t b op r n w' h1 h2 hne hs her
    rwa [hsh] at this
  clear h hb her hs hr hsh
  by_cases h2 : sh = 2
  · subst h2
    go_enter Tryz.func210, Tryz.ntmps210
    go_wp2_with (first
      | (go_at_call 179; refine (HS.out _).mono ?_; rintro x w1 ⟨rfl, rfl⟩)
      | (go_at_call 211; refine HN1.out.mono ?_; rintro x w1 ⟨rfl, t1, k1⟩; clear HN1)
      | (go_at_call 216; refine (HF.out _ t1 (HB.out.kept k1 hne)).mono ?_; rintro x w2 ⟨a', b', m', x1, c1, ns, r', f', ⟨rfl, t2, b2, k2⟩, q2, i2⟩; clear HF; have e1 := t2.cell 1; rw [show (_ : Array Value)[1]? = some (.int .i64 (n : Int)) from rfl] at e1; have z1 := t2.frozen 1; have t3 := t2.put 1 (.int .i64 ((n : Int) + 1)); have HN2 := Lib.hid (need_any t r' ((n : Int) + 1) f' 14 (decide ((n : Int) + 1 ≤ 8192)) _ t3))
      | (go_at_call 211; refine HN2.out.mono ?_; rintro x w4 ⟨rfl, t4, k4⟩; clear HN2; have HN3 := Lib.hid (need_any t _ ((n : Int) + 1) _ 14 (decide ((d : Int) < 32)) _ t4))
      | (go_at_call 211; refine HN3.out.mono ?_; rintro x w5 ⟨rfl, t5, k5⟩; clear HN3
         have hst : StOk g _ _ _ (d + 1) := ins_st (g := g) (r' := r') (f' := f') (d := d) (n := n) (q2.cases.imp (fun q => ⟨q.1, HSZ.out _ _ _ _ _ (by rw [HSH.out]; exact q.2)⟩) fun q => ⟨q.1, q.2.1⟩)
         have b5 := ((b2.other hne 1 (.int .i64 ((n : Int) + 1))).kept k4 hne).kept k5 hne
         have HBK := Lib.hid (block_any g hL t b op a' b' m' ns _ _ _ _ d _ t5 b5 hne hst))
      | (go_at_call 217; refine HBK.out.mono ?_; rintro x w6 ⟨xl, ll, cl, xe, le, ce, r6, c6, f6, rfl, t6, b6, k6, q6⟩))
    have K3 := (((Kept.refl (fun k => k = t ∨ k = b) w2).set (p := ⟨t, 1, none⟩) (.inl rfl) (.int .i64 ((n : Int) + 1))).trans (k4.mono fun _ q => .inl q)).trans (k5.mono fun _ q => .inl q)
    have K6 := K3.trans k6
    have hz1 := k1.size
    have hz2 := k2.size
    have hz3 := K3.size
    refine bodyPost_void rfl rfl ⟨a', b', m', x1, ns.length, c1, xl, ll, cl, xe, le, ce, _, _, _, rfl, t6, b6, ((k1.mono fun _ q => .inl q).trans k2).trans K6, ?_⟩
    refine (ins_block HER.out (by rw [HSH.out]; exact q2) HSH.out q6).mono ?_
    rintro ⟨i, n'⟩ ⟨q7, l, e, q8, q9, q10⟩
    replace q8 : i = .mk op a' b' m' ns l e := q8
    subst q8
    obtain ⟨j1, j2⟩ := i2.stay
    have hl := q9.eq
    have he := q10.eq
    subst hl he
    refine ⟨q7, x1, c1, xl, cl, xe, ce, rfl, j1, fun w' hw => j2 w' ?_, q9.next (Agree.refl _ _) (Nat.le_refl _) fun k hk _ => by omega, q10.next (Agree.refl _ _) (Nat.le_refl _) fun k hk _ => by omega⟩
    exact hw.next (K6.agree fun k hk hl => by rintro (q | q) <;> omega) K6.size fun k hk _ => by omega
  · have h2' : (sh == 2) = false := eq_no h2
    go_enter Tryz.func210, Tryz.ntmps210
    go_wp2_with (first
      | (go_at_call 179; refine (HS.out _).mono ?_; rintro x w1 ⟨rfl, rfl⟩)
      | (go_at_call 211; refine HN1.out.mono ?_; rintro x w1 ⟨rfl, t1, k1⟩; clear HN1)
      | (go_at_call 216; refine (HF.out _ t1 (HB.out.kept k1 hne)).mono ?_; rintro x w2 ⟨a', b', m', x1, c1, ns, r', f', ⟨rfl, t2, b2, k2⟩, q2, i2⟩; clear HF; have e1 := t2.cell 1; rw [show (_ : Array Value)[1]? = some (.int .i64 (n : Int)) from rfl] at e1; have z1 := t2.frozen 1; have t3 := t2.put 1 (.int .i64 ((n : Int) + 1)))
      | (go_at_call 211; refine (need_any t r' ((n : Int) + 1) f' 14 (decide ((n : Int) + 1 ≤ 8192)) _ t3).mono ?_; rintro x w4 ⟨rfl, t4, k4⟩))
    have K3 := ((Kept.refl (fun k => k = t ∨ k = b) w2).set (p := ⟨t, 1, none⟩) (.inl rfl) (.int .i64 ((n : Int) + 1))).trans (k4.mono fun _ q => .inl q)
    have hz1 := k1.size
    have hz2 := k2.size
    refine bodyPost_void rfl rfl ⟨a', b', m', x1, ns.length, c1, none, 0, 0, none, 0, 0, _, _, _, rfl, t4, (b2.other hne 1 _).kept k4 hne, ((k1.mono fun _ q => .inl q).trans k2).trans K3, ?_⟩
    refine (ins_plain HER.out (by rw [HSH.out]; exact q2) (by rw [HSH.out]; exact h2)).mono ?_
    rintro ⟨i, n'⟩ ⟨q3, q4⟩
    subst q4
    obtain ⟨j1, j2⟩ := i2.stay
    refine ⟨q3, x1, c1, none, 0, none, 0, rfl, j1, fun w' hw => j2 w' ?_, own_nil _ _, own_nil _ _⟩
    exact hw.next (K3.agree fun k hk hl => by rintro (q | q) <;> omega) K3.size fun k hk _ => by omega
theorem instr_any (g : Nat) (hL : ListOk g) (t b : Nat) (op : Int) (r : ByteArray) (n d : Nat) (w : World) (h : TkAt w t r n 0) (hb : BlkAt w b #[.int .i64 op, .int .i64 0, .int .i64 0, .int .i64 0, .slice none 0 0, .slice none 0 0, .slice none 0 0] 50) (hne : b ≠ t) (hr : r.size < g) (hs : r.size ≤ 1000000000) (hn : n ≤ 8192) (hd : d ≤ 32) :
    Calls Tryz.prog 210 #[.pointer (some ⟨t, 0, none⟩), .pointer (some ⟨b, 0, none⟩), .int .i64 d] w fun x w' => GivesIns t b op (instrT (takeL g) op r d n) w x w' := by
  by_cases her : (shapeV op).2 = 0
  · exact instr_good g hL t b op r n d w her h hb hne hr hs hn hd
  · exact instr_bad g t b op r n d w her h hb hne hn
end Go.Proofs.YtekonefnniaheaaGreat

/- The project's reading of lists, and of all. -/
namespace Go.Proofs.YtekonefnniaheaaGreat
open Go.RowKit Go.Deep
open Leb (byt byt_lt byt_get)

theorem info_ins : (Tryz.prog.info? 50).map (fun i => (i.zero, i.size, i.bytes)) = some (some (.agg #[.int .i64 0, .int .i64 0, .int .i64 0, .int .i64 0, .slice none 0 0, .slice none 0 0, .slice none 0 0]), 7, 104) := by kernel_rfl
theorem row_kept {F : Nat → Prop} {B : Nat} {v : Value} {n : Nat} {vs : List Value} {w w' : World} (h : w.ownsRow B 50 7 v n vs) (hk : Kept F w w') (hf : ∀ k, k < w.heap.size → F k → k < B) : w'.ownsRow B 50 7 v n vs := by
  refine ⟨h.1, ?_⟩
  rcases h.2 with hn | ⟨g, cap, cur, rfl, hg, hgg, rest⟩
  · exact .inl hn
  · exact .inr ⟨g, cap, cur, rfl, hg, hk.cells hgg (fun q => by have := hf g (Array.getElem?_eq_some_iff.1 hgg).1 q; omega), rest⟩
theorem row_lt {B : Nat} {v : Value} {n : Nat} {vs : List Value} {w : World} (h : w.ownsRow B 50 7 v n vs) : ∀ k, v.ownBlock = some k → B ≤ k ∧ k < w.heap.size := fun k hk => World.ownsRow.lt h k hk
/-- One element more, behind those that there were. -/
theorem row_snoc {B : Nat} {v : Value} {ls : List Ins} {vs : List Value} {w w4 w5 : World} {o : Obj} {g cap : Nat} {i : Ins} {us : List Value} {P : Nat → Prop}
    (hown : w.ownsRow B 50 7 v ls.length vs) (hel : ElsP (fun k => B ≤ k ∧ some k ≠ v.ownBlock) w ls vs) (hag : Agree (fun k => B ≤ k ∧ some k ≠ v.ownBlock) w w4) (hz : w.heap.size ≤ w4.heap.size)
    (hi : ElP P w4 i us) (hP : ∀ k, P k → w.heap.size ≤ k) (hown5 : w5.ownsRow B 50 7 (.slice (some ⟨g, 0, none⟩) (ls.length + 1) cap) (ls.length + 1) (vs ++ us)) (hg : (w4.alloc o).grownBy w5 v.ownBlock) (hat : v.ownBlock = some g ∨ g = (w4.alloc o).heap.size) (hB : B ≤ w.heap.size) :
    RowP B w5 (.slice (some ⟨g, 0, none⟩) (ls.length + 1) cap) (ls ++ [i]) := by
  have hlt := row_lt hown
  have hza : (w4.alloc o).heap.size = w4.heap.size + 1 := by simp
  have hs5 := hg.size
  have hag5 : ∀ k, k < w4.heap.size → some k ≠ v.ownBlock → w5.heap[k]? = w4.heap[k]? := fun k hk hne => (hg.block k (by omega) hne).trans (heap_alloc_old w4 o hk)
  refine ⟨vs ++ us, by rw [List.length_append, List.length_singleton]; exact hown5, ?_⟩
  refine ElsP.snoc (hel.next (Q := fun k => B ≤ k ∧ some k ≠ (Value.slice (some ⟨g, 0, none⟩) (ls.length + 1) cap).ownBlock) (fun k hk hl => (hag5 k (by omega) hk.2).trans (hag k hk hl)) (by omega) fun k hk hl => ⟨hk.1, ?_⟩) (hi.next (fun k hk hl => hag5 k hl ?_) (by omega) fun k hk hl => ⟨by have := hP k hk; omega, ?_⟩)
  · show some k ≠ some g
    rcases hat with h | h
    · exact fun q => hk.2 (by rw [q, h])
    · exact fun q => by have := Option.some.inj q; omega
  · exact fun q => by have := hlt k q.symm; have := hP k hk; omega
  · show some k ≠ some g
    rcases hat with h | h
    · exact fun q => by have := Option.some.inj q; have := hlt g h; have := hP k hk; omega
    · exact fun q => by have := Option.some.inj q; omega
theorem news7 (w : World) (T : TypeId) (a b c d e f g : Value) : ∀ j u, [a, b, c, d, e, f, g][j]? = some u → (w.alloc (.cells #[a, b, c, d, e, f, g] T)).cell? ((⟨w.heap.size, 0, none⟩ : Addr).add j) = some u := by
  intro j u hj
  have hadd : (⟨w.heap.size, 0, none⟩ : Addr).add j = ⟨w.heap.size, j, none⟩ := by unfold Addr.add; split <;> simp_all
  rw [hadd, (BlkAt.new w #[a, b, c, d, e, f, g] T).cell j, ← hj]
  rw [← Array.getElem?_toList]
theorem one7 (a b c d : Int) (x1 x2 x3 : Option Addr) (l1 c1 l2 c2 l3 c3 : Nat) : ∀ u ∈ [Value.int .i64 a, .int .i64 b, .int .i64 c, .int .i64 d, .slice x1 l1 c1, .slice x2 l2 c2, .slice x3 l3 c3], u.oneCell' = true := by
  intro u hu
  simp only [List.mem_cons, List.not_mem_nil, or_false] at hu
  rcases hu with rfl | rfl | rfl | rfl | rfl | rfl | rfl <;> rfl
/-- How much is behind in a taker. -/
def szAt (w : World) (t : Nat) : Nat := match w.cell? ⟨t, 0, none⟩ with
  | some (.string s) => s.size
  | _ => 0
theorem TkAt.sz {w : World} {t : Nat} {r : ByteArray} {c f : Int} (h : TkAt w t r c f) : szAt w t = r.size := by
  unfold szAt
  rw [h.cell 0]
  rfl
/-- Where a taker's loop stands. -/
def ListRel (G t : Nat) (r0 : ByteArray) (d n0 : Nat) (w : World) (v : Value) (wr : World) : Prop :=
  (∃ ls k r n, RowP w.heap.size wr v ls ∧ TkAt wr t r (n : Nat) 0 ∧ r.size < k ∧ k ≤ G ∧ n ≤ 8192 ∧ ls.length + r.size ≤ r0.size ∧ Kept (· = t) w wr ∧ takeL G r0 d n0 = (takeL k r d n).bind fun q => .ok ((ls ++ q.1.1, q.1.2.1, q.1.2.2), q.2)) ∨
  (∃ x l cap c f, v = .slice x l cap ∧ (∃ vs, wr.ownsRow w.heap.size 50 7 v l vs) ∧ TkAt wr t ⟨#[]⟩ c f ∧ f ≠ 0 ∧ Kept (· = t) w wr ∧ takeL G r0 d n0 = .error f)
/-- What reading a list leaves. -/
def GivesL (G t : Nat) (r0 : ByteArray) (d n0 : Nat) (w : World) (x : Ending) (w' : World) : Prop := ∃ x0 len cap last r' c' f', x = .returned (.tuple #[.slice x0 len cap, .int .i64 last]) ∧ TkAt w' t r' c' f' ∧ Kept (· = t) w w' ∧
  FitsB (takeL G r0 d n0) r' f' (fun q => last = q.2.1 ∧ c' = (q.2.2 : Nat) ∧ OwnP (w.heap.size ≤ ·) w' x0 len cap q.1)
theorem bind_id {X : Type} (res : Except Int X) : (res.bind fun q => .ok q) = res := by cases res <;> rfl
theorem bind_bind {X Y Z : Type} (res : Except Int X) (k : X → Except Int Y) (l : Y → Except Int Z) : (res.bind k).bind l = res.bind fun x => (k x).bind l := by cases res <;> rfl
set_option maxRecDepth 100000 in
set_option maxHeartbeats 4000000 in
theorem list_all : ∀ G, ListOk G := by
  intro G
  induction G using Nat.strongRecOn with
  | _ G IH =>
  intro t r0 n0 d w h hr0 hs0 hd hn0
  show Calls Tryz.prog 199 _ w fun x w' => GivesL G t r0 d n0 w x w'
  have hlt := h.lt
  have HIH := Lib.hid IH
  obtain ⟨i0, hi0, hz0, hz1, hz2⟩ := info_parts info_ins
  have HST : Hid (ListRel G t r0 d n0 w (.slice none 0 0) w) := Lib.hid (.inl ⟨[], G, r0, n0, ⟨[], World.ownsRow_nil _ _ _ _, .nil⟩, h, hr0, Nat.le_refl _, hn0, by simp, Kept.refl _ _, (bind_id _).symm⟩)
  clear IH h hr0 hn0
  go_enter Tryz.func199, Tryz.ntmps199
  go_wp2_with fail
  go_loopw [6] (fun v wr => ListRel G t r0 d n0 w v wr) (fun _ wr => szAt wr t)
  case atStart => exact HST.out
  case round =>
    clear HST
    rcases hrel with ⟨ls, k, r, n, ⟨vs, hown, hel⟩, hT, hk, hkG, hn, hsz, hkp, heq⟩ | ⟨x, l, cap, c, f, rfl, ⟨vs, hown⟩, hT, hf, hkp, heq⟩
    · obtain ⟨k', rfl⟩ : ∃ k', k = k' + 1 := ⟨k - 1, by omega⟩
      have HEQ := Lib.hid heq
      have HOWN := Lib.hid hown
      have HEL := Lib.hid hel
      have HKP := Lib.hid hkp
      have HL := Lib.hid (HIH.out k' (by omega))
      have hzz := hkp.size
      have hb0 := Lib.hid ((Below.refl wr.heap.size wr).alloc (Nat.le_refl _) (.cells #[.int .i64 0, .int .i64 0, .int .i64 0, .int .i64 0, .slice none 0 0, .slice none 0 0, .slice none 0 0] 50))
      have HO := Lib.hid (takerOp_any t wr.heap.size r n _ (hT.below hb0.out) (BlkAt.new wr _ _) (by omega) (by omega))
      have HSZ := Lib.hid hT.sz
      have HRT : Hid (∀ op r1 f1, Fits (opT r) op r1 f1 → (f1 ≠ 0 ∨ op = 11 ∨ op = 5) → ∀ (P : List Ins → Prop), P ls → FitsB (takeL G r0 d n0) r1 f1 (fun q => op = q.2.1 ∧ (n : Int) = (q.2.2 : Nat) ∧ P q.1)) := Lib.hid fun op r1 f1 hf hor P hP => by
        rw [HEQ.out, takeL, bind_bind]
        rcases hf.cases with ⟨hf0, hx⟩ | ⟨hf0, hr, hx⟩
        · rw [hx]
          show FitsB ((if op = 11 ∨ op = 5 then Except.ok (([], op, n), r1) else _).bind _) _ _ _
          rw [if_pos (hor.resolve_left (fun q => q hf0))]
          exact ⟨hf0, rfl, rfl, rfl, by rw [List.append_nil]; exact hP⟩
        · rw [hx]
          exact fitsB_err hf0 hr
      have HGO : Hid (∀ op r1, Fits (opT r) op r1 0 → ¬ op = 11 → ¬ op = 5 → r1.size < r.size ∧ takeL G r0 d n0 = (instrT (takeL k') op r1 d n).bind fun i => (takeL k' i.2 d i.1.2).bind fun r => .ok ((ls ++ [i.1.1] ++ r.1.1, r.1.2.1, r.1.2.2), r.2)) := Lib.hid fun op r1 hf h11 h5 => by
        rcases hf.cases with ⟨_, hx⟩ | ⟨hf0, _⟩
        · refine ⟨opT_size hx, ?_⟩
          rw [HEQ.out, takeL, bind_bind, hx]
          show (if op = 11 ∨ op = 5 then _ else (instrT (takeL k') op r1 d n).bind _).bind _ = _
          rw [if_neg (fun q => q.elim h11 h5), bind_bind]
          congr 1
          funext i
          rw [bind_bind]
          congr 1
          funext q
          show Except.ok ((ls ++ (i.1.1 :: q.1.1), q.1.2.1, q.1.2.2), q.2) = _
          rw [List.append_assoc]
          rfl
        · exact absurd rfl hf0
      obtain ⟨x0, cap, hv, HOW⟩ := RowP.own ⟨vs, hown, hel⟩
      subst hv
      clear heq hown hel hkp hT
      have hwl := row_lt HOWN.out
      go_wp2_with (go_at_call 209; refine HO.out.mono ?_; rintro x w1 ⟨op, r1, f1, ⟨rfl, t1, b1, k1⟩, q1⟩; have c0 := b1.cell 0; rw [show (_ : Array Value)[0]? = some (.int .i64 op) from rfl] at c0; have f2 := t1.cell 2; rw [show (_ : Array Value)[2]? = some (.int .i64 f1) from rfl] at f2; have HQ := Lib.hid q1; clear q1)
      · have h2 : op = 11 := by assumption
        subst h2
        have hzk := k1.size
        have KK := (Kept.of_below (F := fun k => k = t) hb0.out).then k1 (by rintro j hj (q | q); exact q; omega)
        go_quiet (fail)
        go_wp2
        refine bodyPost_ret (v := .tuple #[.slice x0 ls.length cap, .int .i64 (11)]) (by simp [results, Tryz.results199, go_sem]) rfl ⟨x0, ls.length, cap, _, _, _, _, rfl, t1, HKP.out.trans ⟨KK.os, KK.tape, KK.output, KK.size, KK.block⟩, HRT.out _ _ _ HQ.out (.inr (.inl rfl)) _ ?_⟩
        exact HOW.next (fun k hk hl => KK.block k hl (by omega)) KK.size fun k hk _ => hk
      · have h2 : ¬ op = 11 := by assumption
        have h3 : (op == 11) = true ∨ (op == 5) = true := by assumption
        have h5 : op = 5 := by
          rcases h3 with q | q
          · exact absurd (by simpa using q) h2
          · simpa using q
        subst h5
        have hzk := k1.size
        have KK := (Kept.of_below (F := fun k => k = t) hb0.out).then k1 (by rintro j hj (q | q); exact q; omega)
        go_quiet (fail)
        go_wp2
        refine bodyPost_ret (v := .tuple #[.slice x0 ls.length cap, .int .i64 (5)]) (by simp [results, Tryz.results199, go_sem]) rfl ⟨x0, ls.length, cap, _, _, _, _, rfl, t1, HKP.out.trans ⟨KK.os, KK.tape, KK.output, KK.size, KK.block⟩, HRT.out _ _ _ HQ.out (.inr (.inr rfl)) _ ?_⟩
        exact HOW.next (fun k hk hl => KK.block k hl (by omega)) KK.size fun k hk _ => hk
      · have h1 : f1 = 0 := by assumption
        have h2 : ¬ op = 11 := by assumption
        have h3 : (op == 11) = false ∧ (op == 5) = false := by assumption
        subst h1
        have h5 : ¬ op = 5 := by simpa using h3.2
        obtain ⟨g1, g2⟩ := HGO.out op r1 HQ.out h2 h5
        have HG2 := Lib.hid g2
        have hzk := k1.size
        have HI := Lib.hid (instr_any k' HL.out t wr.heap.size op r1 n d w1 t1 b1 (by omega) (by omega) (by omega) hn hd)
        have K1 := Lib.hid ((Kept.of_below (F := fun k => k = t ∨ k = wr.heap.size) hb0.out).trans k1)
        clear h2 h3 g2 h5
        have q3 : ls.length + 1 ≤ maxLen := by unfold maxLen; omega
        have q4 : (ls.length + 1) * 104 ≤ 140737488355328 := by omega
        go_wp2_with (first
          | (go_at_call 210; refine HI.out.mono ?_; rintro x w4 ⟨a', b', m', x1, l1, c1, x2, l2, c2, x3, l3, c3, r4, c4, f4, rfl, t4, b4, k4, q5⟩
             have hz4 := k4.size
             have K4 := K1.out.trans k4
             have hz14 := K4.size
             have hown4 := row_kept HOWN.out K4 (by rintro j hj (q | q) <;> omega)
             have HQ5 := Lib.hid q5
             clear q5
             have v0 := b4.cell 0
             have v1 := b4.cell 1
             have v2 := b4.cell 2
             have v3 := b4.cell 3
             have v4 := b4.cell 4
             have v5 := b4.cell 5
             have v6 := b4.cell 6
             rw [show (_ : Array Value)[0]? = some (.int .i64 op) from rfl] at v0
             rw [show (_ : Array Value)[1]? = some (.int .i64 a') from rfl] at v1
             rw [show (_ : Array Value)[2]? = some (.int .i64 b') from rfl] at v2
             rw [show (_ : Array Value)[3]? = some (.int .i64 m') from rfl] at v3
             rw [show (_ : Array Value)[4]? = some (.slice x1 l1 c1) from rfl] at v4
             rw [show (_ : Array Value)[5]? = some (.slice x2 l2 c2) from rfl] at v5
             rw [show (_ : Array Value)[6]? = some (.slice x3 l3 c3) from rfl] at v6)
          | (at_builtin; refine wpList_append_lies _ rfl _ _ 48 rfl w.heap.size 50 i0 _ 7 104 Tryz.underlying48 hi0 hz0 hz1 hz2 rfl (by decide) _ ls.length vs rfl (World.ownsRow.alloc hown4 _) ⟨w4.heap.size, 0, none⟩ 1 1 [.int .i64 op, .int .i64 a', .int .i64 b', .int .i64 m', .slice x1 l1 c1, .slice x2 l2 c2, .slice x3 l3 c3] rfl rfl (news7 w4 _ _ _ _ _ _ _ _) (one7 _ _ _ _ _ _ _ _ _ _ _ _ _) (by decide) q3 q4 (le_alloc (show w.heap.size ≤ w4.heap.size by omega)) _ rfl ?_; intro g cap5 w5 hown5 hg5 hat5 hlt5))
        have hg6 : World.grownBy (w4.alloc (.cells #[.int .i64 op, .int .i64 a', .int .i64 b', .int .i64 m', .slice x1 l1 c1, .slice x2 l2 c2, .slice x3 l3 c3] 50)) w5 (Value.slice x0 ls.length cap).ownBlock := hg5
        have hat6 : (Value.slice x0 ls.length cap).ownBlock = some g ∨ g = (w4.alloc (.cells #[.int .i64 op, .int .i64 a', .int .i64 b', .int .i64 m', .slice x1 l1 c1, .slice x2 l2 c2, .slice x3 l3 c3] 50)).heap.size := hat5
        have KG : Kept (fun k => some k = (Value.slice x0 ls.length cap).ownBlock) (w4.alloc (.cells #[.int .i64 op, .int .i64 a', .int .i64 b', .int .i64 m', .slice x1 l1 c1, .slice x2 l2 c2, .slice x3 l3 c3] 50)) w5 := ⟨hg6.os, hg6.tape, hg6.output, hg6.size, fun k hk hf => hg6.block k hk hf⟩
        have hba : Below w4.heap.size w4 (w4.alloc (.cells #[.int .i64 op, .int .i64 a', .int .i64 b', .int .i64 m', .slice x1 l1 c1, .slice x2 l2 c2, .slice x3 l3 c3] 50)) := (Below.refl _ _).alloc (Nat.le_refl _) _
        have t5 : TkAt w5 t r4 c4 f4 := (t4.below hba).kept KG (fun q => by have := hwl t q.symm; omega)
        have K5 : Kept (· = t) w w5 := HKP.out.then ((K4.mono (G := fun k => k = t ∨ k = wr.heap.size ∨ some k = (Value.slice x0 ls.length cap).ownBlock) (by rintro j (q | q); exact .inl q; exact .inr (.inl q))).trans ((Kept.of_below hba).trans (KG.mono fun j q => .inr (.inr q)))) (by
          rintro j hj (q | q | q)
          · exact q
          · omega
          · have := hwl j q.symm
            omega)
        have hk1s := K1.out.size
        rcases HQ5.out.cases with ⟨hf4, ⟨i, n'⟩, hx, hc4, hel⟩ | ⟨hf4, hr4, hx⟩
        · subst hf4
          obtain ⟨j1, j2⟩ := instrT_good (takeL_good k') hx
          replace j1 : r4.size ≤ r1.size := j1
          replace j2 : n' ≤ 8192 := j2
          replace hc4 : c4 = (n' : Nat) := hc4
          subst hc4
          refine ⟨.inl ⟨ls ++ [i], k', r4, n', ?_, t5, by omega, by omega, j2, by rw [List.length_append, List.length_singleton]; omega, K5, ?_⟩, ?_⟩
          · exact row_snoc HOWN.out HEL.out (K4.agree fun k hk hl => by rintro (q | q) <;> omega) hz14 hel (fun k hk => by omega) hown5 hg6 hat6 hzz
          · rw [HG2.out, hx]
            rfl
          · rw [t5.sz, HSZ.out]
            omega
        · subst hr4
          refine ⟨.inr ⟨_, _, _, _, _, rfl, ⟨_, hown5⟩, t5, hf4, K5, ?_⟩, ?_⟩
          · rw [HG2.out, hx]
            rfl
          · rw [t5.sz, HSZ.out]
            show 0 < r.size
            omega
      · have h1 : ¬ f1 = 0 := by assumption
        have hzk := k1.size
        have KK := (Kept.of_below (F := fun k => k = t) hb0.out).then k1 (by rintro j hj (q | q); exact q; omega)
        go_quiet (fail)
        go_wp2
        refine bodyPost_ret (v := .tuple #[.slice x0 ls.length cap, .int .i64 (op)]) (by simp [results, Tryz.results199, go_sem]) rfl ⟨x0, ls.length, cap, _, _, _, _, rfl, t1, HKP.out.trans ⟨KK.os, KK.tape, KK.output, KK.size, KK.block⟩, HRT.out _ _ _ HQ.out (.inl h1) _ ?_⟩
        exact HOW.next (fun k hk hl => KK.block k hl (by omega)) KK.size fun k hk _ => hk
    · have hzz := hkp.size
      have HKP := Lib.hid hkp
      have HEQ := Lib.hid heq
      have HF := Lib.hid hf
      have hf2 : (f != 0) = true := by simpa using hf
      have hb0 := Lib.hid ((Below.refl wr.heap.size wr).alloc (Nat.le_refl _) (.cells #[.int .i64 0, .int .i64 0, .int .i64 0, .int .i64 0, .slice none 0 0, .slice none 0 0, .slice none 0 0] 50))
      have HO := Lib.hid (opcode_dead t wr.heap.size c f hf _ (hT.below hb0.out))
      have HBN := Lib.hid (BlkAt.new wr #[.int .i64 0, .int .i64 0, .int .i64 0, .int .i64 0, .slice none 0 0, .slice none 0 0, .slice none 0 0] 50)
      clear heq hown hkp hT hf
      go_wp2_with (go_at_call 209; refine HO.out.mono ?_; rintro y w1 ⟨rfl, t1, k1⟩; have b1 := HBN.out.kept k1 (by omega); have c0 := b1.cell 0; rw [show (_ : Array Value)[0]? = some (.int .i64 0) from rfl] at c0; have f1 := t1.cell 2; rw [show (_ : Array Value)[2]? = some (.int .i64 f) from rfl] at f1)
      have KK := (Kept.of_below (F := fun k => k = t) hb0.out).trans k1
      go_quiet (fail)
      go_wp2
      refine bodyPost_ret (v := .tuple #[.slice x l cap, .int .i64 0]) (by simp [results, Tryz.results199, go_sem]) rfl ⟨x, l, cap, _, _, _, _, rfl, t1, HKP.out.trans ⟨KK.os, KK.tape, KK.output, KK.size, KK.block⟩, by rw [HEQ.out]; exact fitsB_err HF.out rfl⟩
end Go.Proofs.YtekonefnniaheaaGreat

/- The project's reading, whole. -/
namespace Go.Proofs.YtekonefnniaheaaGreat
open Go.RowKit Go.Deep
open Leb (byt byt_lt byt_get)

/-- What reading comes to: instructions, and what is behind their end. -/
def takeT (s : ByteArray) : Except Int (List Ins × ByteArray) := (takeL (s.size + 1) s 0 0).bind fun q => if q.1.2.1 = 11 then .ok (q.1.1, q.2) else .error 2
/-- What reading leaves. -/
def GivesT (s : ByteArray) (w : World) (x : Ending) (w' : World) : Prop := ∃ x0 len cap r f, x = .returned (.tuple #[.slice x0 len cap, .string r, .int .i64 f]) ∧ Below w.heap.size w w' ∧ (f ≠ 0 → x0 = none ∧ len = 0 ∧ cap = 0) ∧ FitsB (takeT s) r f (fun ls => OwnP (w.heap.size ≤ ·) w' x0 len cap ls)
theorem take_end {s r : ByteArray} {f last : Int} {P : List Ins → Prop} (h : FitsB (takeL (s.size + 1) s 0 0) r f (fun q => last = q.2.1 ∧ P q.1)) :
    FitsB (takeT s) (ndR (last == 11) f r) (ndF (last == 11) f 2) P := by
  unfold takeT
  rcases h.cases with ⟨hf, x, hx, h1, h2⟩ | ⟨hf, hr, hx⟩
  · rw [hx]
    show FitsB (if x.2.1 = 11 then _ else _) _ _ _
    subst h1
    by_cases h11 : x.2.1 = 11
    · rw [if_pos h11, h11]
      exact ⟨hf, rfl, h2⟩
    · rw [if_neg h11, eq_no h11, hf]
      exact ⟨rfl, by decide, rfl⟩
  · rw [hx]
    obtain ⟨e1, e2⟩ := nd_no (p := last == 11) (e := 2) (r := r) hf
    rw [e1, e2]
    exact fitsB_err hf hr
set_option maxRecDepth 100000 in
set_option maxHeartbeats 1000000 in
theorem Take_any (s : ByteArray) (hs : s.size ≤ 1000000000) (w : World) :
    Calls Tryz.prog 188 #[.string s] w fun x w' => GivesT s w x w' := by
  have hb0 : Below w.heap.size w (w.alloc (.cells #[.string s, .int .i64 0, .int .i64 0] 208)) := (Below.refl _ _).alloc (Nat.le_refl _) _
  have HL := Lib.hid (list_all (s.size + 1) w.heap.size s 0 0 _ (BlkAt.new w #[.string s, .int .i64 ((0 : Nat) : Int), .int .i64 0] 208) (Nat.lt_succ_self _) hs (by decide) (by decide))
  have HB0 := Lib.hid hb0
  clear hb0
  go_enter Tryz.func188, Tryz.ntmps188
  go_wp2_with (first
    | (go_at_call 199; refine HL.out.mono ?_; rintro x w1 ⟨x0, len, cap, last, r1, c1, f1, rfl, t1, k1, q1⟩)
    | (go_at_call 200; refine (closed_any w.heap.size r1 c1 f1 last _ t1).mono ?_; rintro x w2 ⟨rfl, t2, k2⟩
       have c0 := t2.cell 0
       rw [show (_ : Array Value)[0]? = some (.string (ndR (last == 11) f1 r1)) from rfl] at c0
       have c2 := t2.cell 2
       rw [show (_ : Array Value)[2]? = some (.int .i64 (ndF (last == 11) f1 2)) from rfl] at c2
       have hq2 := take_end (q1.mono fun q hq => And.intro hq.1 hq.2.2)
       have HQ2 := Lib.hid hq2
       clear q1 hq2))
  · have hne : ndF (last == 11) f1 2 ≠ 0 := by
      have h : (ndF (last == 11) f1 2 != 0) = true := by assumption
      simpa using h
    have KK := (Kept.of_below (F := fun _ => False) HB0.out).then (k1.trans k2) (by intro j hj q; omega)
    have hbf := KK.below (Nat.le_refl _) (fun _ q => q.elim)
    go_quiet (fail)
    go_wp2
    refine bodyPost_ret (v := .tuple #[.slice none 0 0, .string ⟨#[]⟩, .int .i64 (ndF (last == 11) f1 2)]) (by simp [results, Tryz.results188, go_sem]) rfl ⟨none, 0, 0, _, _, rfl, below_drewN hbf _, fun _ => ⟨rfl, rfl, rfl⟩, ?_⟩
    rcases HQ2.out.cases with ⟨h0, _⟩ | ⟨h0, h1, h2⟩
    · exact absurd h0 hne
    · rw [h2]
      exact fitsB_err h0 rfl
  · have heq : ndF (last == 11) f1 2 = 0 := by
      have h : (ndF (last == 11) f1 2 != 0) = false := by assumption
      simpa using h
    have KK := (Kept.of_below (F := fun _ => False) HB0.out).then (k1.trans k2) (by intro j hj q; omega)
    have hbf := KK.below (Nat.le_refl _) (fun _ q => q.elim)
    go_quiet (fail)
    go_wp2
    refine bodyPost_ret (v := .tuple #[.slice x0 len cap, .string (ndR (last == 11) f1 r1), .int .i64 0]) (by simp [results, Tryz.results188, go_sem]) rfl ⟨x0, len, cap, _, _, rfl, below_drewN hbf _, fun h => absurd rfl h, ?_⟩
    have hq := HQ2.out
    rw [heq] at hq
    have hz1 := HB0.out.size
    refine hq.mono fun ls ho => ?_
    have hza : (w.alloc (.cells #[.string s, .int .i64 ((0 : Nat) : Int), .int .i64 0] 208)).heap.size = w.heap.size + 1 := by simp
    exact ho.next (fun k hk hl => k2.block k hl (fun q => by omega)) k2.size fun k hk _ => Nat.le_trans hz1 hk
end Go.Proofs.YtekonefnniaheaaGreat
