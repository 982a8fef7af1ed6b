/- The project's taker: what it holds, and its smallest steps. -/
import Derived.Test.YtgacnelpdhmeiaaInsP2
import Derived.Test.YtgacnelpdhmeiaaInsLR
import Derived.Test.YtgacnelpdhmeiaaInsI
namespace Go.Proofs.Ytgacnelpdhmeiaa
open Go.RowKit
open Leb (byt byt_lt byt_get)

/-- Of what was there, only these blocks may have turned. -/
structure Kept (F : Nat → Prop) (w w' : World) : Prop where
  os : w'.os = w.os
  tape : w'.tape = w.tape
  output : w'.output = w.output
  size : w.heap.size ≤ w'.heap.size
  block : ∀ k, k < w.heap.size → ¬ F k → w'.heap[k]? = w.heap[k]?
theorem Kept.refl (F : Nat → Prop) (w : World) : Kept F w w := ⟨rfl, rfl, rfl, Nat.le_refl _, fun _ _ _ => rfl⟩
theorem Kept.trans {F : Nat → Prop} {a b c : World} (h : Kept F a b) (k : Kept F b c) : Kept F a c :=
  ⟨k.os.trans h.os, k.tape.trans h.tape, k.output.trans h.output, Nat.le_trans h.size k.size, fun i hi hf => (k.block i (Nat.lt_of_lt_of_le hi h.size) hf).trans (h.block i hi hf)⟩
theorem Kept.of_below {F : Nat → Prop} {w w' : World} (h : Below w.heap.size w w') : Kept F w w' := ⟨h.os, h.tape, h.output, h.size, fun k hk _ => h.block k hk⟩
theorem Kept.set {F : Nat → Prop} {a w : World} (h : Kept F a w) {p : Addr} (hp : F p.block) (u : Value) : Kept F a (w.setCell p u) :=
  h.trans ⟨rfl, rfl, rfl, by simp [World.setCell], fun k _ hf => Below.heap_setCell _ _ _ _ (fun e => hf (e ▸ hp))⟩
theorem Kept.mono {F G : Nat → Prop} {w w' : World} (h : Kept F w w') (hf : ∀ k, F k → G k) : Kept G w w' := ⟨h.os, h.tape, h.output, h.size, fun k hk hg => h.block k hk (fun h => hg (hf k h))⟩
theorem Kept.below {F : Nat → Prop} {B : Nat} {w w' : World} (h : Kept F w w') (hB : B ≤ w.heap.size) (hf : ∀ k, F k → B ≤ k) : Below B w w' :=
  ⟨h.os, h.tape, h.output, h.size, fun k hk => h.block k (by omega) (fun hF => by have := hf k hF; omega)⟩
theorem Kept.cells {F : Nat → Prop} {w w' : World} (h : Kept F w w') {k : Nat} {o : Obj} (hk : w.heap[k]? = some o) (hf : ¬ F k) : w'.heap[k]? = some o := (h.block k (Array.getElem?_eq_some_iff.1 hk).1 hf).trans hk
/-- Blocks of cells. -/
def BlkAt (w : World) (b : Nat) (cs : Array Value) (T : TypeId) : Prop := w.heap[b]? = some (.cells cs T (0, 0))
theorem BlkAt.lt {w : World} {b : Nat} {cs : Array Value} {T : TypeId} (h : BlkAt w b cs T) : b < w.heap.size := (Array.getElem?_eq_some_iff.1 h).1
theorem BlkAt.below {w w' : World} {b : Nat} {cs : Array Value} {T : TypeId} (h : BlkAt w b cs T) (hb : Below w.heap.size w w') : BlkAt w' b cs T := (hb.block b h.lt).trans h
theorem BlkAt.kept {F : Nat → Prop} {w w' : World} {b : Nat} {cs : Array Value} {T : TypeId} (h : BlkAt w b cs T) (hk : Kept F w w') (hf : ¬ F b) : BlkAt w' b cs T := hk.cells h hf
theorem BlkAt.cell {w : World} {b : Nat} {cs : Array Value} {T : TypeId} (h : BlkAt w b cs T) (i : Nat) : w.cell? ⟨b, i, none⟩ = cs[i]? := by
  unfold World.cell?
  rw [show w.heap[(⟨b, i, none⟩ : Addr).block]? = some (.cells cs T (0, 0)) from h]
  rfl
theorem BlkAt.frozen {w : World} {b : Nat} {cs : Array Value} {T : TypeId} (h : BlkAt w b cs T) (i : Nat) : w.frozen? ⟨b, i, none⟩ = false := by
  unfold World.frozen?
  rw [show w.heap[(⟨b, i, none⟩ : Addr).block]? = some (.cells cs T (0, 0)) from h]
  simp
theorem BlkAt.put {w : World} {b : Nat} {cs : Array Value} {T : TypeId} (h : BlkAt w b cs T) (i : Nat) (v : Value) : BlkAt (w.setCell ⟨b, i, none⟩ v) b (cs.setIfInBounds i v) T := by
  unfold BlkAt at h ⊢
  simp only [World.setCell, Array.getElem?_modify, if_pos, h, Option.map_some]
  simp
theorem BlkAt.other {w : World} {b b' : Nat} {cs : Array Value} {T : TypeId} (h : BlkAt w b cs T) (hne : b ≠ b') (i : Nat) (v : Value) : BlkAt (w.setCell ⟨b', i, none⟩ v) b cs T :=
  (Below.heap_setCell _ _ _ _ (fun e => hne e)).trans h
theorem BlkAt.new (w : World) (cs : Array Value) (T : TypeId) : BlkAt (w.alloc (.cells cs T)) w.heap.size cs T := heap_alloc_new w _
/-- What a taker holds: what is behind, how many there were, the first fault. -/
def TkAt (w : World) (t : Nat) (r : ByteArray) (c f : Int) : Prop := BlkAt w t #[.string r, .int .i64 c, .int .i64 f] 65
theorem bodyPost_void {P : Program} {fn : Func} {R : Ending → World → Prop} {a : Act} {w : World} (hr : fn.results = #[]) (hd : a.defers = []) (hR : R (.returned (.tuple #[])) w) : bodyPost P fn R .normal a w :=
  ⟨hd, .tuple #[], by simp [results, hr, go_sem], hR⟩
/-- What stays of what is behind, and of the fault, when something is taken. -/
def tkR (f : Int) (b r : ByteArray) : ByteArray := if f = 0 then b else r
def tkF (f e : Int) : Int := if f = 0 then e else f
def ndR (p : Bool) (f : Int) (r : ByteArray) : ByteArray := if p = true then r else tkR f ⟨#[]⟩ r
def ndF (p : Bool) (f e : Int) : Int := if p = true then f else tkF f e
set_option maxRecDepth 100000 in
theorem took_any (t : Nat) (r b : ByteArray) (c f e : Int) (w : World) (h : TkAt w t r c f) :
    Calls Try.prog 65 #[.pointer (some ⟨t, 0, none⟩), .string b, .int .i64 e] w fun x w' => x = .returned (.tuple #[]) ∧ TkAt w' t (tkR f b r) c (tkF f e) ∧ Kept (· = t) w w' := by
  have d0 := h.cell 0
  have d2 := h.cell 2
  have z0 := h.frozen 0
  have z2 := h.frozen 2
  simp at d0 d2
  have H := Lib.hid h
  clear h
  unfold tkR tkF
  by_cases hf : f = 0
  · subst hf
    rw [if_pos rfl, if_pos rfl]
    have HN : Hid (TkAt ((w.setCell ⟨t, 0, none⟩ (.string b)).setCell ⟨t, 2, none⟩ (.int .i64 e)) t b c e) := Lib.hid ((H.out.put 0 (.string b)).put 2 (.int .i64 e))
    have HK : Hid (Kept (· = t) w ((w.setCell ⟨t, 0, none⟩ (.string b)).setCell ⟨t, 2, none⟩ (.int .i64 e))) := Lib.hid (((Kept.refl (· = t) w).set (p := ⟨t, 0, none⟩) rfl _).set (p := ⟨t, 2, none⟩) rfl _)
    go_enter Try.func65, Try.ntmps65
    go_wp2_with fail
    exact bodyPost_void rfl rfl ⟨rfl, HN.out, HK.out⟩
  · rw [if_neg hf, if_neg hf]
    have hf2 := eq_no hf
    clear hf
    go_enter Try.func65, Try.ntmps65
    go_wp2_with fail
    exact bodyPost_void rfl rfl ⟨rfl, H.out, Kept.refl _ _⟩
theorem need_any (t : Nat) (r : ByteArray) (c f e : Int) (p : Bool) (w : World) (h : TkAt w t r c f) :
    Calls Try.prog 49 #[.pointer (some ⟨t, 0, none⟩), .bool p, .int .i64 e] w fun x w' => x = .returned (.tuple #[]) ∧ TkAt w' t (ndR p f r) c (ndF p f e) ∧ Kept (· = t) w w' := by
  have HT := Lib.hid (took_any t r ⟨#[]⟩ c f e w h)
  have H := Lib.hid h
  clear h
  unfold ndR ndF
  cases p
  · rw [if_neg (show ¬ false = true by decide), if_neg (show ¬ false = true by decide)]
    go_enter Try.func49, Try.ntmps49
    go_wp2_with (go_at_call 65; refine HT.out.mono ?_; rintro x w1 ⟨rfl, h1, h2⟩)
    exact bodyPost_void rfl rfl ⟨rfl, h1, h2⟩
  · rw [if_pos rfl, if_pos rfl]
    go_enter Try.func49, Try.ntmps49
    go_wp2_with fail
    exact bodyPost_void rfl rfl ⟨rfl, H.out, Kept.refl _ _⟩
/-- The number that closes. -/
theorem closed_any (t : Nat) (r : ByteArray) (c f last : Int) (w : World) (h : TkAt w t r c f) :
    Calls Try.prog 37 #[.pointer (some ⟨t, 0, none⟩), .int .i64 last] w fun x w' => x = .returned (.tuple #[]) ∧ TkAt w' t (ndR (last == 11) f r) c (ndF (last == 11) f 2) ∧ Kept (· = t) w w' := by
  have HT := Lib.hid (need_any t r c f 2 (last == 11) w h)
  clear h
  by_cases hl : last = 11
  · subst hl
    go_enter Try.func37, Try.ntmps37
    go_wp2_with (go_at_call 49; refine HT.out.mono ?_; rintro x w1 ⟨rfl, h1, h2⟩)
    exact bodyPost_void rfl rfl ⟨rfl, h1, h2⟩
  · have hl2 := eq_no hl
    rw [hl2] at HT ⊢
    clear hl
    go_enter Try.func37, Try.ntmps37
    go_wp2_with (go_at_call 49; refine HT.out.mono ?_; rintro x w1 ⟨rfl, h1, h2⟩)
    exact bodyPost_void rfl rfl ⟨rfl, h1, h2⟩
/-- What a step leaves that takes a value into a place. -/
def Took (t : Nat) (r' : ByteArray) (c f' : Int) (b : Nat) (cs' : Array Value) (T : TypeId) (w : World) (x : Ending) (w' : World) : Prop :=
  x = .returned (.tuple #[]) ∧ TkAt w' t r' c f' ∧ BlkAt w' b cs' T ∧ Kept (fun k => k = t ∨ k = b) w w'
set_option maxRecDepth 100000 in
theorem number_any (t b i : Nat) (cs : Array Value) (T : TypeId) (r : ByteArray) (c f z : Int) (w : World) (h : TkAt w t r c f) (hb : BlkAt w b cs T) (hne : b ≠ t) (hi : cs[i]? = some (.int .i64 z)) (hs : r.size ≤ maxLen) :
    Calls Try.prog 66 #[.pointer (some ⟨t, 0, none⟩), .pointer (some ⟨b, i, none⟩)] w fun x w' => Took t (tkR f (uR r) r) c (tkF f (uE r)) b (cs.setIfInBounds i (.int .i64 (uN r))) T w x w' := by
  have d0 := h.cell 0
  simp at d0
  have HU := Lib.hid (fun w => TakeU_any r hs w)
  unfold uTup at HU
  have H := Lib.hid h
  have HB := Lib.hid hb
  clear h hb hs
  revert HU
  generalize uN r = n
  generalize uR r = r2
  generalize uE r = e2
  intro HU
  go_enter Try.func66, Try.ntmps66
  go_wp2_with (first
    | (go_at_call 79; refine (HU.out _).mono ?_; rintro x w1 ⟨rfl, hb1⟩
       have k1 := (HB.out.below hb1).cell i
       rw [hi] at k1
       have k2 := (HB.out.below hb1).frozen i)
    | (go_at_call 65; refine (took_any t r r2 c f e2 _ ((H.out.below hb1).other (fun q => hne q.symm) i _)).mono ?_; rintro x w3 ⟨rfl, h3, hk3⟩))
  exact bodyPost_void rfl rfl ⟨rfl, h3, (((HB.out.below hb1).put i _).kept hk3 hne), ((Kept.of_below hb1).set (p := ⟨b, i, none⟩) (.inr rfl) _).trans (hk3.mono fun k q => .inl q)⟩
end Go.Proofs.Ytgacnelpdhmeiaa
