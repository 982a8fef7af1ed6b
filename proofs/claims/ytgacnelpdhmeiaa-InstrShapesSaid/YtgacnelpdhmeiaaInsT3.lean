/- What reading comes to; the project's reading of types, places, constants. -/
import Derived.Test.YtgacnelpdhmeiaaInsT2
namespace Go.Proofs.Ytgacnelpdhmeiaa
open Go.RowKit
open Leb (byt byt_lt byt_get)

theorem Kept.then {F G : Nat → Prop} {a b c : World} (h : Kept F a b) (k : Kept G b c) (hg : ∀ i, i < a.heap.size → G i → F i) : Kept F a c :=
  ⟨k.os.trans h.os, k.tape.trans h.tape, k.output.trans h.output, Nat.le_trans h.size k.size, fun i hi hf => (k.block i (Nat.lt_of_lt_of_le hi h.size) (fun q => hf (hg i hi q))).trans (h.block i hi hf)⟩
/-- What reading a number comes to: it and what is behind, or a fault. -/
def uT (s : ByteArray) : Except Int (Int × ByteArray) := if okU s = true then .ok (uN s, uR s) else .error 2
def sT (s : ByteArray) (most : Nat) (half : Int) : Except Int (Int × ByteArray) := if okS s most half = true then .ok (sN s most half, sR s most half) else .error 2
def aT (s : ByteArray) : Except Int (List Int × ByteArray) := if (allRes s 1000).2.2 = 0 then .ok ((allRes s 1000).1, (allRes s 1000).2.1) else .error (allRes s 1000).2.2
def yT (s : ByteArray) : Except Int (Int × ByteArray) := if tyE s = 0 then .ok (tyN s, tyR s) else .error (tyE s)
def typesT (s : ByteArray) : Except Int (Int × ByteArray) := (uT s).bind fun q => if q.1 = 1 then yT q.2 else .error 2
def nullT (s : ByteArray) : Except Int (Int × ByteArray) := (yT s).bind fun q => if q.1 = 112 then .ok q else .error 2
def placeT (s : ByteArray) : Except Int ((Int × Int × Int) × ByteArray) := (uT s).bind fun q => if 128 ≤ q.1 then .error 2 else if 64 ≤ q.1 then (uT q.2).bind fun p => (uT p.2).bind fun o => .ok ((o.1, q.1 - 64, p.1), o.2) else (uT q.2).bind fun o => .ok ((o.1, q.1, 0), o.2)
def blkT (s : ByteArray) : Except Int (Int × ByteArray) :=
  if 0 < s.size ∧ 64 ≤ byt s 0 ∧ byt s 0 < 128 then (if byt s 0 = 64 then .ok (-64, s.extract 1 s.size) else (yT s).bind fun q => .ok ((byt s 0 : Int) - 128, q.2))
  else (sT s 5 4294967296).bind fun q => if q.1 < 0 then .error 2 else .ok q
/-- A step's outcome is what reading comes to. -/
def Fits {X : Type} (res : Except Int (X × ByteArray)) (x : X) (r : ByteArray) (f : Int) : Prop :=
  match res with
  | .ok q => f = 0 ∧ x = q.1 ∧ r = q.2
  | .error e => f = e ∧ e ≠ 0 ∧ r = ⟨#[]⟩
theorem fits_u (s : ByteArray) : Fits (uT s) (uN s) (uR s) (uE s) := by
  unfold uT Fits uE
  by_cases h : okU s = true
  · simp [h]
  · rw [if_neg h, if_neg h]
    exact ⟨rfl, by decide, if_neg h⟩
theorem fits_s (s : ByteArray) (most : Nat) (half : Int) : Fits (sT s most half) (sN s most half) (sR s most half) (sE s most half) := by
  unfold sT Fits sE
  by_cases h : okS s most half = true
  · simp [h]
  · rw [if_neg h, if_neg h]
    exact ⟨rfl, by decide, if_neg h⟩
theorem fits_y (s : ByteArray) : Fits (yT s) (tyN s) (tyR s) (tyE s) := by
  unfold yT Fits
  by_cases h : tyE s = 0
  · rw [if_pos h]
    exact ⟨h, rfl, rfl⟩
  · rw [if_neg h]
    exact ⟨rfl, h, if_neg h⟩
theorem allRes_fault (s : ByteArray) (most : Int) (h : (allRes s most).2.2 ≠ 0) : (allRes s most).2.1 = ⟨#[]⟩ := by
  unfold allRes at h ⊢
  split
  · split
    · rfl
    · rename_i h1 h2
      rw [if_pos h1, if_neg h2] at h
      cases hr : rowsF (Leb.sum7 s (Leb.len7 s 5)) [] (s.extract (Leb.len7 s 5) s.size) with
      | none => rfl
      | some x =>
        rw [hr] at h
        exact absurd rfl h
  · rfl
theorem fits_a (s : ByteArray) : Fits (aT s) (allRes s 1000).1 (allRes s 1000).2.1 (allRes s 1000).2.2 := by
  unfold aT Fits
  by_cases h : (allRes s 1000).2.2 = 0
  · rw [if_pos h]
    exact ⟨h, rfl, rfl⟩
  · rw [if_neg h]
    exact ⟨rfl, h, allRes_fault s 1000 h⟩
theorem fits_bind {X Y : Type} {res : Except Int (X × ByteArray)} {k : X × ByteArray → Except Int (Y × ByteArray)} {x : X} {y : Y} {r1 r2 : ByteArray} {f1 f2 : Int} (h : Fits res x r1 f1) (h1 : f1 = 0 → Fits (k (x, r1)) y r2 f2) (h2 : f1 ≠ 0 → r2 = r1 ∧ f2 = f1) : Fits (res.bind k) y r2 f2 := by
  unfold Fits at h
  cases res with
  | error e =>
    obtain ⟨a, b, c⟩ := h
    obtain ⟨p, q⟩ := h2 (by rw [a]; exact b)
    exact ⟨q.trans a, b, p.trans c⟩
  | ok q =>
    obtain ⟨a, b, c⟩ := h
    subst b c
    exact h1 a
theorem fits_tk {X : Type} {res : Except Int (X × ByteArray)} {x : X} {b r : ByteArray} {e f : Int} (hf : f = 0) (h : Fits res x b e) : Fits res x (tkR f b r) (tkF f e) := by
  unfold tkR tkF
  rw [if_pos hf, if_pos hf]
  exact h
theorem tk_no {f e : Int} {b r : ByteArray} (hf : f ≠ 0) : tkR f b r = r ∧ tkF f e = f := ⟨if_neg hf, if_neg hf⟩
theorem fits_err {X : Type} {x : X} {r : ByteArray} {e : Int} (he : e ≠ 0) : Fits (.error e) x (tkR 0 ⟨#[]⟩ r) (tkF 0 e) := ⟨rfl, he, rfl⟩
theorem tkR0 (b r : ByteArray) : tkR 0 b r = b := rfl
theorem tkF0 (e : Int) : tkF 0 e = e := rfl
theorem nd_yes (f e : Int) (r : ByteArray) : ndR true f r = r ∧ ndF true f e = f := ⟨rfl, rfl⟩
theorem nd_no {p : Bool} {f e : Int} {r : ByteArray} (h : f ≠ 0) : ndR p f r = r ∧ ndF p f e = f := by
  cases p
  · exact tk_no h
  · exact ⟨rfl, rfl⟩
theorem ndR_size {p : Bool} {f : Int} {r : ByteArray} {n : Nat} (h : r.size ≤ n) : (ndR p f r).size ≤ n := by
  unfold ndR
  split
  · exact h
  · exact tkR_size (Nat.zero_le _) h
/-- A number that is asked to be so, and what is read behind it. -/
theorem fits_need {X : Type} {res : Except Int (X × ByteArray)} {p : Prop} [Decidable p] {q : Bool} (hq : q = decide p) {x : X} {r1 r2 : ByteArray} {f1 f2 e : Int} (he : e ≠ 0) (hf : f1 = 0) (h1 : p → Fits res x r2 f2) (h2 : ¬ p → r2 = ndR q f1 r1 ∧ f2 = ndF q f1 e) : Fits (if p then res else .error e) x r2 f2 := by
  by_cases hp : p
  · rw [if_pos hp]
    exact h1 hp
  · rw [if_neg hp]
    obtain ⟨a, b⟩ := h2 hp
    rw [a, b, hq, decide_eq_false hp, hf]
    exact ⟨rfl, he, rfl⟩
theorem ndF_ne {q : Bool} {f e : Int} (he : e ≠ 0) (h : q = false) : ndF q f e ≠ 0 := by
  subst h
  show tkF f e ≠ 0
  unfold tkF
  split
  · exact he
  · assumption
set_option maxRecDepth 100000 in
theorem types_any (t b i : Nat) (cs : Array Value) (T : TypeId) (r : ByteArray) (c z : Int) (w : World) (h : TkAt w t r c 0) (hb : BlkAt w b cs T) (hne : b ≠ t) (hi : cs[i]? = some (.int .i64 z)) (hs : r.size ≤ maxLen) :
    Calls Try.prog 82 #[.pointer (some ⟨t, 0, none⟩), .pointer (some ⟨b, i, none⟩)] w fun x w' => ∃ n r' f', Took t r' c f' b (cs.setIfInBounds i (.int .i64 n)) T w x w' ∧ Fits (typesT r) n r' f' := by
  have hlt := h.lt
  have hlb := hb.lt
  have hb0 : Below w.heap.size w (w.alloc (.cells #[.int .i64 0] 3)) := (Below.refl _ _).alloc (Nat.le_refl _) _
  have HN := Lib.hid (number_any t w.heap.size 0 #[.int .i64 0] 3 r c 0 0 _ (h.below hb0) (BlkAt.new w _ _) (by omega) rfl hs)
  rw [tkR0, tkF0] at HN
  have HB0 := Lib.hid hb0
  have HBB := Lib.hid (hb.below hb0)
  have s1 : Hid (∀ p f, (ndR p f (uR r)).size ≤ maxLen) := Lib.hid fun p f => ndR_size (Nat.le_trans (uR_size r) hs)
  clear h hb
  go_enter Try.func82, Try.ntmps82
  go_wp2_with (first
    | (go_at_call 66; refine HN.out.mono ?_; rintro x w1 ⟨rfl, t1, b1, k1⟩; have c1 := b1.cell 0; rw [show (#[Value.int .i64 0].setIfInBounds 0 (.int .i64 (uN r)))[0]? = some (.int .i64 (uN r)) from rfl] at c1)
    | (go_at_call 49; refine (need_any t _ c _ 2 (uN r == 1) _ t1).mono ?_; rintro x w2 ⟨rfl, t2, k2⟩)
    | (go_at_call 91; refine (typ_any t b i cs T _ c _ z _ t2 (((HBB.out.kept k1 (by rintro (q | q) <;> omega)).kept k2 hne)) hne hi (s1.out _ _)).mono ?_; rintro x w3 ⟨rfl, t3, b3, k3⟩))
  refine bodyPost_void rfl rfl ⟨_, _, _, ⟨rfl, t3, b3, ?_⟩, ?_⟩
  · exact (((Kept.of_below HB0.out).then k1 (by rintro i hi (q | q); exact .inl q; omega)).trans (k2.mono fun _ q => .inl q)).trans k3
  · refine fits_bind (fits_u r) (fun h0 => fits_need (q := uN r == 1) (r1 := uR r) (f1 := uE r) rfl (by decide) h0 (fun hp => ?_) fun hp => ?_) fun h0 => ?_
    · rw [show (uN r == 1) = true from decide_eq_true hp]
      exact fits_tk h0 (fits_y _)
    · exact tk_no (ndF_ne (by decide) (decide_eq_false hp))
    · obtain ⟨q1, q2⟩ := nd_no (p := uN r == 1) (e := 2) (r := uR r) h0
      rw [q1, q2]
      exact tk_no h0
set_option maxRecDepth 100000 in
theorem null_any (t : Nat) (r : ByteArray) (c : Int) (w : World) (h : TkAt w t r c 0) (hs : r.size ≤ maxLen) :
    Calls Try.prog 85 #[.pointer (some ⟨t, 0, none⟩)] w fun x w' => ∃ n r' f', x = .returned (.tuple #[]) ∧ TkAt w' t r' c f' ∧ Kept (· = t) w w' ∧ Fits (nullT r) n r' f' := by
  have hlt := h.lt
  have hb0 : Below w.heap.size w (w.alloc (.cells #[.int .i64 0] 3)) := (Below.refl _ _).alloc (Nat.le_refl _) _
  have HN := Lib.hid (typ_any t w.heap.size 0 #[.int .i64 0] 3 r c 0 0 _ (h.below hb0) (BlkAt.new w _ _) (by omega) rfl hs)
  rw [tkR0, tkF0] at HN
  have HB0 := Lib.hid hb0
  clear h
  go_enter Try.func85, Try.ntmps85
  go_wp2_with (first
    | (go_at_call 91; refine HN.out.mono ?_; rintro x w1 ⟨rfl, t1, b1, k1⟩; have c1 := b1.cell 0; rw [show (#[Value.int .i64 0].setIfInBounds 0 (.int .i64 (tyN r)))[0]? = some (.int .i64 (tyN r)) from rfl] at c1)
    | (go_at_call 49; refine (need_any t _ c _ 2 (tyN r == 112) _ t1).mono ?_; rintro x w2 ⟨rfl, t2, k2⟩))
  refine bodyPost_void rfl rfl ⟨tyN r, _, _, rfl, t2, ?_, ?_⟩
  · exact (((Kept.of_below HB0.out).then k1 (by rintro i hi (q | q); exact q; omega)).trans k2)
  · refine fits_bind (fits_y r) (fun h0 => fits_need (q := tyN r == 112) (r1 := tyR r) (f1 := tyE r) rfl (by decide) h0 (fun hp => ?_) fun hp => ?_) fun h0 => ?_
    · rw [show (tyN r == 112) = true from decide_eq_true hp]
      exact ⟨h0, rfl, rfl⟩
    · exact ⟨rfl, rfl⟩
    · exact nd_no h0
theorem uN_range (r : ByteArray) : 0 ≤ uN r ∧ uN r ≤ 4294967295 := by
  unfold uN
  split
  · rename_i h
    have := (okU_parts h).2
    omega
  · omega
theorem fits_place64 (uT : ByteArray → Except Int (Int × ByteArray)) (uN : ByteArray → Int) (uR : ByteArray → ByteArray) (uE : ByteArray → Int) (hu : ∀ s, Fits (uT s) (uN s) (uR s) (uE s)) (r : ByteArray) (h64 : 64 ≤ uN r) :
    Fits ((uT r).bind fun q => if q.1 < 128 then (if 64 ≤ q.1 then (uT q.2).bind fun p => (uT p.2).bind fun o => .ok ((o.1, q.1 - 64, p.1), o.2) else (uT q.2).bind fun o => .ok ((o.1, q.1, 0), o.2)) else .error 2)
      (uN (tkR (ndF (decide (uN r < 128)) (uE r) 2) (uR (ndR (decide (uN r < 128)) (uE r) (uR r))) (ndR (decide (uN r < 128)) (uE r) (uR r))), uN r - 64, uN (ndR (decide (uN r < 128)) (uE r) (uR r)))
      (tkR (tkF (ndF (decide (uN r < 128)) (uE r) 2) (uE (ndR (decide (uN r < 128)) (uE r) (uR r)))) (uR (tkR (ndF (decide (uN r < 128)) (uE r) 2) (uR (ndR (decide (uN r < 128)) (uE r) (uR r))) (ndR (decide (uN r < 128)) (uE r) (uR r)))) (tkR (ndF (decide (uN r < 128)) (uE r) 2) (uR (ndR (decide (uN r < 128)) (uE r) (uR r))) (ndR (decide (uN r < 128)) (uE r) (uR r))))
      (tkF (tkF (ndF (decide (uN r < 128)) (uE r) 2) (uE (ndR (decide (uN r < 128)) (uE r) (uR r)))) (uE (tkR (ndF (decide (uN r < 128)) (uE r) 2) (uR (ndR (decide (uN r < 128)) (uE r) (uR r))) (ndR (decide (uN r < 128)) (uE r) (uR r))))) := by
  refine fits_bind (hu r) (fun h0 => fits_need (q := decide (uN r < 128)) (r1 := uR r) (f1 := uE r) rfl (by decide) h0 (fun hp => ?_) fun hp => ?_) fun h0 => ?_
  · rw [decide_eq_true hp, if_pos h64]
    rw [(nd_yes (uE r) 2 (uR r)).1, (nd_yes (uE r) 2 (uR r)).2, h0, tkR0, tkF0]
    refine fits_bind (hu (uR r)) (fun h1 => ?_) fun h1 => tk_no h1
    exact fits_bind (fits_tk h1 (hu (uR (uR r)))) (fun h2 => ⟨h2, rfl, rfl⟩) fun _ => ⟨rfl, rfl⟩
  · have hn := ndF_ne (f := uE r) (e := 2) (by decide) (decide_eq_false hp)
    obtain ⟨q1, q2⟩ := tk_no (e := uE (ndR (decide (uN r < 128)) (uE r) (uR r))) (b := uR (ndR (decide (uN r < 128)) (uE r) (uR r))) (r := ndR (decide (uN r < 128)) (uE r) (uR r)) hn
    rw [q1, q2]
    exact tk_no hn
  · obtain ⟨q1, q2⟩ := nd_no (p := decide (uN r < 128)) (e := 2) (r := uR r) h0
    rw [q1, q2]
    obtain ⟨q3, q4⟩ := tk_no (e := uE (uR r)) (b := uR (uR r)) (r := uR r) h0
    rw [q3, q4]
    exact tk_no h0
theorem fits_place (uT : ByteArray → Except Int (Int × ByteArray)) (uN : ByteArray → Int) (uR : ByteArray → ByteArray) (uE : ByteArray → Int) (hu : ∀ s, Fits (uT s) (uN s) (uR s) (uE s)) (r : ByteArray) (h64 : ¬ 64 ≤ uN r) :
    Fits ((uT r).bind fun q => if q.1 < 128 then (if 64 ≤ q.1 then (uT q.2).bind fun p => (uT p.2).bind fun o => .ok ((o.1, q.1 - 64, p.1), o.2) else (uT q.2).bind fun o => .ok ((o.1, q.1, 0), o.2)) else .error 2)
      (uN (ndR (decide (uN r < 128)) (uE r) (uR r)), uN r, 0)
      (tkR (ndF (decide (uN r < 128)) (uE r) 2) (uR (ndR (decide (uN r < 128)) (uE r) (uR r))) (ndR (decide (uN r < 128)) (uE r) (uR r)))
      (tkF (ndF (decide (uN r < 128)) (uE r) 2) (uE (ndR (decide (uN r < 128)) (uE r) (uR r)))) := by
  have hp : uN r < 128 := by omega
  refine fits_bind (hu r) (fun h0 => ?_) fun h0 => ?_
  · rw [if_pos hp, if_neg h64, decide_eq_true hp]
    rw [(nd_yes (uE r) 2 (uR r)).1, (nd_yes (uE r) 2 (uR r)).2]
    exact fits_bind (fits_tk h0 (hu (uR r))) (fun h2 => ⟨h2, rfl, rfl⟩) fun _ => ⟨rfl, rfl⟩
  · obtain ⟨q1, q2⟩ := nd_no (p := decide (uN r < 128)) (e := 2) (r := uR r) h0
    rw [q1, q2]
    exact tk_no h0
set_option maxRecDepth 100000 in
set_option maxHeartbeats 1000000 in
theorem takerPlace_any (t b : Nat) (op : Int) (nv lv ev : Value) (T : TypeId) (r : ByteArray) (c : Int) (w : World) (h : TkAt w t r c 0) (hb : BlkAt w b #[.int .i64 op, .int .i64 0, .int .i64 0, .int .i64 0, nv, lv, ev] T) (hne : b ≠ t) (hs : r.size ≤ maxLen) :
    Calls Try.prog 83 #[.pointer (some ⟨t, 0, none⟩), .pointer (some ⟨b, 0, none⟩)] w fun x w' => ∃ a' b' m' r' f', Took t r' c f' b #[.int .i64 op, .int .i64 a', .int .i64 b', .int .i64 m', nv, lv, ev] T w x w' ∧ Fits (placeT r) (a', b', m') r' f' := by
  have HN := Lib.hid (number_any t b 2 _ T r c 0 0 w h hb hne rfl hs)
  rw [tkR0, tkF0] at HN
  have hrg := uN_range r
  have s1 := uR_size r
  have s2 : Hid (∀ p f, (ndR p f (uR r)).size ≤ maxLen) := Lib.hid fun p f => ndR_size (Nat.le_trans (uR_size r) hs)
  have s3 : Hid (∀ p f g, (tkR g (uR (ndR p f (uR r))) (ndR p f (uR r))).size ≤ maxLen) := Lib.hid fun p f g => tkR_size (Nat.le_trans (uR_size _) (s2.out p f)) (s2.out p f)
  have HPT : Hid (placeT r = (uT r).bind fun q => if q.1 < 128 then (if 64 ≤ q.1 then (uT q.2).bind fun p => (uT p.2).bind fun o => .ok ((o.1, q.1 - 64, p.1), o.2) else (uT q.2).bind fun o => .ok ((o.1, q.1, 0), o.2)) else .error 2) := Lib.hid (by
    unfold placeT
    congr 1
    funext q
    by_cases h : q.1 < 128
    · rw [if_pos h, if_neg (by omega)]
    · rw [if_neg h, if_pos (by omega)])
  have wz : IntKind.i64.wrap (uN r - 64) = uN r - 64 := by rw [IntKind.wrap_i64]; omega
  clear h hb s1
  by_cases h64 : 64 ≤ uN r
  · go_enter Try.func83, Try.ntmps83
    go_wp2_with (first
      | (go_at_call 66; refine HN.out.mono ?_; rintro x w1 ⟨rfl, t1, b1, k1⟩; have c1 := b1.cell 2; rw [show (_ : Array Value)[2]? = some (.int .i64 (uN r)) from rfl] at c1; clear HN)
      | (go_at_call 49; refine (need_any t _ c _ 2 (decide (uN r < 128)) _ t1).mono ?_; rintro x w2 ⟨rfl, t2, k2⟩; have b2 := b1.kept k2 hne; have c2 := b2.cell 2; rw [show (_ : Array Value)[2]? = some (.int .i64 (uN r)) from rfl] at c2; have z2 := b2.frozen 2; have b3 := b2.put 2 (.int .i64 (uN r - 64)); have t3 := t2.other (fun q => hne q.symm) 2 (.int .i64 (uN r - 64)); have HM := Lib.hid (number_any t b 3 _ T _ c _ 0 _ t3 b3 hne rfl (s2.out _ _)))
      | (go_at_call 66; refine HM.out.mono ?_; rintro x w4 ⟨rfl, t4, b4, k4⟩; clear HM)
      | (go_at_call 66; refine (number_any t b 1 _ T _ c _ 0 _ t4 b4 hne rfl (s3.out _ _ _)).mono ?_; rintro x w5 ⟨rfl, t5, b5, k5⟩))
    refine bodyPost_void rfl rfl ⟨_, _, _, _, _, ⟨rfl, t5, b5, ?_⟩, ?_⟩
    · exact (((k1.trans (k2.mono fun _ q => .inl q)).set (p := ⟨b, 2, none⟩) (.inr rfl) _).trans k4).trans k5
    · rw [HPT.out]
      exact fits_place64 uT uN uR uE fits_u r h64
  · go_enter Try.func83, Try.ntmps83
    go_wp2_with (first
      | (go_at_call 66; refine HN.out.mono ?_; rintro x w1 ⟨rfl, t1, b1, k1⟩; have c1 := b1.cell 2; rw [show (_ : Array Value)[2]? = some (.int .i64 (uN r)) from rfl] at c1; clear HN)
      | (go_at_call 49; refine (need_any t _ c _ 2 (decide (uN r < 128)) _ t1).mono ?_; rintro x w2 ⟨rfl, t2, k2⟩; have b2 := b1.kept k2 hne; have c2 := b2.cell 2; rw [show (_ : Array Value)[2]? = some (.int .i64 (uN r)) from rfl] at c2; have HM := Lib.hid (number_any t b 1 _ T _ c _ 0 _ t2 b2 hne rfl (s2.out _ _)))
      | (go_at_call 66; refine HM.out.mono ?_; rintro x w4 ⟨rfl, t4, b4, k4⟩; clear HM))
    refine bodyPost_void rfl rfl ⟨_, _, _, _, _, ⟨rfl, t4, b4, ?_⟩, ?_⟩
    · exact (k1.trans (k2.mono fun _ q => .inl q)).trans k4
    · rw [HPT.out]
      exact fits_place uT uN uR uE fits_u r (by omega)
end Go.Proofs.Ytgacnelpdhmeiaa
