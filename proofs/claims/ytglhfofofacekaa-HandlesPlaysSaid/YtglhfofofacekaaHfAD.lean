/- handles: the reference's tables; Is, rep, Find, Of; its rows anew. -/
import Derived.Test.YtglhfofofacekaaHeO
/- handles: the reference's tables, where they lie, and how they stand to the project's. -/
set_option linter.unusedVariables false
set_option linter.unusedSimpArgs false
namespace Go.Proofs.Ytglhfofofacekaa
open Go.RowKit

theorem flat_at {α : Type} (f : α → List Value) (m : Nat) (hf : ∀ x, (f x).length = m) (d : α) : ∀ (l : List α) (j c : Nat), j < l.length → c < m → (l.flatMap f)[j * m + c]? = (f (l.getD j d))[c]?
  | [], j, c, h, _ => by simp at h
  | x :: r, 0, c, _, hc => by
    rw [List.flatMap_cons, Nat.zero_mul, Nat.zero_add, List.getElem?_append_left (by rw [hf]; exact hc)]
    rfl
  | x :: r, j + 1, c, h, hc => by
    rw [List.flatMap_cons, List.getElem?_append_right (by rw [hf, Nat.succ_mul]; omega), show (j + 1) * m + c - (f x).length = j * m + c by rw [hf, Nat.succ_mul]; omega, flat_at f m hf d r j c (by simpa using h) hc]
    rfl
theorem flat_len {α : Type} (f : α → List Value) (m : Nat) (hf : ∀ x, (f x).length = m) : ∀ (l : List α), (l.flatMap f).length = l.length * m
  | [] => by simp
  | x :: r => by rw [List.flatMap_cons, List.length_append, hf, flat_len f m hf r, List.length_cons, Nat.succ_mul, Nat.add_comm]

/-- What the reference's tables hold: so many instances, who makes each resource, each handle with its instance, the calls, what is lent for which. -/
structure Rf where
  n : Nat
  ms : List Int
  L : List (Int × Hd)
  cs : List Int
  ev : List (Int × (Int × Int))
abbrev oneC (p : Int × Hd) : List Value := .int .i64 p.1 :: Hd.cs p.2
abbrev lenC (t : Int × (Int × Int)) : List Value := [.int .i64 t.1, .int .i64 t.2.1, .int .i64 t.2.2]
abbrev one0 : Int × Hd := (0, Hd.zero)
abbrev len0 : Int × (Int × Int) := (0, (0, 0))
theorem oneC_len (p : Int × Hd) : (oneC p).length = 7 := rfl
theorem lenC_len (t : Int × (Int × Int)) : (lenC t).length = 3 := rfl
/-- Where they lie. -/
structure RfH where
  ma : Option Addr
  mc : Nat
  lv : Value
  cv : Value
  ev : Value
structure RfR (w0 : World) (G : Nat → Prop) (b : Nat) (w : World) (R : Rf) (J : RfH) : Prop where
  head : BlkAt w b #[.int .i64 R.n, .slice J.ma R.ms.length J.mc, J.lv, J.cv, J.ev] 60
  mks : View w0 J.ma R.ms.length R.ms
  base : Below w0.heap.size w0 w
  gB : ∀ k, G k → w0.heap.size ≤ k
  lr : w.ownsRow 0 70 7 J.lv R.L.length (R.L.flatMap oneC)
  cr : w.ownsRow 0 3 1 J.cv R.cs.length (R.cs.map (Value.int .i64))
  er : w.ownsRow 0 106 3 J.ev R.ev.length (R.ev.flatMap lenC)
  gb : G b
  gl : ∀ g, J.lv.ownBlock = some g → G g
  gc : ∀ g, J.cv.ownBlock = some g → G g
  ge : ∀ g, J.ev.ownBlock = some g → G g
theorem RfR.kept {w0 : World} {G F : Nat → Prop} {b : Nat} {w w' : World} {R : Rf} {J : RfH} (h : RfR w0 G b w R J) (k : Kept F w w') (hf : ∀ x, G x → ¬ F x) (hB : ∀ x, F x → w0.heap.size ≤ x) : RfR w0 G b w' R J :=
  { h with
    head := h.head.kept k (hf _ h.gb)
    base := h.base.trans (k.below h.base.size hB)
    lr := ownsRow_kept h.lr k (fun g hg => hf _ (h.gl g hg))
    cr := ownsRow_kept h.cr k (fun g hg => hf _ (h.gc g hg))
    er := ownsRow_kept h.er k (fun g hg => hf _ (h.ge g hg)) }
theorem RfR.below {w0 : World} {G : Nat → Prop} {b : Nat} {w w' : World} {R : Rf} {J : RfH} (h : RfR w0 G b w R J) (hb : Below w.heap.size w w') : RfR w0 G b w' R J :=
  h.kept (F := fun _ => False) (Kept.of_below hb) (fun _ _ e => e) (fun _ e => e.elim)
theorem RfR.low {w0 : World} {G : Nat → Prop} {b : Nat} {w : World} {R : Rf} {J : RfH} (h : RfR w0 G b w R J) : RfR w0 (fun k => G k ∧ k < w.heap.size) b w R J :=
  { h with
    gB := fun k hk => h.gB k hk.1
    gb := ⟨h.gb, h.head.lt⟩
    gl := fun g hg => ⟨h.gl g hg, (World.ownsRow.lt h.lr g hg).2⟩
    gc := fun g hg => ⟨h.gc g hg, (World.ownsRow.lt h.cr g hg).2⟩
    ge := fun g hg => ⟨h.ge g hg, (World.ownsRow.lt h.er g hg).2⟩ }
theorem RfR.mono {w0 : World} {G F : Nat → Prop} {b : Nat} {w : World} {R : Rf} {J : RfH} (h : RfR w0 G b w R J) (hf : ∀ x, G x → F x) (hB : ∀ x, F x → w0.heap.size ≤ x) : RfR w0 F b w R J :=
  { h with gB := hB, gb := hf _ h.gb, gl := fun g hg => hf _ (h.gl g hg), gc := fun g hg => hf _ (h.gc g hg), ge := fun g hg => hf _ (h.ge g hg) }
theorem RfR.cells {w0 : World} {G : Nat → Prop} {b : Nat} {w : World} {R : Rf} {J : RfH} (h : RfR w0 G b w R J) :
    w.cell? ⟨b, 0, none⟩ = some (.int .i64 R.n) ∧ w.cell? ⟨b, 1, none⟩ = some (.slice J.ma R.ms.length J.mc) ∧ w.cell? ⟨b, 2, none⟩ = some J.lv ∧ w.cell? ⟨b, 3, none⟩ = some J.cv ∧ w.cell? ⟨b, 4, none⟩ = some J.ev :=
  ⟨h.head.cell 0, h.head.cell 1, h.head.cell 2, h.head.cell 3, h.head.cell 4⟩
/-- Cells of one of the handles. -/
structure OneAt (w : World) (g o : Nat) (p : Int × Hd) : Prop where
  c0 : w.cell? ⟨g, o, none⟩ = some (.int .i64 p.1)
  c1 : w.cell? ⟨g, o + 1, none⟩ = some (.int .i64 p.2.h)
  c2 : w.cell? ⟨g, o + 2, none⟩ = some (.int .i64 p.2.r)
  c3 : w.cell? ⟨g, o + 3, none⟩ = some (.int .i64 p.2.rep)
  c4 : w.cell? ⟨g, o + 4, none⟩ = some (.bool p.2.own)
  c5 : w.cell? ⟨g, o + 5, none⟩ = some (.int .i64 p.2.lends)
  c6 : w.cell? ⟨g, o + 6, none⟩ = some (.int .i64 p.2.call)
theorem OneAt.below {w w' : World} {g o : Nat} {p : Int × Hd} (h : OneAt w g o p) (hb : Below w.heap.size w w') : OneAt w' g o p :=
  ⟨farB h.c0 hb, farB h.c1 hb, farB h.c2 hb, farB h.c3 hb, farB h.c4 hb, farB h.c5 hb, farB h.c6 hb⟩
theorem one_row {w : World} {v : Value} {L : List (Int × Hd)} (h : w.ownsRow 0 70 7 v L.length (L.flatMap oneC)) :
    ∃ la lc, v = .slice la L.length lc ∧ (L.length = 0 ∨ ∃ g, la = some ⟨g, 0, none⟩ ∧ ∀ j, j < L.length → OneAt w g (j * 7) (L.getD j one0)) := by
  rcases h.2 with ⟨e, e0⟩ | ⟨g, cap, cur, e, hg0, hg, _⟩
  · exact ⟨none, 0, by rw [e, e0], .inl e0⟩
  · refine ⟨_, cap, e, .inr ⟨g, rfl, fun j hj => ?_⟩⟩
    have hc := h
    rw [e] at hc
    have key : ∀ c, c < 7 → w.cell? ⟨g, j * 7 + c, none⟩ = (oneC (L.getD j one0))[c]? := fun c hc7 => by
      rw [World.ownsRow.cellAt hc (j * 7 + c) (by omega), flat_at oneC 7 oneC_len one0 L j c hj hc7]
    exact ⟨key 0 (by decide), key 1 (by decide), key 2 (by decide), key 3 (by decide), key 4 (by decide), key 5 (by decide), key 6 (by decide)⟩
/-- Cells of what is lent. -/
structure LenAt (w : World) (g o : Nat) (t : Int × (Int × Int)) : Prop where
  c0 : w.cell? ⟨g, o, none⟩ = some (.int .i64 t.1)
  c1 : w.cell? ⟨g, o + 1, none⟩ = some (.int .i64 t.2.1)
  c2 : w.cell? ⟨g, o + 2, none⟩ = some (.int .i64 t.2.2)
theorem LenAt.below {w w' : World} {g o : Nat} {t : Int × (Int × Int)} (h : LenAt w g o t) (hb : Below w.heap.size w w') : LenAt w' g o t :=
  ⟨farB h.c0 hb, farB h.c1 hb, farB h.c2 hb⟩
theorem len_row {w : World} {v : Value} {L : List (Int × (Int × Int))} (h : w.ownsRow 0 106 3 v L.length (L.flatMap lenC)) :
    ∃ la lc, v = .slice la L.length lc ∧ (L.length = 0 ∨ ∃ g, la = some ⟨g, 0, none⟩ ∧ ∀ j, j < L.length → LenAt w g (j * 3) (L.getD j len0)) := by
  rcases h.2 with ⟨e, e0⟩ | ⟨g, cap, cur, e, hg0, hg, _⟩
  · exact ⟨none, 0, by rw [e, e0], .inl e0⟩
  · refine ⟨_, cap, e, .inr ⟨g, rfl, fun j hj => ?_⟩⟩
    have hc := h
    rw [e] at hc
    have key : ∀ c, c < 3 → w.cell? ⟨g, j * 3 + c, none⟩ = (lenC (L.getD j len0))[c]? := fun c hc7 => by
      rw [World.ownsRow.cellAt hc (j * 3 + c) (by omega), flat_at lenC 3 lenC_len len0 L j c hj hc7]
    exact ⟨key 0 (by decide), key 1 (by decide), key 2 (by decide)⟩
/-- The calls' row. -/
theorem int_row {w : World} {v : Value} {L : List Int} (h : w.ownsRow 0 3 1 v L.length (L.map (Value.int .i64))) :
    ∃ la lc, v = .slice la L.length lc ∧ (L.length = 0 ∨ ∃ g, la = some ⟨g, 0, none⟩ ∧ ∀ j, j < L.length → w.cell? ⟨g, j, none⟩ = some (.int .i64 (L.getD j 0))) := by
  rcases h.2 with ⟨e, e0⟩ | ⟨g, cap, cur, e, hg0, hg, _⟩
  · exact ⟨none, 0, by rw [e, e0], .inl e0⟩
  · refine ⟨_, cap, e, .inr ⟨g, rfl, fun j hj => ?_⟩⟩
    have hc := h
    rw [e] at hc
    rw [World.ownsRow.cellAt hc j (by omega), List.getElem?_map, List.getD_eq_getElem?_getD, List.getElem?_eq_getElem hj]
    rfl

/-- How the reference's stand to the project's. -/
structure Rel (N : Nat) (S : Tb) (R : Rf) : Prop where
  n : R.n = S.tb.length
  ms : R.ms = S.ms
  cs : R.cs = S.cl.map (·.1)
  a1 : ∀ p ∈ R.L, ∃ k : Nat, p.1 = k ∧ k < S.tb.length ∧ p.2 ∈ S.tb.getD k []
  a2 : ∀ k, k < S.tb.length → ∀ x ∈ S.tb.getD k [], ((k : Int), x) ∈ R.L
  nd : R.L.Pairwise (fun p q => ¬ (p.1 = q.1 ∧ p.2.h = q.2.h))
  e1 : ∀ j, j < S.cl.length → ∀ p, (S.cl.getD j (0, [])).2.count p = R.ev.count (((j + 1 : Nat) : Int), p)
  e2 : ∀ t ∈ R.ev, 1 ≤ t.1 ∧ t.1 ≤ S.cl.length
  ll : R.L.length ≤ N
  le : R.ev.length ≤ N
/-- The reference's tables in the project's state. -/
structure RfF (w0 : World) (G : Nat → Prop) (b : Nat) (w : World) (S : Tb) (N : Nat) : Prop where
  at' : ∃ R J, RfR w0 G b w R J ∧ Rel N S R
  ok : TbOk N S
  new : ∀ k, w.heap.size ≤ k → G k
  few : N ≤ 1000
theorem RfF.below {w0 : World} {G : Nat → Prop} {b : Nat} {w w' : World} {S : Tb} {N : Nat} (h : RfF w0 G b w S N) (hb : Below w.heap.size w w') : RfF w0 G b w' S N := by
  obtain ⟨R, J, h1, h2⟩ := h.at'
  exact ⟨⟨R, J, h1.below hb, h2⟩, h.ok, fun k h1 => h.new k (Nat.le_trans hb.size h1), h.few⟩
theorem Rel.mono {N M : Nat} {S : Tb} {R : Rf} (h : Rel N S R) (hN : N ≤ M) : Rel M S R := { h with ll := Nat.le_trans h.ll hN, le := Nat.le_trans h.le hN }
theorem RfF.more {w0 : World} {G : Nat → Prop} {b : Nat} {w : World} {S : Tb} {N M : Nat} (h : RfF w0 G b w S N) (hN : N ≤ M) (hM : M ≤ 1000) : RfF w0 G b w S M := by
  obtain ⟨R, J, h1, h2⟩ := h.at'
  exact ⟨⟨R, J, h1, h2.mono hN⟩, h.ok.mono hN, h.new, hM⟩

/-! pure: a handle in the one list, and in the tables -/
theorem pair_at {L : List (Int × Hd)} (h : L.Pairwise (fun p q => ¬ (p.1 = q.1 ∧ p.2.h = q.2.h))) : ∀ {p q : Int × Hd}, p ∈ L → q ∈ L → p.1 = q.1 → p.2.h = q.2.h → p = q := by
  induction L with
  | nil => intro p q hp; simp at hp
  | cons z r ih =>
    obtain ⟨h1, h2⟩ := List.pairwise_cons.1 h
    intro p q hp hq e1 e2
    rcases List.mem_cons.1 hp with hp1 | hp1
    · rcases List.mem_cons.1 hq with hq1 | hq1
      · rw [hp1, hq1]
      · rw [hp1] at e1 e2
        exact absurd ⟨e1, e2⟩ (h1 q hq1)
    · rcases List.mem_cons.1 hq with hq1 | hq1
      · rw [hq1] at e1 e2
        exact absurd ⟨e1.symm, e2.symm⟩ (h1 p hp1)
      · exact ih h2 hp1 hq1 e1 e2
/-- The handle that find finds stands in the list. -/
theorem Rel.find_yes {N : Nat} {S : Tb} {R : Rf} (h : Rel N S R) {i r hh : Int} (hf : (findT S.tb i r hh).2 = true) : (i, (findT S.tb i r hh).1) ∈ R.L ∧ (findT S.tb i r hh).1.h = hh ∧ (findT S.tb i r hh).1.r = r := by
  obtain ⟨k, x, rfl, hk, ha, hr, he⟩ := findT_yes hf
  rw [he]
  obtain ⟨hx, hxh⟩ := at?_mem ha
  exact ⟨h.a2 k hk x hx, hxh, hr⟩
theorem Rel.find_no {N : Nat} {S : Tb} {R : Rf} (h : Rel N S R) (ok : TbOk N S) {i r hh : Int} (hf : (findT S.tb i r hh).2 = false) : ∀ p ∈ R.L, ¬ (p.1 = i ∧ p.2.h = hh ∧ p.2.r = r) := by
  rintro p hp ⟨e1, e2, e3⟩
  obtain ⟨k, hk1, hk2, hk3⟩ := h.a1 p hp
  have hb : hasB S.tb.length i = true := by rw [← e1, hk1]; simp [hasB, hk2]
  have ha := at?_of_mem (ok.rise k hk2) hk3
  unfold findT at hf
  rw [if_pos hb] at hf
  rw [show i.toNat = k by rw [← e1, hk1]; rfl, ← e2, ha] at hf
  simp [e3] at hf
end Go.Proofs.Ytglhfofofacekaa

/- handles: the reference's Is, rep, Find. -/
set_option linter.unusedVariables false
set_option linter.unusedSimpArgs false
namespace Go.Proofs.Ytglhfofofacekaa
open Go.RowKit

def isB (n m : Nat) (i r : Int) : Bool := hasB n i && (decide (0 ≤ r) && decide (r < m))
def repB (p : Int) : Bool := decide (0 ≤ p) && decide (p ≤ 4294967295)
theorem mayB_eq (n m : Nat) (i r p : Int) : mayB n m i r p = (isB n m i r && repB p) := by
  unfold mayB isB repB
  simp [Bool.and_assoc]
set_option maxRecDepth 100000 in
set_option maxHeartbeats 1000000 in
theorem is_any (b n m : Nat) (ma : Option Addr) (mc : Nat) (i r : Int) (w : World) (h0 : w.cell? ⟨b, 0, none⟩ = some (.int .i64 n)) (h1 : w.cell? ⟨b, 1, none⟩ = some (.slice ma m mc)) :
    Calls Try.prog 57 #[.pointer (some ⟨b, 0, none⟩), .int .i64 i, .int .i64 r] w fun e w' => e = .returned (.bool (isB n m i r)) ∧ w = w' := by
  go_enter Try.func57, Try.ntmps57
  go_wp2_with fail
  all_goals go_ret
  all_goals exact ⟨by (simp_all [isB, hasB]; try omega), rfl⟩
set_option maxRecDepth 100000 in
set_option maxHeartbeats 1000000 in
theorem rep_any (p : Int) (w : World) : Calls Try.prog 58 #[.int .i64 p] w fun e w' => e = .returned (.bool (repB p)) ∧ w = w' := by
  go_enter Try.func58, Try.ntmps58
  go_wp2_with fail
  all_goals go_ret
  all_goals exact ⟨by (simp_all [repB]; try omega), rfl⟩
/-- Is it that handle? -/
def isOne (i r h : Int) (p : Int × Hd) : Prop := p.1 = i ∧ p.2.h = h ∧ p.2.r = r
def FoundR (L : List (Int × Hd)) (i r h z : Int) : Prop := (∃ k : Nat, z = k ∧ k < L.length ∧ isOne i r h (L.getD k one0)) ∨ (z = -1 ∧ ∀ p ∈ L, ¬ isOne i r h p)
set_option maxRecDepth 100000 in
set_option maxHeartbeats 4000000 in
theorem RfR.find {w0 : World} {G : Nat → Prop} {b : Nat} {w : World} {R : Rf} {J : RfH} (h : RfR w0 G b w R J) (hl : R.L.length ≤ 100000) (i r hh : Int) :
    Calls Try.prog 60 #[.pointer (some ⟨b, 0, none⟩), .int .i64 i, .int .i64 r, .int .i64 hh] w fun e w' => (∃ z, e = .returned (.int .i64 z) ∧ FoundR R.L i r hh z) ∧ w = w' := by
  obtain ⟨la, lc, e, hrow⟩ := one_row h.lr
  have c2 := h.cells.2.2.1
  rw [e] at c2
  have HR := Lib.hid hrow
  have HL := Lib.hid hl
  clear h e hrow hl
  generalize hn : R.L.length = n at c2
  have HN := Lib.hid hn
  clear hn
  go_enter Try.func60, Try.ntmps60
  go_wp2_with fail
  go_loopw [9] (fun kv wr => ∃ k : Nat, kv = .int .i64 k ∧ k ≤ n ∧ w = wr ∧ Hid (∀ j, j < k → ¬ isOne i r hh (R.L.getD j one0))) (fun kv _ => n - (intOf kv).toNat)
  case atStart => exact ⟨0, rfl, Nat.zero_le _, rfl, Lib.hid (fun j hj => absurd hj (Nat.not_lt_zero _))⟩
  case round =>
    obtain ⟨k, rfl, hk, rfl, HA⟩ := hrel
    by_cases hlt : k < n
    · obtain ⟨g, rfl, hc⟩ := HR.out.resolve_left (by have := HN.out; omega)
      obtain ⟨c0, c1, c3, _, _, _, _⟩ := hc k (by have := HN.out; omega)
      generalize hp : R.L.getD k one0 = p at c0 c1 c3
      have HP := Lib.hid hp
      have HLT := Lib.hid hlt
      obtain ⟨pi, ⟨ph, pr, prep, pown, pl, pc⟩⟩ := p
      dsimp only at c0 c1 c3
      clear hc hk hp
      by_cases e1 : pi = i
      · by_cases e2 : ph = hh
        · by_cases e3 : pr = r
          · subst e1
            subst e2
            subst e3
            go_wp2_with fail
            go_ret
            exact ⟨⟨k, rfl, .inl ⟨k, rfl, by have := HN.out; omega, by rw [HP.out]; exact ⟨rfl, rfl, rfl⟩⟩⟩, rfl⟩
          · have e3' : (pr == r) = false := by simp [e3]
            have E3 := Lib.hid e3
            subst e1
            subst e2
            clear e3
            go_wp2_with fail
            rw [show wrap64 ((k : Int) + 1) = (k : Int) + 1 by have := HL.out; have := HN.out; unfold wrap64; omega]
            refine ⟨⟨k + 1, by simp, by omega, trivial, Lib.hid (fun j hj => ?_)⟩, by simp [intOf]; omega⟩
            by_cases hjk : j = k
            · subst hjk
              rw [HP.out]
              exact fun q => E3.out q.2.2
            · exact HA.out j (by omega)
        · have e2' : (ph == hh) = false := by simp [e2]
          have E2 := Lib.hid e2
          subst e1
          clear e2
          go_wp2_with fail
          rw [show wrap64 ((k : Int) + 1) = (k : Int) + 1 by have := HL.out; have := HN.out; unfold wrap64; omega]
          refine ⟨⟨k + 1, by simp, by omega, trivial, Lib.hid (fun j hj => ?_)⟩, by simp [intOf]; omega⟩
          by_cases hjk : j = k
          · subst hjk
            rw [HP.out]
            exact fun q => E2.out q.2.1
          · exact HA.out j (by omega)
      · have e1' : (pi == i) = false := by simp [e1]
        have E1 := Lib.hid e1
        clear e1
        go_wp2_with fail
        rw [show wrap64 ((k : Int) + 1) = (k : Int) + 1 by have := HL.out; have := HN.out; unfold wrap64; omega]
        refine ⟨⟨k + 1, by simp, by omega, trivial, Lib.hid (fun j hj => ?_)⟩, by simp [intOf]; omega⟩
        by_cases hjk : j = k
        · subst hjk
          rw [HP.out]
          exact fun q => E1.out q.1
        · exact HA.out j (by omega)
    · have hke : k = n := by omega
      subst hke
      clear hlt hk
      go_wp2_with fail
      go_ret
      refine ⟨⟨-1, rfl, .inr ⟨rfl, fun p hp => ?_⟩⟩, rfl⟩
      obtain ⟨j, hj, rfl⟩ := getD_of_mem (d := one0) hp
      exact HA.out j (by rw [← HN.out]; exact hj)
end Go.Proofs.Ytglhfofofacekaa

/- handles: the reference's Of. -/
set_option linter.unusedVariables false
set_option linter.unusedSimpArgs false
namespace Go.Proofs.Ytglhfofofacekaa
open Go.RowKit

def mt (L : List (Int × Hd)) (i c : Int) : List Hd := (L.filter (fun p => decide (p.1 = i) && decide (p.2.h = c))).map (·.2)
def belowT (T : List Hd) (c : Int) : List Hd := T.filter (fun x => decide (x.h < c))
theorem mt_yes {L : List (Int × Hd)} {i c : Int} {k : Nat} (hk : k < L.length) (h1 : (L.getD k one0).1 = i) (h2 : (L.getD k one0).2.h = c) : mt (L.take (k + 1)) i c = mt (L.take k) i c ++ [(L.getD k one0).2] := by
  unfold mt
  rw [take_one L k one0 hk, List.filter_append, List.map_append]
  have e : (decide ((L.getD k one0).1 = i) && decide ((L.getD k one0).2.h = c)) = true := by rw [h1, h2]; simp
  rw [show [L.getD k one0].filter (fun p => decide (p.1 = i) && decide (p.2.h = c)) = [L.getD k one0] by rw [List.filter_cons, e]; rfl]
  rfl
theorem mt_no {L : List (Int × Hd)} {i c : Int} {k : Nat} (hk : k < L.length) (h : ¬ ((L.getD k one0).1 = i ∧ (L.getD k one0).2.h = c)) : mt (L.take (k + 1)) i c = mt (L.take k) i c := by
  unfold mt
  rw [take_one L k one0 hk, List.filter_append, List.map_append]
  have e : (decide ((L.getD k one0).1 = i) && decide ((L.getD k one0).2.h = c)) = false := by
    rw [← Bool.not_eq_true]
    simpa using h
  rw [show [L.getD k one0].filter (fun p => decide (p.1 = i) && decide (p.2.h = c)) = [] by rw [List.filter_cons, e]; rfl]
  simp
theorem below_step : ∀ (T : List Hd) (c : Int), Rise T → belowT T (c + 1) = belowT T c ++ (at? T c).toList
  | [], c, _ => rfl
  | y :: r, c, h => by
    obtain ⟨h1, h2⟩ := List.pairwise_cons.1 h
    have ih := below_step r c h2
    unfold belowT at ih ⊢
    unfold at? at ih ⊢
    rw [List.filter_cons, List.filter_cons, List.find?_cons]
    by_cases ha : y.h < c
    · rw [if_pos (by simp; omega), if_pos (by simp; omega), show decide (y.h = c) = false by simp; omega, ih]
      rfl
    · have hr : r.filter (fun x => decide (x.h < c)) = [] := List.filter_eq_nil_iff.2 (fun x hx => by have := h1 x hx; simp; omega)
      rw [if_neg (show ¬ decide (y.h < c) = true by simp; omega), hr]
      by_cases hb : y.h = c
      · have hr2 : r.filter (fun x => decide (x.h < c + 1)) = [] := List.filter_eq_nil_iff.2 (fun x hx => by have := h1 x hx; simp; omega)
        rw [if_pos (by simp; omega), hr2, show decide (y.h = c) = true by simp; omega]
        rfl
      · rw [if_neg (by simp; omega), ih, hr, show decide (y.h = c) = false by simp; omega]
theorem Rel.mt_eq {N : Nat} {S : Tb} {R : Rf} (h : Rel N S R) (ok : TbOk N S) (i c : Int) : mt R.L i c = (at? (handlesS S i) c).toList := by
  have hin : ∀ p ∈ R.L, p.1 = i → p.2.h = c → at? (handlesS S i) c = some p.2 := by
    intro p hp e1 e2
    obtain ⟨k, hk1, hk2, hk3⟩ := h.a1 p hp
    unfold handlesS
    rw [if_pos (by rw [← e1, hk1]; simp [hasB, hk2]), show i.toNat = k by rw [← e1, hk1]; rfl, ← e2]
    exact at?_of_mem (ok.rise k hk2) hk3
  have hout : ∀ x, at? (handlesS S i) c = some x → (i, x) ∈ R.L ∧ x.h = c := by
    intro x hx
    obtain ⟨h1, h2⟩ := at?_mem hx
    unfold handlesS at h1
    split at h1
    · rename_i hb
      obtain ⟨k, rfl, hk⟩ := hasB_nat hb
      exact ⟨h.a2 k hk x h1, h2⟩
    · simp at h1
  have hpw := h.nd.filter (fun p => decide (p.1 = i) && decide (p.2.h = c))
  have hmem : ∀ p, p ∈ R.L.filter (fun p => decide (p.1 = i) && decide (p.2.h = c)) ↔ p ∈ R.L ∧ p.1 = i ∧ p.2.h = c := by
    intro p
    rw [List.mem_filter]
    simp
  unfold mt
  generalize R.L.filter (fun p => decide (p.1 = i) && decide (p.2.h = c)) = F at hpw hmem
  cases F with
  | nil =>
    cases ha : at? (handlesS S i) c with
    | none => rfl
    | some x =>
      obtain ⟨q1, q2⟩ := hout x ha
      have := (hmem (i, x)).2 ⟨q1, rfl, q2⟩
      simp at this
  | cons p F =>
    obtain ⟨q1, q2, q3⟩ := (hmem p).1 (by simp)
    cases F with
    | nil => rw [hin p q1 q2 q3]; rfl
    | cons q F =>
      obtain ⟨r1, r2, r3⟩ := (hmem q).1 (by simp)
      exact absurd ⟨q2.trans r2.symm, q3.trans r3.symm⟩ ((List.pairwise_cons.1 hpw).1 q (by simp))

set_option maxRecDepth 100000 in
set_option maxHeartbeats 8000000 in
theorem RfR.ofT {w0 : World} {G : Nat → Prop} {b : Nat} {w : World} {R : Rf} {J : RfH} (h : RfR w0 G b w R J) {N : Nat} {S : Tb} (hrel : Rel N S R) (ok : TbOk N S) (hN : N ≤ 1000) (i : Int) :
    Calls Try.prog 10 #[.pointer (some ⟨b, 0, none⟩), .int .i64 i] w fun e w' => ∃ v, e = .returned v ∧ Hds w.heap.size v (handlesS S i) w' ∧ Below w.heap.size w w' := by
  obtain ⟨la, lc, e, hrow⟩ := one_row h.lr
  have c2 := h.cells.2.2.1
  rw [e] at c2
  obtain ⟨i0, hti, hz0, hz1, hz2⟩ := info_parts info_hd
  have HR := Lib.hid hrow
  obtain ⟨t1, t2, t3⟩ := handlesS_ok ok i
  have HMT := Lib.hid (fun c => hrel.mt_eq ok i c)
  have HLL := Lib.hid (Nat.le_trans hrel.ll hN)
  generalize handlesS S i = T at HMT t1 t2 t3 ⊢
  have HT := Lib.hid (And.intro t1 (And.intro t2 t3))
  clear h e hrow hrel ok t1 t2 t3
  generalize hn : R.L.length = n at c2
  have HN := Lib.hid hn
  clear hn
  go_enter Try.func10, Try.ntmps10
  go_wp2_with fail
  go_loopw [5, 6] (fun lv hv wr => ∃ (c : Nat) (av : Option Addr) (cp : Nat) (LL : List Hd), hv = .int .i64 c ∧ lv = .slice av LL.length cp ∧ c ≤ 257 ∧ Hid (1 ≤ c ∧ LL = belowT T c ∧ Below w.heap.size w wr ∧ Hds w.heap.size (.slice av LL.length cp) LL wr)) (fun _ hv _ => 257 - (intOf hv).toNat)
  case atStart =>
    refine ⟨1, none, 0, [], rfl, rfl, by omega, Lib.hid ⟨Nat.le_refl _, ?_, Below.refl _ _, World.ownsRow_nil _ _ _ _⟩⟩
    exact (List.filter_eq_nil_iff.2 (fun x hx => by have := (HT.out.2.2 x hx).h1; simp; omega)).symm
  case round =>
    obtain ⟨c, av, cp, LL, rfl, rfl, hc257, HO⟩ := hrel
    by_cases hlt : c ≤ 256
    · have hd : decide ((c : Int) ≤ 256) = true := decide_eq_true (by omega)
      have HC := Lib.hid hlt
      clear hlt hc257
      go_wp2_with fail
      go_loopw [5, 7] (fun lv kv wi => ∃ (k : Nat) (av : Option Addr) (cp : Nat) (LI : List Hd), kv = .int .i64 k ∧ lv = .slice av LI.length cp ∧ k ≤ n ∧ Hid (LI = belowT T c ++ mt (R.L.take k) i c ∧ Below w.heap.size w wi ∧ Hds w.heap.size (.slice av LI.length cp) LI wi)) (fun _ kv _ => n - (intOf kv).toNat)
      case atStart =>
        exact ⟨0, av, cp, LL, rfl, rfl, Nat.zero_le _, Lib.hid ⟨by rw [HO.out.2.1]; simp [mt], HO.out.2.2.1, HO.out.2.2.2⟩⟩
      case round =>
        clear HO
        obtain ⟨k, av, cp, LI, rfl, rfl, hk, HI⟩ := hrel
        by_cases hlt : k < n
        · obtain ⟨g, rfl, hcs⟩ := HR.out.resolve_left (by have := HN.out; omega)
          obtain ⟨c0, c1, x2, x3, x4, x5, x6⟩ := (hcs k (by have := HN.out; omega)).below HI.out.2.1
          have d2 := farB c2 HI.out.2.1
          generalize hp : R.L.getD k one0 = p at c0 c1 x2 x3 x4 x5 x6
          have HP := Lib.hid hp
          have HLT := Lib.hid hlt
          obtain ⟨pi, ⟨ph, pr, prep, pown, pl, pc⟩⟩ := p
          dsimp only at c0 c1 x2 x3 x4 x5 x6
          have HLE : Hid (LI.length ≤ 100000) := Lib.hid (by
            rw [HI.out.1, List.length_append]
            have h1 : (belowT T c).length ≤ T.length := List.length_filter_le _ _
            have h2 : (mt (R.L.take k) i c).length ≤ R.L.length := by
              unfold mt
              rw [List.length_map]
              exact Nat.le_trans (List.length_filter_le _ _) (by rw [List.length_take]; omega)
            have := HT.out.1
            have := HLL.out
            omega)
          clear hcs hk hp hlt c2
          have hwk : wrap64 ((k : Int) + 1) = (k : Int) + 1 := by have h1 := HLT.out; have h2 := HN.out; have h3 := HLL.out; unfold wrap64; omega
          by_cases e1 : pi = i
          · by_cases e2 : ph = c
            · subst e1
              have HE2 := Lib.hid e2
              have e2' : (ph == (c : Int)) = true := by simp [e2]
              clear e2
              have HOWN : Hid ((wr.alloc (.cells #[.int .i64 ph, .int .i64 pr, .int .i64 prep, .bool pown, .int .i64 pl, .int .i64 pc] 68)).ownsRow w.heap.size 68 6 (.slice av LI.length cp) LI.length (hdCs LI)) := Lib.hid (HI.out.2.2.alloc _)
              have HSS : Hid (w.heap.size ≤ (wr.alloc (.cells #[.int .i64 ph, .int .i64 pr, .int .i64 prep, .bool pown, .int .i64 pl, .int .i64 pc] 68)).heap.size) := Lib.hid (by have := HI.out.2.1.size; simp; omega)
              have HB1 : Hid (Below w.heap.size w (wr.alloc (.cells #[.int .i64 ph, .int .i64 pr, .int .i64 prep, .bool pown, .int .i64 pl, .int .i64 pc] 68))) := Lib.hid (HI.out.2.1.alloc HI.out.2.1.size _)
              have NEWS := Lib.hid (news_hd wr ⟨ph, pr, prep, pown, pl, pc⟩ 68)
              have HR1 : Hid (LI.length + 1 ≤ maxLen) := Lib.hid (by have := HLE.out; unfold maxLen; omega)
              have HR2 : Hid ((LI.length + 1) * 48 ≤ 140737488355328) := Lib.hid (by have := HLE.out; omega)
              go_wp2_with (first
                | (at_builtin; refine wpList_append_lies _ rfl _ _ 36 rfl w.heap.size 68 i0 Hd.zero.v 6 48 Try.underlying36 hti hz0 hz1 hz2 rfl (by decide) _ LI.length (hdCs LI) rfl HOWN.out ⟨wr.heap.size, 0, none⟩ 1 1 (Hd.cs ⟨ph, pr, prep, pown, pl, pc⟩) rfl rfl NEWS.out (one_hd _) (by decide) HR1.out HR2.out HSS.out _ rfl ?_; intro g5 cap5 w5 hown5 hg5 hat5 hlt5; have Q5 := Lib.hid (And.intro hown5 hg5); clear hown5 hg5 hat5 hlt5))
              rw [hwk]
              refine ⟨⟨k + 1, some ⟨g5, 0, none⟩, cap5, LI ++ [⟨ph, pr, prep, pown, pl, pc⟩], by simp, by simp, HLT.out, Lib.hid ⟨?_, ?_, ?_⟩⟩, by have := HLT.out; simp [intOf]; omega⟩
              · rw [mt_yes (by rw [HN.out]; exact HLT.out) (by rw [HP.out]) (by rw [HP.out]; exact HE2.out), HP.out, HI.out.1, List.append_assoc]
              · exact HB1.out.grown Q5.out.2 HB1.out.size (fun j e => (World.ownsRow.lt HOWN.out j e).1)
              · have := Q5.out.1
                unfold Hds
                rw [show hdCs (LI ++ [⟨ph, pr, prep, pown, pl, pc⟩]) = hdCs LI ++ Hd.cs ⟨ph, pr, prep, pown, pl, pc⟩ by simp, List.length_append]
                exact this
            · have e2' : (ph == (c : Int)) = false := by simp [e2]
              have E2 := Lib.hid e2
              subst e1
              clear e2
              go_wp2_with fail
              rw [hwk]
              refine ⟨⟨k + 1, av, cp, LI, by simp, rfl, HLT.out, Lib.hid ⟨?_, HI.out.2.1, HI.out.2.2⟩⟩, by have := HLT.out; simp [intOf]; omega⟩
              rw [mt_no (by rw [HN.out]; exact HLT.out) (by rw [HP.out]; exact fun q => E2.out q.2)]
              exact HI.out.1
          · have e1' : (pi == i) = false := by simp [e1]
            have E1 := Lib.hid e1
            clear e1
            go_wp2_with fail
            rw [hwk]
            refine ⟨⟨k + 1, av, cp, LI, by simp, rfl, HLT.out, Lib.hid ⟨?_, HI.out.2.1, HI.out.2.2⟩⟩, by have := HLT.out; simp [intOf]; omega⟩
            rw [mt_no (by rw [HN.out]; exact HLT.out) (by rw [HP.out]; exact fun q => E1.out q.1)]
            exact HI.out.1
        · have hke : k = n := by omega
          have d2 := farB c2 HI.out.2.1
          subst hke
          clear hlt hk c2
          go_wp2_with fail
          have hwk : wrap64 ((c : Int) + 1) = (c : Int) + 1 := by have h1 := HC.out; unfold wrap64; omega
          rw [hwk]
          have e : LI = belowT T ((c + 1 : Nat) : Int) := by
            rw [HI.out.1, show R.L.take k = R.L from List.take_of_length_le (by rw [HN.out]; exact Nat.le_refl _), HMT.out]
            exact (below_step T c HT.out.2.1).symm
          exact ⟨⟨c + 1, av, cp, LI, by simp, rfl, by have := HC.out; omega, Lib.hid ⟨by omega, e, HI.out.2.1, HI.out.2.2⟩⟩, by have := HC.out; simp [intOf]; omega⟩
    · have hce : c = 257 := by omega
      subst hce
      clear hlt hc257
      go_wp2_with fail
      go_ret
      have e : belowT T (257 : Nat) = T := List.filter_eq_self.2 (fun x hx => by have := (HT.out.2.2 x hx).h2; simp; omega)
      have := HO.out.2.2.2
      rw [HO.out.2.1, e] at this
      rw [HO.out.2.1, e]
      exact ⟨_, rfl, this, HO.out.2.2.1⟩
end Go.Proofs.Ytglhfofofacekaa

/- handles: the reference's rows anew; fresh. -/
set_option linter.unusedVariables false
set_option linter.unusedSimpArgs false
namespace Go.Proofs.Ytglhfofofacekaa
open Go.RowKit

/-- Another row of L. -/
theorem RfR.putL {w0 : World} {G : Nat → Prop} {b : Nat} {W w5 : World} {R : Rf} {J : RfH} (h : RfR w0 G b W R J) (hnew : ∀ k, W.heap.size ≤ k → G k) {v : Value} {L' : List (Int × Hd)} (hg : W.grownBy w5 J.lv.ownBlock)
    (hown : w5.ownsRow 0 70 7 v L'.length (L'.flatMap oneC)) (hat : v.ownBlock = J.lv.ownBlock ∨ v.ownBlock = some W.heap.size) :
    RfR w0 G b (w5.setCell ⟨b, 2, none⟩ v) { R with L := L' } { J with lv := v } ∧ Kept G W (w5.setCell ⟨b, 2, none⟩ v) := by
  have K25 : Kept (fun x => some x = J.lv.ownBlock) W w5 := Kept.grow hg
  have K5 : Kept (· = b) w5 (w5.setCell ⟨b, 2, none⟩ v) := (Kept.refl (fun x => x = b) w5).set (p := ⟨b, 2, none⟩) rfl v
  have hvb : J.lv.ownBlock ≠ some b := own_ne_cells h.lr h.head (by decide)
  have K : Kept G W (w5.setCell ⟨b, 2, none⟩ v) := (K25.mono (fun x e => h.gl x e.symm)).trans (K5.mono (fun x e => by rw [e]; exact h.gb))
  have h5 : BlkAt w5 b _ _ := h.head.kept K25 (fun e => hvb e.symm)
  have hv : v.ownBlock ≠ some b := by
    intro e
    rcases hat with h1 | h1
    · exact hvb (by rw [← h1, e])
    · rw [h1] at e
      injection e with e
      have := h.head.lt
      omega
  refine ⟨{ h with head := h5.put 2 v, base := h.base.trans (K.below h.base.size h.gB), lr := ownsRow_kept hown K5 (fun g hg e => hv (by rw [hg, e])), cr := ?_, er := ?_, gl := ?_ }, K⟩
  · refine ownsRow_kept (ownsRow_kept h.cr K25 (fun g hg e => ?_)) K5 (fun g hg e => ?_)
    · obtain ⟨c1, f1, q1⟩ := row_kind h.cr g hg
      obtain ⟨c2, f2, q2⟩ := row_kind h.lr g e.symm
      rw [q1] at q2
      injection q2 with q2
      injection q2 with _ q2
      exact absurd q2 (by decide)
    · exact own_ne_cells h.cr h.head (by decide) (by rw [hg, e])
  · refine ownsRow_kept (ownsRow_kept h.er K25 (fun g hg e => ?_)) K5 (fun g hg e => ?_)
    · obtain ⟨c1, f1, q1⟩ := row_kind h.er g hg
      obtain ⟨c2, f2, q2⟩ := row_kind h.lr g e.symm
      rw [q1] at q2
      injection q2 with q2
      injection q2 with _ q2
      exact absurd q2 (by decide)
    · exact own_ne_cells h.er h.head (by decide) (by rw [hg, e])
  · intro g hg'
    have hg2 : v.ownBlock = some g := hg'
    rcases hat with h1 | h1
    · exact h.gl g (by rw [← h1]; exact hg2)
    · rw [h1] at hg2
      injection hg2 with hg2
      exact hnew g (by omega)
/-- Another row of cs. -/
theorem RfR.putC {w0 : World} {G : Nat → Prop} {b : Nat} {W w5 : World} {R : Rf} {J : RfH} (h : RfR w0 G b W R J) (hnew : ∀ k, W.heap.size ≤ k → G k) {v : Value} {L' : List Int} (hg : W.grownBy w5 J.cv.ownBlock)
    (hown : w5.ownsRow 0 3 1 v L'.length (L'.map (Value.int .i64))) (hat : v.ownBlock = J.cv.ownBlock ∨ v.ownBlock = some W.heap.size) :
    RfR w0 G b (w5.setCell ⟨b, 3, none⟩ v) { R with cs := L' } { J with cv := v } ∧ Kept G W (w5.setCell ⟨b, 3, none⟩ v) := by
  have K25 : Kept (fun x => some x = J.cv.ownBlock) W w5 := Kept.grow hg
  have K5 : Kept (· = b) w5 (w5.setCell ⟨b, 3, none⟩ v) := (Kept.refl (fun x => x = b) w5).set (p := ⟨b, 3, none⟩) rfl v
  have hvb : J.cv.ownBlock ≠ some b := own_ne_cells h.cr h.head (by decide)
  have K : Kept G W (w5.setCell ⟨b, 3, none⟩ v) := (K25.mono (fun x e => h.gc x e.symm)).trans (K5.mono (fun x e => by rw [e]; exact h.gb))
  have h5 : BlkAt w5 b _ _ := h.head.kept K25 (fun e => hvb e.symm)
  have hv : v.ownBlock ≠ some b := by
    intro e
    rcases hat with h1 | h1
    · exact hvb (by rw [← h1, e])
    · rw [h1] at e
      injection e with e
      have := h.head.lt
      omega
  refine ⟨{ h with head := h5.put 3 v, base := h.base.trans (K.below h.base.size h.gB), cr := ownsRow_kept hown K5 (fun g hg e => hv (by rw [hg, e])), lr := ?_, er := ?_, gc := ?_ }, K⟩
  · refine ownsRow_kept (ownsRow_kept h.lr K25 (fun g hg e => ?_)) K5 (fun g hg e => ?_)
    · obtain ⟨c1, f1, q1⟩ := row_kind h.lr g hg
      obtain ⟨c2, f2, q2⟩ := row_kind h.cr g e.symm
      rw [q1] at q2
      injection q2 with q2
      injection q2 with _ q2
      exact absurd q2 (by decide)
    · exact own_ne_cells h.lr h.head (by decide) (by rw [hg, e])
  · refine ownsRow_kept (ownsRow_kept h.er K25 (fun g hg e => ?_)) K5 (fun g hg e => ?_)
    · obtain ⟨c1, f1, q1⟩ := row_kind h.er g hg
      obtain ⟨c2, f2, q2⟩ := row_kind h.cr g e.symm
      rw [q1] at q2
      injection q2 with q2
      injection q2 with _ q2
      exact absurd q2 (by decide)
    · exact own_ne_cells h.er h.head (by decide) (by rw [hg, e])
  · intro g hg'
    have hg2 : v.ownBlock = some g := hg'
    rcases hat with h1 | h1
    · exact h.gc g (by rw [← h1]; exact hg2)
    · rw [h1] at hg2
      injection hg2 with hg2
      exact hnew g (by omega)
/-- Another row of ev. -/
theorem RfR.putE {w0 : World} {G : Nat → Prop} {b : Nat} {W w5 : World} {R : Rf} {J : RfH} (h : RfR w0 G b W R J) (hnew : ∀ k, W.heap.size ≤ k → G k) {v : Value} {L' : List (Int × (Int × Int))} (hg : W.grownBy w5 J.ev.ownBlock)
    (hown : w5.ownsRow 0 106 3 v L'.length (L'.flatMap lenC)) (hat : v.ownBlock = J.ev.ownBlock ∨ v.ownBlock = some W.heap.size) :
    RfR w0 G b (w5.setCell ⟨b, 4, none⟩ v) { R with ev := L' } { J with ev := v } ∧ Kept G W (w5.setCell ⟨b, 4, none⟩ v) := by
  have K25 : Kept (fun x => some x = J.ev.ownBlock) W w5 := Kept.grow hg
  have K5 : Kept (· = b) w5 (w5.setCell ⟨b, 4, none⟩ v) := (Kept.refl (fun x => x = b) w5).set (p := ⟨b, 4, none⟩) rfl v
  have hvb : J.ev.ownBlock ≠ some b := own_ne_cells h.er h.head (by decide)
  have K : Kept G W (w5.setCell ⟨b, 4, none⟩ v) := (K25.mono (fun x e => h.ge x e.symm)).trans (K5.mono (fun x e => by rw [e]; exact h.gb))
  have h5 : BlkAt w5 b _ _ := h.head.kept K25 (fun e => hvb e.symm)
  have hv : v.ownBlock ≠ some b := by
    intro e
    rcases hat with h1 | h1
    · exact hvb (by rw [← h1, e])
    · rw [h1] at e
      injection e with e
      have := h.head.lt
      omega
  refine ⟨{ h with head := h5.put 4 v, base := h.base.trans (K.below h.base.size h.gB), er := ownsRow_kept hown K5 (fun g hg e => hv (by rw [hg, e])), lr := ?_, cr := ?_, ge := ?_ }, K⟩
  · refine ownsRow_kept (ownsRow_kept h.lr K25 (fun g hg e => ?_)) K5 (fun g hg e => ?_)
    · obtain ⟨c1, f1, q1⟩ := row_kind h.lr g hg
      obtain ⟨c2, f2, q2⟩ := row_kind h.er g e.symm
      rw [q1] at q2
      injection q2 with q2
      injection q2 with _ q2
      exact absurd q2 (by decide)
    · exact own_ne_cells h.lr h.head (by decide) (by rw [hg, e])
  · refine ownsRow_kept (ownsRow_kept h.cr K25 (fun g hg e => ?_)) K5 (fun g hg e => ?_)
    · obtain ⟨c1, f1, q1⟩ := row_kind h.cr g hg
      obtain ⟨c2, f2, q2⟩ := row_kind h.er g e.symm
      rw [q1] at q2
      injection q2 with q2
      injection q2 with _ q2
      exact absurd q2 (by decide)
    · exact own_ne_cells h.cr h.head (by decide) (by rw [hg, e])
  · intro g hg'
    have hg2 : v.ownBlock = some g := hg'
    rcases hat with h1 | h1
    · exact h.ge g (by rw [← h1]; exact hg2)
    · rw [h1] at hg2
      injection hg2 with hg2
      exact hnew g (by omega)
theorem mem_put_self (x : Hd) (T : List Hd) (h : Rise T) : x ∈ putT x T := by
  have := at?_putT x T h x.h
  rw [if_pos rfl] at this
  exact (at?_mem this).1
theorem mem_put_other {x y : Hd} {T : List Hd} (h : Rise T) (hy : y ∈ T) (hne : y.h ≠ x.h) : y ∈ putT x T := by
  have := at?_putT x T h y.h
  rw [if_neg hne, at?_of_mem h hy] at this
  exact (at?_mem this).1
/-- A handle more. -/
theorem Rel.add {N : Nat} {S : Tb} {R : Rf} (h : Rel N S R) (ok : TbOk N S) {k : Nat} (hk : k < S.tb.length) (x : Hd) :
    Rel (N + 1) { S with tb := S.tb.set k (putT { x with h := freeT (S.tb.getD k []) } (S.tb.getD k [])) } { R with L := R.L ++ [((k : Int), { x with h := freeT (S.tb.getD k []) })] } := by
  have hrise := ok.rise k hk
  obtain ⟨f1, _⟩ := freeIn_spec (S.tb.getD k []) 1 hrise (fun y hy => (ok.hd k hk y hy).h1)
  have hfree := at?_none f1
  have hlen : (S.tb.set k (putT { x with h := freeT (S.tb.getD k []) } (S.tb.getD k []))).length = S.tb.length := List.length_set
  refine { n := ?_, ms := h.ms, cs := h.cs, a1 := ?_, a2 := ?_, nd := ?_, e1 := h.e1, e2 := h.e2, ll := ?_, le := Nat.le_succ_of_le h.le }
  · show R.n = (S.tb.set k _).length
    rw [hlen, h.n]
  · intro p hp
    show ∃ j : Nat, p.1 = j ∧ j < (S.tb.set k _).length ∧ p.2 ∈ (S.tb.set k _).getD j []
    rw [hlen]
    rcases List.mem_append.1 hp with hp | hp
    · obtain ⟨j, j1, j2, j3⟩ := h.a1 p hp
      refine ⟨j, j1, j2, ?_⟩
      by_cases e : j = k
      · subst e
        rw [set_self _ _ _ _ hk]
        exact mem_put_other hrise j3 (hfree _ j3)
      · rw [set_ne _ _ _ _ _ e]
        exact j3
    · simp only [List.mem_singleton] at hp
      subst hp
      refine ⟨k, rfl, hk, ?_⟩
      rw [set_self _ _ _ _ hk]
      exact mem_put_self _ _ hrise
  · intro j hj y hy
    have hj' : j < S.tb.length := by rw [← hlen]; exact hj
    have hy' : y ∈ (S.tb.set k (putT { x with h := freeT (S.tb.getD k []) } (S.tb.getD k []))).getD j [] := hy
    by_cases e : j = k
    · subst e
      rw [set_self _ _ _ _ hk] at hy'
      rcases mem_putT _ _ _ hy' with rfl | hy2
      · exact List.mem_append_right _ (by simp)
      · exact List.mem_append_left _ (h.a2 j hj' y hy2)
    · rw [set_ne _ _ _ _ _ e] at hy'
      exact List.mem_append_left _ (h.a2 j hj' y hy')
  · refine List.pairwise_append.2 ⟨h.nd, List.pairwise_singleton _ _, fun p hp q hq => ?_⟩
    simp only [List.mem_singleton] at hq
    subst hq
    rintro ⟨e1, e2⟩
    obtain ⟨j, j1, j2, j3⟩ := h.a1 p hp
    have e3 : j = k := by
      have e4 : p.1 = (k : Int) := e1
      omega
    subst e3
    exact hfree _ j3 e2
  · show (R.L ++ [_]).length ≤ N + 1
    rw [List.length_append]
    have := h.ll
    simp
    omega
theorem free_step (T : List Hd) (m : Nat) (hm : m < T.length) : freeIn ((m : Int) + 1) (T.drop m) = if (T.getD m Hd.zero).h = (m : Int) + 1 then freeIn (((m + 1 : Nat) : Int) + 1) (T.drop (m + 1)) else (m : Int) + 1 := by
  rw [show T.drop m = T.getD m Hd.zero :: T.drop (m + 1) by rw [List.getD_eq_getElem?_getD, List.getElem?_eq_getElem hm]; exact List.drop_eq_getElem_cons hm]
  rw [freeIn]
  norm_cast
theorem info_one : (Try.prog.info? 70).map (fun i => (i.zero, i.size, i.bytes)) = some (some (.agg #[.int .i64 0, .int .i64 0, .int .i64 0, .int .i64 0, .bool false, .int .i64 0, .int .i64 0]), 7, 56) := by kernel_rfl
theorem one_one (p : Int × Hd) : ∀ u ∈ oneC p, u.oneCell' = true := by
  intro u hu
  simp [oneC, Hd.cs] at hu
  rcases hu with rfl | rfl | rfl | rfl | rfl | rfl | rfl <;> rfl
theorem news_one (w : World) (p : Int × Hd) (T : TypeId) : ∀ j u, (oneC p)[j]? = some u → (w.alloc (.cells (oneC p).toArray T)).cell? ((⟨w.heap.size, 0, none⟩ : Addr).add j) = some u := by
  intro j u hj
  have hadd : (⟨w.heap.size, 0, none⟩ : Addr).add j = ⟨w.heap.size, j, none⟩ := by unfold Addr.add; split <;> simp_all
  rw [hadd, BlkAt.cell (BlkAt.new w _ T) j]
  simpa using hj
end Go.Proofs.Ytglhfofofacekaa
