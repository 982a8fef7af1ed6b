/- What is laid of instructions; what stays while a buffer grows. -/
import Derived.Test.YtfhifnkekegkkaaInsP7
namespace Go.Proofs.Ytfhifnkekegkkaa
open Go.RowKit
open Leb (putU putS)

mutual
/-- An instruction's bytes. -/
def putI : Ins → List Int
  | .mk op a b m n l e => opB op ++ (fldB (shapeV op).1 a b m n ++ (if (shapeV op).1 = 2 then putL l ++ ((if e.length = 0 then [] else 5 :: putL e) ++ [11]) else []))
/-- Instructions' bytes, without an end. -/
def putL : List Ins → List Int
  | [] => []
  | i :: r => putI i ++ putL r
end
mutual
/-- The numbers of an int. -/
def wfI : Ins → Prop
  | .mk _ a _ _ _ l e => (-9223372036854775808 ≤ a ∧ a ≤ 9223372036854775807) ∧ wfL l ∧ wfL e
def wfL : List Ins → Prop
  | [] => True
  | i :: r => wfI i ∧ wfL r
end
theorem putI_eq (c : Ins) : putI c = opB c.op ++ (fldB (shapeV c.op).1 c.a c.b c.m c.n ++ (if (shapeV c.op).1 = 2 then putL c.l ++ ((if c.e.length = 0 then [] else 5 :: putL c.e) ++ [11]) else [])) := by
  cases c with
  | mk op a b m n l e =>
    rw [putI]
    rfl
theorem wfI_eq (c : Ins) : wfI c ↔ (-9223372036854775808 ≤ c.a ∧ c.a ≤ 9223372036854775807) ∧ wfL c.l ∧ wfL c.e := by
  cases c with
  | mk op a b m n l e =>
    rw [wfI]
    rfl
theorem putL_app (x y : List Ins) : putL (x ++ y) = putL x ++ putL y := by
  induction x with
  | nil => rw [putL]; rfl
  | cons i r ih => rw [List.cons_append, putL, putL, ih, List.append_assoc]
theorem take_getD {l : List Ins} {i : Nat} (h : i < l.length) : l.take (i + 1) = l.take i ++ [l.getD i default] := by
  rw [List.take_succ_eq_append_getElem h, List.getD_eq_getElem?_getD, List.getElem?_eq_getElem h]
  rfl
theorem putL_take {l : List Ins} {i : Nat} (h : i < l.length) : putL (l.take (i + 1)) = putL (l.take i) ++ putI (l.getD i default) := by
  rw [take_getD h, putL_app, putL, putL, List.append_nil]
theorem putL_split {l : List Ins} {i : Nat} (h : i < l.length) : (putL (l.take i)).length + (putI (l.getD i default)).length ≤ (putL l).length := by
  have e : putL l = putL (l.take (i + 1)) ++ putL (l.drop (i + 1)) := by rw [← putL_app, List.take_append_drop]
  rw [e, putL_take h, List.length_append, List.length_append]
  omega
theorem okL_at {d : Nat} {l : List Ins} (h : okL d l = true) {i : Nat} (hi : i < l.length) : okI d (l.getD i default) = true := by
  induction l generalizing i with
  | nil => exact absurd hi (by simp)
  | cons c r ih =>
    rw [okL, Bool.and_eq_true] at h
    cases i with
    | zero => simpa using h.1
    | succ k => simpa using ih h.2 (i := k) (by rw [List.length_cons] at hi; omega)
theorem wfL_at {l : List Ins} (h : wfL l) {i : Nat} (hi : i < l.length) : wfI (l.getD i default) := by
  induction l generalizing i with
  | nil => exact absurd hi (by simp)
  | cons c r ih =>
    rw [wfL] at h
    cases i with
    | zero => simpa using h.1
    | succ k => simpa using ih h.2 (i := k) (by rw [List.length_cons] at hi; omega)
theorem idxB_parts {n : Int} (h : idxB n = true) : 0 ≤ n ∧ n ≤ 4294967295 := of_decide_eq_true h
/-- What may be has numbers of these kinds. -/
theorem mayI_bounds {c : Ins} (h : mayI c = true) : (0 ≤ c.m ∧ c.m ≤ 4294967295) ∧ (0 ≤ c.b ∧ c.b ≤ 63) ∧ c.n.length ≤ 1000 ∧ (∀ i, i < c.n.length → 0 ≤ c.n.getD i 0 ∧ c.n.getD i 0 ≤ 4294967295) ∧ mayAV (shapeV c.op).1 c.op c.a = true := by
  have her := (mayI_parts h).1
  rw [← may_same c her] at h
  unfold mayPV at h
  simp only [Bool.and_eq_true] at h
  obtain ⟨⟨⟨⟨⟨hA, hB⟩, hM⟩, hN⟩, _⟩, _⟩ := h
  refine ⟨?_, ?_, ?_, ?_, hA⟩
  · unfold mayMV at hM
    split at hM
    · exact idxB_parts hM
    · have := of_decide_eq_true hM
      omega
  · unfold mayBV at hB
    split at hB
    · simp only [Bool.and_eq_true, decide_eq_true_eq] at hB
      exact hB
    · have := of_decide_eq_true hB
      omega
  · unfold mayNV at hN
    split at hN
    · simp only [Bool.and_eq_true, decide_eq_true_eq] at hN
      exact hN.1
    · have := of_decide_eq_true hN
      omega
  · unfold mayNV at hN
    split at hN
    · simp only [Bool.and_eq_true, decide_eq_true_eq, List.all_eq_true] at hN
      intro i hi
      refine idxB_parts (hN.2 _ ?_)
      rw [List.getD_eq_getElem?_getD, List.getElem?_eq_getElem hi]
      exact List.getElem_mem _
    · have := of_decide_eq_true hN
      intro i hi
      omega
mutual
theorem putI_len (d : Nat) : ∀ c : Ins, okI d c = true → (putI c).length ≤ 10100 * sizI c
  | .mk op a b m n l e, h => by
    have hm : mayI (.mk op a b m n l e) = true := by
      rw [okI, Bool.and_eq_true] at h
      exact h.1
    have h1 := opB_length op
    have h2 := fldB_length (shapeV op).1 a b m n
    have h3 : n.length ≤ 1000 := (mayI_bounds hm).2.2.1
    rw [putI, sizI, List.length_append, List.length_append]
    by_cases hs : (shapeV op).1 = 2
    · have hb := shapeV_two hs
      rw [okI, if_pos hb, Bool.and_eq_true, Bool.and_eq_true, Bool.and_eq_true] at h
      have h4 := putL_len (d + 1) l h.2.2.1
      have h5 := putL_len (d + 1) e h.2.2.2
      rw [if_pos hs, List.length_append, List.length_append, List.length_singleton]
      split
      · rw [List.length_nil]; omega
      · rw [List.length_cons]; omega
    · rw [if_neg hs, List.length_nil]
      omega
theorem putL_len (d : Nat) : ∀ l : List Ins, okL d l = true → (putL l).length ≤ 10100 * sizL l
  | [], _ => by rw [putL, sizL]; simp
  | c :: r, h => by
    rw [okL, Bool.and_eq_true] at h
    have h1 := putI_len d c h.1
    have h2 := putL_len d r h.2
    rw [putL, sizL, List.length_append]
    omega
end
/-- Blocks below B stay, and so does each instruction that stands in a block of its own. -/
structure KeepI (B : Nat) (w w' : World) : Prop where
  below : Below B w w'
  ins : ∀ (k : Nat) (cs : Array Value), w.heap[k]? = some (.cells cs 47 (0, 0)) → w'.heap[k]? = some (.cells cs 47 (0, 0))
theorem KeepI.refl (B : Nat) (w : World) : KeepI B w w := ⟨Below.refl _ _, fun _ _ h => h⟩
theorem KeepI.trans {B : Nat} {a b c : World} (h : KeepI B a b) (k : KeepI B b c) : KeepI B a c := ⟨h.below.trans k.below, fun i cs hi => k.ins i cs (h.ins i cs hi)⟩
theorem KeepI.of_below {B : Nat} {w w' : World} (hB : B ≤ w.heap.size) (h : Below w.heap.size w w') : KeepI B w w' := ⟨h.mono hB, fun k _ hk => (h.block k (Array.getElem?_eq_some_iff.1 hk).1).trans hk⟩
theorem Bytes.ne {B : Nat} {v : Value} {xs : List Int} {w : World} (h : Bytes B v xs w) {k : Nat} {cs : Array Value} (hk : w.heap[k]? = some (.cells cs 47 (0, 0))) : some k ≠ v.ownBlock := by
  rcases h.2 with ⟨rfl, _⟩ | ⟨g, cap, cur, rfl, _, hg, _⟩
  · exact fun h => by cases h
  · intro he
    cases he
    rw [hg] at hk
    simp only [Option.some.injEq, Obj.cells.injEq] at hk
    exact absurd hk.2.1 (by decide)
theorem Bytes.own {B : Nat} {v : Value} {xs : List Int} {w : World} (h : Bytes B v xs w) : ∀ k, v.ownBlock = some k → B ≤ k := fun k hk => (World.ownsRow.lt h k hk).1
theorem KeepI.grown {B : Nat} {v : Value} {xs : List Int} {w w' : World} (hby : Bytes B v xs w) (hB : B ≤ w.heap.size) (hg : w.grownBy w' v.ownBlock) : KeepI B w w' :=
  ⟨(Below.refl B w).grown hg hB hby.own, fun k _ hk => (hg.block k (Array.getElem?_eq_some_iff.1 hk).1 (hby.ne hk)).trans hk⟩
theorem Bytes.below {base : Nat} {v : Value} {xs : List Int} {w w' : World} (h : Bytes base v xs w) (hb : Below w.heap.size w w') : Bytes base v xs w' := by
  refine ⟨h.1, ?_⟩
  rcases h.2 with hn | ⟨g, cap, cur, rfl, hg, hgg, rest⟩
  · exact .inl hn
  · exact .inr ⟨g, cap, cur, rfl, hg, (hb.block g (Array.getElem?_eq_some_iff.1 hgg).1).trans hgg, rest⟩
theorem strCells_nums {l : List Int} (h : ∀ z ∈ l, 0 ≤ z ∧ z < 256) : Lib.strCells (strOfNums l) = l.map (Value.int .u8) := by
  unfold Lib.strCells
  rw [strOfNums_data, List.map_map]
  refine List.map_congr_left fun z hz => ?_
  have := h z hz
  show Value.int .u8 ((UInt8.ofNat z.toNat).toNat : Nat) = _
  rw [UInt8.toNat_ofNat', Nat.mod_eq_of_lt (by omega)]
  congr 1
  omega
/-- A buffer, an instruction in a block of its own beside it, and what stays. -/
structure StI (B : Nat) (w0 w : World) (q : Nat) (cs : Array Value) (v : Value) (ys : List Int) (wx : World) : Prop where
  by' : Bytes B v ys wx
  keep : KeepI B w wx
  lies : Below B w0 wx
  ins : wx.heap[q]? = some (.cells cs 47 (0, 0))
  size : B ≤ wx.heap.size
theorem StI.below {B : Nat} {w0 w : World} {q : Nat} {cs : Array Value} {v : Value} {ys : List Int} {wx wy : World} (h : StI B w0 w q cs v ys wx) (hb : Below wx.heap.size wx wy) : StI B w0 w q cs v ys wy :=
  ⟨h.by'.below hb, h.keep.trans (.of_below h.size hb), h.lies.trans (hb.mono h.size), (hb.block q (Array.getElem?_eq_some_iff.1 h.ins).1).trans h.ins, Nat.le_trans h.size hb.size⟩
theorem StI.start {B : Nat} {w0 w wr : World} {v : Value} {ys : List Int} (cs : Array Value) (hby : Bytes B v ys wr) (hk : KeepI B w wr) (hb : Below B w0 wr) (hz : B ≤ wr.heap.size) : StI B w0 w wr.heap.size cs v ys (wr.alloc (.cells cs 47)) :=
  ⟨hby.below ((Below.refl _ _).alloc (Nat.le_refl _) _), hk.trans (.of_below hz ((Below.refl _ _).alloc (Nat.le_refl _) _)), hb.alloc hz _, heap_alloc_new wr _, le_alloc hz⟩
theorem StI.grown {B : Nat} {w0 w : World} {q : Nat} {cs : Array Value} {v v' : Value} {ys zs : List Int} {wx wy : World} (h : StI B w0 w q cs v ys wx) (hg : wx.grownBy wy v.ownBlock) (hby : Bytes B v' zs wy) : StI B w0 w q cs v' zs wy := by
  have hk := KeepI.grown h.by' h.size hg
  exact ⟨hby, h.keep.trans hk, h.lies.trans hk.below, hk.ins _ _ h.ins, Nat.le_trans h.size hg.size⟩
theorem StI.str {B : Nat} {w0 w : World} {q : Nat} {cs : Array Value} {v v' : Value} {ys l : List Int} {wx wy : World} (h : StI B w0 w q cs v ys wx) (hl : ∀ z ∈ l, 0 ≤ z ∧ z < 256)
    (hown : wy.ownsRow B 5 1 v' (ys.length + (strOfNums l).size) (ys.map (Value.int .u8) ++ Lib.strCells (strOfNums l))) (hg : wx.grownBy wy v.ownBlock) : StI B w0 w q cs v' (ys ++ l) wy :=
  h.grown hg (by
    rw [strCells_nums hl, strOfNums_size] at hown
    unfold Bytes
    rwa [List.map_append, List.length_append])
theorem StI.one {B : Nat} {w0 w : World} {q : Nat} {cs : Array Value} {v v' : Value} {ys : List Int} {d : Int} {wx wy : World} (h : StI B w0 w q cs v ys wx)
    (hown : wy.ownsRow B 5 1 v' (ys.length + 1) (ys.map (Value.int .u8) ++ [.int .u8 d])) (hg : wx.grownBy wy v.ownBlock) : StI B w0 w q cs v' (ys ++ [d]) wy :=
  h.grown hg (Bytes.snoc hown)
theorem StI.sub {B : Nat} {w0 w : World} {q : Nat} {cs : Array Value} {v v' : Value} {ys zs : List Int} {wx wy : World} (h : StI B w0 w q cs v ys wx) (hby : Bytes B v' zs wy) (hk : KeepI B wx wy) : StI B w0 w q cs v' zs wy :=
  ⟨hby, h.keep.trans hk, h.lies.trans hk.below, hk.ins _ _ h.ins, Nat.le_trans h.size hk.below.size⟩
theorem StI.at {B : Nat} {w0 w : World} {q : Nat} {op a b m : Int} {xn xl xe : Option Addr} {nl ll el nc lc ec : Nat} {v : Value} {ys : List Int} {wx : World} (h : StI B w0 w q #[.int .i64 op, .int .i64 a, .int .i64 b, .int .i64 m, .slice xn nl nc, .slice xl ll lc, .slice xe el ec] v ys wx) : InsAt wx q op a b m xn xl xe nl ll el nc lc ec := by
  have h1 := h.ins
  refine ⟨?_, ?_, ?_, ?_, ?_, ?_, ?_⟩ <;> (unfold World.cell?; rw [h1]; rfl)
theorem shapeV_top {op : Int} (h : (shapeV op).2 = 0) : op ≤ 9223372036854775807 := by
  by_cases hm : op ∈ nameOps
  · have key : ∀ op ∈ nameOps, op ≤ 9223372036854775807 := by decide
    exact key op hm
  · rw [shapeV_other hm] at h
    by_cases hs : 0 < (Num.sig op).1
    · by_cases hbig : 197 ≤ op
      · rcases Num.sig_cases op with ⟨h, k⟩ | ⟨h, h', k⟩ | ⟨h, k⟩ | ⟨h, k⟩ | ⟨h, k⟩ | ⟨h, k⟩ | ⟨h, h', k⟩ | ⟨h, h', k⟩ | ⟨h, k⟩ | ⟨h, k⟩ | ⟨h, h', k⟩ | ⟨h, h', k⟩ | ⟨h, h', k⟩ | ⟨h, h', k⟩ | ⟨h, k⟩
        all_goals first
          | omega
          | (exfalso
             unfold Num.sigTup Num.tup3 at k
             simp only [Value.tuple.injEq, Array.mk.injEq, List.cons.injEq, Value.int.injEq, true_and] at k
             omega)
      · omega
    rw [if_neg hs] at h
    by_cases hw : 0 < (Mem.width op).1
    · have hm2 : op ∈ Mem.wOps := by
        by_cases q : op ∈ Mem.wOps
        · exact q
        · unfold Mem.width at hw
          rw [if_neg q] at hw
          exact absurd hw (by decide)
      have key : ∀ op ∈ Mem.wOps, op ≤ 9223372036854775807 := by decide
      exact key op hm2
    rw [if_neg hw] at h
    split at h
    · cases h
    split at h
    · cases h
    · cases h
theorem fields_any (c : Ins) (xn xl xe : Option Addr) (nl ll el nc lc ec : Nat) (w : World) (her : (shapeV c.op).2 = 0) (hn : nl = c.n.length) (hv : View w xn nl c.n) (ha0 : -9223372036854775808 ≤ c.a) (ha1 : c.a ≤ 9223372036854775807) (hm1 : c.m ≤ 9223372036854775807) (hb0 : 0 ≤ c.b) (hb1 : c.b ≤ 63) (hnl : c.n.length ≤ 1000) (hr : ∀ i, i < c.n.length → c.n.getD i 0 ≤ 9223372036854775807) :
    Calls Try.prog 24 #[.agg #[.int .i64 c.op, .int .i64 c.a, .int .i64 c.b, .int .i64 c.m, .slice xn nl nc, .slice xl ll lc, .slice xe el ec], .int .i64 (shapeV c.op).1] w fun e w' => e = .returned (.string (strOfNums (fldB (shapeV c.op).1 c.a c.b c.m c.n))) ∧ Below w.heap.size w w' := by
  have hnl2 : nl ≤ 1000 := by omega
  rcases shapeV_in c.op her with s | s | s | s | s | s | s | s | s | s | s
  all_goals rw [s]
  · exact fields_s1 c.op c.a c.b c.m c.n xn xl xe nl ll el nc lc ec w hn hv ha0 ha1 hm1 hb0 hb1 hnl2 hr
  · exact fields_s2 c.op c.a c.b c.m c.n xn xl xe nl ll el nc lc ec w hn hv ha0 ha1 hm1 hb0 hb1 hnl2 hr
  · exact fields_s3 c.op c.a c.b c.m c.n xn xl xe nl ll el nc lc ec w hn hv ha0 ha1 hm1 hb0 hb1 hnl2 hr
  · exact fields_s4 c.op c.a c.b c.m c.n xn xl xe nl ll el nc lc ec w hn hv ha0 ha1 hm1 hb0 hb1 hnl2 hr
  · exact fields_s5 c.op c.a c.b c.m c.n xn xl xe nl ll el nc lc ec w hn hv ha0 ha1 hm1 hb0 hb1 hnl2 hr
  · exact fields_s6 c.op c.a c.b c.m c.n xn xl xe nl ll el nc lc ec w hn hv ha0 ha1 hm1 hb0 hb1 hnl2 hr
  · exact fields_s7 c.op c.a c.b c.m c.n xn xl xe nl ll el nc lc ec w hn hv ha0 ha1 hm1 hb0 hb1 hnl2 hr
  · exact fields_s8 c.op c.a c.b c.m c.n xn xl xe nl ll el nc lc ec w hn hv ha0 ha1 hm1 hb0 hb1 hnl2 hr
  · exact fields_s9 c.op c.a c.b c.m c.n xn xl xe nl ll el nc lc ec w hn hv ha0 ha1 hm1 hb0 hb1 hnl2 hr
  · exact fields_s10 c.op c.a c.b c.m c.n xn xl xe nl ll el nc lc ec w hn hv ha0 ha1 hm1 hb0 hb1 hnl2 hr
  · exact fields_s11 c.op c.a c.b c.m c.n xn xl xe nl ll el nc lc ec w hn hv ha0 ha1 hm1 hb0 hb1 hnl2 hr
/-- What laying behind a buffer leaves. -/
def GivesI (B : Nat) (xs : List Int) (w : World) (e : Ending) (w' : World) : Prop := ∃ v, e = .returned v ∧ Bytes B v xs w' ∧ KeepI B w w'
end Go.Proofs.Ytfhifnkekegkkaa
