/- Texts of the proof of ModuleOrderUptoProof, part 22. -/
import Derived.Deep.RegionHeld3
import Derived.Test.YtekonefnniaheaaGreatModuleOrderUptoProofQ21
set_option linter.unusedVariables false
set_option linter.unusedVariables false
namespace Go.Proofs.YtekonefnniaheaaGreat
open Go.RowKit Go.Deep
theorem info_cod : (Tryz.prog.info? 73).map (fun i => (i.zero, i.size, i.bytes)) = some (some (.agg #[.slice none 0 0, .slice none 0 0]), 2, 48) := by kernel_rfl
set_option maxRecDepth 100000 in
set_option maxHeartbeats 4000000 in
theorem tmList_cod (t : Nat) (g : St) (x : List Value) (most : Int) (hm : most ≤ 1000) (w : World) (h : TmAt w t g x) :
    Calls Tryz.prog 151 #[.pointer (some ⟨t, 0, none⟩), .int .i64 most, .func (.func 152) #[.pointer (some ⟨t, 0, none⟩)] #[]] w fun y w' => GivesLs codE 2 (listR most codR) t g x w y w' := by
  obtain ⟨ti, hi0, hz0, hz1, hz2⟩ := info_parts info_cod
  have HB := Lib.hid (tmNumber_any t g x w h)
  have HT := Lib.hid h.lt
  have HM := Lib.hid hm
  clear h hm
  go_enter Tryz.func151, Tryz.ntmps151
  go_wp2_with (first
    | (go_at_call 141; refine HB.out.mono ?_; rintro y w1 ⟨n, g1, rfl, hn, t1, k1, o1⟩; have O1 := Lib.hid o1; clear o1 HB; obtain ⟨N, hN⟩ := Int.eq_ofNat_of_zero_le hn.1; subst hN; have HNN := Lib.hid hn.2; clear hn)
    | (go_at_call 69; refine (tmNeed_any t g1 x (decide ((N : Int) ≤ most)) 14 _ t1).mono ?_; rintro y w2 ⟨rfl, t2, k2⟩))
  have HO : Hid (Out g (needR uT (fun n => decide (n ≤ most)) 14) (needS g1 (decide ((N : Int) ≤ most)) 14) (fun z => (N : Int) = z)) := Lib.hid (O1.out.need (by decide) (fun z e => by subst e; rfl))
  have HS := Lib.hid (lrel_start (E := codE) (m := 2) (T := 73) (R := codR) (N := N) HM.out t2 (k1.trans k2))
  revert HO HS
  generalize needS g1 (decide ((N : Int) ≤ most)) 14 = g0
  intro HO HS
  have HEND : Hid (∀ g' (P : List Cod → Prop), Out g0 (repR codR N) g' P → Out g (listR most codR) g' P) := Lib.hid fun g' P h => Out.then HO.out h
  clear HO O1 t1 t2 k1 k2
  go_loopw [8, 17] (fun lv iv wr => LRel codE 2 73 codR N t x g0 w lv iv wr) (fun _ iv _ => N - (intOf iv).toNat)
  case atStart => exact HS.out
  case round =>
    clear HS
    obtain ⟨i, a, len, cap, gi, rfl, hi, rfl, t1, kp, hst⟩ := hrel
    have HST := Lib.hid hst
    have HI := Lib.hid hi
    have HNI := HNN.out
    have hflt := t1.flt
    clear hst
    by_cases hlt : i < N
    · rcases HST.out with ⟨s, s0, ls, rfl, hg0, hN, rfl, hl, ⟨vs, hown, hel⟩, hR⟩ | ⟨f, rfl, hf0, ho⟩
      · replace hflt : wr.cell? ⟨t, 1, none⟩ = some (.int .i64 0) := hflt
        have HG0 := Lib.hid hg0
        have HNK := Lib.hid hN
        have HL := Lib.hid hl
        have HR := Lib.hid hR
        have HEL := Lib.hid hel
        have HOWN := Lib.hid hown
        have HKP := Lib.hid kp
        have q3 : len + 1 ≤ maxLen := by unfold maxLen; omega
        have q4 : (len + 1) * 48 ≤ 140737488355328 := by omega
        have hzz := kp.size
        clear hg0 hN hl hR hel hown kp HST
        go_wp2_with (first
          | (go_at_call 152; refine (tmCode_any t _ x _ t1).mono ?_; rintro y w4 ⟨z0, z1, z2, z3, z4, z5, g2, rfl, t4, k4, o4⟩; have O4 := Lib.hid o4; clear o4; have hown4 := rowK_kept HOWN.out k4 (by intro j _ q; have := HT.out; omega); rw [HL.out] at hown4; have hz4 := k4.size)
          | (at_builtin; refine wpList_append_lies _ rfl _ _ 29 rfl w.heap.size 73 ti _ 2 48 Tryz.underlying29 hi0 hz0 hz1 hz2 rfl (by decide) _ len vs rfl (World.ownsRow.alloc hown4 _) ⟨w4.heap.size, 0, none⟩ 1 1 [.slice z0 z1 z2, .slice z3 z4 z5] rfl rfl (newsL w4 _ [.slice z0 z1 z2, .slice z3 z4 z5]) (by intro u hu; simp only [List.mem_cons, List.not_mem_nil, or_false] at hu; rcases hu with rfl | rfl <;> rfl) (by decide) q3 q4 (le_alloc (show w.heap.size ≤ w4.heap.size by omega)) _ rfl ?_; intro gb cap5 w5 hown5 hg5 hat5 hlt5))
        have hO : Out (.ok s) codR g2 (fun a => Val codE (wr.heap.size ≤ ·) w4 [.slice z0 z1 z2, .slice z3 z4 z5] a) := O4.out
        have hown0 := HOWN.out
        have hown6 := hown5
        have hll := HL.out
        rw [← hll] at hown6
        obtain ⟨t5, k5, hP⟩ := rowV_step HT.out hown0 HEL.out HKP.out k4 t4 hown6 hg5 hat5 rfl
        have HNX := lrel_next (E := codE) (m := 2) (T := 73) hlt HNK.out hll HR.out hO t5 k5 hP
        rw [HG0.out]
        rw [hll] at HNX
        have hlw : IntKind.i64.wrap ((len : Int) + 1) = ((len + 1 : Nat) : Int) := by
          rw [IntKind.wrap_i64]; omega
        refine ⟨?_, ?_⟩
        · first | exact HNX | (rw [hlw]; exact HNX) | (rw [show ((len : Int) + 1) = ((len + 1 : Nat) : Int) by omega]; exact HNX)
        · simp [intOf]; omega
      · replace hflt : wr.cell? ⟨t, 1, none⟩ = some (.int .i64 f) := hflt
        have e1 : (f != 0) = true := by simpa using hf0
        have HOO := Lib.hid ho
        clear hf0 ho HST
        go_wp2_with fail
        go_ret
        exact ⟨_, _, _, _, rfl, t1, kp, HEND.out _ _ (out_any HOO.out)⟩
    · have hie : i = N := by omega
      subst hie
      go_wp2_with fail
      go_ret
      exact ⟨_, _, _, _, rfl, t1, kp, HEND.out _ _ (lrel_end HST.out)⟩
end Go.Proofs.YtekonefnniaheaaGreat
set_option linter.unusedVariables false
namespace Go.Proofs.YtekonefnniaheaaGreat
open Go.RowKit Go.Deep

/-- A cell holds a slice of things. -/
def SlAt {α : Type} [Inhabited α] (E : World → Nat → Nat → α → Prop) (m B : Nat) (w : World) (v : Option Value) (ls : List α) : Prop := ∃ a len cap, v = some (.slice a len cap) ∧ SlV E m B w a len cap ls
theorem SlAt.after {α : Type} [Inhabited α] {E : World → Nat → Nat → α → Prop} {m B t : Nat} {w w1 : World} {v : Option Value} {ls : List α} (h : SlAt E m B w v ls) (k : Kept (· = t) w w1) (ht : t < B) : SlAt E m B w1 v ls := by
  obtain ⟨a, len, cap, e, hs⟩ := h
  exact ⟨a, len, cap, e, hs.after k ht (Nat.le_refl _)⟩
/-- A taker's other cells: the module so far. -/
structure SoX (B : Nat) (w : World) (x : List Value) (so : Sofar) : Prop where
  len : x.length = 13
  f0 : SlAt ftE 2 B w x[0]? so.m.types
  f1 : SlAt impE 7 B w x[1]? so.m.imports
  f2 : SlAt intE 1 B w x[2]? so.m.funcs
  f3 : SlAt limE 2 B w x[3]? so.m.tables
  f4 : SlAt limE 2 B w x[4]? so.m.mems
  f5 : SlAt gloE 9 B w x[5]? so.m.globals
  f6 : SlAt expE 3 B w x[6]? so.m.exports
  f7 : x[7]? = some (.int .i64 so.m.start) ∧ so.m.start ≤ 4294967296
  f8 : SlAt eleE 9 B w x[8]? so.m.elems
  f9 : SlAt codE 2 B w x[9]? so.m.codes
  f10 : SlAt datE 9 B w x[10]? so.m.datas
  f11 : x[11]? = some (.int .i64 so.last)
  f12 : x[12]? = some (.int .i64 so.d)
theorem SoX.after {B t : Nat} {w w1 : World} {x : List Value} {so : Sofar} (h : SoX B w x so) (k : Kept (· = t) w w1) (ht : t < B) : SoX B w1 x so :=
  ⟨h.len, h.f0.after k ht, h.f1.after k ht, h.f2.after k ht, h.f3.after k ht, h.f4.after k ht, h.f5.after k ht, h.f6.after k ht, h.f7, h.f8.after k ht, h.f9.after k ht, h.f10.after k ht, h.f11, h.f12⟩
/-- What may be asked of these cells, whatever was read. -/
structure ShX (x : List Value) : Prop where
  len : x.length = 13
  s2 : ∃ a l c, x[2]? = some (.slice a l c)
  s9 : ∃ a l c, x[9]? = some (.slice a l c)
  s10 : ∃ a l c, x[10]? = some (.slice a l c)
  s11 : ∃ z, x[11]? = some (.int .i64 z)
  s12 : ∃ z, x[12]? = some (.int .i64 z)
theorem tkC_get (g : St) (x : List Value) (i : Nat) : (tkC g x)[i + 2]? = x[i]? := by
  unfold tkC
  rw [List.getElem?_toArray]
  rfl
theorem ShX.has {x : List Value} (h : ShX x) {i : Nat} (hi : i < 13) : ∃ v, x[i]? = some v := ⟨x[i]'(by rw [h.len]; exact hi), List.getElem?_eq_getElem _⟩
theorem tkC_set (g : St) (x : List Value) (i : Nat) (v : Value) : (tkC g x).setIfInBounds (i + 2) v = tkC g (x.set i v) := by
  unfold tkC
  rw [List.setIfInBounds_toArray]
  rfl
theorem TmAt.put {w : World} {t : Nat} {g : St} {x : List Value} (h : TmAt w t g x) (i : Nat) (v : Value) : TmAt (w.setCell ⟨t, i + 2, none⟩ v) t g (x.set i v) := by
  have h1 := h.blk.put (i + 2) v
  rw [tkC_set] at h1
  exact ⟨h1, h.wf⟩
theorem ShX.setS {x : List Value} (h : ShX x) {i : Nat} (hi : i < 11) (a : Option Addr) (l c : Nat) : ShX (x.set i (.slice a l c)) := by
  have key : ∀ j, j < 13 → (x.set i (.slice a l c))[j]? = if i = j then some (.slice a l c) else x[j]? := fun j hj => by
    rw [List.getElem?_set]
    split
    · rw [if_pos (by rw [h.len]; omega)]
    · rfl
  refine ⟨by rw [List.length_set]; exact h.len, ?_, ?_, ?_, ?_, ?_⟩
  · rw [key 2 (by decide)]; split; exact ⟨a, l, c, rfl⟩; exact h.s2
  · rw [key 9 (by decide)]; split; exact ⟨a, l, c, rfl⟩; exact h.s9
  · rw [key 10 (by decide)]; split; exact ⟨a, l, c, rfl⟩; exact h.s10
  · rw [key 11 (by decide), if_neg (by omega)]; exact h.s11
  · rw [key 12 (by decide), if_neg (by omega)]; exact h.s12
theorem ShX.setZ {x : List Value} (h : ShX x) {i : Nat} (hi : i = 7 ∨ i = 11 ∨ i = 12) (z : Int) : ShX (x.set i (.int .i64 z)) := by
  have key : ∀ j, j < 13 → (x.set i (.int .i64 z))[j]? = if i = j then some (.int .i64 z) else x[j]? := fun j hj => by
    rw [List.getElem?_set]
    split
    · rw [if_pos (by rw [h.len]; omega)]
    · rfl
  refine ⟨by rw [List.length_set]; exact h.len, ?_, ?_, ?_, ?_, ?_⟩
  · rw [key 2 (by decide), if_neg (by omega)]; exact h.s2
  · rw [key 9 (by decide), if_neg (by omega)]; exact h.s9
  · rw [key 10 (by decide), if_neg (by omega)]; exact h.s10
  · rw [key 11 (by decide)]; split; exact ⟨z, rfl⟩; exact h.s11
  · rw [key 12 (by decide)]; split; exact ⟨z, rfl⟩; exact h.s12
theorem SoX.put0 {B : Nat} {w : World} {x : List Value} {so : Sofar} (h : SoX B w x so) {a : Option Addr} {l c : Nat} {ls : List FT} (hs : SlV ftE 2 B w a l c ls) : SoX B w (x.set 0 (.slice a l c)) ⟨{ so.m with types := ls }, so.last, so.d⟩ :=
  ⟨by rw [List.length_set]; exact h.len, ⟨a, l, c, List.getElem?_set_self (by rw [h.len]; decide), hs⟩, by rw [List.getElem?_set_ne (by decide)]; exact h.f1, by rw [List.getElem?_set_ne (by decide)]; exact h.f2, by rw [List.getElem?_set_ne (by decide)]; exact h.f3, by rw [List.getElem?_set_ne (by decide)]; exact h.f4, by rw [List.getElem?_set_ne (by decide)]; exact h.f5, by rw [List.getElem?_set_ne (by decide)]; exact h.f6, ⟨by rw [List.getElem?_set_ne (by decide)]; exact h.f7.1, h.f7.2⟩, by rw [List.getElem?_set_ne (by decide)]; exact h.f8, by rw [List.getElem?_set_ne (by decide)]; exact h.f9, by rw [List.getElem?_set_ne (by decide)]; exact h.f10, by rw [List.getElem?_set_ne (by decide)]; exact h.f11, by rw [List.getElem?_set_ne (by decide)]; exact h.f12⟩
theorem SoX.put1 {B : Nat} {w : World} {x : List Value} {so : Sofar} (h : SoX B w x so) {a : Option Addr} {l c : Nat} {ls : List Imp} (hs : SlV impE 7 B w a l c ls) : SoX B w (x.set 1 (.slice a l c)) ⟨{ so.m with imports := ls }, so.last, so.d⟩ :=
  ⟨by rw [List.length_set]; exact h.len, by rw [List.getElem?_set_ne (by decide)]; exact h.f0, ⟨a, l, c, List.getElem?_set_self (by rw [h.len]; decide), hs⟩, by rw [List.getElem?_set_ne (by decide)]; exact h.f2, by rw [List.getElem?_set_ne (by decide)]; exact h.f3, by rw [List.getElem?_set_ne (by decide)]; exact h.f4, by rw [List.getElem?_set_ne (by decide)]; exact h.f5, by rw [List.getElem?_set_ne (by decide)]; exact h.f6, ⟨by rw [List.getElem?_set_ne (by decide)]; exact h.f7.1, h.f7.2⟩, by rw [List.getElem?_set_ne (by decide)]; exact h.f8, by rw [List.getElem?_set_ne (by decide)]; exact h.f9, by rw [List.getElem?_set_ne (by decide)]; exact h.f10, by rw [List.getElem?_set_ne (by decide)]; exact h.f11, by rw [List.getElem?_set_ne (by decide)]; exact h.f12⟩
theorem SoX.put2 {B : Nat} {w : World} {x : List Value} {so : Sofar} (h : SoX B w x so) {a : Option Addr} {l c : Nat} {ls : List Int} (hs : SlV intE 1 B w a l c ls) : SoX B w (x.set 2 (.slice a l c)) ⟨{ so.m with funcs := ls }, so.last, so.d⟩ :=
  ⟨by rw [List.length_set]; exact h.len, by rw [List.getElem?_set_ne (by decide)]; exact h.f0, by rw [List.getElem?_set_ne (by decide)]; exact h.f1, ⟨a, l, c, List.getElem?_set_self (by rw [h.len]; decide), hs⟩, by rw [List.getElem?_set_ne (by decide)]; exact h.f3, by rw [List.getElem?_set_ne (by decide)]; exact h.f4, by rw [List.getElem?_set_ne (by decide)]; exact h.f5, by rw [List.getElem?_set_ne (by decide)]; exact h.f6, ⟨by rw [List.getElem?_set_ne (by decide)]; exact h.f7.1, h.f7.2⟩, by rw [List.getElem?_set_ne (by decide)]; exact h.f8, by rw [List.getElem?_set_ne (by decide)]; exact h.f9, by rw [List.getElem?_set_ne (by decide)]; exact h.f10, by rw [List.getElem?_set_ne (by decide)]; exact h.f11, by rw [List.getElem?_set_ne (by decide)]; exact h.f12⟩
theorem SoX.put3 {B : Nat} {w : World} {x : List Value} {so : Sofar} (h : SoX B w x so) {a : Option Addr} {l c : Nat} {ls : List Lim} (hs : SlV limE 2 B w a l c ls) : SoX B w (x.set 3 (.slice a l c)) ⟨{ so.m with tables := ls }, so.last, so.d⟩ :=
  ⟨by rw [List.length_set]; exact h.len, by rw [List.getElem?_set_ne (by decide)]; exact h.f0, by rw [List.getElem?_set_ne (by decide)]; exact h.f1, by rw [List.getElem?_set_ne (by decide)]; exact h.f2, ⟨a, l, c, List.getElem?_set_self (by rw [h.len]; decide), hs⟩, by rw [List.getElem?_set_ne (by decide)]; exact h.f4, by rw [List.getElem?_set_ne (by decide)]; exact h.f5, by rw [List.getElem?_set_ne (by decide)]; exact h.f6, ⟨by rw [List.getElem?_set_ne (by decide)]; exact h.f7.1, h.f7.2⟩, by rw [List.getElem?_set_ne (by decide)]; exact h.f8, by rw [List.getElem?_set_ne (by decide)]; exact h.f9, by rw [List.getElem?_set_ne (by decide)]; exact h.f10, by rw [List.getElem?_set_ne (by decide)]; exact h.f11, by rw [List.getElem?_set_ne (by decide)]; exact h.f12⟩
theorem SoX.put4 {B : Nat} {w : World} {x : List Value} {so : Sofar} (h : SoX B w x so) {a : Option Addr} {l c : Nat} {ls : List Lim} (hs : SlV limE 2 B w a l c ls) : SoX B w (x.set 4 (.slice a l c)) ⟨{ so.m with mems := ls }, so.last, so.d⟩ :=
  ⟨by rw [List.length_set]; exact h.len, by rw [List.getElem?_set_ne (by decide)]; exact h.f0, by rw [List.getElem?_set_ne (by decide)]; exact h.f1, by rw [List.getElem?_set_ne (by decide)]; exact h.f2, by rw [List.getElem?_set_ne (by decide)]; exact h.f3, ⟨a, l, c, List.getElem?_set_self (by rw [h.len]; decide), hs⟩, by rw [List.getElem?_set_ne (by decide)]; exact h.f5, by rw [List.getElem?_set_ne (by decide)]; exact h.f6, ⟨by rw [List.getElem?_set_ne (by decide)]; exact h.f7.1, h.f7.2⟩, by rw [List.getElem?_set_ne (by decide)]; exact h.f8, by rw [List.getElem?_set_ne (by decide)]; exact h.f9, by rw [List.getElem?_set_ne (by decide)]; exact h.f10, by rw [List.getElem?_set_ne (by decide)]; exact h.f11, by rw [List.getElem?_set_ne (by decide)]; exact h.f12⟩
theorem SoX.put5 {B : Nat} {w : World} {x : List Value} {so : Sofar} (h : SoX B w x so) {a : Option Addr} {l c : Nat} {ls : List Glo} (hs : SlV gloE 9 B w a l c ls) : SoX B w (x.set 5 (.slice a l c)) ⟨{ so.m with globals := ls }, so.last, so.d⟩ :=
  ⟨by rw [List.length_set]; exact h.len, by rw [List.getElem?_set_ne (by decide)]; exact h.f0, by rw [List.getElem?_set_ne (by decide)]; exact h.f1, by rw [List.getElem?_set_ne (by decide)]; exact h.f2, by rw [List.getElem?_set_ne (by decide)]; exact h.f3, by rw [List.getElem?_set_ne (by decide)]; exact h.f4, ⟨a, l, c, List.getElem?_set_self (by rw [h.len]; decide), hs⟩, by rw [List.getElem?_set_ne (by decide)]; exact h.f6, ⟨by rw [List.getElem?_set_ne (by decide)]; exact h.f7.1, h.f7.2⟩, by rw [List.getElem?_set_ne (by decide)]; exact h.f8, by rw [List.getElem?_set_ne (by decide)]; exact h.f9, by rw [List.getElem?_set_ne (by decide)]; exact h.f10, by rw [List.getElem?_set_ne (by decide)]; exact h.f11, by rw [List.getElem?_set_ne (by decide)]; exact h.f12⟩
theorem SoX.put6 {B : Nat} {w : World} {x : List Value} {so : Sofar} (h : SoX B w x so) {a : Option Addr} {l c : Nat} {ls : List Exp} (hs : SlV expE 3 B w a l c ls) : SoX B w (x.set 6 (.slice a l c)) ⟨{ so.m with exports := ls }, so.last, so.d⟩ :=
  ⟨by rw [List.length_set]; exact h.len, by rw [List.getElem?_set_ne (by decide)]; exact h.f0, by rw [List.getElem?_set_ne (by decide)]; exact h.f1, by rw [List.getElem?_set_ne (by decide)]; exact h.f2, by rw [List.getElem?_set_ne (by decide)]; exact h.f3, by rw [List.getElem?_set_ne (by decide)]; exact h.f4, by rw [List.getElem?_set_ne (by decide)]; exact h.f5, ⟨a, l, c, List.getElem?_set_self (by rw [h.len]; decide), hs⟩, ⟨by rw [List.getElem?_set_ne (by decide)]; exact h.f7.1, h.f7.2⟩, by rw [List.getElem?_set_ne (by decide)]; exact h.f8, by rw [List.getElem?_set_ne (by decide)]; exact h.f9, by rw [List.getElem?_set_ne (by decide)]; exact h.f10, by rw [List.getElem?_set_ne (by decide)]; exact h.f11, by rw [List.getElem?_set_ne (by decide)]; exact h.f12⟩
theorem SoX.put8 {B : Nat} {w : World} {x : List Value} {so : Sofar} (h : SoX B w x so) {a : Option Addr} {l c : Nat} {ls : List Ele} (hs : SlV eleE 9 B w a l c ls) : SoX B w (x.set 8 (.slice a l c)) ⟨{ so.m with elems := ls }, so.last, so.d⟩ :=
  ⟨by rw [List.length_set]; exact h.len, by rw [List.getElem?_set_ne (by decide)]; exact h.f0, by rw [List.getElem?_set_ne (by decide)]; exact h.f1, by rw [List.getElem?_set_ne (by decide)]; exact h.f2, by rw [List.getElem?_set_ne (by decide)]; exact h.f3, by rw [List.getElem?_set_ne (by decide)]; exact h.f4, by rw [List.getElem?_set_ne (by decide)]; exact h.f5, by rw [List.getElem?_set_ne (by decide)]; exact h.f6, ⟨by rw [List.getElem?_set_ne (by decide)]; exact h.f7.1, h.f7.2⟩, ⟨a, l, c, List.getElem?_set_self (by rw [h.len]; decide), hs⟩, by rw [List.getElem?_set_ne (by decide)]; exact h.f9, by rw [List.getElem?_set_ne (by decide)]; exact h.f10, by rw [List.getElem?_set_ne (by decide)]; exact h.f11, by rw [List.getElem?_set_ne (by decide)]; exact h.f12⟩
theorem SoX.put9 {B : Nat} {w : World} {x : List Value} {so : Sofar} (h : SoX B w x so) {a : Option Addr} {l c : Nat} {ls : List Cod} (hs : SlV codE 2 B w a l c ls) : SoX B w (x.set 9 (.slice a l c)) ⟨{ so.m with codes := ls }, so.last, so.d⟩ :=
  ⟨by rw [List.length_set]; exact h.len, by rw [List.getElem?_set_ne (by decide)]; exact h.f0, by rw [List.getElem?_set_ne (by decide)]; exact h.f1, by rw [List.getElem?_set_ne (by decide)]; exact h.f2, by rw [List.getElem?_set_ne (by decide)]; exact h.f3, by rw [List.getElem?_set_ne (by decide)]; exact h.f4, by rw [List.getElem?_set_ne (by decide)]; exact h.f5, by rw [List.getElem?_set_ne (by decide)]; exact h.f6, ⟨by rw [List.getElem?_set_ne (by decide)]; exact h.f7.1, h.f7.2⟩, by rw [List.getElem?_set_ne (by decide)]; exact h.f8, ⟨a, l, c, List.getElem?_set_self (by rw [h.len]; decide), hs⟩, by rw [List.getElem?_set_ne (by decide)]; exact h.f10, by rw [List.getElem?_set_ne (by decide)]; exact h.f11, by rw [List.getElem?_set_ne (by decide)]; exact h.f12⟩
theorem SoX.put10 {B : Nat} {w : World} {x : List Value} {so : Sofar} (h : SoX B w x so) {a : Option Addr} {l c : Nat} {ls : List Dat} (hs : SlV datE 9 B w a l c ls) : SoX B w (x.set 10 (.slice a l c)) ⟨{ so.m with datas := ls }, so.last, so.d⟩ :=
  ⟨by rw [List.length_set]; exact h.len, by rw [List.getElem?_set_ne (by decide)]; exact h.f0, by rw [List.getElem?_set_ne (by decide)]; exact h.f1, by rw [List.getElem?_set_ne (by decide)]; exact h.f2, by rw [List.getElem?_set_ne (by decide)]; exact h.f3, by rw [List.getElem?_set_ne (by decide)]; exact h.f4, by rw [List.getElem?_set_ne (by decide)]; exact h.f5, by rw [List.getElem?_set_ne (by decide)]; exact h.f6, ⟨by rw [List.getElem?_set_ne (by decide)]; exact h.f7.1, h.f7.2⟩, by rw [List.getElem?_set_ne (by decide)]; exact h.f8, by rw [List.getElem?_set_ne (by decide)]; exact h.f9, ⟨a, l, c, List.getElem?_set_self (by rw [h.len]; decide), hs⟩, by rw [List.getElem?_set_ne (by decide)]; exact h.f11, by rw [List.getElem?_set_ne (by decide)]; exact h.f12⟩
theorem SoX.put7 {B : Nat} {w : World} {x : List Value} {so : Sofar} (h : SoX B w x so) {z : Int} (hz : z ≤ 4294967296) : SoX B w (x.set 7 (.int .i64 z)) ⟨{ so.m with start := z }, so.last, so.d⟩ :=
  ⟨by rw [List.length_set]; exact h.len, by rw [List.getElem?_set_ne (by decide)]; exact h.f0, by rw [List.getElem?_set_ne (by decide)]; exact h.f1, by rw [List.getElem?_set_ne (by decide)]; exact h.f2, by rw [List.getElem?_set_ne (by decide)]; exact h.f3, by rw [List.getElem?_set_ne (by decide)]; exact h.f4, by rw [List.getElem?_set_ne (by decide)]; exact h.f5, by rw [List.getElem?_set_ne (by decide)]; exact h.f6, ⟨List.getElem?_set_self (by rw [h.len]; decide), hz⟩, by rw [List.getElem?_set_ne (by decide)]; exact h.f8, by rw [List.getElem?_set_ne (by decide)]; exact h.f9, by rw [List.getElem?_set_ne (by decide)]; exact h.f10, by rw [List.getElem?_set_ne (by decide)]; exact h.f11, by rw [List.getElem?_set_ne (by decide)]; exact h.f12⟩
theorem SoX.put11 {B : Nat} {w : World} {x : List Value} {so : Sofar} (h : SoX B w x so) (z : Int) : SoX B w (x.set 11 (.int .i64 z)) ⟨so.m, z, so.d⟩ :=
  ⟨by rw [List.length_set]; exact h.len, by rw [List.getElem?_set_ne (by decide)]; exact h.f0, by rw [List.getElem?_set_ne (by decide)]; exact h.f1, by rw [List.getElem?_set_ne (by decide)]; exact h.f2, by rw [List.getElem?_set_ne (by decide)]; exact h.f3, by rw [List.getElem?_set_ne (by decide)]; exact h.f4, by rw [List.getElem?_set_ne (by decide)]; exact h.f5, by rw [List.getElem?_set_ne (by decide)]; exact h.f6, ⟨by rw [List.getElem?_set_ne (by decide)]; exact h.f7.1, h.f7.2⟩, by rw [List.getElem?_set_ne (by decide)]; exact h.f8, by rw [List.getElem?_set_ne (by decide)]; exact h.f9, by rw [List.getElem?_set_ne (by decide)]; exact h.f10, List.getElem?_set_self (by rw [h.len]; decide), by rw [List.getElem?_set_ne (by decide)]; exact h.f12⟩
theorem SoX.put12 {B : Nat} {w : World} {x : List Value} {so : Sofar} (h : SoX B w x so) (z : Int) : SoX B w (x.set 12 (.int .i64 z)) ⟨so.m, so.last, z⟩ :=
  ⟨by rw [List.length_set]; exact h.len, by rw [List.getElem?_set_ne (by decide)]; exact h.f0, by rw [List.getElem?_set_ne (by decide)]; exact h.f1, by rw [List.getElem?_set_ne (by decide)]; exact h.f2, by rw [List.getElem?_set_ne (by decide)]; exact h.f3, by rw [List.getElem?_set_ne (by decide)]; exact h.f4, by rw [List.getElem?_set_ne (by decide)]; exact h.f5, by rw [List.getElem?_set_ne (by decide)]; exact h.f6, ⟨by rw [List.getElem?_set_ne (by decide)]; exact h.f7.1, h.f7.2⟩, by rw [List.getElem?_set_ne (by decide)]; exact h.f8, by rw [List.getElem?_set_ne (by decide)]; exact h.f9, by rw [List.getElem?_set_ne (by decide)]; exact h.f10, by rw [List.getElem?_set_ne (by decide)]; exact h.f11, List.getElem?_set_self (by rw [h.len]; decide)⟩
/-- What content gives. -/
def GivesCt (B t : Nat) (last : Int) (R : Rd (Mdl × Int)) (g : St) (w : World) (y : Ending) (w' : World) : Prop := GivesIn R (· = t) (fun w x2 q => SoX B w x2 ⟨q.1, last, q.2⟩) (fun _ x2 => ShX x2) t g w y w'
set_option maxRecDepth 100000 in
set_option maxHeartbeats 2000000 in
theorem tmContent_1 (B t : Nat) (g : St) (x : List Value) (m : Mdl) (last d : Int) (w : World) (h : TmAt w t g x) (hx : ShX x) (hs : ∀ s, g = .ok s → SoX B w x ⟨m, last, d⟩) (ht : t < B) (hB : B ≤ w.heap.size) :
    Calls Tryz.prog 120 #[.pointer (some ⟨t, 0, none⟩), .int .i64 1] w fun y w' => GivesCt B t last (contR 1 m d) g w y w' := by
  have HX := Lib.hid hx
  have HS := Lib.hid hs
  have H := Lib.hid h
  have HB := Lib.hid hB
  obtain ⟨vi, hvi⟩ := hx.has (show 0 < 13 by decide)
  have HV := Lib.hid hvi
  clear hx hs h hB hvi
  go_enter Tryz.func120, Tryz.ntmps120
  go_wp2_with (go_at_call 136; refine (tmList_ft t g x 1000 (by decide) _ H.out).mono ?_; rintro y w1 ⟨a, l, c, g1, rfl, t1, k1, o1⟩; have O1 := Lib.hid o1; clear o1; have c1 := (t1.blk.cell 2).trans ((tkC_get g1 x 0).trans HV.out); have f1 := t1.blk.frozen 2)
  have T2 := t1.put 0 (.slice a l c)
  have K1 := (Kept.refl (· = t) w1).set (p := ⟨t, 2, none⟩) rfl (.slice a l c)
  have K2 := k1.trans K1
  refine bodyPost_void rfl rfl ⟨_, _, rfl, T2, K2, ?_, HX.out.setS (by decide) _ _ _⟩
  show Out g (mapR (fun l => ({ m with types := l }, d)) (listR 1000 ftR)) g1 _
  cases g with
  | error f => exact O1.out.dead f rfl
  | ok s => exact O1.out.map fun u e => ((HS.out s rfl).after K2 ht).put0 (e.after K1 (by have := HB.out; omega) HB.out)
set_option maxRecDepth 100000 in
set_option maxHeartbeats 2000000 in
theorem tmContent_2 (B t : Nat) (g : St) (x : List Value) (m : Mdl) (last d : Int) (w : World) (h : TmAt w t g x) (hx : ShX x) (hs : ∀ s, g = .ok s → SoX B w x ⟨m, last, d⟩) (ht : t < B) (hB : B ≤ w.heap.size) :
    Calls Tryz.prog 120 #[.pointer (some ⟨t, 0, none⟩), .int .i64 2] w fun y w' => GivesCt B t last (contR 2 m d) g w y w' := by
  have HX := Lib.hid hx
  have HS := Lib.hid hs
  have H := Lib.hid h
  have HB := Lib.hid hB
  obtain ⟨vi, hvi⟩ := hx.has (show 1 < 13 by decide)
  have HV := Lib.hid hvi
  clear hx hs h hB hvi
  go_enter Tryz.func120, Tryz.ntmps120
  go_wp2_with (go_at_call 138; refine (tmList_imp t g x 1000 (by decide) _ H.out).mono ?_; rintro y w1 ⟨a, l, c, g1, rfl, t1, k1, o1⟩; have O1 := Lib.hid o1; clear o1; have c1 := (t1.blk.cell 3).trans ((tkC_get g1 x 1).trans HV.out); have f1 := t1.blk.frozen 3)
  have T2 := t1.put 1 (.slice a l c)
  have K1 := (Kept.refl (· = t) w1).set (p := ⟨t, 3, none⟩) rfl (.slice a l c)
  have K2 := k1.trans K1
  refine bodyPost_void rfl rfl ⟨_, _, rfl, T2, K2, ?_, HX.out.setS (by decide) _ _ _⟩
  show Out g (mapR (fun l => ({ m with imports := l }, d)) (listR 1000 impR)) g1 _
  cases g with
  | error f => exact O1.out.dead f rfl
  | ok s => exact O1.out.map fun u e => ((HS.out s rfl).after K2 ht).put1 (e.after K1 (by have := HB.out; omega) HB.out)
set_option maxRecDepth 100000 in
set_option maxHeartbeats 2000000 in
theorem tmContent_3 (B t : Nat) (g : St) (x : List Value) (m : Mdl) (last d : Int) (w : World) (h : TmAt w t g x) (hx : ShX x) (hs : ∀ s, g = .ok s → SoX B w x ⟨m, last, d⟩) (ht : t < B) (hB : B ≤ w.heap.size) :
    Calls Tryz.prog 120 #[.pointer (some ⟨t, 0, none⟩), .int .i64 3] w fun y w' => GivesCt B t last (contR 3 m d) g w y w' := by
  have HX := Lib.hid hx
  have HS := Lib.hid hs
  have H := Lib.hid h
  have HB := Lib.hid hB
  obtain ⟨vi, hvi⟩ := hx.has (show 2 < 13 by decide)
  have HV := Lib.hid hvi
  clear hx hs h hB hvi
  go_enter Tryz.func120, Tryz.ntmps120
  go_wp2_with (go_at_call 140; refine (tmList_uT t g x 1000 (by decide) _ H.out).mono ?_; rintro y w1 ⟨a, l, c, g1, rfl, t1, k1, o1⟩; have O1 := Lib.hid o1; clear o1; have c1 := (t1.blk.cell 4).trans ((tkC_get g1 x 2).trans HV.out); have f1 := t1.blk.frozen 4)
  have T2 := t1.put 2 (.slice a l c)
  have K1 := (Kept.refl (· = t) w1).set (p := ⟨t, 4, none⟩) rfl (.slice a l c)
  have K2 := k1.trans K1
  refine bodyPost_void rfl rfl ⟨_, _, rfl, T2, K2, ?_, HX.out.setS (by decide) _ _ _⟩
  show Out g (mapR (fun l => ({ m with funcs := l }, d)) (listR 1000 uT)) g1 _
  cases g with
  | error f => exact O1.out.dead f rfl
  | ok s => exact O1.out.map fun u e => ((HS.out s rfl).after K2 ht).put2 (e.after K1 (by have := HB.out; omega) HB.out)
set_option maxRecDepth 100000 in
set_option maxHeartbeats 2000000 in
theorem tmContent_4 (B t : Nat) (g : St) (x : List Value) (m : Mdl) (last d : Int) (w : World) (h : TmAt w t g x) (hx : ShX x) (hs : ∀ s, g = .ok s → SoX B w x ⟨m, last, d⟩) (ht : t < B) (hB : B ≤ w.heap.size) :
    Calls Tryz.prog 120 #[.pointer (some ⟨t, 0, none⟩), .int .i64 4] w fun y w' => GivesCt B t last (contR 4 m d) g w y w' := by
  have HX := Lib.hid hx
  have HS := Lib.hid hs
  have H := Lib.hid h
  have HB := Lib.hid hB
  obtain ⟨vi, hvi⟩ := hx.has (show 3 < 13 by decide)
  have HV := Lib.hid hvi
  clear hx hs h hB hvi
  go_enter Tryz.func120, Tryz.ntmps120
  go_wp2_with (go_at_call 142; refine (tmList_tab t g x 1000 (by decide) _ H.out).mono ?_; rintro y w1 ⟨a, l, c, g1, rfl, t1, k1, o1⟩; have O1 := Lib.hid o1; clear o1; have c1 := (t1.blk.cell 5).trans ((tkC_get g1 x 3).trans HV.out); have f1 := t1.blk.frozen 5)
  have T2 := t1.put 3 (.slice a l c)
  have K1 := (Kept.refl (· = t) w1).set (p := ⟨t, 5, none⟩) rfl (.slice a l c)
  have K2 := k1.trans K1
  refine bodyPost_void rfl rfl ⟨_, _, rfl, T2, K2, ?_, HX.out.setS (by decide) _ _ _⟩
  show Out g (mapR (fun l => ({ m with tables := l }, d)) (listR 1000 tabR)) g1 _
  cases g with
  | error f => exact O1.out.dead f rfl
  | ok s => exact O1.out.map fun u e => ((HS.out s rfl).after K2 ht).put3 (e.after K1 (by have := HB.out; omega) HB.out)
set_option maxRecDepth 100000 in
set_option maxHeartbeats 2000000 in
theorem tmContent_5 (B t : Nat) (g : St) (x : List Value) (m : Mdl) (last d : Int) (w : World) (h : TmAt w t g x) (hx : ShX x) (hs : ∀ s, g = .ok s → SoX B w x ⟨m, last, d⟩) (ht : t < B) (hB : B ≤ w.heap.size) :
    Calls Tryz.prog 120 #[.pointer (some ⟨t, 0, none⟩), .int .i64 5] w fun y w' => GivesCt B t last (contR 5 m d) g w y w' := by
  have HX := Lib.hid hx
  have HS := Lib.hid hs
  have H := Lib.hid h
  have HB := Lib.hid hB
  obtain ⟨vi, hvi⟩ := hx.has (show 4 < 13 by decide)
  have HV := Lib.hid hvi
  clear hx hs h hB hvi
  go_enter Tryz.func120, Tryz.ntmps120
  go_wp2_with (go_at_call 142; refine (tmList_lim t g x 1000 (by decide) _ H.out).mono ?_; rintro y w1 ⟨a, l, c, g1, rfl, t1, k1, o1⟩; have O1 := Lib.hid o1; clear o1; have c1 := (t1.blk.cell 6).trans ((tkC_get g1 x 4).trans HV.out); have f1 := t1.blk.frozen 6)
  have T2 := t1.put 4 (.slice a l c)
  have K1 := (Kept.refl (· = t) w1).set (p := ⟨t, 6, none⟩) rfl (.slice a l c)
  have K2 := k1.trans K1
  refine bodyPost_void rfl rfl ⟨_, _, rfl, T2, K2, ?_, HX.out.setS (by decide) _ _ _⟩
  show Out g (mapR (fun l => ({ m with mems := l }, d)) (listR 1000 limR)) g1 _
  cases g with
  | error f => exact O1.out.dead f rfl
  | ok s => exact O1.out.map fun u e => ((HS.out s rfl).after K2 ht).put4 (e.after K1 (by have := HB.out; omega) HB.out)
set_option maxRecDepth 100000 in
set_option maxHeartbeats 2000000 in
theorem tmContent_6 (B t : Nat) (g : St) (x : List Value) (m : Mdl) (last d : Int) (w : World) (h : TmAt w t g x) (hx : ShX x) (hs : ∀ s, g = .ok s → SoX B w x ⟨m, last, d⟩) (ht : t < B) (hB : B ≤ w.heap.size) :
    Calls Tryz.prog 120 #[.pointer (some ⟨t, 0, none⟩), .int .i64 6] w fun y w' => GivesCt B t last (contR 6 m d) g w y w' := by
  have HX := Lib.hid hx
  have HS := Lib.hid hs
  have H := Lib.hid h
  have HB := Lib.hid hB
  obtain ⟨vi, hvi⟩ := hx.has (show 5 < 13 by decide)
  have HV := Lib.hid hvi
  clear hx hs h hB hvi
  go_enter Tryz.func120, Tryz.ntmps120
  go_wp2_with (go_at_call 145; refine (tmList_glo t g x 1000 (by decide) _ H.out).mono ?_; rintro y w1 ⟨a, l, c, g1, rfl, t1, k1, o1⟩; have O1 := Lib.hid o1; clear o1; have c1 := (t1.blk.cell 7).trans ((tkC_get g1 x 5).trans HV.out); have f1 := t1.blk.frozen 7)
  have T2 := t1.put 5 (.slice a l c)
  have K1 := (Kept.refl (· = t) w1).set (p := ⟨t, 7, none⟩) rfl (.slice a l c)
  have K2 := k1.trans K1
  refine bodyPost_void rfl rfl ⟨_, _, rfl, T2, K2, ?_, HX.out.setS (by decide) _ _ _⟩
  show Out g (mapR (fun l => ({ m with globals := l }, d)) (listR 1000 gloR)) g1 _
  cases g with
  | error f => exact O1.out.dead f rfl
  | ok s => exact O1.out.map fun u e => ((HS.out s rfl).after K2 ht).put5 (e.after K1 (by have := HB.out; omega) HB.out)
set_option maxRecDepth 100000 in
set_option maxHeartbeats 2000000 in
theorem tmContent_7 (B t : Nat) (g : St) (x : List Value) (m : Mdl) (last d : Int) (w : World) (h : TmAt w t g x) (hx : ShX x) (hs : ∀ s, g = .ok s → SoX B w x ⟨m, last, d⟩) (ht : t < B) (hB : B ≤ w.heap.size) :
    Calls Tryz.prog 120 #[.pointer (some ⟨t, 0, none⟩), .int .i64 7] w fun y w' => GivesCt B t last (contR 7 m d) g w y w' := by
  have HX := Lib.hid hx
  have HS := Lib.hid hs
  have H := Lib.hid h
  have HB := Lib.hid hB
  obtain ⟨vi, hvi⟩ := hx.has (show 6 < 13 by decide)
  have HV := Lib.hid hvi
  clear hx hs h hB hvi
  go_enter Tryz.func120, Tryz.ntmps120
  go_wp2_with (go_at_call 147; refine (tmList_exp t g x 1000 (by decide) _ H.out).mono ?_; rintro y w1 ⟨a, l, c, g1, rfl, t1, k1, o1⟩; have O1 := Lib.hid o1; clear o1; have c1 := (t1.blk.cell 8).trans ((tkC_get g1 x 6).trans HV.out); have f1 := t1.blk.frozen 8)
  have T2 := t1.put 6 (.slice a l c)
  have K1 := (Kept.refl (· = t) w1).set (p := ⟨t, 8, none⟩) rfl (.slice a l c)
  have K2 := k1.trans K1
  refine bodyPost_void rfl rfl ⟨_, _, rfl, T2, K2, ?_, HX.out.setS (by decide) _ _ _⟩
  show Out g (mapR (fun l => ({ m with exports := l }, d)) (listR 1000 expR)) g1 _
  cases g with
  | error f => exact O1.out.dead f rfl
  | ok s => exact O1.out.map fun u e => ((HS.out s rfl).after K2 ht).put6 (e.after K1 (by have := HB.out; omega) HB.out)
set_option maxRecDepth 100000 in
set_option maxHeartbeats 2000000 in
theorem tmContent_8 (B t : Nat) (g : St) (x : List Value) (m : Mdl) (last d : Int) (w : World) (h : TmAt w t g x) (hx : ShX x) (hs : ∀ s, g = .ok s → SoX B w x ⟨m, last, d⟩) (ht : t < B) (hB : B ≤ w.heap.size) :
    Calls Tryz.prog 120 #[.pointer (some ⟨t, 0, none⟩), .int .i64 8] w fun y w' => GivesCt B t last (contR 8 m d) g w y w' := by
  have HX := Lib.hid hx
  have HS := Lib.hid hs
  have H := Lib.hid h
  have HB := Lib.hid hB
  obtain ⟨vi, hvi⟩ := hx.has (show 7 < 13 by decide)
  have HV := Lib.hid hvi
  clear hx hs h hB hvi
  go_enter Tryz.func120, Tryz.ntmps120
  go_wp2_with (go_at_call 141; refine (tmNumber_any t g x _ H.out).mono ?_; rintro y w1 ⟨z, g1, rfl, hz, t1, k1, o1⟩; have O1 := Lib.hid o1; clear o1; have c1 := (t1.blk.cell 9).trans ((tkC_get g1 x 7).trans HV.out); have f1 := t1.blk.frozen 9)
  have T2 := t1.put 7 (.int .i64 (z + 1))
  have K2 := k1.set (p := ⟨t, 9, none⟩) rfl (.int .i64 (z + 1))
  refine bodyPost_void rfl rfl ⟨_, _, rfl, T2, K2, ?_, HX.out.setZ (.inl rfl) _⟩
  show Out g (mapR (fun z => ({ m with start := z + 1 }, d)) uT) g1 _
  cases g with
  | error f => exact O1.out.dead f rfl
  | ok s =>
    refine O1.out.map fun u e => ?_
    subst e
    exact ((HS.out s rfl).after K2 ht).put7 (by omega)
set_option maxRecDepth 100000 in
set_option maxHeartbeats 2000000 in
theorem tmContent_9 (B t : Nat) (g : St) (x : List Value) (m : Mdl) (last d : Int) (w : World) (h : TmAt w t g x) (hx : ShX x) (hs : ∀ s, g = .ok s → SoX B w x ⟨m, last, d⟩) (ht : t < B) (hB : B ≤ w.heap.size) :
    Calls Tryz.prog 120 #[.pointer (some ⟨t, 0, none⟩), .int .i64 9] w fun y w' => GivesCt B t last (contR 9 m d) g w y w' := by
  have HX := Lib.hid hx
  have HS := Lib.hid hs
  have H := Lib.hid h
  have HB := Lib.hid hB
  obtain ⟨vi, hvi⟩ := hx.has (show 8 < 13 by decide)
  have HV := Lib.hid hvi
  clear hx hs h hB hvi
  go_enter Tryz.func120, Tryz.ntmps120
  go_wp2_with (go_at_call 149; refine (tmList_ele t g x 1000 (by decide) _ H.out).mono ?_; rintro y w1 ⟨a, l, c, g1, rfl, t1, k1, o1⟩; have O1 := Lib.hid o1; clear o1; have c1 := (t1.blk.cell 10).trans ((tkC_get g1 x 8).trans HV.out); have f1 := t1.blk.frozen 10)
  have T2 := t1.put 8 (.slice a l c)
  have K1 := (Kept.refl (· = t) w1).set (p := ⟨t, 10, none⟩) rfl (.slice a l c)
  have K2 := k1.trans K1
  refine bodyPost_void rfl rfl ⟨_, _, rfl, T2, K2, ?_, HX.out.setS (by decide) _ _ _⟩
  show Out g (mapR (fun l => ({ m with elems := l }, d)) (listR 1000 eleR)) g1 _
  cases g with
  | error f => exact O1.out.dead f rfl
  | ok s => exact O1.out.map fun u e => ((HS.out s rfl).after K2 ht).put8 (e.after K1 (by have := HB.out; omega) HB.out)
set_option maxRecDepth 100000 in
set_option maxHeartbeats 2000000 in
theorem tmContent_10 (B t : Nat) (g : St) (x : List Value) (m : Mdl) (last d : Int) (w : World) (h : TmAt w t g x) (hx : ShX x) (hs : ∀ s, g = .ok s → SoX B w x ⟨m, last, d⟩) (ht : t < B) (hB : B ≤ w.heap.size) :
    Calls Tryz.prog 120 #[.pointer (some ⟨t, 0, none⟩), .int .i64 10] w fun y w' => GivesCt B t last (contR 10 m d) g w y w' := by
  have HX := Lib.hid hx
  have HS := Lib.hid hs
  have H := Lib.hid h
  have HB := Lib.hid hB
  obtain ⟨vi, hvi⟩ := hx.has (show 9 < 13 by decide)
  have HV := Lib.hid hvi
  clear hx hs h hB hvi
  go_enter Tryz.func120, Tryz.ntmps120
  go_wp2_with (go_at_call 151; refine (tmList_cod t g x 1000 (by decide) _ H.out).mono ?_; rintro y w1 ⟨a, l, c, g1, rfl, t1, k1, o1⟩; have O1 := Lib.hid o1; clear o1; have c1 := (t1.blk.cell 11).trans ((tkC_get g1 x 9).trans HV.out); have f1 := t1.blk.frozen 11)
  have T2 := t1.put 9 (.slice a l c)
  have K1 := (Kept.refl (· = t) w1).set (p := ⟨t, 11, none⟩) rfl (.slice a l c)
  have K2 := k1.trans K1
  refine bodyPost_void rfl rfl ⟨_, _, rfl, T2, K2, ?_, HX.out.setS (by decide) _ _ _⟩
  show Out g (mapR (fun l => ({ m with codes := l }, d)) (listR 1000 codR)) g1 _
  cases g with
  | error f => exact O1.out.dead f rfl
  | ok s => exact O1.out.map fun u e => ((HS.out s rfl).after K2 ht).put9 (e.after K1 (by have := HB.out; omega) HB.out)
set_option maxRecDepth 100000 in
set_option maxHeartbeats 2000000 in
theorem tmContent_11 (B t : Nat) (g : St) (x : List Value) (m : Mdl) (last d : Int) (w : World) (h : TmAt w t g x) (hx : ShX x) (hs : ∀ s, g = .ok s → SoX B w x ⟨m, last, d⟩) (ht : t < B) (hB : B ≤ w.heap.size) :
    Calls Tryz.prog 120 #[.pointer (some ⟨t, 0, none⟩), .int .i64 11] w fun y w' => GivesCt B t last (contR 11 m d) g w y w' := by
  have HX := Lib.hid hx
  have HS := Lib.hid hs
  have H := Lib.hid h
  have HB := Lib.hid hB
  obtain ⟨vi, hvi⟩ := hx.has (show 10 < 13 by decide)
  have HV := Lib.hid hvi
  clear hx hs h hB hvi
  go_enter Tryz.func120, Tryz.ntmps120
  go_wp2_with (go_at_call 153; refine (tmList_dat t g x 1000 (by decide) _ H.out).mono ?_; rintro y w1 ⟨a, l, c, g1, rfl, t1, k1, o1⟩; have O1 := Lib.hid o1; clear o1; have c1 := (t1.blk.cell 12).trans ((tkC_get g1 x 10).trans HV.out); have f1 := t1.blk.frozen 12)
  have T2 := t1.put 10 (.slice a l c)
  have K1 := (Kept.refl (· = t) w1).set (p := ⟨t, 12, none⟩) rfl (.slice a l c)
  have K2 := k1.trans K1
  refine bodyPost_void rfl rfl ⟨_, _, rfl, T2, K2, ?_, HX.out.setS (by decide) _ _ _⟩
  show Out g (mapR (fun l => ({ m with datas := l }, d)) (listR 1000 datR)) g1 _
  cases g with
  | error f => exact O1.out.dead f rfl
  | ok s => exact O1.out.map fun u e => ((HS.out s rfl).after K2 ht).put10 (e.after K1 (by have := HB.out; omega) HB.out)
set_option maxRecDepth 100000 in
set_option maxHeartbeats 2000000 in
theorem tmContent_12 (B t : Nat) (g : St) (x : List Value) (m : Mdl) (last d : Int) (w : World) (h : TmAt w t g x) (hx : ShX x) (hs : ∀ s, g = .ok s → SoX B w x ⟨m, last, d⟩) (ht : t < B) (hB : B ≤ w.heap.size) :
    Calls Tryz.prog 120 #[.pointer (some ⟨t, 0, none⟩), .int .i64 12] w fun y w' => GivesCt B t last (contR 12 m d) g w y w' := by
  have HX := Lib.hid hx
  have HS := Lib.hid hs
  have H := Lib.hid h
  have HB := Lib.hid hB
  obtain ⟨vi, hvi⟩ := hx.has (show 12 < 13 by decide)
  have HV := Lib.hid hvi
  clear hx hs h hB hvi
  go_enter Tryz.func120, Tryz.ntmps120
  go_wp2_with (go_at_call 141; refine (tmNumber_any t g x _ H.out).mono ?_; rintro y w1 ⟨z, g1, rfl, hz, t1, k1, o1⟩; have O1 := Lib.hid o1; clear o1; have c1 := (t1.blk.cell 14).trans ((tkC_get g1 x 12).trans HV.out); have f1 := t1.blk.frozen 14)
  have T2 := t1.put 12 (.int .i64 z)
  have K2 := k1.set (p := ⟨t, 14, none⟩) rfl (.int .i64 z)
  refine bodyPost_void rfl rfl ⟨_, _, rfl, T2, K2, ?_, HX.out.setZ (.inr (.inr rfl)) _⟩
  show Out g (mapR (fun z => (m, z)) uT) g1 _
  cases g with
  | error f => exact O1.out.dead f rfl
  | ok s =>
    refine O1.out.map fun u e => ?_
    subst e
    exact ((HS.out s rfl).after K2 ht).put12 _
set_option maxRecDepth 100000 in
set_option maxHeartbeats 2000000 in
theorem tmContent_0 (B t : Nat) (g : St) (x : List Value) (m : Mdl) (last d : Int) (w : World) (h : TmAt w t g x) (hx : ShX x) (hs : ∀ s, g = .ok s → SoX B w x ⟨m, last, d⟩) (ht : t < B) (hB : B ≤ w.heap.size) :
    Calls Tryz.prog 120 #[.pointer (some ⟨t, 0, none⟩), .int .i64 0] w fun y w' => GivesCt B t last (contR 0 m d) g w y w' := by
  have HX := Lib.hid hx
  have HS := Lib.hid hs
  have H := Lib.hid h
  have HB := Lib.hid hB
  clear hx hs h hB
  go_enter Tryz.func120, Tryz.ntmps120
  go_wp2_with (first
    | (go_at_call 135; refine (tmName_any t g x _ H.out).mono ?_; rintro y w1 ⟨s1, g1, rfl, hs1, t1, k1, o1⟩; have O1 := Lib.hid o1; clear o1)
    | (go_at_call 68; refine (tmTook_any t g1 x ⟨#[]⟩ 0 _ t1 (fun _ => rfl) (by show (0 : Nat) ≤ 65536; omega)).mono ?_; rintro y w2 ⟨rfl, t2, k2⟩))
  refine bodyPost_void rfl rfl ⟨x, _, rfl, t2, k1.trans k2, ?_, HX.out⟩
  show Out g (bindR nameR fun _ => fun _ => .ok ((m, d), ⟨#[]⟩)) (tookS g1 ⟨#[]⟩ 0) _
  cases g with
  | error f =>
    have := O1.out.dead f rfl
    subst this
    rfl
  | ok s =>
    have hso := (HS.out s rfl).after (k1.trans k2) ht
    refine O1.out.bind (fun u _ => ?_) (fun f e => by subst e; rfl)
    cases g1 with
    | error f => rfl
    | ok s2 => exact ⟨rfl, hso⟩
set_option maxRecDepth 100000 in
set_option maxHeartbeats 2000000 in
theorem tmContent_no (B t : Nat) (g : St) (x : List Value) (n : Int) (m : Mdl) (last d : Int) (w : World) (hn : n < 0 ∨ 12 < n) (h : TmAt w t g x) (hx : ShX x) :
    Calls Tryz.prog 120 #[.pointer (some ⟨t, 0, none⟩), .int .i64 n] w fun y w' => GivesCt B t last (contR n m d) g w y w' := by
  have HR : Hid (contR n m d = failR 2) := Lib.hid (by
    unfold contR
    rw [if_neg (by omega), if_neg (by omega), if_neg (by omega), if_neg (by omega), if_neg (by omega), if_neg (by omega), if_neg (by omega), if_neg (by omega), if_neg (by omega), if_neg (by omega), if_neg (by omega), if_neg (by omega), if_neg (by omega)])
  have HX := Lib.hid hx
  have H := Lib.hid h
  have e0 : (n == 0) = false := eq_no (by omega)
  have e1 : (n == 1) = false := eq_no (by omega)
  have e2 : (n == 2) = false := eq_no (by omega)
  have e3 : (n == 3) = false := eq_no (by omega)
  have e4 : (n == 4) = false := eq_no (by omega)
  have e5 : (n == 5) = false := eq_no (by omega)
  have e6 : (n == 6) = false := eq_no (by omega)
  have e7 : (n == 7) = false := eq_no (by omega)
  have e8 : (n == 8) = false := eq_no (by omega)
  have e9 : (n == 9) = false := eq_no (by omega)
  have e10 : (n == 10) = false := eq_no (by omega)
  have e11 : (n == 11) = false := eq_no (by omega)
  have e12 : (n == 12) = false := eq_no (by omega)
  clear hn hx h
  go_enter Tryz.func120, Tryz.ntmps120
  go_wp2_with (go_at_call 69; refine (tmNeed_any t g x false 2 _ H.out).mono ?_; rintro y w1 ⟨rfl, t1, k1⟩)
  refine bodyPost_void rfl rfl ⟨x, _, rfl, t1, k1, ?_, HX.out⟩
  rw [HR.out]
  cases g with
  | error f => rfl
  | ok s => rfl
theorem tmContent_any (B t : Nat) (g : St) (x : List Value) (n : Int) (m : Mdl) (last d : Int) (w : World) (h : TmAt w t g x) (hx : ShX x) (hs : ∀ s, g = .ok s → SoX B w x ⟨m, last, d⟩) (ht : t < B) (hB : B ≤ w.heap.size) :
    Calls Tryz.prog 120 #[.pointer (some ⟨t, 0, none⟩), .int .i64 n] w fun y w' => GivesCt B t last (contR n m d) g w y w' := by
  by_cases hn : n < 0 ∨ 12 < n
  · exact tmContent_no B t g x n m last d w hn h hx
  · have hc : n = 0 ∨ n = 1 ∨ n = 2 ∨ n = 3 ∨ n = 4 ∨ n = 5 ∨ n = 6 ∨ n = 7 ∨ n = 8 ∨ n = 9 ∨ n = 10 ∨ n = 11 ∨ n = 12 := by omega
    rcases hc with rfl | rfl | rfl | rfl | rfl | rfl | rfl | rfl | rfl | rfl | rfl | rfl | rfl
    · exact tmContent_0 B t g x m last d w h hx hs ht hB
    · exact tmContent_1 B t g x m last d w h hx hs ht hB
    · exact tmContent_2 B t g x m last d w h hx hs ht hB
    · exact tmContent_3 B t g x m last d w h hx hs ht hB
    · exact tmContent_4 B t g x m last d w h hx hs ht hB
    · exact tmContent_5 B t g x m last d w h hx hs ht hB
    · exact tmContent_6 B t g x m last d w h hx hs ht hB
    · exact tmContent_7 B t g x m last d w h hx hs ht hB
    · exact tmContent_8 B t g x m last d w h hx hs ht hB
    · exact tmContent_9 B t g x m last d w h hx hs ht hB
    · exact tmContent_10 B t g x m last d w h hx hs ht hB
    · exact tmContent_11 B t g x m last d w h hx hs ht hB
    · exact tmContent_12 B t g x m last d w h hx hs ht hB
end Go.Proofs.YtekonefnniaheaaGreat
set_option linter.unusedVariables false
namespace Go.Proofs.YtekonefnniaheaaGreat
open Go.RowKit Go.Deep
open Leb (byt byt_lt byt_get)

set_option maxRecDepth 100000 in
theorem mplace_any (n : Int) (hn : 0 ≤ n ∧ n ≤ 255) (w : World) :
    Calls Tryz.prog 121 #[.int .i64 n] w fun y w' => y = .returned (.int .i64 (placeN n)) ∧ w = w' := by
  unfold placeN
  by_cases h : n = 12
  · subst h
    rw [if_pos rfl]
    go_enter Tryz.func121, Tryz.ntmps121
    go_wp2_with fail
    go_ret
    exact ⟨rfl, rfl⟩
  · rw [if_neg h]
    have e := eq_no h
    have hw : IntKind.i64.wrap (2 * n) = 2 * n := by rw [IntKind.wrap_i64]; omega
    go_enter Tryz.func121, Tryz.ntmps121
    go_wp2_with fail
    go_ret
    exact ⟨rfl, rfl⟩
set_option maxRecDepth 100000 in
theorem tmSect1_any (B t : Nat) (g : St) (x : List Value) (n : Int) (m : Mdl) (last d : Int) (k0 k1 : Nat) (w : World) (h : TmAt w t g x) (hx : ShX x) (hs : ∀ s, g = .ok s → SoX B w x ⟨m, last, d⟩) (ht : t < B) (hB : B ≤ w.heap.size)
    (b0 : BlkAt w k0 #[.pointer (some ⟨t, 0, none⟩)] 63) (b1 : BlkAt w k1 #[.int .i64 n] 3) :
    Calls Tryz.prog 119 #[.pointer (some ⟨k0, 0, none⟩), .pointer (some ⟨k1, 0, none⟩)] w fun y w' => GivesCt B t last (contR n m d) g w y w' := by
  have c0 := b0.cell 0
  have c1 := b1.cell 0
  simp at c0 c1
  have HC := Lib.hid (tmContent_any B t g x n m last d w h hx hs ht hB)
  clear h hx hs b0 b1
  go_enter Tryz.func119, Tryz.ntmps119
  go_wp2_with (go_at_call 120; refine HC.out.mono ?_; rintro y w1 ⟨x2, g1, rfl, t1, k1', o1, d1⟩)
  exact bodyPost_void rfl rfl ⟨x2, g1, rfl, t1, k1', o1, d1⟩
/-- What a section gives. -/
def GivesSec (B t : Nat) (so : Sofar) (g : St) (w : World) (y : Ending) (w' : World) : Prop :=
  ∃ x2 g', y = .returned (.tuple #[]) ∧ TmAt w' t g' x2 ∧ Kept (· = t) w w' ∧ Out g (sectR so) g' (fun q => SoX B w' x2 q) ∧ ShX x2
set_option maxRecDepth 100000 in
set_option maxHeartbeats 4000000 in
theorem tmSection_any (B t : Nat) (g : St) (x : List Value) (so : Sofar) (w : World) (h : TmAt w t g x) (hx : ShX x) (hs : ∀ s, g = .ok s → SoX B w x so) (ht : t < B) (hB : B ≤ w.heap.size) :
    Calls Tryz.prog 70 #[.pointer (some ⟨t, 0, none⟩)] w fun y w' => GivesSec B t so g w y w' := by
  have hba : Below w.heap.size w (w.alloc (.cells #[.pointer (some ⟨t, 0, none⟩)] 63)) := (Below.refl _ _).alloc (Nat.le_refl _) _
  have hs0 : (w.alloc (.cells #[.pointer (some ⟨t, 0, none⟩)] 63)).heap.size = w.heap.size + 1 := by simp
  have ts0 := h.below hba
  have htl := h.lt
  have bs0 := BlkAt.new w #[.pointer (some ⟨t, 0, none⟩)] 63
  have HX := Lib.hid hx
  have HS := Lib.hid hs
  have HBB := Lib.hid hB
  have K0 : Hid (Kept (· = t) w (w.alloc (.cells #[.pointer (some ⟨t, 0, none⟩)] 63))) := Lib.hid (Kept.of_below hba)
  have HB := Lib.hid (tmByte_any t g x _ ts0)
  clear h hx hs hba
  go_enter Tryz.func70, Tryz.ntmps70
  go_wp2_with (first
    | (go_at_call 117; refine HB.out.mono ?_; rintro y w1 ⟨n, g1, rfl, hn, t1, k1, o1⟩; have O1 := Lib.hid o1; have HN := Lib.hid hn; clear o1 HB hn
       have hz1 := k1.size
       have b1 := bs0.kept k1 (by omega)
       have hb1 : Below w1.heap.size w1 (w1.alloc (.cells #[.int .i64 n] 3)) := (Below.refl _ _).alloc (Nat.le_refl _) _
       have hs1 : (w1.alloc (.cells #[.int .i64 n] 3)).heap.size = w1.heap.size + 1 := by simp
       have t1' := t1.below hb1
       have b1' := b1.below hb1
       have v1' := BlkAt.new w1 #[.int .i64 n] 3
       have cb1 := b1'.cell 0
       simp at cb1
       have KA : Kept (· = t) w (w1.alloc (.cells #[.int .i64 n] 3)) := (K0.out.trans k1).trans (Kept.of_below hb1)
       have hso : ∀ s, g1 = .ok s → SoX B (w1.alloc (.cells #[.int .i64 n] 3)) x so := fun s e => by
         subst e
         obtain ⟨s0, _, hg, _⟩ := O1.out.live
         exact (HS.out s0 hg).after KA ht
       have HIN := Lib.hid (tmIn_sect (contR n so.m so.d) (· = t) (fun w x2 q => SoX B w x2 ⟨q.1, so.last, q.2⟩) (fun _ x2 => ShX x2) t g1 x w.heap.size w1.heap.size _ t1' rfl
         (fun w2 w3 x2 a k hp => hp.after k ht) (fun w2 w3 x2 k hd => hd)
         (fun w' g' t' k' hl => tmSect1_any B t g' x n so.m so.last so.d w.heap.size w1.heap.size w' t' HX.out (fun s e => by
           obtain ⟨s1, e1⟩ := hl s e
           exact (hso s1 e1).after k' ht) ht (by have := k'.size; have := HBB.out; omega) (b1'.kept k' (by omega)) (v1'.kept k' (by have := t1.lt; omega)))))
    | (go_at_call 118; refine HIN.out.mono ?_; rintro y w2 ⟨x2, g2, rfl, t2, k2, o2, d2⟩; have O2 := Lib.hid o2; have D2 := Lib.hid d2; clear HIN o2
       have hz2 := k2.size
       have b2 := b1'.kept k2 (by omega)
       have v2 := v1'.kept k2 (by have := t1.lt; omega)
       have cb2 := b2.cell 0
       have cv2 := v2.cell 0
       simp at cb2 cv2
       obtain ⟨lz, hlz⟩ := d2.s11
       have HLZ := Lib.hid hlz
       have c13 := (t2.blk.cell 13).trans ((tkC_get g2 x2 11).trans hlz)
       have f13 := t2.blk.frozen 13
       clear hlz d2
       by_cases hn0 : n = 0
       case' pos => subst hn0
       case' neg =>
         have en0 : (n != 0) = true := by simpa using hn0
         have HN0 := Lib.hid hn0
         clear hn0))
  · have hbd : Below w2.heap.size w2 w2.drew := (Below.refl _ _).drew
    have t2d := t2.below hbd
    have HP := Lib.hid (mplace_any n HN.out)
    obtain ⟨pz, hpz⟩ : ∃ pz, pz = placeN n := ⟨_, rfl⟩
    rw [← hpz] at HP
    have HPZ := Lib.hid hpz
    clear hpz
    have DS := Lib.hid (And.intro cb2 (And.intro cv2 c13))
    clear cb2 cv2 c13
    go_region_held3 (fun w' => w'.cell? ⟨w.heap.size, 0, none⟩ = some (.pointer (some ⟨t, 0, none⟩)) ∧ w'.cell? ⟨w1.heap.size, 0, none⟩ = some (.int .i64 n) ∧ w'.cell? ⟨t, 13, none⟩ = some (.int .i64 lz))
      (first | exact DS.out | exact DS3.out)
      (first
        | (go_at_call 121; refine (HP.out _).mono ?_; rintro y w9 ⟨rfl, rfl⟩)
        | (go_at_call 69; refine (tmNeed_any t g2 x2 (decide (lz < pz)) 2 _ t2d).mono ?_; rintro y w3 ⟨rfl, t3, k3⟩
           have hz3 := k3.size
           have KD := (Kept.of_below (F := fun k => k = t) hbd).trans k3
           have b3 := b2.kept KD (by omega)
           have v3 := v2.kept KD (by have := t1.lt; omega)
           have cb3 := b3.cell 0
           have cv3 := v3.cell 0
           simp at cb3 cv3
           have c13' := (t3.blk.cell 13).trans ((tkC_get _ x2 11).trans HLZ.out)
           have f13' := t3.blk.frozen 13
           have DS3 := Lib.hid (And.intro cb3 (And.intro cv3 c13'))))
    go_wp2_with fail
    have t3d := t3.below (Below.refl w3.heap.size w3).drew
    have DS4 := Lib.hid (And.intro cb3 cv3)
    have e5 := (b3.other (b' := t) (by omega) 13 (.int .i64 pz)).cell 0
    have e6 := (v3.other (b' := t) (by have := t1.lt; omega) 13 (.int .i64 pz)).cell 0
    simp at e5 e6
    have DS5 := Lib.hid (And.intro e5 e6)
    clear cb3 cv3 e5 e6
    go_region_held3 (fun w' => w'.cell? ⟨w.heap.size, 0, none⟩ = some (.pointer (some ⟨t, 0, none⟩)) ∧ w'.cell? ⟨w1.heap.size, 0, none⟩ = some (.int .i64 n))
      (first | exact DS4.out | exact DS5.out)
      (first
        | (go_at_call 121; refine (HP.out _).mono ?_; rintro y w9 ⟨rfl, rfl⟩))
    have hdw : Below (w3.setCell ⟨t, 13, none⟩ (.int .i64 pz)).heap.size (w3.setCell ⟨t, 13, none⟩ (.int .i64 pz)) (w3.setCell ⟨t, 13, none⟩ (.int .i64 pz)).drew := (Below.refl _ _).drew
    have t4 := (t3.put 11 (.int .i64 pz)).below hdw
    have K4 := (k3.set (p := ⟨t, 13, none⟩) rfl (.int .i64 pz)).trans (Kept.of_below hdw)
    have KE := (KA.trans k2).trans ((Kept.of_below hbd).trans K4)
    refine bodyPost_void rfl rfl ⟨x2.set 11 (.int .i64 pz), _, rfl, t4, KE, ?_, D2.out.setZ (.inr (.inl rfl)) _⟩
    have hpz := HPZ.out
    have hn0 := HN0.out
    refine O1.out.then (O2.out.bind (fun q hq => ?_) (fun f e => needS_dead e))
    show Out g2 (if n = 0 then pureR (Sofar.mk q.1 so.last q.2) else if so.last < placeN n then pureR (Sofar.mk q.1 (placeN n) q.2) else failR 2) _ _
    rw [if_neg hn0, ← hpz]
    have hle : lz = so.last := by
      have h1 := hq.f11
      rw [HLZ.out] at h1
      simp only [Option.some.injEq, Value.int.injEq, true_and] at h1
      exact h1
    subst hle
    by_cases hlt : so.last < pz
    · rw [if_pos hlt, decide_eq_true hlt]
      exact Out.pure ((hq.after ((Kept.of_below (F := (· = t)) hbd).trans K4) ht).put11 pz)
    · rw [if_neg hlt, decide_eq_false hlt]
      cases g2 with
      | error f => rfl
      | ok s => rfl
  · refine bodyPost_void rfl rfl ⟨x2, _, rfl, t2, KA.trans k2, ?_, D2.out⟩
    refine O1.out.then (O2.out.bind (fun q hq => ?_) (fun f e => e))
    show Out g2 (if (0 : Int) = 0 then pureR (Sofar.mk q.1 so.last q.2) else _) g2 _
    rw [if_pos rfl]
    exact Out.pure hq
end Go.Proofs.YtekonefnniaheaaGreat
set_option linter.unusedVariables false
namespace Go.Proofs.YtekonefnniaheaaGreat
open Go.RowKit Go.Deep
open Leb (byt byt_lt byt_get)

def hdOk (s : ByteArray) : Bool := decide (s.extract 0 8 = strOfNums headB)
theorem hd_list (s : ByteArray) : ((s.extract 0 8).toList == [0, 97, 115, 109, 1, 0, 0, 0]) = hdOk s := by
  unfold hdOk
  rw [headS, Bool.eq_iff_iff, beq_iff_eq, decide_eq_true_iff]
  constructor
  · intro h
    rw [ByteArray.toList_eq] at h
    apply ByteArray.ext
    apply Array.toList_inj.1
    exact h
  · intro h
    rw [h, ByteArray.toList_eq]
set_option maxRecDepth 100000 in
theorem hasPre_any (s : ByteArray) (hs : s.size ≤ 65536) (w : World) :
    Calls Tryz.prog 133 #[.string s, .string ⟨#[0, 97, 115, 109, 1, 0, 0, 0]⟩] w fun y w' => y = .returned (.bool (hdOk s)) ∧ w = w' := by
  by_cases hge : 8 ≤ s.size
  · have h1 : (8 : Int) ≤ s.size := by omega
    have HL := Lib.hid (hd_list s)
    go_enter Tryz.func133, Tryz.ntmps133
    go_wp2_with fail
    go_ret
    rw [← HL.out]
    exact ⟨rfl, rfl⟩
  · have h1 : decide ((8 : Int) ≤ s.size) = false := by simp; omega
    have h2 : hdOk s = false := by
      unfold hdOk
      rw [decide_eq_false]
      intro q
      have := congrArg ByteArray.size q
      rw [ByteArray.size_extract, strOfNums_size] at this
      have h8 : headB.length = 8 := rfl
      omega
    go_enter Tryz.func133, Tryz.ntmps133
    go_wp2_with fail
    go_ret
    rw [h2]
    exact ⟨rfl, rfl⟩
theorem hdOk_le {s : ByteArray} (h : hdOk s = true) : 8 ≤ s.size := by
  have q := of_decide_eq_true h
  have := congrArg ByteArray.size q
  rw [ByteArray.size_extract, strOfNums_size] at this
  have h8 : headB.length = 8 := rfl
  omega
def cutB (s : ByteArray) : ByteArray := if hdOk s = true then s.extract 8 s.size else s
set_option maxRecDepth 100000 in
theorem cutPre_any (s : ByteArray) (hs : s.size ≤ 65536) (w : World) :
    Calls Tryz.prog 67 #[.string s, .string ⟨#[0, 97, 115, 109, 1, 0, 0, 0]⟩] w fun y w' => y = .returned (.tuple #[.string (cutB s), .bool (hdOk s)]) ∧ w = w' := by
  have HI : Hid (∀ w2, Calls Tryz.prog 116 #[.string s, .string ⟨#[0, 97, 115, 109, 1, 0, 0, 0]⟩] w2 fun y w' => y = .returned (.tuple #[.string (cutB s), .bool (hdOk s)]) ∧ w2 = w') := Lib.hid fun w2 => by
    have HP := Lib.hid (hasPre_any s hs)
    unfold cutB
    cases hh : hdOk s with
    | true =>
      have h8 := hdOk_le hh
      rw [hh] at HP
      have h1 : (8 : Int) ≤ s.size := by omega
      rw [if_pos rfl]
      clear hh
      go_enter Tryz.func116, Tryz.ntmps116
      go_wp2_with (go_at_call 133; refine (HP.out _).mono ?_; rintro y w9 ⟨rfl, rfl⟩)
      go_ret2
      exact ⟨rfl, rfl⟩
    | false =>
      rw [hh] at HP
      rw [if_neg (by decide)]
      clear hh
      go_enter Tryz.func116, Tryz.ntmps116
      go_wp2_with (go_at_call 133; refine (HP.out _).mono ?_; rintro y w9 ⟨rfl, rfl⟩)
      go_ret2
      exact ⟨rfl, rfl⟩
  revert HI
  generalize cutB s = b
  generalize hdOk s = ok
  intro HI
  go_enter Tryz.func67, Tryz.ntmps67
  go_wp2_with (go_at_call 116; refine (HI.out _).mono ?_; rintro y w9 ⟨rfl, rfl⟩)
  go_ret2
  exact ⟨rfl, rfl⟩
theorem sectR_size {so : Sofar} {s : ByteArray} {q : Sofar × ByteArray} (h : sectR so s = .ok q) : q.2.size < s.size := by
  unfold sectR at h
  by_cases h0 : s.size = 0
  · rw [bindR_err (show byteR s = .error 2 from if_pos h0)] at h
    cases h
  · rw [bindR_ok (show byteR s = .ok ((byt s 0 : Int), s.extract 1 s.size) from if_neg h0)] at h
    have hx : (s.extract 1 s.size).size = s.size - 1 := by rw [ByteArray.size_extract]; omega
    revert h
    generalize (byt s 0 : Int) = n
    generalize hs' : s.extract 1 s.size = s'
    rw [hs'] at hx
    intro h
    replace h : bindR (inR (contR n so.m so.d)) (fun q => if n = 0 then pureR ⟨q.1, so.last, q.2⟩ else if so.last < placeN n then pureR ⟨q.1, placeN n, q.2⟩ else failR 2) s' = .ok q := h
    cases hi : inR (contR n so.m so.d) s' with
    | error e => rw [bindR_err hi] at h; cases h
    | ok p =>
      rw [bindR_ok hi] at h
      have hp : p.2.size ≤ s'.size := by
        unfold inR at hi
        cases hb : bytesR s' with
        | error e => rw [hb] at hi; cases hi
        | ok b =>
          rw [hb] at hi
          replace hi : ((contR n so.m so.d b.1).bind fun p => if p.2.size = 0 then Except.ok (p.1, b.2) else .error 2) = .ok p := hi
          have hb2 : b.2.size ≤ s'.size := by
            unfold bytesR at hb
            split at hb
            · injection hb with hb
              rw [← hb]
              exact bB_le s'
            · cases hb
          cases hc : contR n so.m so.d b.1 with
          | error e => rw [hc] at hi; cases hi
          | ok c =>
            rw [hc] at hi
            by_cases hz : c.2.size = 0
            · have hi2 : Except.ok (c.1, b.2) = (.ok p : Except Int ((Mdl × Int) × ByteArray)) := (if_pos hz).symm.trans hi
              injection hi2 with hi2
              rw [← hi2]
              exact hb2
            · have hi2 : Except.error 2 = (.ok p : Except Int ((Mdl × Int) × ByteArray)) := (if_neg hz).symm.trans hi
              cases hi2
      have hq : q.2 = p.2 := by
        split at h
        · injection h with h
          rw [← h]
        · split at h
          · injection h with h
            rw [← h]
          · cases h
      rw [hq]
      omega
def e1R (x : Sofar) : Bool := decide ((x.m.codes.length : Int) = (x.m.funcs.length : Int))
def e2R (x : Sofar) : Bool := decide (x.d = -1) || decide (x.d = (x.m.datas.length : Int))
def so0 : Sofar := ⟨noM, 0, -1⟩
def modR : Rd Sofar := bindR hdR fun _ => fun s => needR (needR (secsR (s.size + 1) so0) e1R 2) e2R 2 s
/-- What reading a module comes to. -/
def takeMd (s : ByteArray) : Except Int Mdl := if 65536 < s.size then .error 14 else (modR s).bind fun q => .ok q.1.m
/-- How much is behind. -/
def szM (w : World) (t : Nat) : Nat := match w.cell? ⟨t, 0, none⟩ with
  | some (.string s) => s.size
  | _ => 0
theorem TmAt.szM {w : World} {t : Nat} {g : St} {x : List Value} (h : TmAt w t g x) : szM w t = (stR g).size := by
  unfold Go.Proofs.YtekonefnniaheaaGreat.szM
  rw [h.rest]
def SecRel (B t : Nat) (g0 : St) (w wr : World) : Prop :=
  ∃ g x, TmAt wr t g x ∧ ShX x ∧ Kept (· = t) w wr ∧
    ((∃ s s0 so k, g = .ok s ∧ g0 = .ok s0 ∧ SoX B wr x so ∧ s.size < k ∧ secsR (s0.size + 1) so0 s0 = secsR k so s) ∨
     (∃ f, g = .error f ∧ f ≠ 0 ∧ ((∃ s0, g0 = .ok s0 ∧ secsR (s0.size + 1) so0 s0 = .error f) ∨ g0 = .error f)))
theorem secs_step {k : Nat} {so : Sofar} {s : ByteArray} (hs : ¬ s.size = 0) : secsR (k + 1) so s = (sectR so s).bind fun q => secsR k q.1 q.2 := if_neg hs
theorem secs_end {k : Nat} {so : Sofar} {s : ByteArray} (hs : s.size = 0) : secsR (k + 1) so s = .ok (so, s) := if_pos hs
end Go.Proofs.YtekonefnniaheaaGreat
