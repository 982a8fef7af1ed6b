/- Texts of the proof of ModulePutsUptoProof, part 17. -/
import Derived.Laws.CopyOwn
import Derived.Deep.RegionLaw
import Derived.Deep.OwnRows
import Derived.Deep.RegionHeld3
import Derived.BigQuiet
import Derived.Deep.QuietTactic
import Derived.Test.YtekonefnniaheaaGreatModulePutsUptoProofQ1
import Derived.Test.YtekonefnniaheaaGreatModulePutsUptoProofQ7
import Derived.Test.YtekonefnniaheaaGreatModulePutsUptoProofQ8
import Derived.Test.YtekonefnniaheaaGreatModulePutsUptoProofQ15
import Derived.Test.YtekonefnniaheaaGreatModulePutsUptoProofQ16
set_option linter.unusedVariables false
set_option linter.unusedVariables false
namespace Go.Proofs.YtekonefnniaheaaGreat
open Go.RowKit Go.Deep
theorem info_ft : (Tryz.prog.info? 54).map (fun i => (i.zero, i.size, i.bytes)) = some (some (.agg #[.slice none 0 0, .slice none 0 0]), 2, 48) := by kernel_rfl
set_option maxRecDepth 100000 in
set_option maxHeartbeats 4000000 in
theorem tmList_ft (t : Nat) (g : St) (x : List Value) (most : Int) (hm : most ≤ 1000) (w : World) (h : TmAt w t g x) :
    Calls Tryz.prog 136 #[.pointer (some ⟨t, 0, none⟩), .int .i64 most, .func (.func 137) #[.pointer (some ⟨t, 0, none⟩)] #[]] w fun y w' => GivesLs ftE 2 (listR most ftR) t g x w y w' := by
  obtain ⟨ti, hi0, hz0, hz1, hz2⟩ := info_parts info_ft
  have HB := Lib.hid (tmNumber_any t g x w h)
  have HT := Lib.hid h.lt
  have HM := Lib.hid hm
  clear h hm
  go_enter Tryz.func136, Tryz.ntmps136
  go_wp2_with (first
    | (go_at_call 141; refine HB.out.mono ?_; rintro y w1 ⟨n, g1, rfl, hn, t1, k1, o1⟩; have O1 := Lib.hid o1; clear o1 HB; obtain ⟨N, hN⟩ := Int.eq_ofNat_of_zero_le hn.1; subst hN; have HNN := Lib.hid hn.2; clear hn)
    | (go_at_call 69; refine (tmNeed_any t g1 x (decide ((N : Int) ≤ most)) 14 _ t1).mono ?_; rintro y w2 ⟨rfl, t2, k2⟩))
  have HO : Hid (Out g (needR uT (fun n => decide (n ≤ most)) 14) (needS g1 (decide ((N : Int) ≤ most)) 14) (fun z => (N : Int) = z)) := Lib.hid (O1.out.need (by decide) (fun z e => by subst e; rfl))
  have HS := Lib.hid (lrel_start (E := ftE) (m := 2) (T := 54) (R := ftR) (N := N) HM.out t2 (k1.trans k2))
  revert HO HS
  generalize needS g1 (decide ((N : Int) ≤ most)) 14 = g0
  intro HO HS
  have HEND : Hid (∀ g' (P : List FT → Prop), Out g0 (repR ftR N) g' P → Out g (listR most ftR) g' P) := Lib.hid fun g' P h => Out.then HO.out h
  clear HO O1 t1 t2 k1 k2
  go_loopw [8, 17] (fun lv iv wr => LRel ftE 2 54 ftR N t x g0 w lv iv wr) (fun _ iv _ => N - (intOf iv).toNat)
  case atStart => exact HS.out
  case round =>
    clear HS
    obtain ⟨i, a, len, cap, gi, rfl, hi, rfl, t1, kp, hst⟩ := hrel
    have HST := Lib.hid hst
    have HI := Lib.hid hi
    have HNI := HNN.out
    have hflt := t1.flt
    clear hst
    by_cases hlt : i < N
    · rcases HST.out with ⟨s, s0, ls, rfl, hg0, hN, rfl, hl, ⟨vs, hown, hel⟩, hR⟩ | ⟨f, rfl, hf0, ho⟩
      · replace hflt : wr.cell? ⟨t, 1, none⟩ = some (.int .i64 0) := hflt
        have HG0 := Lib.hid hg0
        have HNK := Lib.hid hN
        have HL := Lib.hid hl
        have HR := Lib.hid hR
        have HEL := Lib.hid hel
        have HOWN := Lib.hid hown
        have HKP := Lib.hid kp
        have q3 : len + 1 ≤ maxLen := by unfold maxLen; omega
        have q4 : (len + 1) * 48 ≤ 140737488355328 := by omega
        have hzz := kp.size
        clear hg0 hN hl hR hel hown kp HST
        go_wp2_with (first
          | (go_at_call 137; refine (tmFuncType_any t _ x _ t1).mono ?_; rintro y w4 ⟨z0, z1, z2, z3, z4, z5, g2, rfl, t4, k4, o4⟩; have O4 := Lib.hid o4; clear o4; have hown4 := rowK_kept HOWN.out k4 (by intro j _ q; have := HT.out; omega); rw [HL.out] at hown4; have hz4 := k4.size)
          | (at_builtin; refine wpList_append_lies _ rfl _ _ 22 rfl w.heap.size 54 ti _ 2 48 Tryz.underlying22 hi0 hz0 hz1 hz2 rfl (by decide) _ len vs rfl (World.ownsRow.alloc hown4 _) ⟨w4.heap.size, 0, none⟩ 1 1 [.slice z0 z1 z2, .slice z3 z4 z5] rfl rfl (newsL w4 _ [.slice z0 z1 z2, .slice z3 z4 z5]) (by intro u hu; simp only [List.mem_cons, List.not_mem_nil, or_false] at hu; rcases hu with rfl | rfl <;> rfl) (by decide) q3 q4 (le_alloc (show w.heap.size ≤ w4.heap.size by omega)) _ rfl ?_; intro gb cap5 w5 hown5 hg5 hat5 hlt5))
        have hO : Out (.ok s) ftR g2 (fun a => Val ftE (wr.heap.size ≤ ·) w4 [.slice z0 z1 z2, .slice z3 z4 z5] a) := O4.out
        have hown0 := HOWN.out
        have hown6 := hown5
        have hll := HL.out
        rw [← hll] at hown6
        obtain ⟨t5, k5, hP⟩ := rowV_step HT.out hown0 HEL.out HKP.out k4 t4 hown6 hg5 hat5 rfl
        have HNX := lrel_next (E := ftE) (m := 2) (T := 54) hlt HNK.out hll HR.out hO t5 k5 hP
        rw [HG0.out]
        rw [hll] at HNX
        have hlw : IntKind.i64.wrap ((len : Int) + 1) = ((len + 1 : Nat) : Int) := by
          rw [IntKind.wrap_i64]; omega
        refine ⟨?_, ?_⟩
        · first | exact HNX | (rw [hlw]; exact HNX) | (rw [show ((len : Int) + 1) = ((len + 1 : Nat) : Int) by omega]; exact HNX)
        · simp [intOf]; omega
      · replace hflt : wr.cell? ⟨t, 1, none⟩ = some (.int .i64 f) := hflt
        have e1 : (f != 0) = true := by simpa using hf0
        have HOO := Lib.hid ho
        clear hf0 ho HST
        go_wp2_with fail
        go_ret
        exact ⟨_, _, _, _, rfl, t1, kp, HEND.out _ _ (out_any HOO.out)⟩
    · have hie : i = N := by omega
      subst hie
      go_wp2_with fail
      go_ret
      exact ⟨_, _, _, _, rfl, t1, kp, HEND.out _ _ (lrel_end HST.out)⟩
end Go.Proofs.YtekonefnniaheaaGreat
set_option linter.unusedVariables false
namespace Go.Proofs.YtekonefnniaheaaGreat
open Go.RowKit Go.Deep

theorem Out.with {X : Type} {g g' : St} {R : Rd X} {P C : X → Prop} (h : Out g R g' P) (hc : ∀ s q, R s = .ok q → C q.1) : Out g R g' (fun x => P x ∧ C x) := by
  cases g with
  | error f => exact h
  | ok s =>
    cases hR : R s with
    | error e => exact (out_err' hR).2 ((out_err' hR).1 h)
    | ok q => exact (out_ok hR).2 ⟨((out_ok hR).1 h).1, ((out_ok hR).1 h).2, hc s q hR⟩
theorem out_in {X : Type} {g g1 g3 : St} {R : Rd X} {content : ByteArray} {P : X → Prop} (o1 : Out g bytesR g1 (fun z => content = z)) (o3 : Out (tookS g1 content 0) R g3 P) :
    Out g (inR R) (tookS (needS g3 (decide ((stR g3).size = 0)) 2) (stR g1) 0) P := by
  have dead : ∀ f, g3 = .error f → tookS (needS g3 (decide ((stR g3).size = 0)) 2) (stR g1) 0 = .error f := fun f e => by
    subst e
    rfl
  cases g with
  | error f =>
    have h1 : g1 = .error f := o1
    subst h1
    exact dead f (o3.dead f rfl)
  | ok s =>
    cases hB : bytesR s with
    | error e =>
      have h1 := (out_err' hB).1 o1
      subst h1
      refine (out_err' ?_).2 (dead e (o3.dead e rfl))
      unfold inR
      rw [hB]
      rfl
    | ok q =>
      obtain ⟨h1, h2⟩ := (out_ok hB).1 o1
      subst h1 h2
      replace o3 : Out (.ok q.1) R g3 P := o3
      have hin : inR R s = (R q.1).bind fun p => if p.2.size = 0 then .ok (p.1, q.2) else .error 2 := by
        unfold inR
        rw [hB]
        rfl
      cases hR : R q.1 with
      | error e =>
        have h3 := (out_err' hR).1 o3
        refine (out_err' ?_).2 (dead e h3)
        rw [hin, hR]
        rfl
      | ok p =>
        obtain ⟨h3, h4⟩ := (out_ok hR).1 o3
        subst h3
        by_cases hz : p.2.size = 0
        · refine (out_ok (q := (p.1, q.2)) ?_).2 ⟨?_, h4⟩
          · rw [hin, hR]
            show (if p.2.size = 0 then _ else _) = _
            rw [if_pos hz]
          · rw [show decide ((stR (.ok p.2)).size = 0) = true from decide_eq_true hz]
            rfl
        · refine (out_err' (e := 2) ?_).2 ?_
          · rw [hin, hR]
            show (if p.2.size = 0 then _ else _) = _
            rw [if_neg hz]
          · rw [show decide ((stR (.ok p.2)).size = 0) = false from decide_eq_false hz]
            rfl
theorem took_live {X : Type} {g g1 : St} {R : Rd X} {P : X → Prop} {b : ByteArray} (h : Out g R g1 P) (s' : ByteArray) (e : tookS g1 b 0 = .ok s') : ∃ s, g = .ok s := by
  cases g with
  | ok s => exact ⟨s, rfl⟩
  | error f =>
    have := h.dead f rfl
    subst this
    cases e
/-- What the inner function of inBytes gives. -/
def GivesIn {X : Type} (R : Rd X) (F : Nat → Prop) (P : World → List Value → X → Prop) (D : World → List Value → Prop) (t : Nat) (g : St) (w : World) (y : Ending) (w' : World) : Prop :=
  ∃ x2 g', y = .returned (.tuple #[]) ∧ TmAt w' t g' x2 ∧ Kept F w w' ∧ Out g R g' (fun a => P w' x2 a) ∧ D w' x2
set_option maxRecDepth 100000 in
set_option maxHeartbeats 2000000 in
theorem tmIn_sect {X : Type} (R : Rd X) (F : Nat → Prop) (P : World → List Value → X → Prop) (D : World → List Value → Prop) (t : Nat) (g : St) (x : List Value) (k0 k1 : Nat) (w : World) (h : TmAt w t g x) (hF : F t)
    (hP : ∀ w2 w3 x2 a, Kept (· = t) w2 w3 → P w2 x2 a → P w3 x2 a) (hD : ∀ w2 w3 x2, Kept (· = t) w2 w3 → D w2 x2 → D w3 x2)
    (hc : ∀ w' g', TmAt w' t g' x → Kept (· = t) w w' → (∀ s', g' = .ok s' → ∃ s, g = .ok s) → Calls Tryz.prog 119 #[.pointer (some ⟨k0, 0, none⟩), .pointer (some ⟨k1, 0, none⟩)] w' fun y w2 => GivesIn R F P D t g' w' y w2) :
    Calls Tryz.prog 118 #[.pointer (some ⟨t, 0, none⟩), .func (.func 119) #[] #[.pointer (some ⟨k0, 0, none⟩), .pointer (some ⟨k1, 0, none⟩)]] w fun y w' => GivesIn (inR R) F P D t g w y w' := by
  have HB := Lib.hid (tmBytes_any t g x w h)
  have HC := Lib.hid hc
  have HP := Lib.hid hP
  have HD := Lib.hid hD
  have HF := Lib.hid hF
  clear h hc hP hD hF
  go_enter Tryz.func118, Tryz.ntmps118
  go_wp2_with (first
    | (go_at_call 134; refine HB.out.mono ?_; rintro y w1 ⟨content, g1, rfl, hcs, t1, k1, o1⟩; have O1 := Lib.hid o1; have HCS := Lib.hid hcs; clear o1 HB hcs; have d1 := t1.rest; have HT2 := Lib.hid (tmTook_any t g1 x content 0 w1 t1 (fun q => absurd rfl q) HCS.out))
    | (go_at_call 68; refine HT2.out.mono ?_; rintro y w2 ⟨rfl, t2, k2⟩; clear HT2 d1; have HCC := Lib.hid (HC.out _ _ t2 (k1.trans k2) (took_live O1.out)); clear HC)
    | (go_at_call 119; refine HCC.out.mono ?_; rintro y w3 ⟨x2, g3, rfl, t3, k3, o3, d3⟩; have O3 := Lib.hid o3; have D3 := Lib.hid d3; clear o3 d3 HCC
       have r3 := t3.rest
       by_cases hz : (stR g3).size = 0
       case' pos =>
         have hse : stR g3 = ⟨#[]⟩ := ByteArray.size_eq_zero_iff.1 hz
         rw [hse] at r3
         have HZ := Lib.hid hz
         clear hz hse
       case' neg =>
         have HZ := Lib.hid hz
         have hnn := toList_some (show 0 < (stR g3).size by omega)
         clear hz)
    | (go_at_call 69; refine (tmNeed_any t _ x2 _ 2 _ t3).mono ?_; rintro y w4 ⟨rfl, t4, k4⟩; have HT5 := Lib.hid (tmTook_any t _ x2 (stR g1) 0 w4 t4 (fun q => absurd rfl q) t1.wf.sz))
    | (go_at_call 68; refine HT5.out.mono ?_; rintro y w5 ⟨rfl, t5, k5⟩))
  · have e : decide ((stR g3).size = 0) = false := decide_eq_false HZ.out
    have ho := out_in O1.out O3.out
    rw [e] at ho
    have kk := (k4.trans k5)
    exact bodyPost_void rfl rfl ⟨x2, _, rfl, t5, ((k1.mono (fun k q => q ▸ HF.out)).trans (k2.mono (fun k q => q ▸ HF.out))).trans (k3.trans (kk.mono (fun k q => q ▸ HF.out))), ho.mono fun a ha => HP.out _ _ _ _ kk ha, HD.out _ _ _ kk D3.out⟩
  · have e : decide ((stR g3).size = 0) = true := decide_eq_true HZ.out
    have ho := out_in O1.out O3.out
    rw [e] at ho
    have kk := (k4.trans k5)
    exact bodyPost_void rfl rfl ⟨x2, _, rfl, t5, ((k1.mono (fun k q => q ▸ HF.out)).trans (k2.mono (fun k q => q ▸ HF.out))).trans (k3.trans (kk.mono (fun k q => q ▸ HF.out))), ho.mono fun a ha => HP.out _ _ _ _ kk ha, HD.out _ _ _ kk D3.out⟩
end Go.Proofs.YtekonefnniaheaaGreat
set_option linter.unusedVariables false
namespace Go.Proofs.YtekonefnniaheaaGreat
open Go.RowKit Go.Deep

/-- A cell holds a slice of things. -/
def SlAt {α : Type} [Inhabited α] (E : World → Nat → Nat → α → Prop) (m B : Nat) (w : World) (v : Option Value) (ls : List α) : Prop := ∃ a len cap, v = some (.slice a len cap) ∧ SlV E m B w a len cap ls
theorem SlAt.after {α : Type} [Inhabited α] {E : World → Nat → Nat → α → Prop} {m B t : Nat} {w w1 : World} {v : Option Value} {ls : List α} (h : SlAt E m B w v ls) (k : Kept (· = t) w w1) (ht : t < B) : SlAt E m B w1 v ls := by
  obtain ⟨a, len, cap, e, hs⟩ := h
  exact ⟨a, len, cap, e, hs.after k ht (Nat.le_refl _)⟩
/-- A taker's other cells: the module so far. -/
structure SoX (B : Nat) (w : World) (x : List Value) (so : Sofar) : Prop where
  len : x.length = 13
  f0 : SlAt ftE 2 B w x[0]? so.m.types
  f1 : SlAt impE 7 B w x[1]? so.m.imports
  f2 : SlAt intE 1 B w x[2]? so.m.funcs
  f3 : SlAt limE 2 B w x[3]? so.m.tables
  f4 : SlAt limE 2 B w x[4]? so.m.mems
  f5 : SlAt gloE 9 B w x[5]? so.m.globals
  f6 : SlAt expE 3 B w x[6]? so.m.exports
  f7 : x[7]? = some (.int .i64 so.m.start) ∧ so.m.start ≤ 4294967296
  f8 : SlAt eleE 9 B w x[8]? so.m.elems
  f9 : SlAt codE 2 B w x[9]? so.m.codes
  f10 : SlAt datE 9 B w x[10]? so.m.datas
  f11 : x[11]? = some (.int .i64 so.last)
  f12 : x[12]? = some (.int .i64 so.d)
theorem SoX.after {B t : Nat} {w w1 : World} {x : List Value} {so : Sofar} (h : SoX B w x so) (k : Kept (· = t) w w1) (ht : t < B) : SoX B w1 x so :=
  ⟨h.len, h.f0.after k ht, h.f1.after k ht, h.f2.after k ht, h.f3.after k ht, h.f4.after k ht, h.f5.after k ht, h.f6.after k ht, h.f7, h.f8.after k ht, h.f9.after k ht, h.f10.after k ht, h.f11, h.f12⟩
/-- What may be asked of these cells, whatever was read. -/
structure ShX (x : List Value) : Prop where
  len : x.length = 13
  s2 : ∃ a l c, x[2]? = some (.slice a l c)
  s9 : ∃ a l c, x[9]? = some (.slice a l c)
  s10 : ∃ a l c, x[10]? = some (.slice a l c)
  s11 : ∃ z, x[11]? = some (.int .i64 z)
  s12 : ∃ z, x[12]? = some (.int .i64 z)
theorem tkC_get (g : St) (x : List Value) (i : Nat) : (tkC g x)[i + 2]? = x[i]? := by
  unfold tkC
  rw [List.getElem?_toArray]
  rfl
theorem ShX.has {x : List Value} (h : ShX x) {i : Nat} (hi : i < 13) : ∃ v, x[i]? = some v := ⟨x[i]'(by rw [h.len]; exact hi), List.getElem?_eq_getElem _⟩
theorem tkC_set (g : St) (x : List Value) (i : Nat) (v : Value) : (tkC g x).setIfInBounds (i + 2) v = tkC g (x.set i v) := by
  unfold tkC
  rw [List.setIfInBounds_toArray]
  rfl
theorem TmAt.put {w : World} {t : Nat} {g : St} {x : List Value} (h : TmAt w t g x) (i : Nat) (v : Value) : TmAt (w.setCell ⟨t, i + 2, none⟩ v) t g (x.set i v) := by
  have h1 := h.blk.put (i + 2) v
  rw [tkC_set] at h1
  exact ⟨h1, h.wf⟩
theorem ShX.setS {x : List Value} (h : ShX x) {i : Nat} (hi : i < 11) (a : Option Addr) (l c : Nat) : ShX (x.set i (.slice a l c)) := by
  have key : ∀ j, j < 13 → (x.set i (.slice a l c))[j]? = if i = j then some (.slice a l c) else x[j]? := fun j hj => by
    rw [List.getElem?_set]
    split
    · rw [if_pos (by rw [h.len]; omega)]
    · rfl
  refine ⟨by rw [List.length_set]; exact h.len, ?_, ?_, ?_, ?_, ?_⟩
  · rw [key 2 (by decide)]; split; exact ⟨a, l, c, rfl⟩; exact h.s2
  · rw [key 9 (by decide)]; split; exact ⟨a, l, c, rfl⟩; exact h.s9
  · rw [key 10 (by decide)]; split; exact ⟨a, l, c, rfl⟩; exact h.s10
  · rw [key 11 (by decide), if_neg (by omega)]; exact h.s11
  · rw [key 12 (by decide), if_neg (by omega)]; exact h.s12
theorem ShX.setZ {x : List Value} (h : ShX x) {i : Nat} (hi : i = 7 ∨ i = 11 ∨ i = 12) (z : Int) : ShX (x.set i (.int .i64 z)) := by
  have key : ∀ j, j < 13 → (x.set i (.int .i64 z))[j]? = if i = j then some (.int .i64 z) else x[j]? := fun j hj => by
    rw [List.getElem?_set]
    split
    · rw [if_pos (by rw [h.len]; omega)]
    · rfl
  refine ⟨by rw [List.length_set]; exact h.len, ?_, ?_, ?_, ?_, ?_⟩
  · rw [key 2 (by decide), if_neg (by omega)]; exact h.s2
  · rw [key 9 (by decide), if_neg (by omega)]; exact h.s9
  · rw [key 10 (by decide), if_neg (by omega)]; exact h.s10
  · rw [key 11 (by decide)]; split; exact ⟨z, rfl⟩; exact h.s11
  · rw [key 12 (by decide)]; split; exact ⟨z, rfl⟩; exact h.s12
theorem SoX.put0 {B : Nat} {w : World} {x : List Value} {so : Sofar} (h : SoX B w x so) {a : Option Addr} {l c : Nat} {ls : List FT} (hs : SlV ftE 2 B w a l c ls) : SoX B w (x.set 0 (.slice a l c)) ⟨{ so.m with types := ls }, so.last, so.d⟩ :=
  ⟨by rw [List.length_set]; exact h.len, ⟨a, l, c, List.getElem?_set_self (by rw [h.len]; decide), hs⟩, by rw [List.getElem?_set_ne (by decide)]; exact h.f1, by rw [List.getElem?_set_ne (by decide)]; exact h.f2, by rw [List.getElem?_set_ne (by decide)]; exact h.f3, by rw [List.getElem?_set_ne (by decide)]; exact h.f4, by rw [List.getElem?_set_ne (by decide)]; exact h.f5, by rw [List.getElem?_set_ne (by decide)]; exact h.f6, ⟨by rw [List.getElem?_set_ne (by decide)]; exact h.f7.1, h.f7.2⟩, by rw [List.getElem?_set_ne (by decide)]; exact h.f8, by rw [List.getElem?_set_ne (by decide)]; exact h.f9, by rw [List.getElem?_set_ne (by decide)]; exact h.f10, by rw [List.getElem?_set_ne (by decide)]; exact h.f11, by rw [List.getElem?_set_ne (by decide)]; exact h.f12⟩
theorem SoX.put11 {B : Nat} {w : World} {x : List Value} {so : Sofar} (h : SoX B w x so) (z : Int) : SoX B w (x.set 11 (.int .i64 z)) ⟨so.m, z, so.d⟩ :=
  ⟨by rw [List.length_set]; exact h.len, by rw [List.getElem?_set_ne (by decide)]; exact h.f0, by rw [List.getElem?_set_ne (by decide)]; exact h.f1, by rw [List.getElem?_set_ne (by decide)]; exact h.f2, by rw [List.getElem?_set_ne (by decide)]; exact h.f3, by rw [List.getElem?_set_ne (by decide)]; exact h.f4, by rw [List.getElem?_set_ne (by decide)]; exact h.f5, by rw [List.getElem?_set_ne (by decide)]; exact h.f6, ⟨by rw [List.getElem?_set_ne (by decide)]; exact h.f7.1, h.f7.2⟩, by rw [List.getElem?_set_ne (by decide)]; exact h.f8, by rw [List.getElem?_set_ne (by decide)]; exact h.f9, by rw [List.getElem?_set_ne (by decide)]; exact h.f10, List.getElem?_set_self (by rw [h.len]; decide), by rw [List.getElem?_set_ne (by decide)]; exact h.f12⟩
/-- What content gives. -/
def GivesCt (B t : Nat) (last : Int) (R : Rd (Mdl × Int)) (g : St) (w : World) (y : Ending) (w' : World) : Prop := GivesIn R (· = t) (fun w x2 q => SoX B w x2 ⟨q.1, last, q.2⟩) (fun _ x2 => ShX x2) t g w y w'
set_option maxRecDepth 100000 in
set_option maxHeartbeats 2000000 in
theorem tmContent_1 (B t : Nat) (g : St) (x : List Value) (m : Mdl) (last d : Int) (w : World) (h : TmAt w t g x) (hx : ShX x) (hs : ∀ s, g = .ok s → SoX B w x ⟨m, last, d⟩) (ht : t < B) (hB : B ≤ w.heap.size) :
    Calls Tryz.prog 120 #[.pointer (some ⟨t, 0, none⟩), .int .i64 1] w fun y w' => GivesCt B t last (contR 1 m d) g w y w' := by
  have HX := Lib.hid hx
  have HS := Lib.hid hs
  have H := Lib.hid h
  have HB := Lib.hid hB
  obtain ⟨vi, hvi⟩ := hx.has (show 0 < 13 by decide)
  have HV := Lib.hid hvi
  clear hx hs h hB hvi
  go_enter Tryz.func120, Tryz.ntmps120
  go_wp2_with (go_at_call 136; refine (tmList_ft t g x 1000 (by decide) _ H.out).mono ?_; rintro y w1 ⟨a, l, c, g1, rfl, t1, k1, o1⟩; have O1 := Lib.hid o1; clear o1; have c1 := (t1.blk.cell 2).trans ((tkC_get g1 x 0).trans HV.out); have f1 := t1.blk.frozen 2)
  have T2 := t1.put 0 (.slice a l c)
  have K1 := (Kept.refl (· = t) w1).set (p := ⟨t, 2, none⟩) rfl (.slice a l c)
  have K2 := k1.trans K1
  refine bodyPost_void rfl rfl ⟨_, _, rfl, T2, K2, ?_, HX.out.setS (by decide) _ _ _⟩
  show Out g (mapR (fun l => ({ m with types := l }, d)) (listR 1000 ftR)) g1 _
  cases g with
  | error f => exact O1.out.dead f rfl
  | ok s => exact O1.out.map fun u e => ((HS.out s rfl).after K2 ht).put0 (e.after K1 (by have := HB.out; omega) HB.out)
end Go.Proofs.YtekonefnniaheaaGreat
set_option linter.unusedVariables false
namespace Go.Proofs.YtekonefnniaheaaGreat
open Go.RowKit Go.Deep
open Leb (byt byt_lt byt_get)

set_option maxRecDepth 100000 in
theorem mplace_any (n : Int) (hn : 0 ≤ n ∧ n ≤ 255) (w : World) :
    Calls Tryz.prog 121 #[.int .i64 n] w fun y w' => y = .returned (.int .i64 (placeN n)) ∧ w = w' := by
  unfold placeN
  by_cases h : n = 12
  · subst h
    rw [if_pos rfl]
    go_enter Tryz.func121, Tryz.ntmps121
    go_wp2_with fail
    go_ret
    exact ⟨rfl, rfl⟩
  · rw [if_neg h]
    have e := eq_no h
    have hw : IntKind.i64.wrap (2 * n) = 2 * n := by rw [IntKind.wrap_i64]; omega
    go_enter Tryz.func121, Tryz.ntmps121
    go_wp2_with fail
    go_ret
    exact ⟨rfl, rfl⟩
/-- What a section gives. -/
def GivesSec (B t : Nat) (so : Sofar) (g : St) (w : World) (y : Ending) (w' : World) : Prop :=
  ∃ x2 g', y = .returned (.tuple #[]) ∧ TmAt w' t g' x2 ∧ Kept (· = t) w w' ∧ Out g (sectR so) g' (fun q => SoX B w' x2 q) ∧ ShX x2
end Go.Proofs.YtekonefnniaheaaGreat
set_option linter.unusedVariables false
namespace Go.Proofs.YtekonefnniaheaaGreat
open Go.RowKit Go.Deep
open Leb (byt byt_lt byt_get)

def hdOk (s : ByteArray) : Bool := decide (s.extract 0 8 = strOfNums headB)
theorem hd_list (s : ByteArray) : ((s.extract 0 8).toList == [0, 97, 115, 109, 1, 0, 0, 0]) = hdOk s := by
  unfold hdOk
  rw [headS, Bool.eq_iff_iff, beq_iff_eq, decide_eq_true_iff]
  constructor
  · intro h
    rw [ByteArray.toList_eq] at h
    apply ByteArray.ext
    apply Array.toList_inj.1
    exact h
  · intro h
    rw [h, ByteArray.toList_eq]
set_option maxRecDepth 100000 in
theorem hasPre_any (s : ByteArray) (hs : s.size ≤ 65536) (w : World) :
    Calls Tryz.prog 133 #[.string s, .string ⟨#[0, 97, 115, 109, 1, 0, 0, 0]⟩] w fun y w' => y = .returned (.bool (hdOk s)) ∧ w = w' := by
  by_cases hge : 8 ≤ s.size
  · have h1 : (8 : Int) ≤ s.size := by omega
    have HL := Lib.hid (hd_list s)
    go_enter Tryz.func133, Tryz.ntmps133
    go_wp2_with fail
    go_ret
    rw [← HL.out]
    exact ⟨rfl, rfl⟩
  · have h1 : decide ((8 : Int) ≤ s.size) = false := by simp; omega
    have h2 : hdOk s = false := by
      unfold hdOk
      rw [decide_eq_false]
      intro q
      have := congrArg ByteArray.size q
      rw [ByteArray.size_extract, strOfNums_size] at this
      have h8 : headB.length = 8 := rfl
      omega
    go_enter Tryz.func133, Tryz.ntmps133
    go_wp2_with fail
    go_ret
    rw [h2]
    exact ⟨rfl, rfl⟩
theorem hdOk_le {s : ByteArray} (h : hdOk s = true) : 8 ≤ s.size := by
  have q := of_decide_eq_true h
  have := congrArg ByteArray.size q
  rw [ByteArray.size_extract, strOfNums_size] at this
  have h8 : headB.length = 8 := rfl
  omega
def cutB (s : ByteArray) : ByteArray := if hdOk s = true then s.extract 8 s.size else s
set_option maxRecDepth 100000 in
theorem cutPre_any (s : ByteArray) (hs : s.size ≤ 65536) (w : World) :
    Calls Tryz.prog 67 #[.string s, .string ⟨#[0, 97, 115, 109, 1, 0, 0, 0]⟩] w fun y w' => y = .returned (.tuple #[.string (cutB s), .bool (hdOk s)]) ∧ w = w' := by
  have HI : Hid (∀ w2, Calls Tryz.prog 116 #[.string s, .string ⟨#[0, 97, 115, 109, 1, 0, 0, 0]⟩] w2 fun y w' => y = .returned (.tuple #[.string (cutB s), .bool (hdOk s)]) ∧ w2 = w') := Lib.hid fun w2 => by
    have HP := Lib.hid (hasPre_any s hs)
    unfold cutB
    cases hh : hdOk s with
    | true =>
      have h8 := hdOk_le hh
      rw [hh] at HP
      have h1 : (8 : Int) ≤ s.size := by omega
      rw [if_pos rfl]
      clear hh
      go_enter Tryz.func116, Tryz.ntmps116
      go_wp2_with (go_at_call 133; refine (HP.out _).mono ?_; rintro y w9 ⟨rfl, rfl⟩)
      go_ret2
      exact ⟨rfl, rfl⟩
    | false =>
      rw [hh] at HP
      rw [if_neg (by decide)]
      clear hh
      go_enter Tryz.func116, Tryz.ntmps116
      go_wp2_with (go_at_call 133; refine (HP.out _).mono ?_; rintro y w9 ⟨rfl, rfl⟩)
      go_ret2
      exact ⟨rfl, rfl⟩
  revert HI
  generalize cutB s = b
  generalize hdOk s = ok
  intro HI
  go_enter Tryz.func67, Tryz.ntmps67
  go_wp2_with (go_at_call 116; refine (HI.out _).mono ?_; rintro y w9 ⟨rfl, rfl⟩)
  go_ret2
  exact ⟨rfl, rfl⟩
theorem sectR_size {so : Sofar} {s : ByteArray} {q : Sofar × ByteArray} (h : sectR so s = .ok q) : q.2.size < s.size := by
  unfold sectR at h
  by_cases h0 : s.size = 0
  · rw [bindR_err (show byteR s = .error 2 from if_pos h0)] at h
    cases h
  · rw [bindR_ok (show byteR s = .ok ((byt s 0 : Int), s.extract 1 s.size) from if_neg h0)] at h
    have hx : (s.extract 1 s.size).size = s.size - 1 := by rw [ByteArray.size_extract]; omega
    revert h
    generalize (byt s 0 : Int) = n
    generalize hs' : s.extract 1 s.size = s'
    rw [hs'] at hx
    intro h
    replace h : bindR (inR (contR n so.m so.d)) (fun q => if n = 0 then pureR ⟨q.1, so.last, q.2⟩ else if so.last < placeN n then pureR ⟨q.1, placeN n, q.2⟩ else failR 2) s' = .ok q := h
    cases hi : inR (contR n so.m so.d) s' with
    | error e => rw [bindR_err hi] at h; cases h
    | ok p =>
      rw [bindR_ok hi] at h
      have hp : p.2.size ≤ s'.size := by
        unfold inR at hi
        cases hb : bytesR s' with
        | error e => rw [hb] at hi; cases hi
        | ok b =>
          rw [hb] at hi
          replace hi : ((contR n so.m so.d b.1).bind fun p => if p.2.size = 0 then Except.ok (p.1, b.2) else .error 2) = .ok p := hi
          have hb2 : b.2.size ≤ s'.size := by
            unfold bytesR at hb
            split at hb
            · injection hb with hb
              rw [← hb]
              exact bB_le s'
            · cases hb
          cases hc : contR n so.m so.d b.1 with
          | error e => rw [hc] at hi; cases hi
          | ok c =>
            rw [hc] at hi
            by_cases hz : c.2.size = 0
            · have hi2 : Except.ok (c.1, b.2) = (.ok p : Except Int ((Mdl × Int) × ByteArray)) := (if_pos hz).symm.trans hi
              injection hi2 with hi2
              rw [← hi2]
              exact hb2
            · have hi2 : Except.error 2 = (.ok p : Except Int ((Mdl × Int) × ByteArray)) := (if_neg hz).symm.trans hi
              cases hi2
      have hq : q.2 = p.2 := by
        split at h
        · injection h with h
          rw [← h]
        · split at h
          · injection h with h
            rw [← h]
          · cases h
      rw [hq]
      omega
def e1R (x : Sofar) : Bool := decide ((x.m.codes.length : Int) = (x.m.funcs.length : Int))
def e2R (x : Sofar) : Bool := decide (x.d = -1) || decide (x.d = (x.m.datas.length : Int))
def so0 : Sofar := ⟨noM, 0, -1⟩
def modR : Rd Sofar := bindR hdR fun _ => fun s => needR (needR (secsR (s.size + 1) so0) e1R 2) e2R 2 s
/-- What reading a module comes to. -/
def takeMd (s : ByteArray) : Except Int Mdl := if 65536 < s.size then .error 14 else (modR s).bind fun q => .ok q.1.m
/-- How much is behind. -/
def szM (w : World) (t : Nat) : Nat := match w.cell? ⟨t, 0, none⟩ with
  | some (.string s) => s.size
  | _ => 0
theorem TmAt.szM {w : World} {t : Nat} {g : St} {x : List Value} (h : TmAt w t g x) : szM w t = (stR g).size := by
  unfold Go.Proofs.YtekonefnniaheaaGreat.szM
  rw [h.rest]
theorem secs_step {k : Nat} {so : Sofar} {s : ByteArray} (hs : ¬ s.size = 0) : secsR (k + 1) so s = (sectR so s).bind fun q => secsR k q.1 q.2 := if_neg hs
theorem secs_end {k : Nat} {so : Sofar} {s : ByteArray} (hs : s.size = 0) : secsR (k + 1) so s = .ok (so, s) := if_pos hs
end Go.Proofs.YtekonefnniaheaaGreat
set_option linter.unusedVariables false
namespace Go.Proofs.YtekonefnniaheaaGreat
open Go.RowKit Go.Deep

set_option maxRecDepth 100000 in
theorem needTrue_any (a : Value) (e : Int) (w : World) : Calls Tryz.prog 69 #[a, .bool true, .int .i64 e] w fun y w' => y = .returned (.tuple #[]) ∧ w' = w := by
  go_enter Tryz.func69, Tryz.ntmps69
  go_wp2_with fail
  exact bodyPost_void rfl rfl ⟨rfl, rfl⟩
/-- What reading all sections gives. -/
def GivesMd (B t : Nat) (s : ByteArray) (w : World) (y : Ending) (w' : World) : Prop :=
  ∃ x2 g', y = .returned (.tuple #[]) ∧ TmAt w' t g' x2 ∧ Kept (· = t) w w' ∧ Out (.ok s) modR g' (fun q => SoX B w' x2 q) ∧ ShX x2
end Go.Proofs.YtekonefnniaheaaGreat
set_option linter.unusedVariables false
namespace Go.Proofs.YtekonefnniaheaaGreat
open Go.RowKit Go.Deep

/-- A module's eleven values. -/
structure MdlVals (W : World) (m : Mdl) (vs : List Value) : Prop where
  ex : ∃ xT cT xI cI xF cF xB cB xM cM xG cG xX cX xE cE xC cC xD cD, vs = [.slice xT m.types.length cT, .slice xI m.imports.length cI, .slice xF m.funcs.length cF, .slice xB m.tables.length cB, .slice xM m.mems.length cM, .slice xG m.globals.length cG, .slice xX m.exports.length cX, .int .i64 m.start, .slice xE m.elems.length cE, .slice xC m.codes.length cC, .slice xD m.datas.length cD] ∧
    MdlIn W m xT cT xI cI xF cF xB cB xM cM xG cG xX cX xE cE xC cC xD cD
theorem SoX.vals {B : Nat} {w : World} {x : List Value} {so : Sofar} (h : SoX B w x so) : MdlVals w so.m (x.take 11) := by
  obtain ⟨a0, l0, c0, e0, s0⟩ := h.f0
  obtain ⟨a1, l1, c1, e1, s1⟩ := h.f1
  obtain ⟨a2, l2, c2, e2, s2⟩ := h.f2
  obtain ⟨a3, l3, c3, e3, s3⟩ := h.f3
  obtain ⟨a4, l4, c4, e4, s4⟩ := h.f4
  obtain ⟨a5, l5, c5, e5, s5⟩ := h.f5
  obtain ⟨a6, l6, c6, e6, s6⟩ := h.f6
  obtain ⟨e7, h7⟩ := h.f7
  obtain ⟨a8, l8, c8, e8, s8⟩ := h.f8
  obtain ⟨a9, l9, c9, e9, s9⟩ := h.f9
  obtain ⟨a10, l10, c10, e10, s10⟩ := h.f10
  have q0 := s0.now
  have q1 := s1.now
  have q2 := s2.now.ints
  have q3 := s3.now
  have q4 := s4.now
  have q5 := s5.now
  have q6 := s6.now
  have q8 := s8.now
  have q9 := s9.now
  have q10 := s10.now
  obtain rfl := q0.eq
  obtain rfl := q1.eq
  obtain rfl := q2.eq
  obtain rfl := q3.eq
  obtain rfl := q4.eq
  obtain rfl := q5.eq
  obtain rfl := q6.eq
  obtain rfl := q8.eq
  obtain rfl := q9.eq
  obtain rfl := q10.eq
  have hl := h.len
  refine ⟨a0, c0, a1, c1, a2, c2, a3, c3, a4, c4, a5, c5, a6, c6, a8, c8, a9, c9, a10, c10, ?_, ⟨q0, q1, q2, q3, q4, q5, q6, q8, q9, q10, by omega⟩⟩
  match x, hl with
  | [v0, v1, v2, v3, v4, v5, v6, v7, v8, v9, v10, v11, v12], _ =>
    simp only [List.getElem?_cons_zero, List.getElem?_cons_succ, Option.some.injEq] at e0 e1 e2 e3 e4 e5 e6 e7 e8 e9 e10
    subst e0 e1 e2 e3 e4 e5 e6 e7 e8 e9 e10
    rfl
/-- What reading gives: a module, or a fault and none. -/
def GivesM (s : ByteArray) (w : World) (y : Ending) (w' : World) : Prop :=
  ∃ vs f, y = .returned (.tuple #[.agg (List.toArray vs), .int .i64 f]) ∧ Below w.heap.size w w' ∧ vs.length = 11 ∧
    ((∃ m, takeMd s = .ok m ∧ f = 0 ∧ MdlVals w' m vs) ∨ (takeMd s = .error f ∧ f ≠ 0 ∧ MdlVals w' noM vs))
theorem noM_vals (w : World) : MdlVals w noM [.slice none 0 0, .slice none 0 0, .slice none 0 0, .slice none 0 0, .slice none 0 0, .slice none 0 0, .slice none 0 0, .int .i64 0, .slice none 0 0, .slice none 0 0, .slice none 0 0] :=
  ⟨none, 0, none, 0, none, 0, none, 0, none, 0, none, 0, none, 0, none, 0, none, 0, none, 0, rfl,
    ⟨⟨rfl, Nat.le_refl _, by decide, .inl rfl⟩, ⟨rfl, Nat.le_refl _, by decide, .inl rfl⟩, ⟨rfl, Nat.le_refl _, by decide, .inl rfl, fun i hi => absurd hi (by simp [noM])⟩, ⟨rfl, Nat.le_refl _, by decide, .inl rfl⟩, ⟨rfl, Nat.le_refl _, by decide, .inl rfl⟩, ⟨rfl, Nat.le_refl _, by decide, .inl rfl⟩, ⟨rfl, Nat.le_refl _, by decide, .inl rfl⟩, ⟨rfl, Nat.le_refl _, by decide, .inl rfl⟩, ⟨rfl, Nat.le_refl _, by decide, .inl rfl⟩, ⟨rfl, Nat.le_refl _, by decide, .inl rfl⟩, by decide⟩⟩
def noX : List Value := [.slice none 0 0, .slice none 0 0, .slice none 0 0, .slice none 0 0, .slice none 0 0, .slice none 0 0, .slice none 0 0, .int .i64 0, .slice none 0 0, .slice none 0 0, .slice none 0 0, .int .i64 0, .int .i64 (-1)]
theorem noX_sh : ShX noX := ⟨rfl, ⟨none, 0, 0, rfl⟩, ⟨none, 0, 0, rfl⟩, ⟨none, 0, 0, rfl⟩, ⟨0, rfl⟩, ⟨-1, rfl⟩⟩
theorem noX_so (B : Nat) (w : World) : SoX B w noX so0 :=
  ⟨rfl, ⟨none, 0, 0, rfl, slV_nil _ _ _ _⟩, ⟨none, 0, 0, rfl, slV_nil _ _ _ _⟩, ⟨none, 0, 0, rfl, slV_nil _ _ _ _⟩, ⟨none, 0, 0, rfl, slV_nil _ _ _ _⟩, ⟨none, 0, 0, rfl, slV_nil _ _ _ _⟩, ⟨none, 0, 0, rfl, slV_nil _ _ _ _⟩, ⟨none, 0, 0, rfl, slV_nil _ _ _ _⟩, ⟨rfl, by decide⟩, ⟨none, 0, 0, rfl, slV_nil _ _ _ _⟩, ⟨none, 0, 0, rfl, slV_nil _ _ _ _⟩, ⟨none, 0, 0, rfl, slV_nil _ _ _ _⟩, rfl, rfl⟩
end Go.Proofs.YtekonefnniaheaaGreat
set_option linter.unusedVariables false
namespace Go.Proofs.YtekonefnniaheaaGreat
open Go.RowKit Go.Deep

theorem RowsIn.at {α : Type} [Inhabited α] {sz : Nat} {one : World → Nat → Nat → α → Prop} {w : World} {x : Option Addr} {len cap : Nat} {ts : List α} (h : RowsIn sz one w x len cap ts) {i : Nat} (hi : i < len) :
    ∃ b off, x = some ⟨b, off, none⟩ ∧ one w b (off + i * sz) (ts.getD i default) := by
  rcases h.lie with h0 | ⟨b, off, hx, hr⟩
  · omega
  · exact ⟨b, off, hx, hr i (by rw [← h.eq]; exact hi)⟩
theorem IntsIn.view {w : World} {x : Option Addr} {len cap : Nat} {zs : List Int} (h : IntsIn w x len cap zs) : View w x len zs := h.lie
set_option maxHeartbeats 400000 in
set_option maxRecDepth 100000 in
theorem Same_long (a c : Option Addr) (n cap cap2 : Nat) (xs : List Int) (w : World) (hn : n ≤ 9223372036854775807) (ha : View w a n xs) (hc : View w c n xs) :
    Calls Tryz.prog 15 #[.slice a n cap, .slice c n cap2] w fun e w' => e = .returned (.bool true) ∧ Below w.heap.size w w' := by
  have HA := Lib.hid ha
  have HC := Lib.hid hc
  have hne : ((n : Int) != (n : Int)) = false := by simp
  clear ha hc
  go_enter Tryz.func15, Tryz.ntmps15
  go_wp2_with fail
  go_loopw [5] (fun i wr => ∃ k : Nat, i = .int .i64 k ∧ k ≤ n ∧ Below w.heap.size w wr) (fun i _ => n - (intOf i).toNat)
  case atStart => exact ⟨0, rfl, by omega, Below.refl _ _⟩
  case round =>
    obtain ⟨k, rfl, hk, hb⟩ := hrel
    by_cases hlt : k < n
    · obtain ⟨b, off, rfl, hca⟩ := HA.out.resolve_left (by omega)
      obtain ⟨d, off2, rfl, hcc⟩ := HC.out.resolve_left (by omega)
      have h1 := hca k hlt
      have h2 := hcc k hlt
      have g1 := (hb.cell (p := ⟨b, off + k, none⟩) (World.block_lt_of_cell? w _ h1)).trans h1
      have g2 := (hb.cell (p := ⟨d, off2 + k, none⟩) (World.block_lt_of_cell? w _ h2)).trans h2
      clear hca hcc h1 h2
      revert g1 g2
      generalize xs.getD k 0 = z
      intro g1 g2
      go_wp2_with fail
      go_quiet (fail)
      go_wp2
      exact ⟨⟨k + 1, by go_num, by omega, below_drewN hb _⟩, by simp [intOf]; omega⟩
    · have hke : k = n := by omega
      subst hke
      go_wp2_with fail
      go_ret
      exact ⟨rfl, hb⟩
theorem IntsIn.same {x y : Option Addr} {len c1 c2 : Nat} {ts : List Int} {w : World} (hx : IntsIn w x len c1 ts) (hy : IntsIn w y len c2 ts) (w' : World) (hb : Below w.heap.size w w') :
    Calls Tryz.prog 15 #[.slice x len c1, .slice y len c2] w' fun e w2 => e = .returned (.bool true) ∧ Below w'.heap.size w' w2 :=
  Same_long x y len c1 c2 ts w' (Nat.le_trans hx.le hx.top) (hx.view.below hb) (hy.view.below hb)
end Go.Proofs.YtekonefnniaheaaGreat
set_option linter.unusedVariables false
namespace Go.Proofs.YtekonefnniaheaaGreat
open Go.RowKit Go.Deep

section
variable {w w' : World} {b o : Nat}
theorem RowsIn.to {α : Type} [Inhabited α] {sz : Nat} {one : World → Nat → Nat → α → Prop} {x : Option Addr} {len cap : Nat} {ts : List α} (h : RowsIn sz one w x len cap ts) (f : ∀ b o t, one w b o t → one w' b o t) : RowsIn sz one w' x len cap ts :=
  ⟨h.eq, h.le, h.top, h.lie.imp id fun ⟨b, off, e, k⟩ => ⟨b, off, e, fun i hi => f _ _ _ (k i hi)⟩⟩
theorem InsV.below {c : Ins} {xn : Option Addr} {nc : Nat} {xl : Option Addr} {lc : Nat} {xe : Option Addr} {ec : Nat} (h : InsV w c xn nc xl lc xe ec) (hb : Below w.heap.size w w') : InsV w' c xn nc xl lc xe ec := ⟨h.n.below hb, h.nle, h.l.below hb, h.e.below hb⟩
theorem insC_below {c : Ins} {xn : Option Addr} {nc : Nat} {xl : Option Addr} {lc : Nat} {xe : Option Addr} {ec : Nat} (hb : Below w.heap.size w w') (h : insC w b o c xn nc xl lc xe ec) : insC w' b o c xn nc xl lc xe ec := by
  obtain ⟨h0, h1, h2, h3, h4, h5, h6⟩ := h
  exact ⟨below_cell hb h0, below_cell hb h1, below_cell hb h2, below_cell hb h3, below_cell hb h4, below_cell hb h5, below_cell hb h6⟩
theorem limE_below (hb : Below w.heap.size w w') (t : Lim) (h : limE w b o t) : limE w' b o t := ⟨⟨below_cell hb h.1.1, below_cell hb h.1.2⟩, h.2⟩
theorem ftE_below (hb : Below w.heap.size w w') (t : FT) (h : ftE w b o t) : ftE w' b o t := by
  obtain ⟨xp, cp, xr, cr, ⟨h0, h1⟩, h2, h3⟩ := h
  exact ⟨xp, cp, xr, cr, ⟨below_cell hb h0, below_cell hb h1⟩, h2.below hb, h3.below hb⟩
theorem impE_below (hb : Below w.heap.size w w') (t : Imp) (h : impE w b o t) : impE w' b o t := by
  obtain ⟨⟨h0, h1, h2, h3, h4, h5, h6⟩, r⟩ := h
  exact ⟨⟨below_cell hb h0, below_cell hb h1, below_cell hb h2, below_cell hb h3, below_cell hb h4, below_cell hb h5, below_cell hb h6⟩, r⟩
theorem expE_below (hb : Below w.heap.size w w') (t : Exp) (h : expE w b o t) : expE w' b o t := by
  obtain ⟨⟨h0, h1, h2⟩, r⟩ := h
  exact ⟨⟨below_cell hb h0, below_cell hb h1, below_cell hb h2⟩, r⟩
theorem gloE_below (hb : Below w.heap.size w w') (t : Glo) (h : gloE w b o t) : gloE w' b o t := by
  obtain ⟨xn, nc, xl, lc, xe, ec, ⟨h0, h1⟩, hc, hv, hw⟩ := h
  exact ⟨xn, nc, xl, lc, xe, ec, ⟨below_cell hb h0, below_cell hb h1⟩, insC_below hb hc, hv.below hb, hw⟩
theorem datE_below (hb : Below w.heap.size w w') (t : Dat) (h : datE w b o t) : datE w' b o t := by
  obtain ⟨xn, nc, xl, lc, xe, ec, ⟨h0, h1⟩, hc, hv, hw⟩ := h
  exact ⟨xn, nc, xl, lc, xe, ec, ⟨below_cell hb h0, below_cell hb h1⟩, insC_below hb hc, hv.below hb, hw⟩
theorem eleE_below (hb : Below w.heap.size w w') (t : Ele) (h : eleE w b o t) : eleE w' b o t := by
  obtain ⟨xn, nc, xl, lc, xe, ec, xf, cf, ⟨h0, h1⟩, hc, hv, hw, hf, hr⟩ := h
  exact ⟨xn, nc, xl, lc, xe, ec, xf, cf, ⟨below_cell hb h0, below_cell hb h1⟩, insC_below hb hc, hv.below hb, hw, hf.below hb, hr⟩
theorem codE_below (hb : Below w.heap.size w w') (t : Cod) (h : codE w b o t) : codE w' b o t := by
  obtain ⟨xs, cs, xl, cl, ⟨h0, h1⟩, hi, hl, r⟩ := h
  exact ⟨xs, cs, xl, cl, ⟨below_cell hb h0, below_cell hb h1⟩, hi.below hb, hl.below hb, r⟩
theorem MdlIn.below {m : Mdl} {xT : Option Addr} {cT : Nat} {xI : Option Addr} {cI : Nat} {xF : Option Addr} {cF : Nat} {xB : Option Addr} {cB : Nat} {xM : Option Addr} {cM : Nat} {xG : Option Addr} {cG : Nat} {xX : Option Addr} {cX : Nat} {xE : Option Addr} {cE : Nat} {xC : Option Addr} {cC : Nat} {xD : Option Addr} {cD : Nat}
    (h : MdlIn w m xT cT xI cI xF cF xB cB xM cM xG cG xX cX xE cE xC cC xD cD) (hb : Below w.heap.size w w') : MdlIn w' m xT cT xI cI xF cF xB cB xM cM xG cG xX cX xE cE xC cC xD cD :=
  ⟨h.hT.to fun _ _ t => ftE_below hb t, h.hI.to fun _ _ t => impE_below hb t, h.hF.below hb, h.hB.to fun _ _ t => limE_below hb t, h.hM.to fun _ _ t => limE_below hb t, h.hG.to fun _ _ t => gloE_below hb t, h.hX.to fun _ _ t => expE_below hb t, h.hE.to fun _ _ t => eleE_below hb t, h.hC.to fun _ _ t => codE_below hb t, h.hD.to fun _ _ t => datE_below hb t, h.hS⟩
end
end Go.Proofs.YtekonefnniaheaaGreat
set_option linter.unusedVariables false
namespace Go.Proofs.YtekonefnniaheaaGreat
open Go.RowKit Go.Deep
open Leb (putU putS)

/-- A layer that has not too much. -/
def LW (s : Lay) : Prop := s.no = false → s.full = false → s.xs.length ≤ 65536
/-- A step lays these bytes, if they may be. -/
structure Stp (g : Lay → Lay) (b : List Int) (ok : Bool) : Prop where
  no : ∀ s, (g s).no = (s.no || !ok)
  full : ∀ s, LW s → (g s).no = false → (g s).full = (s.full || decide (65536 < s.xs.length + b.length))
  xs : ∀ s, LW s → (g s).no = false → (g s).full = false → (g s).xs = s.xs ++ b
theorem or_no {a b : Bool} (h : (a || b) = false) : a = false ∧ b = false := by cases a <;> cases b <;> simp_all
theorem Stp.lw {g : Lay → Lay} {b : List Int} {ok : Bool} (h : Stp g b ok) {s : Lay} (hs : LW s) : LW (g s) := by
  intro h1 h2
  have h3 := h.full s hs h1
  rw [h2] at h3
  have h4 := (or_no h3.symm).2
  rw [h.xs s hs h1 h2, List.length_append]
  have := of_decide_eq_false h4
  omega
theorem Stp.was {g : Lay → Lay} {b : List Int} {ok : Bool} (h : Stp g b ok) {s : Lay} (h1 : (g s).no = false) : s.no = false ∧ ok = true := by
  rw [h.no] at h1
  obtain ⟨a, c⟩ := or_no h1
  exact ⟨a, by cases ok <;> simp_all⟩
theorem Stp.congr {g : Lay → Lay} {b b' : List Int} {ok ok' : Bool} (h : Stp g b ok) (e : b = b') (e2 : ok = ok') : Stp g b' ok' := by
  subst e e2
  exact h
theorem Stp.of {g g' : Lay → Lay} {b b' : List Int} {ok ok' : Bool} (h : Stp g b ok) (eg : ∀ s, g' s = g s) (e : b = b') (e2 : ok = ok') : Stp g' b' ok' := by
  obtain rfl : g' = g := funext eg
  subst e e2
  exact h
theorem Stp.then {g1 g2 : Lay → Lay} {b1 b2 : List Int} {o1 o2 : Bool} (h1 : Stp g1 b1 o1) (h2 : Stp g2 b2 o2) : Stp (fun s => g2 (g1 s)) (b1 ++ b2) (o1 && o2) := by
  refine ⟨fun s => ?_, fun s hs hn => ?_, fun s hs hn hf => ?_⟩
  · show (g2 (g1 s)).no = _
    rw [h2.no, h1.no]
    cases s.no <;> cases o1 <;> cases o2 <;> rfl
  · have hn1 := (h2.was hn).1
    have e2 := h2.full (g1 s) (h1.lw hs) hn
    have e1 := h1.full s hs hn1
    show (g2 (g1 s)).full = _
    rw [e2]
    by_cases hf1 : (g1 s).full = true
    · rw [hf1] at e1 ⊢
      rw [Bool.true_or]
      by_cases hsf : s.full = true
      · rw [hsf, Bool.true_or]
      · have hsf' : s.full = false := by cases h : s.full <;> simp_all
        rw [hsf', Bool.false_or] at e1 ⊢
        have := of_decide_eq_true e1.symm
        rw [decide_eq_true]
        rw [List.length_append]
        omega
    · have hf1' : (g1 s).full = false := by cases h : (g1 s).full <;> simp_all
      rw [hf1'] at e1 ⊢
      have hsf := (or_no e1.symm).1
      rw [h1.xs s hs hn1 hf1', hsf, Bool.false_or, Bool.false_or, List.length_append, List.length_append, Nat.add_assoc]
  · have hn1 := (h2.was hn).1
    have e2 := h2.full (g1 s) (h1.lw hs) hn
    replace hf : (g2 (g1 s)).full = false := hf
    rw [hf] at e2
    have hf1 := (or_no e2.symm).1
    show (g2 (g1 s)).xs = _
    rw [h2.xs (g1 s) (h1.lw hs) hn hf, h1.xs s hs hn1 hf1, List.append_assoc]
theorem stp_put (b : List Int) : Stp (fun s => putP s b) b true := by
  refine ⟨fun s => ?_, fun s hs hn => ?_, fun s hs hn hf => ?_⟩
  · show (putP s b).no = _
    unfold putP
    split <;> simp
  · show (putP s b).full = _
    unfold putP
    split
    · rename_i h
      rcases h with h | h
      · rw [h]; rfl
      · rw [decide_eq_true h, Bool.or_true]
    · rename_i h
      have h1 : ¬ s.full = true := fun q => h (.inl q)
      have h2 : ¬ 65536 < s.xs.length + b.length := fun q => h (.inr q)
      rw [decide_eq_false h2, Bool.or_false]
  · show (putP s b).xs = _
    replace hf : (putP s b).full = false := hf
    unfold putP at hf ⊢
    split
    · rename_i h
      rw [if_pos h] at hf
      exact absurd hf (by show ¬ true = false; decide)
    · rfl
theorem stp_need (p : Bool) : Stp (fun s => needP s p) [] p := by
  refine ⟨fun s => rfl, fun s hs hn => ?_, fun s hs hn hf => ?_⟩
  · have h1 := (or_no (show (s.no || !p) = false from hn)).1
    show s.full = _
    by_cases hf : s.full = true
    · rw [hf]; rfl
    · have hf' : s.full = false := by cases h : s.full <;> simp_all
      have := hs h1 hf'
      rw [hf', Bool.false_or, decide_eq_false]
      show ¬ 65536 < s.xs.length + 0
      omega
  · show s.xs = s.xs ++ []
    rw [List.append_nil]
theorem stp_id : Stp (fun s => s) [] true := by
  refine (stp_need true).congr rfl rfl |> fun h => ?_
  have e : (fun s : Lay => needP s true) = fun s => s := by
    funext s
    show ({ s with no := s.no || !true } : Lay) = s
    rw [Bool.not_true, Bool.or_false]
  rwa [e] at h
theorem stp_byte (n : Int) : Stp (fun s => byteP s n) [n % 256] true := stp_put _
theorem stp_bytes (b : List Int) : Stp (fun s => bytesP s b) (putU b.length ++ b) true := (stp_put _).then (stp_put _)
theorem stp_as {g : Lay → Lay} {b : List Int} {ok : Bool} (h : Stp g b ok) : Stp (fun s => asB s g) (putU b.length ++ b) ok := by
  have hno : ∀ s, (asB s g).no = (g ⟨[], s.no, s.full⟩).no := fun s => by
    show (bytesP _ _).no = _
    rw [(stp_bytes _).no]
    simp
  have hw : ∀ s : Lay, LW ⟨[], s.no, s.full⟩ := fun s _ _ => Nat.zero_le _
  have key : ∀ s, LW s → (asB s g).no = false → ((g ⟨[], s.no, s.full⟩).full = true ∧ (s.full || decide (65536 < b.length)) = true ∧ (asB s g).full = true) ∨ ((g ⟨[], s.no, s.full⟩).full = false ∧ s.full = false ∧ b.length ≤ 65536 ∧ asB s g = bytesP ⟨s.xs, false, false⟩ b) := fun s hs hn => by
    have hn1 : (g ⟨[], s.no, s.full⟩).no = false := by rw [← hno]; exact hn
    have e1 := h.full _ (hw s) hn1
    replace e1 : (g ⟨[], s.no, s.full⟩).full = (s.full || decide (65536 < 0 + b.length)) := e1
    rw [Nat.zero_add] at e1
    by_cases hf : (g ⟨[], s.no, s.full⟩).full = true
    · refine .inl ⟨hf, by rw [← e1]; exact hf, ?_⟩
      have e2 : (asB s g).full = ((g ⟨[], s.no, s.full⟩).full || _) := (stp_bytes _).full ⟨s.xs, (g ⟨[], s.no, s.full⟩).no, (g ⟨[], s.no, s.full⟩).full⟩ (fun _ q => by rw [show Lay.full _ = true from hf] at q; cases q) hn
      rw [e2, hf, Bool.true_or]
    · have hf' : (g ⟨[], s.no, s.full⟩).full = false := by cases q : (g ⟨[], s.no, s.full⟩).full <;> simp_all
      rw [hf'] at e1
      obtain ⟨e3, e4⟩ := or_no e1.symm
      have hx := h.xs _ (hw s) hn1 hf'
      refine .inr ⟨hf', e3, by have := of_decide_eq_false e4; omega, ?_⟩
      unfold asB
      rw [hn1, hf', hx]
      rfl
  refine ⟨fun s => by show (asB s g).no = _; rw [hno, h.no], fun s hs hn => ?_, fun s hs hn hf => ?_⟩
  · have hn0 : s.no = false := by
      replace hn : (asB s g).no = false := hn
      rw [hno, h.no] at hn
      exact (or_no hn).1
    show (asB s g).full = _
    rcases key s hs hn with ⟨_, h2, h3⟩ | ⟨_, h2, h3, h4⟩
    · rw [h3]
      by_cases hsf : s.full = true
      · rw [hsf]; rfl
      · have hsf' : s.full = false := by cases q : s.full <;> simp_all
        rw [hsf', Bool.false_or] at h2
        have := of_decide_eq_true h2
        rw [hsf', Bool.false_or, decide_eq_true]
        rw [List.length_append]
        omega
    · rw [h4, (stp_bytes b).full ⟨s.xs, false, false⟩ (fun _ _ => hs hn0 h2) (by rw [← h4]; exact hn), h2]
  · have hn0 : s.no = false := by
      replace hn : (asB s g).no = false := hn
      rw [hno, h.no] at hn
      exact (or_no hn).1
    replace hf : (asB s g).full = false := hf
    show (asB s g).xs = _
    rcases key s hs hn with ⟨_, _, h3⟩ | ⟨_, h2, h3, h4⟩
    · rw [h3] at hf
      cases hf
    · rw [h4, (stp_bytes b).xs ⟨s.xs, false, false⟩ (fun _ _ => hs hn0 h2) (by rw [← h4]; exact hn) (by rw [← h4]; exact hf)]
theorem stp_step {α : Type} {f : Lay → α → Lay} {t : α} {b : List Int} {ok : Bool} (h : Stp (fun s => f s t) b ok) : Stp (fun s => stepP f s t) b ok := by
  have e : ∀ s, s.no = false → stepP f s t = f s t := fun s hs => if_neg (by rw [hs]; decide)
  have hn : ∀ s, (stepP f s t).no = (s.no || !ok) := fun s => by
    by_cases q : s.no = true
    · rw [show stepP f s t = s from if_pos q, q]
      rfl
    · have q' : s.no = false := by cases k : s.no <;> simp_all
      rw [e s q']
      exact h.no s
  have hz : ∀ s, (stepP f s t).no = false → s.no = false := fun s q => by
    rw [hn] at q
    exact (or_no q).1
  refine ⟨hn, fun s hs q => ?_, fun s hs q k => ?_⟩
  · show (stepP f s t).full = _
    replace q : (stepP f s t).no = false := q
    have := hz s q
    rw [e s this] at q ⊢
    exact h.full s hs q
  · show (stepP f s t).xs = _
    replace q : (stepP f s t).no = false := q
    replace k : (stepP f s t).full = false := k
    have := hz s q
    rw [e s this] at q k ⊢
    exact h.xs s hs q k
theorem stp_fold {α : Type} {f : Lay → α → Lay} {b : α → List Int} {ok : α → Bool} (h : ∀ t, Stp (fun s => f s t) (b t) (ok t)) : ∀ ts : List α, Stp (fun s => ts.foldl (stepP f) s) (ts.flatMap b) (ts.all ok)
  | [] => stp_id
  | t :: r => ((stp_step (h t)).then (stp_fold h r)).congr (List.flatMap_cons).symm (List.all_cons).symm
theorem stp_list {α : Type} (most : Int) {f : Lay → α → Lay} {b : α → List Int} {ok : α → Bool} (h : ∀ t, Stp (fun s => f s t) (b t) (ok t)) (ts : List α) :
    Stp (fun s => listP most f s ts) (putU ts.length ++ ts.flatMap b) (decide ((ts.length : Int) ≤ most) && ts.all ok) := by
  have := ((stp_need (decide ((ts.length : Int) ≤ most))).then (stp_put (putU ts.length))).then (stp_fold h ts)
  exact this.of (fun s => by simp only [listP]) (by rw [List.nil_append]) (by simp)
/- The bytes of each thing, and whether it may be laid. -/
def oIdx (n : Int) : Bool := decide (0 ≤ n ∧ n ≤ 4294967295)
def oTyp (c : Int) : Bool := decide ((typeV c).2 = 0)
def bTyp (c : Int) : List Int := [c % 256]
def oIns (ls : List Ins) : Bool := decide ((putV ls).2 = 0)
def bIns (ls : List Ins) : List Int := (putV ls).1
def bStr (s : ByteArray) : List Int := putU (bl s).length ++ bl s
def bYes (b : Bool) : List Int := [(if b = true then 1 else 0) % 256]
def oKind (k : Int) : Bool := decide (0 ≤ k ∧ k ≤ 3)
def oLim (mn mx : Int) : Bool := if mx = -1 then oIdx mn else oIdx mn && oIdx mx
def bLim (mn mx : Int) : List Int := if mx = -1 then [0 % 256] ++ putU mn else [1 % 256] ++ putU mn ++ putU mx
def bTab (mn mx : Int) : List Int := [112 % 256] ++ bLim mn mx
def oWhere (n : Int) : Bool := if n = 0 then true else oIdx n
def bWhere (n : Int) : List Int := if n = 0 then [0 % 256] else [2 % 256] ++ putU n
def bList {α : Type} (b : α → List Int) (ts : List α) : List Int := putU ts.length ++ ts.flatMap b
def oList {α : Type} (most : Int) (ok : α → Bool) (ts : List α) : Bool := decide ((ts.length : Int) ≤ most) && ts.all ok
def bFT (t : FT) : List Int := [96 % 256] ++ bList bTyp t.p ++ bList bTyp t.r
def oFT (t : FT) : Bool := oList 32 oTyp t.p && oList 32 oTyp t.r
def bImpK (x : Imp) : List Int := if x.kind = 0 then putU x.t else if x.kind = 1 then bTab x.mn x.mx else if x.kind = 2 then bLim x.mn x.mx else if x.kind = 3 then bTyp x.t ++ bYes x.mu else []
def oImpK (x : Imp) : Bool := if x.kind = 0 then oIdx x.t else if x.kind = 1 then oLim x.mn x.mx else if x.kind = 2 then oLim x.mn x.mx else if x.kind = 3 then oTyp x.t else true
def bImp (x : Imp) : List Int := bStr x.mod ++ bStr x.name ++ [x.kind % 256] ++ bImpK x
def oImp (x : Imp) : Bool := nameB x.mod && nameB x.name && oKind x.kind && oImpK x && ownB x
def bGlo (x : Glo) : List Int := bTyp x.t ++ bYes x.mu ++ bIns [x.init]
def oGlo (x : Glo) : Bool := oTyp x.t && oIns [x.init]
def bExp (x : Exp) : List Int := bStr x.name ++ [x.kind % 256] ++ putU x.i
def oExp (x : Exp) : Bool := nameB x.name && oKind x.kind && oIdx x.i
def bEle (x : Ele) : List Int := (if x.table = 0 then bWhere x.table ++ bIns [x.off] else bWhere x.table ++ bIns [x.off] ++ [0 % 256]) ++ bList putU x.f
def oEle (x : Ele) : Bool := oWhere x.table && oIns [x.off] && oList 1000 oIdx x.f
def bRow (q : Int × Int) : List Int := putU q.1 ++ bTyp q.2
def oRow (q : Int × Int) : Bool := oTyp q.2
def bCodIn (c : Cod) : List Int := bList bRow (rowsL c.locals) ++ bIns c.l
def oCod (c : Cod) : Bool := decide ((c.locals.length : Int) ≤ 256) && (oList 256 oRow (rowsL c.locals) && oIns c.l)
def bCod (c : Cod) : List Int := putU (bCodIn c).length ++ bCodIn c
def bDat (x : Dat) : List Int := bWhere x.mem ++ bIns [x.off] ++ bStr x.b
def oDat (x : Dat) : Bool := oWhere x.mem && oIns [x.off]
theorem stp_index (n : Int) : Stp (fun s => indexP s n) (putU n) (oIdx n) := ((stp_need _).then (stp_put _)).congr rfl (Bool.and_true _)
theorem stp_typ (c : Int) : Stp (fun s => typP s c) (bTyp c) (oTyp c) := ((stp_need _).then (stp_byte _)).congr rfl (Bool.and_true _)
theorem stp_instrs (ls : List Ins) : Stp (fun s => instrsP s ls) (bIns ls) (oIns ls) := ((stp_need _).then (stp_put _)).congr rfl (Bool.and_true _)
theorem stp_name (S : ByteArray) : Stp (fun s => nameP s S) (bStr S) (nameB S) := ((stp_need (nameB S)).then (stp_bytes (bl S))).of (fun s => by simp only [nameP]) (by unfold bStr; rw [List.nil_append]) (Bool.and_true _)
theorem stp_kind (k : Int) : Stp (fun s => kindP s k) [k % 256] (oKind k) := ((stp_need _).then (stp_byte _)).congr rfl (Bool.and_true _)
theorem stp_yes (b : Bool) : Stp (fun s => yesP s b) (bYes b) true := stp_byte _
theorem stp_limits (mn mx : Int) : Stp (fun s => limitsP s mn mx) (bLim mn mx) (oLim mn mx) := by
  unfold limitsP bLim oLim
  by_cases h : mx = -1
  · simp only [if_pos h]
    exact ((stp_byte 0).then (stp_index mn)).congr rfl (Bool.true_and _)
  · simp only [if_neg h]
    exact (((stp_byte 1).then (stp_index mn)).then (stp_index mx)).congr rfl (by rw [Bool.true_and])
theorem stp_table (mn mx : Int) : Stp (fun s => tableP s mn mx) (bTab mn mx) (oLim mn mx) := ((stp_byte 112).then (stp_limits mn mx)).congr rfl (Bool.true_and _)
theorem stp_where (n : Int) : Stp (fun s => whereP s n) (bWhere n) (oWhere n) := by
  unfold whereP bWhere oWhere
  by_cases h : n = 0
  · simp only [if_pos h]
    exact stp_byte 0
  · simp only [if_neg h]
    exact ((stp_byte 2).then (stp_index n)).congr rfl (Bool.true_and _)
theorem stp_ft (t : FT) : Stp (fun s => ftP s t) (bFT t) (oFT t) :=
  (((stp_byte 96).then (stp_list 32 stp_typ t.p)).then (stp_list 32 stp_typ t.r)).congr rfl (by rw [Bool.true_and]; rfl)
theorem stp_impK (x : Imp) : Stp (fun s => impK s x) (bImpK x) (oImpK x) := by
  unfold impK bImpK oImpK
  by_cases h0 : x.kind = 0
  · simp only [if_pos h0]
    exact stp_index _
  · simp only [if_neg h0]
    by_cases h1 : x.kind = 1
    · simp only [if_pos h1]
      exact stp_table _ _
    · simp only [if_neg h1]
      by_cases h2 : x.kind = 2
      · simp only [if_pos h2]
        exact stp_limits _ _
      · simp only [if_neg h2]
        by_cases h3 : x.kind = 3
        · simp only [if_pos h3]
          exact ((stp_typ _).then (stp_yes _)).congr rfl (Bool.and_true _)
        · simp only [if_neg h3]
          exact stp_id
theorem stp_imp (x : Imp) : Stp (fun s => impP s x) (bImp x) (oImp x) :=
  (((((stp_name x.mod).then (stp_name x.name)).then (stp_kind x.kind)).then (stp_impK x)).then (stp_need (ownB x))).congr (by rw [List.append_nil]; rfl) rfl
theorem stp_glo (x : Glo) : Stp (fun s => gloP s x) (bGlo x) (oGlo x) :=
  (((stp_typ x.t).then (stp_yes x.mu)).then (stp_instrs [x.init])).congr rfl (by rw [Bool.and_true]; rfl)
theorem stp_exp (x : Exp) : Stp (fun s => expP s x) (bExp x) (oExp x) := (((stp_name x.name).then (stp_kind x.kind)).then (stp_index x.i)).congr rfl rfl
theorem stp_ele (x : Ele) : Stp (fun s => eleP s x) (bEle x) (oEle x) := by
  unfold eleP bEle oEle
  by_cases h : x.table = 0
  · simp only [if_pos h]
    exact (((stp_where x.table).then (stp_instrs [x.off])).then (stp_list 1000 stp_index x.f)).congr rfl rfl
  · simp only [if_neg h]
    exact ((((stp_where x.table).then (stp_instrs [x.off])).then (stp_byte 0)).then (stp_list 1000 stp_index x.f)).congr rfl (by rw [Bool.and_true]; rfl)
theorem stp_row (q : Int × Int) : Stp (fun s => rowP2 s q) (bRow q) (oRow q) := ((stp_put (putU q.1)).then (stp_typ q.2)).congr rfl (Bool.true_and _)
theorem stp_cod (c : Cod) : Stp (fun s => codP s c) (bCod c) (oCod c) :=
  ((stp_need (decide ((c.locals.length : Int) ≤ 256))).then (stp_as (g := codIn c) (((stp_list 256 stp_row (rowsL c.locals)).then (stp_instrs c.l)).of (fun s => by simp only [codIn]) rfl rfl))).of (fun s => by simp only [codP]) (by unfold bCod bCodIn bList; rw [List.nil_append]) (by unfold oCod oList; rfl)
theorem stp_dat (x : Dat) : Stp (fun s => datP s x) (bDat x) (oDat x) := (((stp_where x.mem).then (stp_instrs [x.off])).then (stp_bytes (bl x.b))).congr rfl (Bool.and_true _)
def bSect {α : Type} (id : Int) (b : α → List Int) (ts : List α) : List Int := if ts.length = 0 then [] else [id % 256] ++ (putU (bList b ts).length ++ bList b ts)
def oSect {α : Type} (ok : α → Bool) (ts : List α) : Bool := if ts.length = 0 then true else oList 1000 ok ts
theorem stp_sect {α : Type} (id : Int) {f : Lay → α → Lay} {b : α → List Int} {ok : α → Bool} (h : ∀ t, Stp (fun s => f s t) (b t) (ok t)) (ts : List α) : Stp (fun s => sectP id f s ts) (bSect id b ts) (oSect ok ts) := by
  unfold sectP bSect oSect
  by_cases h0 : ts.length = 0
  · simp only [if_pos h0]
    exact stp_id
  · simp only [if_neg h0]
    exact ((stp_byte id).then (stp_as (stp_list 1000 h ts))).congr rfl (Bool.true_and _)
def bStart (n : Int) : List Int := if 0 < n then [8 % 256] ++ (putU (putU (n - 1)).length ++ putU (n - 1)) else []
def oStart (n : Int) : Bool := decide (0 ≤ n) && (if 0 < n then oIdx (n - 1) else true)
theorem stp_start (n : Int) : Stp (fun s => startP s n) (bStart n) (oStart n) := by
  unfold startP bStart oStart
  by_cases h : 0 < n
  · simp only [if_pos h]
    exact (((stp_need _).then (stp_byte 8)).then (stp_as (stp_index (n - 1)))).congr rfl (by rw [Bool.and_true])
  · simp only [if_neg h]
    exact (stp_need _).congr rfl (Bool.and_true _).symm
def bHead (m : Mdl) : List Int := bSect 1 bFT m.types ++ bSect 2 bImp m.imports ++ bSect 3 putU m.funcs ++ bSect 4 (fun x : Lim => bTab x.mn x.mx) m.tables ++ bSect 5 (fun x : Lim => bLim x.mn x.mx) m.mems
def bTail (m : Mdl) : List Int := bSect 6 bGlo m.globals ++ bSect 7 bExp m.exports ++ bStart m.start ++ bSect 9 bEle m.elems ++ bSect 10 bCod m.codes ++ bSect 11 bDat m.datas
def bMod (m : Mdl) : List Int := headB ++ (bHead m ++ bTail m)
def oMod (m : Mdl) : Bool := ((m.codes.length : Int) == (m.funcs.length : Int)) && (oSect oFT m.types && oSect oImp m.imports && oSect oIdx m.funcs && oSect (fun x : Lim => oLim x.mn x.mx) m.tables && oSect (fun x : Lim => oLim x.mn x.mx) m.mems && (oSect oGlo m.globals && oSect oExp m.exports && oStart m.start && oSect oEle m.elems && oSect oCod m.codes && oSect oDat m.datas))
theorem stp_mod (m : Mdl) : Stp (modP m) (bMod m) (oMod m) := by
  have h1 := ((((stp_sect 1 stp_ft m.types).then (stp_sect 2 stp_imp m.imports)).then (stp_sect 3 stp_index m.funcs)).then (stp_sect 4 (f := tabP) (b := fun x : Lim => bTab x.mn x.mx) (ok := fun x : Lim => oLim x.mn x.mx) (fun x => stp_table x.mn x.mx) m.tables)).then (stp_sect 5 (f := limP) (b := fun x : Lim => bLim x.mn x.mx) (ok := fun x : Lim => oLim x.mn x.mx) (fun x => stp_limits x.mn x.mx) m.mems)
  have h2 := (((((stp_sect 6 stp_glo m.globals).then (stp_sect 7 stp_exp m.exports)).then (stp_start m.start)).then (stp_sect 9 stp_ele m.elems)).then (stp_sect 10 stp_cod m.codes)).then (stp_sect 11 stp_dat m.datas)
  have h3 := ((stp_put headB).then (stp_need ((m.codes.length : Int) == (m.funcs.length : Int)))).then (h1.then h2)
  exact h3.congr (by rw [List.append_nil]; rfl) (by rw [Bool.true_and]; rfl)
/-- What laying a module comes to, plain. -/
theorem layV_eq (m : Mdl) : layV m = if oMod m = true then (if 65536 < (bMod m).length then ([], 14) else (bMod m, 0)) else ([], 1) := by
  have h := stp_mod m
  have hw : LW ⟨[], false, false⟩ := fun _ _ => Nat.zero_le _
  have h1 := h.no ⟨[], false, false⟩
  unfold layV
  by_cases ho : oMod m = true
  · rw [ho] at h1
    replace h1 : (modP m ⟨[], false, false⟩).no = false := h1
    have h2 := h.full _ hw h1
    replace h2 : (modP m ⟨[], false, false⟩).full = (false || decide (65536 < 0 + (bMod m).length)) := h2
    rw [Bool.false_or, Nat.zero_add] at h2
    rw [if_neg (by rw [h1]; decide), if_pos ho]
    by_cases hl : 65536 < (bMod m).length
    · rw [decide_eq_true hl] at h2
      rw [if_pos h2, if_pos hl]
    · rw [decide_eq_false hl] at h2
      rw [if_neg (by rw [h2]; decide), if_neg hl, h.xs _ hw h1 h2]
      rfl
  · have ho' : oMod m = false := by cases q : oMod m <;> simp_all
    rw [ho'] at h1
    replace h1 : (modP m ⟨[], false, false⟩).no = true := h1
    rw [if_pos h1, if_neg ho]
end Go.Proofs.YtekonefnniaheaaGreat
