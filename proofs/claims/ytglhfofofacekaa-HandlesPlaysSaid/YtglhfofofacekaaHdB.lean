/- handles: how often each handle is lent for a call: a map of places in a block. -/
import Derived.Test.YtglhfofofacekaaHdA
import Derived.DeepKeys4
import Derived.WideKeyEntry
set_option linter.unusedVariables false
set_option linter.unusedSimpArgs false
namespace Go.Proofs.Ytglhfofofacekaa
open Go.RowKit
open Go.ChangeMaps Go.MapKept Go.WideShapes Go.WideElems

abbrev plc (p : Int × Int) : Value := .agg #[.int .i64 p.1, .int .i64 p.2]
abbrev plcWf (p : Int × Int) : Prop := wf64 p.1 ∧ wf64 p.2
def plcL (p : Int × Int) : Lit := .string (keyBytes [.int .i64 p.1, .int .i64 p.2])
theorem laidOut : laidOutB Try.prog = true := by kernel_rfl
theorem c_place : Try.prog.cellsOf 86 = 2 := by kernel_rfl
theorem c_int : Try.prog.cellsOf 3 = 1 := by kernel_rfl
theorem row_place : (86 : TypeId) < Try.prog.types.size := of_decide_eq_true (by kernel_rfl)
theorem keyT_place : Try.prog.keyType 86 = true := by kernel_rfl
theorem keyP : Maps.Keyed Try.prog 86 := Maps.Keyed.of_law (deep_law_laid laidOut (m := 2) (by omega) row_place (by kernel_rfl) (by rw [Try.underlying86]))
theorem lits_place (d : Nat) (p : Int × Int) (h : plcWf p) : Try.prog.keyLits (d + 2) 86 [.int .i64 p.1, .int .i64 p.2] = some [.int .i64 p.1, .int .i64 p.2] := by
  have l3 : ∀ x : Int, wf64 x → Try.prog.keyLits (d + 1) 3 [.int .i64 x] = some [.int .i64 x] := by
    intro x hx
    unfold Program.keyLits
    rw [Try.underlying3]
    simp [hx]
  unfold Program.keyLits
  rw [Try.underlying86]
  simp [c_place, c_int, l3 _ h.1, l3 _ h.2]
theorem keyOf_place (p : Int × Int) (h : plcWf p) : keyOf Try.prog 86 (plc p) = some (plcL p) := by
  have hf : (plc p).formed Try.prog 86 = true := by simp [Value.formed, Try.underlying86, c_place]
  have hs : ∃ d, Try.prog.types.size + 1 = d + 2 := ⟨Try.prog.types.size - 1, by have h : 1 ≤ Try.prog.types.size := Nat.succ_le_of_lt (Nat.lt_of_le_of_lt (Nat.zero_le _) row_place); omega⟩
  obtain ⟨d, hd⟩ := hs
  unfold keyOf
  rw [Try.underlying86]
  simp only [keyT_place, hf, Bool.and_self, if_true, hd]
  rw [show (plc p).cells.toList = [.int .i64 p.1, .int .i64 p.2] from rfl, lits_place d p h]
  rfl
theorem plcL_inj {p q : Int × Int} (hp : plcWf p) (hq : plcWf q) (h : plcL p = plcL q) : p = q := by
  have h1 := keyOf_place p hp
  rw [h] at h1
  have := keyP.inj h1 (keyOf_place q hq)
  simp at this
  exact Prod.ext this.1 this.2

theorem under_mapP : Try.prog.underlying 81 = some (.map 86 3) := by kernel_rfl
theorem zeroI (w : World) : (zeroValue 3).run Try.prog w = .ok (.int .i64 0) w := by kernel_rfl

/-- A block that counts these places. -/
structure LMap (w : World) (b : Nat) (L : List (Int × Int)) : Prop where
  wf : ∀ p ∈ L, plcWf p
  own : ∃ D, w.ownsMap Try.prog 86 RV b L.length D ∧ (∀ p, plcWf p → D.atKey (plcL p) (.held (.int .i64 0)) = .held (.int .i64 (L.count p))) ∧ (∀ kl, Maps.has D kl = true → ∃ p ∈ L, kl = plcL p)
theorem LMap.lt {w : World} {b : Nat} {L : List (Int × Int)} (h : LMap w b L) : b < w.heap.size := by
  obtain ⟨D, ho, _⟩ := h.own
  exact World.ownsMap.lt ho
theorem LMap.next {w w' : World} {b : Nat} {L : List (Int × Int)} (h : LMap w b L) (e : w'.heap[b]? = w.heap[b]?) : LMap w' b L := by
  obtain ⟨D, ⟨es, clock, hb, r⟩, r2⟩ := h.own
  exact ⟨h.wf, D, ⟨es, clock, e.trans hb, r⟩, r2⟩
theorem LMap.kept {F : Nat → Prop} {w w' : World} {b : Nat} {L : List (Int × Int)} (h : LMap w b L) (k : Kept F w w') (hf : ¬ F b) : LMap w' b L := h.next (k.block b h.lt hf)
theorem LMap.made (w : World) : LMap (w.alloc (.map #[] 0)) w.heap.size [] :=
  ⟨by simp, .map [], World.ownsMap_made w _ _ _, by intro p hp; rfl, by intro kl h; simp [Maps.has] at h⟩
theorem LMap.look {w : World} {b : Nat} {L : List (Int × Int)} (h : LMap w b L) {p : Int × Int} (hp : plcWf p) :
    (Instr.lookup 81 (.map (some b)) (plc p) false).run Try.prog w = .ok (.int .i64 (L.count p)) w := by
  obtain ⟨D, ho, hat, _⟩ := h.own
  obtain ⟨v, ps, hrun, hv⟩ := World.ownsMap.lookup ho keyP under_mapP (zeroI w) (zd := .held (.int .i64 0)) (zp := []) rfl (keyOf_place p hp)
  rw [hat p hp] at hv
  cases hv
  exact hrun

theorem store_run {w : World} {t : TypeId} {b st j : Nat} {es : Array MapEntry} {clock : Nat} (hb : w.heap[b]? = some (.map es clock)) (hidx : es.findIdx? (fun e => ((e.born : Nat) : Int) == ((st : Nat) : Int)) = some j) (val : Value) :
    (Instr.entryStore t (.map (some b)) (goInt st) val).run Try.prog w = .ok () (setBlock w b (.map (es.modify j fun e => { e with val := val }) clock)) := by
  simp [Instr.entryStore, MapKept.run_getObj_map hb, asInt, asIntOf, goInt, hidx, MapKept.run_setObj_map _ hb, Result.andThen, setBlock]

/-- The operations of 'm[k]++', in whatever order: the entry may be made ahead of the look-up. -/
theorem entry_runs {w : World} {t k e : TypeId} {b : Nat} {D : DataW Value} {n : Nat} (K : Maps.Keyed Try.prog k) (ht : Try.prog.underlying t = some (.map k e)) {z : Value} (hz : ∀ u : World, (zeroValue e).run Try.prog u = .ok z u)
    (h : w.ownsMap Try.prog k RV b n D) {key : Value} {kl : Lit} (hkey : keyOf Try.prog k key = some kl) :
    ∃ v0 st w1, (Instr.mapEntry t (.map (some b)) key).run Try.prog w = .ok (.tuple #[v0, goInt st]) w1 ∧ w.mapTurned w1 b ∧
      (Instr.lookup t (.map (some b)) key false).run Try.prog w = .ok v0 w ∧ (Instr.lookup t (.map (some b)) key false).run Try.prog w1 = .ok v0 w1 ∧
      ∀ val, ∃ w2, (Instr.entryStore t (.map (some b)) (goInt st) val).run Try.prog w1 = .ok () w2 ∧ (Instr.mapUpdate t (.map (some b)) key val).run Try.prog w = .ok () w2 := by
  obtain ⟨es, clock, hb, F, hs, rfl⟩ := h
  obtain ⟨s1, s2, _⟩ := F.stamped
  rcases K.find w hkey es.toList F.keys with ⟨h1, h2⟩ | ⟨j, e0, h1, h2, h3⟩
  · have hb1 : (setBlock w b (.map (es.push ⟨key, z, clock⟩) (clock + 1))).heap[b]? = some (.map (es.push ⟨key, z, clock⟩) (clock + 1)) := heap_setBlock_same hb _
    have hidx : (es.push ⟨key, z, clock⟩).findIdx? (fun e => ((e.born : Nat) : Int) == ((clock : Nat) : Int)) = some es.size := by
      rw [findIdx_arr]
      exact findIdx_born (l := (es.push ⟨key, z, clock⟩).toList) (j := es.size) (e0 := ⟨key, z, clock⟩) (by
        rw [Array.toList_push, List.map_append]
        refine List.nodup_append.2 ⟨s2, by simp, fun a ha c hc e1 => ?_⟩
        obtain ⟨x, hx, rfl⟩ := List.mem_map.1 ha
        have h5 := s1 x hx
        simp at hc
        omega) (by simp)
    have hfk : (Instr.findKey k key (es.push ⟨key, z, clock⟩).toList).run Try.prog (setBlock w b (.map (es.push ⟨key, z, clock⟩) (clock + 1))) = .ok (some (es.size, z)) (setBlock w b (.map (es.push ⟨key, z, clock⟩) (clock + 1))) := by
      rcases K.find (setBlock w b (.map (es.push ⟨key, z, clock⟩) (clock + 1))) hkey (es.push ⟨key, z, clock⟩).toList (by
        intro x hx
        rw [Array.toList_push] at hx
        rcases List.mem_append.1 hx with hx | hx
        · exact F.keys x hx
        · simp at hx; subst hx; exact ⟨kl, hkey⟩) with ⟨_, f2⟩ | ⟨j, e0, f1, f2, f3⟩
      · exact absurd rfl (f2 ⟨key, z, clock⟩ (by simp))
      · have hj : j = es.size ∧ e0 = ⟨key, z, clock⟩ := by
          rw [Array.toList_push] at f2
          by_cases hlt : j < es.toList.length
          · rw [List.getElem?_append_left hlt] at f2
            exact absurd f3 (h2 e0 (List.mem_of_getElem? f2))
          · rw [List.getElem?_append_right (by omega)] at f2
            have : j - es.toList.length = 0 := by
              by_cases h0 : j - es.toList.length = 0
              · exact h0
              · rw [List.getElem?_eq_none (Nat.succ_le_of_lt (Nat.pos_of_ne_zero h0))] at f2
                cases f2
            rw [this] at f2
            simp at f2
            have h6 : es.toList.length = es.size := by simp
            exact ⟨by omega, f2.symm⟩
        rw [hj.1, hj.2] at f1
        exact f1
    refine ⟨z, clock, setBlock w b (.map (es.push ⟨key, z, clock⟩) (clock + 1)), ?_, ⟨es, clock, _, _, hb, rfl⟩, ?_, ?_, fun val => ⟨setBlock w b (.map (es.push ⟨key, val, clock⟩) (clock + 1)), ?_, ?_⟩⟩
    · simp [Instr.mapEntry, run_underlying ht, MapKept.run_getObj_map hb, K.check w false hkey, h1, hz, MapKept.run_setObj_map _ hb, Result.andThen, setBlock]
    · simp [Instr.lookup, run_underlying ht, MapKept.run_getObj_map hb, K.check w _ hkey, h1, hz, Result.andThen]
    · simp only [Array.toList_push] at hfk
      simp [Instr.lookup, run_underlying ht, MapKept.run_getObj_map hb1, K.check (setBlock w b (.map (es.push ⟨key, z, clock⟩) (clock + 1))) _ hkey, hfk, Result.andThen]
    · have hmod : (es.push ⟨key, z, clock⟩).modify es.size (fun e => { e with val := val }) = es.push ⟨key, val, clock⟩ := by
        apply Array.ext'
        rw [Array.toList_modify, Array.toList_push, Array.toList_push, ← Array.length_toList, modify_last]
      rw [store_run hb1 hidx val, hmod]
      simp [setBlock]
    · simp [Instr.mapUpdate, run_underlying ht, MapKept.run_getObj_map hb, K.check w false hkey, h1, MapKept.run_setObj_map _ hb, Result.andThen, setBlock]
  · have hj : es[j]? = some e0 := by simpa using h2
    have hsame : es.modify j (fun e => { e with key := key }) = es := by
      apply Array.ext'
      rw [Array.toList_modify, modify_eq_set _ _ _ _ h2, show ({ e0 with key := key } : MapEntry) = e0 by rw [← h3]]
      exact set_self _ _ _ h2
    have hw : setBlock w b (.map es clock) = w := by
      unfold setBlock
      have e : w.heap.setIfInBounds b (.map es clock) = w.heap := by
        apply Array.ext_getElem?
        intro i
        by_cases hi : i = b
        · subst hi
          exact (heap_setBlock_same hb _).trans hb.symm
        · exact heap_setBlock_other hb _ hi
      rw [e]
    have hidx : es.findIdx? (fun e => ((e.born : Nat) : Int) == ((e0.born : Nat) : Int)) = some j := by
      rw [findIdx_arr]
      exact findIdx_born s2 h2
    refine ⟨e0.val, e0.born, w, ?_, ⟨es, clock, es, clock, hb, hw.symm⟩, ?_, ?_, fun val => ⟨setBlock w b (.map (es.modify j (fun e' => { e' with key := key, val := val })) clock), ?_, ?_⟩⟩
    · conv => rhs; rw [← hw]
      simp [Instr.mapEntry, run_underlying ht, MapKept.run_getObj_map hb, K.check w false hkey, h1, hj, h3, K.stays w hkey, hsame, MapKept.run_setObj_map _ hb, Result.andThen, setBlock]
    · simp [Instr.lookup, run_underlying ht, MapKept.run_getObj_map hb, K.check w _ hkey, h1, Result.andThen]
    · simp [Instr.lookup, run_underlying ht, MapKept.run_getObj_map hb, K.check w _ hkey, h1, Result.andThen]
    · have hmod : es.modify j (fun e => { e with val := val }) = es.modify j (fun e' => { e' with key := key, val := val }) := by
        apply Array.ext'
        rw [Array.toList_modify, Array.toList_modify, modify_eq_set _ _ _ _ h2, modify_eq_set _ _ _ _ h2, ← h3]
      rw [store_run hb hidx val, hmod]
    · simp [Instr.mapUpdate, run_underlying ht, MapKept.run_getObj_map hb, K.check w false hkey, h1, hj, h3, K.stays w hkey, MapKept.run_setObj_map _ hb, Result.andThen, setBlock]

/-- 'lent[p]++'. -/
theorem LMap.bump {w : World} {b : Nat} {L : List (Int × Int)} (h : LMap w b L) (hl : L.length < maxLen) {p : Int × Int} (hp : plcWf p) :
    ∃ st w1 w2, (Instr.lookup 81 (.map (some b)) (plc p) false).run Try.prog w = .ok (.int .i64 (L.count p)) w ∧
      (Instr.mapEntry 81 (.map (some b)) (plc p)).run Try.prog w = .ok (.tuple #[.int .i64 (L.count p), goInt st]) w1 ∧
      (Instr.lookup 81 (.map (some b)) (plc p) false).run Try.prog w1 = .ok (.int .i64 (L.count p)) w1 ∧
      (Instr.entryStore 81 (.map (some b)) (goInt st) (.int .i64 (L.count p + 1))).run Try.prog w1 = .ok () w2 ∧
      w.mapTurned w1 b ∧ w.mapTurned w2 b ∧ LMap w2 b (p :: L) := by
  have hlk := h.look hp
  obtain ⟨D, ho, hat, hhas⟩ := h.own
  obtain ⟨v0, st, w1, e1, t1, e2, e3, e4⟩ := entry_runs keyP under_mapP zeroI ho (keyOf_place p hp)
  obtain ⟨w2, e5, e6⟩ := e4 (.int .i64 (L.count p + 1))
  have hv : v0 = .int .i64 (L.count p) := (Result.ok.inj (e2.symm.trans hlk)).1
  subst hv
  obtain ⟨w2', f1, f2, f3⟩ := World.ownsMap.store ho keyP under_mapP hl (keyOf_place p hp) (val := .int .i64 (L.count p + 1)) (d := .held (.int .i64 (L.count p + 1))) (ps := []) rfl
  obtain rfl := (Result.ok.inj (e6.symm.trans f1)).2
  refine ⟨st, w1, w2, hlk, e1, e3, e5, t1, f3, ?_, _, f2, ?_, ?_⟩
  · intro q hq
    rcases List.mem_cons.1 hq with rfl | hq
    · exact hp
    · exact h.wf q hq
  · intro q hq
    by_cases he : q = p
    · subst he
      rw [Maps.atKey_put_same (World.ownsMap.isMap ho) (keyP.key (keyOf_place q hp))]
      simp
    · rw [Maps.atKey_put_other (fun e => he (plcL_inj hq hp e)), hat q hq, List.count_cons_of_ne (fun e => he e.symm)]
  · intro kl hk
    by_cases he : kl = plcL p
    · exact ⟨p, by simp, he⟩
    · rw [Maps.has_put_other he] at hk
      obtain ⟨q, hq, e⟩ := hhas kl hk
      exact ⟨q, List.mem_cons_of_mem _ hq, e⟩

end Go.Proofs.Ytglhfofofacekaa
