/- value: a Builder in a block of its own. -/
import Derived.Test.YtikgkjkgdlnekaaGreatDoorCtIn
import Derived.Shelf.Strings.Builder1
set_option linter.unusedVariables false
set_option linter.unusedSimpArgs false
namespace Go.Proofs.YtikgkjkgdlnekaaGreatDoor
open Go.RowKit
open Lex Ct

theorem info_parts3 {P : Program} {T : TypeId} {z : Value} {m by' : Nat} (h : (P.info? T).map (fun i => (i.zero, i.size, i.bytes)) = some (some z, m, by')) : ∃ i, P.info? T = some i ∧ i.zero = some z ∧ i.size = m ∧ i.bytes = by' := by
  rw [Option.map_eq_some_iff] at h
  obtain ⟨i, h1, h2⟩ := h
  simp only [Prod.mk.injEq] at h2
  exact ⟨i, h1, h2.1, h2.2.1, h2.2.2⟩
theorem newsW (w : World) (T : TypeId) (cs : List Value) : ∀ j u, cs[j]? = some u → (w.alloc (.cells cs.toArray T)).cell? ((⟨w.heap.size, 0, none⟩ : Addr).add j) = some u := by
  intro j u hj
  rw [Addr.add_lit, Nat.zero_add, (BlkAt.new w cs.toArray T).cell j, List.getElem?_toArray]
  exact hj
theorem grow_after {w4 w5 : World} {o : Obj} {v : Value} (hg : (w4.alloc o).grownBy w5 v.ownBlock) : Kept (fun k => some k = v.ownBlock) w4 w5 :=
  ((Kept.refl _ w4).new o).trans (Kept.grow hg)
/-- An append of a text to a buffer: it lies where it lay, or in a new block. -/
theorem run_append_at (w : World) (base : Nat) (i : TypeInfo) (hi : Tryz.prog.info? 5 = some i) (hz : i.zero = some (.int .u8 0)) (hsize : i.size = 1) (hby : i.bytes = 1) (ty : TypeId)
    (v : Value) (n : Nat) (xs : List Value) (hown : w.ownsRow base 5 1 v n xs) (s : ByteArray) (h63 : n + s.size ≤ maxLen) (hbytes : n + s.size ≤ 140737488355328) (hbase : base ≤ w.heap.size) :
    ∃ v' w', (Builtin.append_ #[91, 9] ty #[v, .string s]).run Tryz.prog w = .ok v' w' ∧ w'.ownsRow base 5 1 v' (n + s.size) (xs ++ Lib.strCells s) ∧ w.grownBy w' v.ownBlock ∧ (∀ k, v'.ownBlock = some k → v.ownBlock = some k ∨ w.heap.size ≤ k) := by
  obtain ⟨v', w', hr, h2, h3, _⟩ := Lib.run_append_own_string (P := Tryz.prog) w base 91 9 ty 5 i Tryz.underlying91 Tryz.underlying9 hi hz hsize hby v n xs hown s h63 hbytes hbase
  refine ⟨v', w', hr, h2, h3, ?_⟩
  rcases hown.2 with ⟨rfl, rfl⟩ | ⟨g, cap, cur, rfl, hbg, hg, hnc, hcm, hcs, htake⟩
  · obtain ⟨v2, w2, hr2, k2, _⟩ := Lib.run_append_own_string (P := Tryz.prog) w w.heap.size 91 9 ty 5 i Tryz.underlying91 Tryz.underlying9 hi hz hsize hby (.slice none 0 0) 0 [] (World.ownsRow_nil _ _ _ _) s h63 hbytes (Nat.le_refl _)
    have hx : xs = [] := List.eq_nil_of_length_eq_zero (by simpa using hown.1)
    rw [hr] at hr2
    cases hr2
    exact fun k hk => .inr (World.ownsRow.lt k2 k hk).1
  · by_cases hroom : n + s.size ≤ cap
    · have hcs' : cur.size = cap := by simpa using hcs
      have hr2 := Lib.run_append_room_string (P := Tryz.prog) w 91 9 ty 5 i Tryz.underlying91 Tryz.underlying9 hi hsize g n cap cur hg s hroom (by omega)
      rw [hr] at hr2
      cases hr2
      exact fun k hk => .inl hk
    · have hxl : xs.length = n := by simpa using hown.1
      have holds : ∀ j u, xs[j]? = some u → w.cell? ((⟨g, 0, none⟩ : Addr).add j) = some u := hown.cells (g := g) rfl
      have hr2 := Lib.run_append_grow_string (P := Tryz.prog) w 91 9 ty 5 i (.int .u8 0) Tryz.underlying91 Tryz.underlying9 hi hz ⟨g, 0, none⟩ n cap xs (by rw [hsize]; simpa using hxl) holds s (by omega) (by omega) (by rw [hby]; exact growslice_fits (by omega) (by omega))
      rw [hr] at hr2
      cases hr2
      intro k hk
      right
      have : k = w.heap.size := (Option.some.inj hk).symm
      omega
theorem wpList_append_at {w : World} {ops : Array Oper} {rest : List Oper} {o : Oper} {a : Act} {Q : Exit → Act → World → Prop} (hgd : o.guard = none) (sl x : Operand)
    (ho : o.op = .call { callee := .builtin .append, args := #[sl, x], argTypes := #[91, 9] })
    (base : Nat) (i : TypeInfo) (hi : Tryz.prog.info? 5 = some i) (hz : i.zero = some (.int .u8 0)) (hsize : i.size = 1) (hby : i.bytes = 1)
    (v : Value) (n : Nat) (xs : List Value) (hs : a.eval sl = v) (hown : w.ownsRow base 5 1 v n xs) (s : ByteArray) (hx : a.eval x = .string s) (h63 : n + s.size ≤ maxLen) (hbytes : n + s.size ≤ 140737488355328) (hbase : base ≤ w.heap.size)
    (h : ∀ v' w', w'.ownsRow base 5 1 v' (n + s.size) (xs ++ Lib.strCells s) → w.grownBy w' v.ownBlock → (∀ k, v'.ownBlock = some k → v.ownBlock = some k ∨ w.heap.size ≤ k) → wpList Tryz.prog ops Q rest (a.put o.dst v') w') : wpList Tryz.prog ops Q (o :: rest) a w := by
  refine wpList_plain hgd fun K hK => ?_
  obtain ⟨v', w', hr, h2, h3, h4⟩ := run_append_at w base i hi hz hsize hby o.type v n xs hown s h63 hbytes hbase
  unfold Oper.wp execOp
  simp only [ho, resolve, invoke, builtin, Sem.run_bind, Sem.run_pure, Result.andThen_ok, List.map_toArray, List.map_cons, List.map_nil, hs, hx, hr]
  exact hK _ _ (h v' w' h2 h3 h4)
theorem info_u8W : (Tryz.prog.info? 5).map (fun i => (i.zero, i.size, i.bytes)) = some (some (.int .u8 0), 1, 1) := by kernel_rfl
theorem own_ne {C b n : Nat} {T e : TypeId} {cs : Array Value} {v : Value} {xs : List Value} {w : World} (hb : BlkAt w b cs T) (ho : w.ownsRow C e 1 v n xs) (hne : e ≠ T) : v.ownBlock ≠ some b := by
  rcases ho.2 with ⟨rfl, _⟩ | ⟨g, cap, cur, rfl, _, hg, _⟩
  · intro q; cases q
  · intro q
    have q' : g = b := Option.some.inj q
    subst q'
    have hb' : w.heap[g]? = some (.cells cs T (0, 0)) := hb
    rw [hb'] at hg
    simp at hg
    exact hne hg.2.symm
/-- A writer lies in block b: its text l, how far in; M: its blocks. -/
def WrAt (C b : Nat) (l : List UInt8) (n : Int) (w : World) (M : Nat → Prop) : Prop :=
  C ≤ b ∧ ∃ p v, BlkAt w b #[p, v] 93 ∧ (p = .pointer none ∨ p = .pointer (some ⟨b, 0, none⟩)) ∧ w.ownsRow C 5 1 v l.length (Lib.byteCells l) ∧ v.ownBlock ≠ some b ∧ ∀ k, M k ↔ (k = b ∨ v.ownBlock = some k)
def Wrote (C b : Nat) (l : List UInt8) (n : Int) (w : World) (M : Nat → Prop) (w' : World) : Prop :=
  ∃ M', WrAt C b l n w' M' ∧ Kept M w w' ∧ ∀ k, M' k → M k ∨ w.heap.size ≤ k
theorem WrAt.low {C b : Nat} {l : List UInt8} {n : Int} {w : World} {M : Nat → Prop} (h : WrAt C b l n w M) : ∀ k, M k → C ≤ k ∧ k < w.heap.size := by
  obtain ⟨hC, p, v, hb, _, ho, _, hM⟩ := h
  intro k hk
  rcases (hM k).1 hk with rfl | e
  · exact ⟨hC, hb.lt⟩
  · exact ho.lt k e
theorem WrAt.stay {C b : Nat} {l : List UInt8} {n : Int} {w w' : World} {M G : Nat → Prop} (h : WrAt C b l n w M) (k : Kept G w w') (hg : ∀ i, M i → ¬ G i) : WrAt C b l n w' M := by
  obtain ⟨hC, p, v, hb, hp, ho, hn, hM⟩ := h
  exact ⟨hC, p, v, hb.kept k (hg b ((hM b).2 (.inl rfl))), hp, ownsRow_kept ho k (fun i hi e => hg i ((hM i).2 (.inr hi)) e), hn, hM⟩
theorem Wrote.refl {C b : Nat} {l : List UInt8} {n : Int} {w : World} {M : Nat → Prop} (h : WrAt C b l n w M) : Wrote C b l n w M w := ⟨M, h, Kept.refl _ _, fun k hk => .inl hk⟩
theorem Wrote.then {C b : Nat} {l l' : List UInt8} {n n' : Int} {a c d : World} {M : Nat → Prop} (h : Wrote C b l n a M c) (k : ∀ M', WrAt C b l n c M' → Wrote C b l' n' c M' d) : Wrote C b l' n' a M d := by
  obtain ⟨M1, h1, k1, m1⟩ := h
  obtain ⟨M2, h2, k2, m2⟩ := k M1 h1
  refine ⟨M2, h2, k1.then k2 fun i hi e => ?_, fun i hi => ?_⟩
  · rcases m1 i e with q | q
    · exact q
    · omega
  · rcases m2 i hi with q | q
    · exact m1 i q
    · exact .inr (Nat.le_trans k1.size q)
theorem Wrote.new {C b : Nat} {l : List UInt8} {n : Int} {a c : World} {M : Nat → Prop} (h : Wrote C b l n a M c) (o : Obj) : Wrote C b l n a M (c.alloc o) := by
  obtain ⟨M1, h1, k1, m1⟩ := h
  exact ⟨M1, h1.stay ((Kept.refl (fun _ => False) c).new o) (fun _ _ => id), k1.new o, m1⟩
theorem Wrote.kept {C b : Nat} {l : List UInt8} {n : Int} {a c d : World} {M : Nat → Prop} (h : Wrote C b l n a M c) (k : Kept (fun _ => False) c d) : Wrote C b l n a M d := by
  obtain ⟨M1, h1, k1, m1⟩ := h
  exact ⟨M1, h1.stay k (fun _ _ => id), k1.trans (k.mono fun _ => False.elim), m1⟩
set_option maxRecDepth 100000 in
set_option maxHeartbeats 2000000 in
theorem wrCheck {C b : Nat} {l : List UInt8} {n : Int} {w : World} {M : Nat → Prop} (h : WrAt C b l n w M) :
    Calls Tryz.prog 93 #[.pointer (some ⟨b, 0, none⟩)] w fun y w' => y = .returned (.tuple #[]) ∧ WrAt C b l n w' M ∧ Kept (· = b) w w' := by
  obtain ⟨hC, p, v, hb, hp, ho, hn, hM⟩ := h
  have c0 := hb.cell 0
  simp at c0
  rcases hp with rfl | rfl
  · have f0 := hb.frozen 0
    have hsh : w.shape? b = some (93, 2) := by
      have hb' : w.heap[b]? = some (.cells #[.pointer none, v] 93 (0, 0)) := hb
      simp [World.shape?, hb']
    obtain ⟨j, hj, hjs⟩ := Option.map_eq_some_iff.1 (show (Tryz.prog.info? 93).map (fun i => i.size) = some 2 by kernel_rfl)
    have hfin : WrAt C b l n (w.setCell ⟨b, 0, none⟩ (.pointer (some ⟨b, 0, none⟩))) M := by
      refine ⟨hC, _, v, ?_, .inr rfl, ?_, hn, hM⟩
      · have := hb.put 0 (.pointer (some ⟨b, 0, none⟩))
        simpa using this
      · exact ownsRow_kept ho ((Kept.refl (· = b) w).set (p := ⟨b, 0, none⟩) rfl _) (fun k hk e => hn (by rw [hk, e]))
    have HF := Lib.hid hfin
    have HK := Lib.hid ((Kept.refl (· = b) w).set (p := ⟨b, 0, none⟩) rfl (.pointer (some ⟨b, 0, none⟩)))
    clear hfin hb ho hn hM
    go_enter Tryz.func93, Tryz.ntmps93
    go_wp2
    rw [Lib.run_to_unsafe w ⟨b, 0, none⟩ Tryz.underlying90 Tryz.underlying133 hj (by rw [hjs]; decide) hsh (show 0 < 2 by decide)]
    simp only [Result.andThen]
    rw [Oper.upon_value]
    go_wp2
    rw [run_callFunc_extern Tryz.func110 (by kernel_rfl) (by kernel_rfl) (by kernel_rfl) (e := Extern.AbiNoEscape.same) (by kernel_rfl)]
    rw [Lib.run_noEscape]
    simp only [Result.andThen]
    rw [Oper.upon_value]
    go_wp2
    rw [Lib.run_from_unsafe w ⟨b, 0, none⟩ Tryz.underlying133 Tryz.underlying90 hj hsh (by kernel_rfl)]
    simp only [Result.andThen]
    rw [Oper.upon_value]
    go_wp2
    refine bodyPost_void rfl rfl ⟨rfl, ?_⟩
    exact ⟨HF.out, HK.out⟩
  · have HF := Lib.hid (show WrAt C b l n w M from ⟨hC, _, v, hb, .inr rfl, ho, hn, hM⟩)
    clear hb ho hn hM
    obtain ⟨j, hj, hjs⟩ := Option.map_eq_some_iff.1 (show (Tryz.prog.info? 93).map (fun i => i.size) = some 2 by kernel_rfl)
    go_enter Tryz.func93, Tryz.ntmps93
    go_wp2
    rw [Lib.run_neq_ptr_same w _ Tryz.underlying90 hj]
    go_wp2
    refine bodyPost_void rfl rfl ⟨rfl, HF.out, Kept.refl _ _⟩
set_option maxRecDepth 100000 in
set_option maxHeartbeats 2000000 in
theorem wrString {C b : Nat} {l : List UInt8} {n : Int} {w : World} {M : Nat → Prop} (h : WrAt C b l n w M) (s : ByteArray) (hlen : l.length + s.size ≤ 140737488355328) (hCw : C ≤ w.heap.size) :
    Calls Tryz.prog 75 #[.pointer (some ⟨b, 0, none⟩), .string s] w fun y w' => y = .returned (.tuple #[.int .i64 s.size, .nilIface]) ∧ Wrote C b (l ++ s.data.toList) n w M w' := by
  have HC := Lib.hid (wrCheck h)
  have hCb := h.1
  clear h
  obtain ⟨ti, hi, hz0, hz1, hz2⟩ := info_parts3 info_u8W
  go_enter Tryz.func75, Tryz.ntmps75
  go_wp2_with (first
    | (go_at_call 93; refine HC.out.mono ?_; rintro y w1 ⟨rfl, h1, k1⟩; obtain ⟨_, p, v, hb, hp, ho, hn, hM⟩ := h1; have c0 := hb.cell 0; have c1 := hb.cell 1; simp at c0 c1)
    | (at_builtin; refine wpList_append_at rfl _ _ rfl C ti hi hz0 hz1 hz2 v l.length (Lib.byteCells l) rfl ho s rfl (by unfold maxLen; omega) hlen (by have := k1.size; omega) ?_; intro v' w2 hown' hgrow hat; have kg := Kept.grow hgrow; have hb2 := hb.kept kg (fun e => hn e.symm); have d0 := hb2.cell 0; have d1 := hb2.cell 1; have f1 := hb2.frozen 1; simp at d0 d1; obtain ⟨ao, n', cap, rfl⟩ : ∃ ao n' cap, v' = .slice ao n' cap := (by rcases hown'.2 with ⟨hv, _⟩ | ⟨g, cap, cur, hv, _⟩; exact ⟨_, _, _, hv⟩; exact ⟨_, _, _, hv⟩)))
  go_ret2
  have hne2 := own_ne hb2 hown' (by decide)
  have hp2 := hb2.put 1 (.slice ao n' cap)
  refine ⟨rfl, fun k => k = b ∨ (Value.slice ao n' cap).ownBlock = some k, ⟨hCb, _, .slice ao n' cap, by simpa using hp2, hp, ?_, hne2, fun k => Iff.rfl⟩, ?_, fun k hk => ?_⟩
  · have := ownsRow_kept hown' ((Kept.refl (· = b) w2).set (p := ⟨b, 1, none⟩) rfl (.slice ao n' cap)) (fun k hk e => hne2 (by rw [hk, e]))
    rw [Lib.byteCells_append, List.length_append]
    exact this
  · have hMb : M b := (hM b).2 (.inl rfl)
    exact ((k1.mono fun i e => by rw [e]; exact hMb).trans (kg.mono fun i e => (hM i).2 (.inr e.symm))).set (p := ⟨b, 1, none⟩) hMb _
  · rcases hk with e | e
    · exact .inl ((hM k).2 (.inl e))
    · rcases hat k e with q | q
      · exact .inl ((hM k).2 (.inr q))
      · exact .inr (Nat.le_trans k1.size q)
set_option maxRecDepth 100000 in
set_option maxHeartbeats 2000000 in
theorem wrByte {C b : Nat} {l : List UInt8} {n : Int} {w : World} {M : Nat → Prop} (h : WrAt C b l n w M) (c : UInt8) (hlen : l.length + 1 ≤ 140737488355328) (hCw : C ≤ w.heap.size) :
    Calls Tryz.prog 76 #[.pointer (some ⟨b, 0, none⟩), .int .u8 c.toNat] w fun y w' => y = .returned .nilIface ∧ Wrote C b (l ++ [c]) n w M w' := by
  have HC := Lib.hid (wrCheck h)
  have hCb := h.1
  clear h
  obtain ⟨ti, hi, hz0, hz1, hz2⟩ := info_parts3 info_u8W
  go_enter Tryz.func76, Tryz.ntmps76
  go_wp2_with (first
    | (go_at_call 93; refine HC.out.mono ?_; rintro y w1 ⟨rfl, h1, k1⟩; obtain ⟨_, p, v, hb, hp, ho, hn, hM⟩ := h1; have c0 := hb.cell 0; have c1 := hb.cell 1; simp at c0 c1)
    | (at_builtin; refine wpList_append_lies _ rfl _ _ 91 rfl C 5 ti (.int .u8 0) 1 1 Tryz.underlying91 hi hz0 hz1 hz2 rfl (by decide) v l.length (Lib.byteCells l) rfl (World.ownsRow.alloc ho (.cells #[.int .u8 c.toNat] 5)) ⟨w1.heap.size, 0, none⟩ 1 1 [.int .u8 c.toNat] rfl rfl (newsW w1 5 [.int .u8 c.toNat]) (by simp [Value.oneCell']) (by decide) (by unfold maxLen; omega) (by omega) (by have := k1.size; rw [World.size_alloc]; omega) _ rfl ?_; intro gg cap w2 hown' hgrow hat hlt; have kg := grow_after hgrow; have hb2 := hb.kept kg (fun e => hn e.symm); have d0 := hb2.cell 0; have d1 := hb2.cell 1; have f1 := hb2.frozen 1; simp at d0 d1))
  go_ret
  have hne2 := own_ne hb2 hown' (by decide)
  have hp2 := hb2.put 1 (.slice (some ⟨gg, 0, none⟩) (l.length + 1) cap)
  refine ⟨rfl, fun k => k = b ∨ (Value.slice (some ⟨gg, 0, none⟩) (l.length + 1) cap).ownBlock = some k, ⟨hCb, _, .slice (some ⟨gg, 0, none⟩) (l.length + 1) cap, by simpa using hp2, hp, ?_, hne2, fun k => Iff.rfl⟩, ?_, fun k hk => ?_⟩
  · have := ownsRow_kept hown' ((Kept.refl (· = b) w2).set (p := ⟨b, 1, none⟩) rfl (.slice (some ⟨gg, 0, none⟩) (l.length + 1) cap)) (fun k hk e => hne2 (by rw [hk, e]))
    rw [Lib.byteCells_append, List.length_append]
    exact this
  · have hMb : M b := (hM b).2 (.inl rfl)
    exact ((k1.mono fun i e => by rw [e]; exact hMb).trans (kg.mono fun i e => (hM i).2 (.inr e.symm))).set (p := ⟨b, 1, none⟩) hMb _
  · rcases hk with e | e
    · exact .inl ((hM k).2 (.inl e))
    · have eg : gg = k := Option.some.inj e
      rcases hat with q | q
      · exact .inl ((hM k).2 (.inr (by rw [q, eg])))
      · have := k1.size; (try simp at q); exact .inr (by omega)
set_option maxRecDepth 100000 in
set_option maxHeartbeats 2000000 in
theorem wrText {C b : Nat} {l : List UInt8} {n : Int} {w : World} {M : Nat → Prop} (h : WrAt C b l n w M) (h0 : l ≠ []) :
    Calls Tryz.prog 77 #[.pointer (some ⟨b, 0, none⟩)] w fun y w' => y = .returned (.string ⟨l.toArray⟩) ∧ Kept (C ≤ ·) w w' := by
  obtain ⟨hC, p, v, hbk, _, hown, hne, hM⟩ := h
  have hl0 : l.length ≠ 0 := by simpa using h0
  obtain ⟨g, cap, cur, rfl, hbg, hg, hnc, hcm, hcs, htake⟩ : ∃ g cap cur, v = .slice (some ⟨g, 0, none⟩) l.length cap ∧ C ≤ g ∧ w.heap[g]? = some (.cells cur 5 (0, 0)) ∧ l.length ≤ cap ∧ cap ≤ maxLen ∧ cur.size = cap * 1 ∧ cur.toList.take (l.length * 1) = Lib.byteCells l := by
    rcases hown.2 with ⟨_, hz⟩ | ⟨g, cap, cur, hv, r⟩
    · exact absurd hz hl0
    · exact ⟨g, cap, cur, hv, r⟩
  have c1 : w.drew.cell? ⟨b, 1, none⟩ = some (.slice (some ⟨g, 0, none⟩) l.length cap) := hbk.cell 1
  have hSD : (Builtin.unsafeSliceData_ #[91] 115 #[.slice (some ⟨g, 0, none⟩) l.length cap]).run Tryz.prog w.drew = .ok (.pointer (some ⟨g, 0, none⟩)) w.drew :=
    Lib.run_unsafeSliceData_row _ _ _ _ _ _ (by omega)
  have hUS : (Builtin.unsafeString_ #[115, 3] 9 #[.pointer (some ⟨g, 0, none⟩), .int .i64 l.length]).run Tryz.prog w.drew = .ok (.string ⟨l.toArray⟩) (w.drew.freeze ⟨g, 0, none⟩ l.length) := by
    refine Lib.run_unsafeString_row w.drew 115 3 9 5 Tryz.underlying115 (by kernel_rfl) g cur.size (by have hg' : w.drew.heap[g]? = some (.cells cur 5 (0, 0)) := hg; simp [World.shape?, hg']) l h0 (by omega) (by unfold maxLen at hcm; omega) ?_
    intro j x hx
    have := hown.cells (g := g) rfl j (.int .u8 x.toNat) (by simp [Lib.byteCells, hx])
    exact this
  have HK := Lib.hid (show Kept (C ≤ ·) w (w.drew.freeze ⟨g, 0, none⟩ l.length) from by
    have hb := Lib.below_freeze (Below.drew (Below.refl C w)) (p := ⟨g, 0, none⟩) hbg l.length
    exact ⟨hb.os, hb.tape, hb.output, hb.size, fun k hk hn => hb.block k (by omega)⟩)
  clear hown hne hM hbk hg htake hcs
  go_enter Tryz.func77, Tryz.ntmps77
  go_wp2_with fail
  go_region
  all_goals (go_wp2_with fail)
  all_goals go_ret
  all_goals exact ⟨rfl, HK.out⟩
end Go.Proofs.YtikgkjkgdlnekaaGreatDoor
