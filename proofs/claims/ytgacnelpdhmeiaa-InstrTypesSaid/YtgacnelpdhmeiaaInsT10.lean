/- The project's reading of lists, and of all. -/
import Derived.Test.YtgacnelpdhmeiaaInsT9
namespace Go.Proofs.Ytgacnelpdhmeiaa
open Go.RowKit Go.Deep
open Leb (byt byt_lt byt_get)

theorem info_ins : (Try.prog.info? 57).map (fun i => (i.zero, i.size, i.bytes)) = some (some (.agg #[.int .i64 0, .int .i64 0, .int .i64 0, .int .i64 0, .slice none 0 0, .slice none 0 0, .slice none 0 0]), 7, 104) := by kernel_rfl
theorem row_kept {F : Nat → Prop} {B : Nat} {v : Value} {n : Nat} {vs : List Value} {w w' : World} (h : w.ownsRow B 57 7 v n vs) (hk : Kept F w w') (hf : ∀ k, k < w.heap.size → F k → k < B) : w'.ownsRow B 57 7 v n vs := by
  refine ⟨h.1, ?_⟩
  rcases h.2 with hn | ⟨g, cap, cur, rfl, hg, hgg, rest⟩
  · exact .inl hn
  · exact .inr ⟨g, cap, cur, rfl, hg, hk.cells hgg (fun q => by have := hf g (Array.getElem?_eq_some_iff.1 hgg).1 q; omega), rest⟩
theorem row_lt {B : Nat} {v : Value} {n : Nat} {vs : List Value} {w : World} (h : w.ownsRow B 57 7 v n vs) : ∀ k, v.ownBlock = some k → B ≤ k ∧ k < w.heap.size := fun k hk => World.ownsRow.lt h k hk
/-- One element more, behind those that there were. -/
theorem row_snoc {B : Nat} {v : Value} {ls : List Ins} {vs : List Value} {w w4 w5 : World} {o : Obj} {g cap : Nat} {i : Ins} {us : List Value} {P : Nat → Prop}
    (hown : w.ownsRow B 57 7 v ls.length vs) (hel : ElsP (fun k => B ≤ k ∧ some k ≠ v.ownBlock) w ls vs) (hag : Agree (fun k => B ≤ k ∧ some k ≠ v.ownBlock) w w4) (hz : w.heap.size ≤ w4.heap.size)
    (hi : ElP P w4 i us) (hP : ∀ k, P k → w.heap.size ≤ k) (hown5 : w5.ownsRow B 57 7 (.slice (some ⟨g, 0, none⟩) (ls.length + 1) cap) (ls.length + 1) (vs ++ us)) (hg : (w4.alloc o).grownBy w5 v.ownBlock) (hat : v.ownBlock = some g ∨ g = (w4.alloc o).heap.size) (hB : B ≤ w.heap.size) :
    RowP B w5 (.slice (some ⟨g, 0, none⟩) (ls.length + 1) cap) (ls ++ [i]) := by
  have hlt := row_lt hown
  have hza : (w4.alloc o).heap.size = w4.heap.size + 1 := by simp
  have hs5 := hg.size
  have hag5 : ∀ k, k < w4.heap.size → some k ≠ v.ownBlock → w5.heap[k]? = w4.heap[k]? := fun k hk hne => (hg.block k (by omega) hne).trans (heap_alloc_old w4 o hk)
  refine ⟨vs ++ us, by rw [List.length_append, List.length_singleton]; exact hown5, ?_⟩
  refine ElsP.snoc (hel.next (Q := fun k => B ≤ k ∧ some k ≠ (Value.slice (some ⟨g, 0, none⟩) (ls.length + 1) cap).ownBlock) (fun k hk hl => (hag5 k (by omega) hk.2).trans (hag k hk hl)) (by omega) fun k hk hl => ⟨hk.1, ?_⟩) (hi.next (fun k hk hl => hag5 k hl ?_) (by omega) fun k hk hl => ⟨by have := hP k hk; omega, ?_⟩)
  · show some k ≠ some g
    rcases hat with h | h
    · exact fun q => hk.2 (by rw [q, h])
    · exact fun q => by have := Option.some.inj q; omega
  · exact fun q => by have := hlt k q.symm; have := hP k hk; omega
  · show some k ≠ some g
    rcases hat with h | h
    · exact fun q => by have := Option.some.inj q; have := hlt g h; have := hP k hk; omega
    · exact fun q => by have := Option.some.inj q; omega
theorem news7 (w : World) (T : TypeId) (a b c d e f g : Value) : ∀ j u, [a, b, c, d, e, f, g][j]? = some u → (w.alloc (.cells #[a, b, c, d, e, f, g] T)).cell? ((⟨w.heap.size, 0, none⟩ : Addr).add j) = some u := by
  intro j u hj
  have hadd : (⟨w.heap.size, 0, none⟩ : Addr).add j = ⟨w.heap.size, j, none⟩ := by unfold Addr.add; split <;> simp_all
  rw [hadd, (BlkAt.new w #[a, b, c, d, e, f, g] T).cell j, ← hj]
  rw [← Array.getElem?_toList]
theorem one7 (a b c d : Int) (x1 x2 x3 : Option Addr) (l1 c1 l2 c2 l3 c3 : Nat) : ∀ u ∈ [Value.int .i64 a, .int .i64 b, .int .i64 c, .int .i64 d, .slice x1 l1 c1, .slice x2 l2 c2, .slice x3 l3 c3], u.oneCell' = true := by
  intro u hu
  simp only [List.mem_cons, List.not_mem_nil, or_false] at hu
  rcases hu with rfl | rfl | rfl | rfl | rfl | rfl | rfl <;> rfl
/-- How much is behind in a taker. -/
def szAt (w : World) (t : Nat) : Nat := match w.cell? ⟨t, 0, none⟩ with
  | some (.string s) => s.size
  | _ => 0
theorem TkAt.sz {w : World} {t : Nat} {r : ByteArray} {c f : Int} (h : TkAt w t r c f) : szAt w t = r.size := by
  unfold szAt
  rw [h.cell 0]
  rfl
/-- Where a taker's loop stands. -/
def ListRel (G t : Nat) (r0 : ByteArray) (d n0 : Nat) (w : World) (v : Value) (wr : World) : Prop :=
  (∃ ls k r n, RowP w.heap.size wr v ls ∧ TkAt wr t r (n : Nat) 0 ∧ r.size < k ∧ k ≤ G ∧ n ≤ 8192 ∧ ls.length + r.size ≤ r0.size ∧ Kept (· = t) w wr ∧ takeL G r0 d n0 = (takeL k r d n).bind fun q => .ok ((ls ++ q.1.1, q.1.2.1, q.1.2.2), q.2)) ∨
  (∃ x l cap c f, v = .slice x l cap ∧ (∃ vs, wr.ownsRow w.heap.size 57 7 v l vs) ∧ TkAt wr t ⟨#[]⟩ c f ∧ f ≠ 0 ∧ Kept (· = t) w wr ∧ takeL G r0 d n0 = .error f)
/-- What reading a list leaves. -/
def GivesL (G t : Nat) (r0 : ByteArray) (d n0 : Nat) (w : World) (x : Ending) (w' : World) : Prop := ∃ x0 len cap last r' c' f', x = .returned (.tuple #[.slice x0 len cap, .int .i64 last]) ∧ TkAt w' t r' c' f' ∧ Kept (· = t) w w' ∧
  FitsB (takeL G r0 d n0) r' f' (fun q => last = q.2.1 ∧ c' = (q.2.2 : Nat) ∧ OwnP (w.heap.size ≤ ·) w' x0 len cap q.1)
theorem bind_id {X : Type} (res : Except Int X) : (res.bind fun q => .ok q) = res := by cases res <;> rfl
theorem bind_bind {X Y Z : Type} (res : Except Int X) (k : X → Except Int Y) (l : Y → Except Int Z) : (res.bind k).bind l = res.bind fun x => (k x).bind l := by cases res <;> rfl
set_option maxRecDepth 100000 in
set_option maxHeartbeats 4000000 in
theorem list_all : ∀ G, ListOk G := by
  intro G
  induction G using Nat.strongRecOn with
  | _ G IH =>
  intro t r0 n0 d w h hr0 hs0 hd hn0
  show Calls Try.prog 36 _ w fun x w' => GivesL G t r0 d n0 w x w'
  have hlt := h.lt
  have HIH := Lib.hid IH
  obtain ⟨i0, hi0, hz0, hz1, hz2⟩ := info_parts info_ins
  have HST : Hid (ListRel G t r0 d n0 w (.slice none 0 0) w) := Lib.hid (.inl ⟨[], G, r0, n0, ⟨[], World.ownsRow_nil _ _ _ _, .nil⟩, h, hr0, Nat.le_refl _, hn0, by simp, Kept.refl _ _, (bind_id _).symm⟩)
  clear IH h hr0 hn0
  go_enter Try.func36, Try.ntmps36
  go_wp2_with fail
  go_loopw [6] (fun v wr => ListRel G t r0 d n0 w v wr) (fun _ wr => szAt wr t)
  case atStart => exact HST.out
  case round =>
    clear HST
    rcases hrel with ⟨ls, k, r, n, ⟨vs, hown, hel⟩, hT, hk, hkG, hn, hsz, hkp, heq⟩ | ⟨x, l, cap, c, f, rfl, ⟨vs, hown⟩, hT, hf, hkp, heq⟩
    · obtain ⟨k', rfl⟩ : ∃ k', k = k' + 1 := ⟨k - 1, by omega⟩
      have HEQ := Lib.hid heq
      have HOWN := Lib.hid hown
      have HEL := Lib.hid hel
      have HKP := Lib.hid hkp
      have HL := Lib.hid (HIH.out k' (by omega))
      have hzz := hkp.size
      have hb0 := Lib.hid ((Below.refl wr.heap.size wr).alloc (Nat.le_refl _) (.cells #[.int .i64 0, .int .i64 0, .int .i64 0, .int .i64 0, .slice none 0 0, .slice none 0 0, .slice none 0 0] 57))
      have HO := Lib.hid (takerOp_any t wr.heap.size r n _ (hT.below hb0.out) (BlkAt.new wr _ _) (by omega) (by omega))
      have HSZ := Lib.hid hT.sz
      have HRT : Hid (∀ op r1 f1, Fits (opT r) op r1 f1 → (f1 ≠ 0 ∨ op = 11 ∨ op = 5) → ∀ (P : List Ins → Prop), P ls → FitsB (takeL G r0 d n0) r1 f1 (fun q => op = q.2.1 ∧ (n : Int) = (q.2.2 : Nat) ∧ P q.1)) := Lib.hid fun op r1 f1 hf hor P hP => by
        rw [HEQ.out, takeL, bind_bind]
        rcases hf.cases with ⟨hf0, hx⟩ | ⟨hf0, hr, hx⟩
        · rw [hx]
          show FitsB ((if op = 11 ∨ op = 5 then Except.ok (([], op, n), r1) else _).bind _) _ _ _
          rw [if_pos (hor.resolve_left (fun q => q hf0))]
          exact ⟨hf0, rfl, rfl, rfl, by rw [List.append_nil]; exact hP⟩
        · rw [hx]
          exact fitsB_err hf0 hr
      have HGO : Hid (∀ op r1, Fits (opT r) op r1 0 → ¬ op = 11 → ¬ op = 5 → r1.size < r.size ∧ takeL G r0 d n0 = (instrT (takeL k') op r1 d n).bind fun i => (takeL k' i.2 d i.1.2).bind fun r => .ok ((ls ++ [i.1.1] ++ r.1.1, r.1.2.1, r.1.2.2), r.2)) := Lib.hid fun op r1 hf h11 h5 => by
        rcases hf.cases with ⟨_, hx⟩ | ⟨hf0, _⟩
        · refine ⟨opT_size hx, ?_⟩
          rw [HEQ.out, takeL, bind_bind, hx]
          show (if op = 11 ∨ op = 5 then _ else (instrT (takeL k') op r1 d n).bind _).bind _ = _
          rw [if_neg (fun q => q.elim h11 h5), bind_bind]
          congr 1
          funext i
          rw [bind_bind]
          congr 1
          funext q
          show Except.ok ((ls ++ (i.1.1 :: q.1.1), q.1.2.1, q.1.2.2), q.2) = _
          rw [List.append_assoc]
          rfl
        · exact absurd rfl hf0
      obtain ⟨x0, cap, hv, HOW⟩ := RowP.own ⟨vs, hown, hel⟩
      subst hv
      clear heq hown hel hkp hT
      have hwl := row_lt HOWN.out
      go_wp2_with (go_at_call 47; refine HO.out.mono ?_; rintro x w1 ⟨op, r1, f1, ⟨rfl, t1, b1, k1⟩, q1⟩; have c0 := b1.cell 0; rw [show (_ : Array Value)[0]? = some (.int .i64 op) from rfl] at c0; have f2 := t1.cell 2; rw [show (_ : Array Value)[2]? = some (.int .i64 f1) from rfl] at f2; have HQ := Lib.hid q1; clear q1)
      · have h2 : op = 11 := by assumption
        subst h2
        have hzk := k1.size
        have KK := (Kept.of_below (F := fun k => k = t) hb0.out).then k1 (by rintro j hj (q | q); exact q; omega)
        go_quiet (fail)
        go_wp2
        refine bodyPost_ret (v := .tuple #[.slice x0 ls.length cap, .int .i64 (11)]) (by simp [results, Try.results36, go_sem]) rfl ⟨x0, ls.length, cap, _, _, _, _, rfl, t1, HKP.out.trans ⟨KK.os, KK.tape, KK.output, KK.size, KK.block⟩, HRT.out _ _ _ HQ.out (.inr (.inl rfl)) _ ?_⟩
        exact HOW.next (fun k hk hl => KK.block k hl (by omega)) KK.size fun k hk _ => hk
      · have h2 : ¬ op = 11 := by assumption
        have h3 : (op == 11) = true ∨ (op == 5) = true := by assumption
        have h5 : op = 5 := by
          rcases h3 with q | q
          · exact absurd (by simpa using q) h2
          · simpa using q
        subst h5
        have hzk := k1.size
        have KK := (Kept.of_below (F := fun k => k = t) hb0.out).then k1 (by rintro j hj (q | q); exact q; omega)
        go_quiet (fail)
        go_wp2
        refine bodyPost_ret (v := .tuple #[.slice x0 ls.length cap, .int .i64 (5)]) (by simp [results, Try.results36, go_sem]) rfl ⟨x0, ls.length, cap, _, _, _, _, rfl, t1, HKP.out.trans ⟨KK.os, KK.tape, KK.output, KK.size, KK.block⟩, HRT.out _ _ _ HQ.out (.inr (.inr rfl)) _ ?_⟩
        exact HOW.next (fun k hk hl => KK.block k hl (by omega)) KK.size fun k hk _ => hk
      · have h1 : f1 = 0 := by assumption
        have h2 : ¬ op = 11 := by assumption
        have h3 : (op == 11) = false ∧ (op == 5) = false := by assumption
        subst h1
        have h5 : ¬ op = 5 := by simpa using h3.2
        obtain ⟨g1, g2⟩ := HGO.out op r1 HQ.out h2 h5
        have HG2 := Lib.hid g2
        have hzk := k1.size
        have HI := Lib.hid (instr_any k' HL.out t wr.heap.size op r1 n d w1 t1 b1 (by omega) (by omega) (by omega) hn hd)
        have K1 := Lib.hid ((Kept.of_below (F := fun k => k = t ∨ k = wr.heap.size) hb0.out).trans k1)
        clear h2 h3 g2 h5
        have q3 : ls.length + 1 ≤ maxLen := by unfold maxLen; omega
        have q4 : (ls.length + 1) * 104 ≤ 140737488355328 := by omega
        go_wp2_with (first
          | (go_at_call 48; refine HI.out.mono ?_; rintro x w4 ⟨a', b', m', x1, l1, c1, x2, l2, c2, x3, l3, c3, r4, c4, f4, rfl, t4, b4, k4, q5⟩
             have hz4 := k4.size
             have K4 := K1.out.trans k4
             have hz14 := K4.size
             have hown4 := row_kept HOWN.out K4 (by rintro j hj (q | q) <;> omega)
             have HQ5 := Lib.hid q5
             clear q5
             have v0 := b4.cell 0
             have v1 := b4.cell 1
             have v2 := b4.cell 2
             have v3 := b4.cell 3
             have v4 := b4.cell 4
             have v5 := b4.cell 5
             have v6 := b4.cell 6
             rw [show (_ : Array Value)[0]? = some (.int .i64 op) from rfl] at v0
             rw [show (_ : Array Value)[1]? = some (.int .i64 a') from rfl] at v1
             rw [show (_ : Array Value)[2]? = some (.int .i64 b') from rfl] at v2
             rw [show (_ : Array Value)[3]? = some (.int .i64 m') from rfl] at v3
             rw [show (_ : Array Value)[4]? = some (.slice x1 l1 c1) from rfl] at v4
             rw [show (_ : Array Value)[5]? = some (.slice x2 l2 c2) from rfl] at v5
             rw [show (_ : Array Value)[6]? = some (.slice x3 l3 c3) from rfl] at v6)
          | (at_builtin; refine wpList_append_lies _ rfl _ _ 29 rfl w.heap.size 57 i0 _ 7 104 Try.underlying29 hi0 hz0 hz1 hz2 rfl (by decide) _ ls.length vs rfl (World.ownsRow.alloc hown4 _) ⟨w4.heap.size, 0, none⟩ 1 1 [.int .i64 op, .int .i64 a', .int .i64 b', .int .i64 m', .slice x1 l1 c1, .slice x2 l2 c2, .slice x3 l3 c3] rfl rfl (news7 w4 _ _ _ _ _ _ _ _) (one7 _ _ _ _ _ _ _ _ _ _ _ _ _) (by decide) q3 q4 (le_alloc (show w.heap.size ≤ w4.heap.size by omega)) _ rfl ?_; intro g cap5 w5 hown5 hg5 hat5 hlt5))
        have hg6 : World.grownBy (w4.alloc (.cells #[.int .i64 op, .int .i64 a', .int .i64 b', .int .i64 m', .slice x1 l1 c1, .slice x2 l2 c2, .slice x3 l3 c3] 57)) w5 (Value.slice x0 ls.length cap).ownBlock := hg5
        have hat6 : (Value.slice x0 ls.length cap).ownBlock = some g ∨ g = (w4.alloc (.cells #[.int .i64 op, .int .i64 a', .int .i64 b', .int .i64 m', .slice x1 l1 c1, .slice x2 l2 c2, .slice x3 l3 c3] 57)).heap.size := hat5
        have KG : Kept (fun k => some k = (Value.slice x0 ls.length cap).ownBlock) (w4.alloc (.cells #[.int .i64 op, .int .i64 a', .int .i64 b', .int .i64 m', .slice x1 l1 c1, .slice x2 l2 c2, .slice x3 l3 c3] 57)) w5 := ⟨hg6.os, hg6.tape, hg6.output, hg6.size, fun k hk hf => hg6.block k hk hf⟩
        have hba : Below w4.heap.size w4 (w4.alloc (.cells #[.int .i64 op, .int .i64 a', .int .i64 b', .int .i64 m', .slice x1 l1 c1, .slice x2 l2 c2, .slice x3 l3 c3] 57)) := (Below.refl _ _).alloc (Nat.le_refl _) _
        have t5 : TkAt w5 t r4 c4 f4 := (t4.below hba).kept KG (fun q => by have := hwl t q.symm; omega)
        have K5 : Kept (· = t) w w5 := HKP.out.then ((K4.mono (G := fun k => k = t ∨ k = wr.heap.size ∨ some k = (Value.slice x0 ls.length cap).ownBlock) (by rintro j (q | q); exact .inl q; exact .inr (.inl q))).trans ((Kept.of_below hba).trans (KG.mono fun j q => .inr (.inr q)))) (by
          rintro j hj (q | q | q)
          · exact q
          · omega
          · have := hwl j q.symm
            omega)
        have hk1s := K1.out.size
        rcases HQ5.out.cases with ⟨hf4, ⟨i, n'⟩, hx, hc4, hel⟩ | ⟨hf4, hr4, hx⟩
        · subst hf4
          obtain ⟨j1, j2⟩ := instrT_good (takeL_good k') hx
          replace j1 : r4.size ≤ r1.size := j1
          replace j2 : n' ≤ 8192 := j2
          replace hc4 : c4 = (n' : Nat) := hc4
          subst hc4
          refine ⟨.inl ⟨ls ++ [i], k', r4, n', ?_, t5, by omega, by omega, j2, by rw [List.length_append, List.length_singleton]; omega, K5, ?_⟩, ?_⟩
          · exact row_snoc HOWN.out HEL.out (K4.agree fun k hk hl => by rintro (q | q) <;> omega) hz14 hel (fun k hk => by omega) hown5 hg6 hat6 hzz
          · rw [HG2.out, hx]
            rfl
          · rw [t5.sz, HSZ.out]
            omega
        · subst hr4
          refine ⟨.inr ⟨_, _, _, _, _, rfl, ⟨_, hown5⟩, t5, hf4, K5, ?_⟩, ?_⟩
          · rw [HG2.out, hx]
            rfl
          · rw [t5.sz, HSZ.out]
            show 0 < r.size
            omega
      · have h1 : ¬ f1 = 0 := by assumption
        have hzk := k1.size
        have KK := (Kept.of_below (F := fun k => k = t) hb0.out).then k1 (by rintro j hj (q | q); exact q; omega)
        go_quiet (fail)
        go_wp2
        refine bodyPost_ret (v := .tuple #[.slice x0 ls.length cap, .int .i64 (op)]) (by simp [results, Try.results36, go_sem]) rfl ⟨x0, ls.length, cap, _, _, _, _, rfl, t1, HKP.out.trans ⟨KK.os, KK.tape, KK.output, KK.size, KK.block⟩, HRT.out _ _ _ HQ.out (.inl h1) _ ?_⟩
        exact HOW.next (fun k hk hl => KK.block k hl (by omega)) KK.size fun k hk _ => hk
    · have hzz := hkp.size
      have HKP := Lib.hid hkp
      have HEQ := Lib.hid heq
      have HF := Lib.hid hf
      have hf2 : (f != 0) = true := by simpa using hf
      have hb0 := Lib.hid ((Below.refl wr.heap.size wr).alloc (Nat.le_refl _) (.cells #[.int .i64 0, .int .i64 0, .int .i64 0, .int .i64 0, .slice none 0 0, .slice none 0 0, .slice none 0 0] 57))
      have HO := Lib.hid (opcode_dead t wr.heap.size c f hf _ (hT.below hb0.out))
      have HBN := Lib.hid (BlkAt.new wr #[.int .i64 0, .int .i64 0, .int .i64 0, .int .i64 0, .slice none 0 0, .slice none 0 0, .slice none 0 0] 57)
      clear heq hown hkp hT hf
      go_wp2_with (go_at_call 47; refine HO.out.mono ?_; rintro y w1 ⟨rfl, t1, k1⟩; have b1 := HBN.out.kept k1 (by omega); have c0 := b1.cell 0; rw [show (_ : Array Value)[0]? = some (.int .i64 0) from rfl] at c0; have f1 := t1.cell 2; rw [show (_ : Array Value)[2]? = some (.int .i64 f) from rfl] at f1)
      have KK := (Kept.of_below (F := fun k => k = t) hb0.out).trans k1
      go_quiet (fail)
      go_wp2
      refine bodyPost_ret (v := .tuple #[.slice x l cap, .int .i64 0]) (by simp [results, Try.results36, go_sem]) rfl ⟨x, l, cap, _, _, _, _, rfl, t1, HKP.out.trans ⟨KK.os, KK.tape, KK.output, KK.size, KK.block⟩, by rw [HEQ.out]; exact fitsB_err HF.out rfl⟩
end Go.Proofs.Ytgacnelpdhmeiaa
