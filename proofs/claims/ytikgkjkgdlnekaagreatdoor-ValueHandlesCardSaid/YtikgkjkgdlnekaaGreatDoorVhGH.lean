/- each -/
import Derived.Test.YtikgkjkgdlnekaaGreatDoorVhAF
import Derived.Test.YtikgkjkgdlnekaaGreatDoorVhI
import Derived.Test.YtikgkjkgdlnekaaGreatDoorVbH
/- value: each: what is told, and what a closure keeps that is told it. -/
set_option linter.unusedVariables false
set_option linter.unusedSimpArgs false
namespace Go.Proofs.YtikgkjkgdlnekaaGreatDoor
open Go.RowKit
open Lex Ct

namespace Ct
/-- What a value of its type has within, told in both ways. -/
theorem each_parts {k : Nat} {t : Ty} {v : Vl} (h : deepK (k + 1) t = true) (hp : partsK (k + 1) t v ≠ 0) (h20 : ¬ 20 ≤ t.kind) :
    ∃ ts, insO t v = some ts ∧ ts.length = v.l.length ∧ ∀ (j : Nat) (u : Ty) (x : Vl), ts[j]? = some u → v.l[j]? = some x → deepK k u = true ∧ partsK k u x ≠ 0 ∧ witO (plK (k + 1 + 1) t) v.n j = some (plK (k + 1) u) := by
  have hwh := whole_num t v.n
  by_cases hcp : 12 ≤ t.kind ∧ t.kind ≤ 18
  · have hz : ¬ (wholeK t.kind v.n ≠ 0) := by rw [hwh.1]; omega
    unfold partsK at hp
    rw [if_neg hz, if_neg (by omega), if_neg (by omega)] at hp
    split at hp
    · exact absurd rfl hp
    · rename_i hs
      rw [if_neg (by omega)] at hp
      rcases wit_ins (v := v) h hcp (by omega) with ⟨hsh, ts, hi, hlen, hin⟩ | ⟨hsh, hi⟩
      · rw [hi] at hp
        have hp : sumL (partsK k) ts v.l 1 ≠ 0 := hp
        exact ⟨ts, hi, hlen, fun j u x hu hx => ⟨(hin j u x hu hx).1, sumL_all ts v.l 1 hp j u x hu hx, (hin j u x hu hx).2⟩⟩
      · rw [hi] at hp
        exact absurd rfl hp
  · obtain ⟨ts, hi, hlen, hin⟩ := ins_parts h hp h20
    have hl : v.l.length = 0 := by
      unfold insO at hi
      rw [if_neg (by omega), if_neg (by omega), if_neg (by omega)] at hi
      rcases Nat.eq_zero_or_pos v.l.length with q | q
      · exact q
      · rw [if_neg (by omega)] at hi
        cases hi
    refine ⟨ts, hi, hlen, fun j u x hu hx => ?_⟩
    have := (List.getElem?_eq_some_iff.1 hx).1
    omega
/-- A handle has nothing within. -/
theorem hand_none {k : Nat} {t : Ty} {v : Vl} (h : deepK (k + 1) t = true) (hp : partsK (k + 1) t v ≠ 0) (h20 : 20 ≤ t.kind) : v.l = [] ∧ (t.kind = 20 ∨ t.kind = 21) := by
  have hkind := deepK_kind h
  have hwh := whole_num t v.n
  refine ⟨?_, by omega⟩
  unfold partsK at hp
  by_cases hz : wholeK t.kind v.n ≠ 0
  · rw [if_pos hz] at hp
    split at hp
    · exact absurd rfl hp
    · rename_i q
      exact List.length_eq_zero_iff.1 (by omega)
  · rw [if_neg hz, if_neg (by omega), if_neg (by omega)] at hp
    have h19 : t.kind = 19 := by rw [hwh.1] at hz; omega
    omega
end Ct
theorem TelR.thru {St : (Nat → Prop) → List (Int × Int × Int) → World → Prop} {F F1 : Nat → Prop} {hs : List (Int × Int × Int)} {w w1 w2 : World} {y : Ending} (k1 : Kept F w w1) (hf : ∀ g, F1 g → F g ∨ w.heap.size ≤ g) (h : TelR St F1 hs w1 y w2) : TelR St F hs w y w2 := by
  obtain ⟨e, F', hs', k2, hf2⟩ := h
  refine ⟨e, F', hs', ?_, fun g hg => ?_⟩
  · exact k1.then k2 fun i hi h => (hf i h).resolve_right (by omega)
  · rcases hf2 g hg with h | h
    · exact hf g h
    · exact .inr (Nat.le_trans k1.size h)
end Go.Proofs.YtikgkjkgdlnekaaGreatDoor

/- value: each: the walk. -/
set_option linter.unusedVariables false
set_option linter.unusedSimpArgs false
namespace Go.Proofs.YtikgkjkgdlnekaaGreatDoor
open Go.RowKit
open Lex Ct

theorem Kept.far {F : Nat → Prop} {w w' : World} {g i : Nat} {v : Value} (k : Kept F w w') (hg : g < w.heap.size) (hf : ¬ F g) (h : w.cell? ⟨g, i, none⟩ = some v) : w'.cell? ⟨g, i, none⟩ = some v := (cell_of (k.block g hg hf)).trans h
def EachAt (fid : Nat) (lb : Array Value) (St : (Nat → Prop) → List (Int × Int × Int) → World → Prop) (k : Nat) : Prop := ∀ (t : Ty) (v : Vl), deepK k t = true → partsK k t v ≠ 0 → LtV v →
  ∀ (an : Option Addr) (cn : Nat) (al : Option Addr) (cl : Nat) (sa : Option Addr) (sc : Nat) (av : Option Addr) (cv : Nat) (g o : Nat) (F : Nat → Prop) (hs : List (Int × Int × Int)) (w : World),
  TyP (fun b => ¬ F b) w (plK (k + 1) t) an cn al cl → VlP (fun b => ¬ F b) w v sa sc av cv → ¬ F g → g < w.heap.size → w.cell? ⟨g, o, none⟩ = some (.int .i64 v.n) → w.cell? ⟨g, o + 1, none⟩ = some (.slice sa v.s.length sc) → w.cell? ⟨g, o + 2, none⟩ = some (.slice av v.l.length cv) →
  St F hs w → hs.length + (hdsR k t v).length ≤ 4000 →
  Calls Tryz.prog 26 #[tyV (plK (k + 1) t) an cn al cl, .pointer (some ⟨g, o, none⟩), .func (.func fid) #[] lb] w (TelR St F (hs ++ hdsR k t v) w)
set_option maxRecDepth 100000 in
set_option maxHeartbeats 8000000 in
theorem each_hand {fid : Nat} {lb : Array Value} {St : (Nat → Prop) → List (Int × Int × Int) → World → Prop} (H : TelAt fid lb St) (T : Ty) (v : Vl) (hl : v.l = []) (h20 : T.kind = 20 ∨ T.kind = 21)
    (an : Option Addr) (cn : Nat) (al : Option Addr) (cl : Nat) (sa : Option Addr) (sc : Nat) (av : Option Addr) (cv : Nat) (g o : Nat) (F : Nat → Prop) (hs : List (Int × Int × Int)) (w : World)
    (hg : ¬ F g) (hgl : g < w.heap.size) (c0 : w.cell? ⟨g, o, none⟩ = some (.int .i64 v.n)) (c2 : w.cell? ⟨g, o + 2, none⟩ = some (.slice av v.l.length cv)) (hst : St F hs w) (hn : hs.length < 4000) :
    Calls Tryz.prog 26 #[tyV T an cn al cl, .pointer (some ⟨g, o, none⟩), .func (.func fid) #[] lb] w (TelR St F (hs ++ [(T.kind, T.r, v.n)]) w) := by
  cases T with
  | mk kd names l r =>
  have h20 : kd = 20 ∨ kd = 21 := h20
  rw [hl] at c2
  have eg := H.eg
  have k0 : Kept (fun _ => False) w (w.alloc (.cells #[.int .i64 kd, .slice an names.length cn, .slice al l.length cl, .int .i64 r] 25)) := (Kept.refl _ _).new _
  have T0 := BlkAt.new w #[.int .i64 kd, .slice an names.length cn, .slice al l.length cl, .int .i64 r] 25
  have HC := Lib.hid (H.call F hs (w.alloc (.cells #[.int .i64 kd, .slice an names.length cn, .slice al l.length cl, .int .i64 r] 25)) (.mk kd names l r) an cn al cl g o v.n (H.kept F hs w _ hst k0) hg (Nat.lt_of_lt_of_le hgl k0.size) ((cell_of (k0.block g hgl id)).trans c0) hn)
  obtain ⟨t0, t1, t2, t3⟩ := box4_cells' T0
  have HG := Lib.hid (And.intro hg (And.intro (Nat.lt_of_lt_of_le hgl k0.size) ((cell_of (k0.block g hgl id)).trans c2)))
  have HK := Lib.hid k0
  clear hst c0 c2 hg hgl T0 k0 hl H hn
  show Calls _ _ #[.agg #[.int .i64 kd, .slice an names.length cn, .slice al l.length cl, .int .i64 r], _, _] _ _
  rcases h20 with rfl | rfl
  all_goals
    go_enter Tryz.func26, Tryz.ntmps26
    go_wp2_with (go_at_fn fid; refine HC.out.mono ?_; rintro y w1 ⟨rfl, F1, hs1, k1, hf1⟩; have c2 := k1.far HG.out.2.1 HG.out.1 HG.out.2.2; have H1 := Lib.hid (And.intro hs1 (And.intro k1 hf1)); clear HC hs1 k1 hf1)
    go_loopw [24] (fun u wr => u = .int .i64 0 ∧ wr = w1) (fun _ _ => 0)
    case atStart => exact ⟨rfl, rfl⟩
    case round =>
      obtain ⟨rfl, rfl⟩ := hrel
      go_wp2_with fail
      exact bodyPost_void rfl rfl (TelR.thru HK.out.any (fun g h => .inl h) ⟨rfl, F1, H1.out.1, H1.out.2.1, H1.out.2.2⟩)
set_option maxRecDepth 100000 in
set_option maxHeartbeats 8000000 in
theorem each_go {fid : Nat} {lb : Array Value} {St : (Nat → Prop) → List (Int × Int × Int) → World → Prop} (H : TelAt fid lb St) {k : Nat} (IH : EachAt fid lb St k) (t : Ty) (v : Vl) (hd : deepK (k + 1) t = true) (hp : partsK (k + 1) t v ≠ 0) (hlt : LtV v) (h20 : ¬ 20 ≤ t.kind)
    (an : Option Addr) (cn : Nat) (al : Option Addr) (cl : Nat) (sa : Option Addr) (sc : Nat) (av : Option Addr) (cv : Nat) (g o : Nat) (F : Nat → Prop) (hs : List (Int × Int × Int)) (w : World)
    (ht : TyP (fun b => ¬ F b) w (plK (k + 1 + 1) t) an cn al cl) (hv : VlP (fun b => ¬ F b) w v sa sc av cv) (hg : ¬ F g) (hgl : g < w.heap.size) (c0 : w.cell? ⟨g, o, none⟩ = some (.int .i64 v.n)) (c1 : w.cell? ⟨g, o + 1, none⟩ = some (.slice sa v.s.length sc)) (c2 : w.cell? ⟨g, o + 2, none⟩ = some (.slice av v.l.length cv)) (hst : St F hs w) (hn : hs.length + (hdsR (k + 1) t v).length ≤ 4000) :
    Calls Tryz.prog 26 #[tyV (plK (k + 1 + 1) t) an cn al cl, .pointer (some ⟨g, o, none⟩), .func (.func fid) #[] lb] w (TelR St F (hs ++ hdsR (k + 1) t v) w) := by
  obtain ⟨ts, hi, hlen, hin⟩ := each_parts hd hp h20
  have hkind := deepK_kind hd
  have hpk := plP_kind hd
  have hres : hdsR (k + 1) t v = catL (hdsR k) ts v.l := by
    conv => lhs; unfold hdsR
    rw [if_neg h20, hi]
  have hall : ∀ i, (catL (hdsR k) (ts.take i) (v.l.take i)).length ≤ (catL (hdsR k) ts v.l).length := fun i => catL_mono (f := hdsR k) ts v.l i hlen
  rw [hres] at hn ⊢
  obtain ⟨T, hT⟩ : ∃ T, T = plK (k + 1 + 1) t := ⟨_, rfl⟩
  have hk : T.kind ≠ 20 ∧ T.kind ≠ 21 := by
    have e : T.kind = (plP t).kind := by rw [hT, plK_kind]
    rw [e, hpk]
    split <;> omega
  rw [← hT] at ht ⊢
  rw [← hT] at hin
  have hFlt := H.lt F hs w hst
  have k0 : Kept (fun _ => False) w (w.alloc (.cells #[.int .i64 T.kind, .slice an T.names.length cn, .slice al T.l.length cl, .int .i64 T.r] 25)) := (Kept.refl _ _).new _
  have T0 := BlkAt.new w #[.int .i64 T.kind, .slice an T.names.length cn, .slice al T.l.length cl, .int .i64 T.r] 25
  have HTP : Hid (TyP (fun b => ¬ F b ∧ b < w.heap.size) (w.alloc (.cells #[.int .i64 T.kind, .slice an T.names.length cn, .slice al T.l.length cl, .int .i64 T.r] 25)) T an cn al cl) := Lib.hid (ht.thru k0 (fun _ _ _ e => e) (fun _ q hb => ⟨q, hb⟩))
  have HVP : Hid (VlP (fun b => ¬ F b ∧ b < w.heap.size) (w.alloc (.cells #[.int .i64 T.kind, .slice an T.names.length cn, .slice al T.l.length cl, .int .i64 T.r] 25)) v sa sc av cv) := Lib.hid (hv.thru k0 (fun _ _ _ e => e) (fun _ q hb => ⟨q, hb⟩))
  have c0 := k0.far (i := o) hgl id c0
  have c1 := k0.far (i := o + 1) hgl id c1
  have c2 := k0.far (i := o + 2) hgl id c2
  obtain ⟨t0, t1, t2, t3⟩ := box4_cells' T0
  have hs0 : w.heap.size < (w.alloc (.cells #[.int .i64 T.kind, .slice an T.names.length cn, .slice al T.l.length cl, .int .i64 T.r] 25)).heap.size := by simp
  have HCE := Lib.hid (And.intro t0 (And.intro t1 (And.intro t2 (And.intro t3 (And.intro c0 (And.intro c1 c2))))))
  have HG := Lib.hid (And.intro hg (And.intro hgl hs0))
  have HF := Lib.hid hFlt
  have HK := Lib.hid k0
  have HS0 := Lib.hid (H.kept F hs w _ hst k0)
  have HIN := Lib.hid hin
  have HLT := Lib.hid hlt.parts.2.2
  have HAL := Lib.hid hall
  have HLN := Lib.hid hlen
  have HN := Lib.hid hn
  have HIH := Lib.hid IH
  have HTE := Lib.hid H
  have h2000 : v.l.length ≤ 20000 := hlt.parts.2.1
  have hn20 : (T.kind == 20) = false := by simp [hk.1]
  have hn21 : (T.kind == 21) = false := by simp [hk.2]
  clear hn hall hres hi hlen hin hd hp hlt h20 hT hpk hkind ht hv hg hgl hst k0 T0 c0 c1 hs0 H IH hk hFlt
  show Calls _ _ #[.agg #[.int .i64 T.kind, .slice an T.names.length cn, .slice al T.l.length cl, .int .i64 T.r], _, _] _ _
  obtain ⟨w0, hw0⟩ : ∃ w0, w0 = w.alloc (.cells #[.int .i64 T.kind, .slice an T.names.length cn, .slice al T.l.length cl, .int .i64 T.r] 25) := ⟨_, rfl⟩
  rw [← hw0] at HCE HG HK HS0 HTP HVP
  go_enter Tryz.func26, Tryz.ntmps26
  go_wp2_with fail
  rw [← hw0]
  clear t0 t1 t2 t3 c2
  go_loopw [24] (fun u wr => ∃ (i : Nat) (F1 : Nat → Prop), u = .int .i64 i ∧ i ≤ v.l.length ∧ Hid (St F1 (hs ++ catL (hdsR k) (ts.take i) (v.l.take i)) wr ∧ Kept F w0 wr ∧ ∀ g, F1 g → F g ∨ w0.heap.size ≤ g)) (fun u _ => v.l.length - (intOf u).toNat)
  case atStart => exact ⟨0, F, rfl, Nat.zero_le _, Lib.hid ⟨by rw [List.take_zero, List.take_zero]; unfold catL; rw [List.append_nil]; exact HS0.out, Kept.refl _ _, fun g h => .inl h⟩⟩
  case round =>
    obtain ⟨i, F1, rfl, hi', hst⟩ := hrel
    by_cases hlt : i < v.l.length
    · obtain ⟨x, hx⟩ : ∃ x, v.l[i]? = some x := ⟨_, List.getElem?_eq_getElem hlt⟩
      obtain ⟨u, hu⟩ : ∃ u, ts[i]? = some u := ⟨_, List.getElem?_eq_getElem (by have := HLN.out; omega)⟩
      obtain ⟨gb, ob, ax, cx, ay, cy, rfl, hgb, hgl, hvx, d0, d1, d2⟩ := vrow_in (HVP.out.l.thru hst.out.2.1 (fun _ q _ => q.1) (fun _ q _ => q)) hx
      have hix := HIN.out i u x hu hx
      have htake := catL_take (f := hdsR k) ts v.l i u x hu hx
      have hsz := HAL.out (i + 1)
      rw [htake, List.length_append] at hsz
      have hP : ∀ b, (¬ F b ∧ b < w.heap.size) → ¬ F1 b := fun b q e => by
        rcases hst.out.2.2 b e with h | h
        · exact q.1 h
        · have := HG.out.2.2; omega
      have HX : Hid (∀ w' ap cp aq cq, Kept (fun _ => False) wr w' → TyP (fun b => ¬ F b ∧ b < w.heap.size) w' (plK (k + 1) u) ap cp aq cq → Calls Tryz.prog 26 #[tyV (plK (k + 1) u) ap cp aq cq, .pointer (some ⟨gb, ob + i * 3, none⟩), .func (.func fid) #[] lb] w' (TelR St F1 (hs ++ catL (hdsR k) (ts.take (i + 1)) (v.l.take (i + 1))) w')) := Lib.hid fun w' ap cp aq cq k' hty => by
        have := HIH.out u x hix.1 hix.2.1 (HLT.out x (List.mem_of_getElem? hx)) ap cp aq cq ax cx ay cy gb (ob + i * 3) F1 (hs ++ catL (hdsR k) (ts.take i) (v.l.take i)) w' (hty.thru (Kept.refl (fun _ => False) _) (fun _ _ _ e => e) (fun b q _ => hP b q)) (hvx.thru k' (fun _ _ _ e => e) (fun b q _ => hP b q)) (hP gb hgb) (Nat.lt_of_lt_of_le hgl k'.size) (k'.far hgl id d0) (k'.far hgl id d1) (k'.far hgl id d2) (HTE.out.kept _ _ _ _ hst.out.1 k') (by have := HN.out; rw [List.length_append]; omega)
        rw [List.append_assoc, ← htake] at this
        exact this
      have HWI : Hid (∀ w', Kept (fun _ => False) wr w' → Calls Tryz.prog 43 #[tyV T an cn al cl, vlV v sa sc (some ⟨gb, ob, none⟩) cv, .int .i64 (i : Int)] w' (TyR (fun b => ¬ F b ∧ b < w.heap.size) (plK (k + 1) u) w')) := Lib.hid fun w' k' => rdWithin _ T an cn al cl v sa sc _ cv i _ w' ((HTP.out.thru hst.out.2.1 (fun _ q _ => q.1) (fun _ q _ => q)).thru k' (fun _ _ _ e => e) (fun _ q _ => q)) hix.2.2
      unfold TyR at HWI
      unfold TelR at HX
      have HW : Hid (∀ w', Kept F1 wr w' → w'.cell? ⟨w.heap.size, 0, none⟩ = some (.int .i64 T.kind) ∧ w'.cell? ⟨w.heap.size, 1, none⟩ = some (.slice an T.names.length cn) ∧ w'.cell? ⟨w.heap.size, 2, none⟩ = some (.slice al T.l.length cl) ∧ w'.cell? ⟨w.heap.size, 3, none⟩ = some (.int .i64 T.r) ∧ w'.cell? ⟨g, o, none⟩ = some (.int .i64 v.n) ∧ w'.cell? ⟨g, o + 1, none⟩ = some (.slice sa v.s.length sc) ∧ w'.cell? ⟨g, o + 2, none⟩ = some (.slice (some ⟨gb, ob, none⟩) v.l.length cv)) := Lib.hid fun w' k' => by
        have hbx : ¬ F w.heap.size := fun e => Nat.lt_irrefl _ (HF.out _ e)
        have hbx1 : ¬ F1 w.heap.size := fun e => by
          rcases hst.out.2.2 _ e with h | h
          · exact hbx h
          · have := HG.out.2.2; omega
        have hs1 := hst.out.2.1.size
        have hh := HG.out
        have A := fun (j : Nat) (u : Value) (q : w0.cell? ⟨w.heap.size, j, none⟩ = some u) => k'.far (i := j) (by omega) hbx1 (hst.out.2.1.far (i := j) hh.2.2 hbx q)
        have B := fun (j : Nat) (u : Value) (q : w0.cell? ⟨g, j, none⟩ = some u) => k'.far (i := j) (by omega) (hP g ⟨hh.1, hh.2.1⟩) (hst.out.2.1.far (i := j) (by omega) hh.1 q)
        have C := HCE.out
        exact ⟨A _ _ C.1, A _ _ C.2.1, A _ _ C.2.2.1, A _ _ C.2.2.2.1, B _ _ C.2.2.2.2.1, B _ _ C.2.2.2.2.2.1, B _ _ C.2.2.2.2.2.2⟩
      generalize plK (k + 1) u = U at HX HWI
      have q0 : Kept (fun _ => False) wr wr.drew := (Kept.refl _ _).drew
      have E0 := Lib.hid (HW.out _ q0.any)
      have HLTI : Hid (i + 1 ≤ v.l.length) := Lib.hid hlt
      have hltI : decide ((i : Int) < (v.l.length : Int)) = true := by simp; omega
      have hlenI : ((i : Int) < (v.l.length : Int)) = True := by simp; omega
      clear hx hu hgb hgl hvx d0 d1 d2 hix htake hsz hP hlt
      go_wp2_with fail
      go_region_held3 (fun w' => w'.cell? ⟨w.heap.size, 0, none⟩ = some (.int .i64 T.kind) ∧ w'.cell? ⟨w.heap.size, 1, none⟩ = some (.slice an T.names.length cn) ∧ w'.cell? ⟨w.heap.size, 2, none⟩ = some (.slice al T.l.length cl) ∧ w'.cell? ⟨w.heap.size, 3, none⟩ = some (.int .i64 T.r) ∧ w'.cell? ⟨g, o, none⟩ = some (.int .i64 v.n) ∧ w'.cell? ⟨g, o + 1, none⟩ = some (.slice sa v.s.length sc) ∧ w'.cell? ⟨g, o + 2, none⟩ = some (.slice (some ⟨gb, ob, none⟩) v.l.length cv))
        (first | exact E0.out | exact HW.out _ q0.any | exact HW.out _ (q0.any.trans k5))
        (first
          | (go_at_call 26
             refine (HX.out _ ap cp aq cq q0 HUP.out).mono ?_
             rintro y w5 ⟨rfl, F2, hs5, k5, hf5⟩)
          | (go_at_call 43
             refine (HWI.out _ q0).mono ?_
             rintro y w4 ⟨ap, cp, aq, cq, rfl, h4, k4⟩
             replace q0 : Kept (fun _ => False) wr w4 := q0.trans k4
             have HUP := Lib.hid h4
             clear h4 k4 E0))
      all_goals go_wp2_with fail
      all_goals have hlt := HLTI.out
      all_goals have KW := q0.any.trans k5
      all_goals have hz := hst.out.2.1.size
      all_goals exact ⟨⟨i + 1, F2, by go_num, HLTI.out, Lib.hid ⟨hs5, hst.out.2.1.then KW (fun j hj e => (hst.out.2.2 j e).resolve_right (by omega)), fun j e => by
        rcases hf5 j e with h | h
        · exact hst.out.2.2 j h
        · exact .inr (Nat.le_trans hz (Nat.le_trans q0.size h))⟩⟩, by simp [intOf]; omega⟩
    · have hie : i = v.l.length := by omega
      subst hie
      have HFU := Lib.hid (show catL (hdsR k) (ts.take v.l.length) (v.l.take v.l.length) = catL (hdsR k) ts v.l by rw [List.take_of_length_le (by have := HLN.out; omega), List.take_of_length_le (Nat.le_refl _)])
      clear hlt
      go_wp2_with fail
      refine bodyPost_void rfl rfl ?_
      have h := hst.out
      rw [HFU.out] at h
      exact TelR.thru HK.out.any (fun g e => .inl e) ⟨rfl, F1, h.1, h.2.1, h.2.2⟩
/-- EACH, of any value of its type. -/
theorem each_all {fid : Nat} {lb : Array Value} {St : (Nat → Prop) → List (Int × Int × Int) → World → Prop} (H : TelAt fid lb St) : ∀ k, EachAt fid lb St k
  | 0 => by
    intro t v hd
    cases hd
  | k + 1 => by
    intro t v hd hp hlt an cn al cl sa sc av cv g o F hs w ht hv hg hgl c0 c1 c2 hst hn
    by_cases h20 : 20 ≤ t.kind
    · obtain ⟨hl, hk⟩ := hand_none hd hp h20
      have e : hdsR (k + 1) t v = [(t.kind, t.r, v.n)] := by
        conv => lhs; unfold hdsR
        rw [if_pos h20]
      have ep : plP t = t := if_neg (by omega)
      have eK : (plK (k + 1 + 1) t).kind = t.kind := by rw [plK_kind, ep]
      have eR : (plK (k + 1 + 1) t).r = t.r := by show (plP t).r = t.r; rw [ep]
      rw [e] at hn ⊢
      rw [← eK, ← eR]
      exact each_hand H _ v hl (by rw [eK]; exact hk) an cn al cl sa sc av cv g o F hs w hg hgl c0 c2 hst (by simp at hn; omega)
    · exact each_go H (each_all H k) t v hd hp hlt h20 an cn al cl sa sc av cv g o F hs w ht hv hg hgl c0 c1 c2 hst hn
end Go.Proofs.YtikgkjkgdlnekaaGreatDoor
