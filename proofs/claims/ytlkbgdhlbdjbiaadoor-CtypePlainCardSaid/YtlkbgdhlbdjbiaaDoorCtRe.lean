/- ctype: the reference's Plain; CtypePlain's walk (merged) -/
import Derived.Test.YtlkbgdhlbdjbiaaDoorCtSi
import Derived.Test.YtlkbgdhlbdjbiaaDoorUtfBits
import Derived.Deep.RegionWith
import Derived.Deep.RegionLaw
import Derived.Deep.AppendLies
import Derived.Test.YtlkbgdhlbdjbiaaDoorCtRb
import Derived.Test.YtlkbgdhlbdjbiaaDoorCtAw
import Derived.Test.YtlkbgdhlbdjbiaaDoorCtCc
import Derived.Test.YtlkbgdhlbdjbiaaDoorCtK
import Derived.Deep.RegionHeld3
/- ctype: the reference's digits. -/
set_option linter.unusedVariables false
set_option linter.unusedSimpArgs false
namespace Go.Proofs.YtlkbgdhlbdjbiaaDoor
open Go.RowKit
open Lex Ct

theorem conv_at (b : Nat) (n : Int) (w : World) (hc : w.cell? ⟨b, 0, none⟩ = some (.int .u8 n)) : (convert 56 9 (.slice (some ⟨b, 0, none⟩) 1 1)).run Tryd.prog w = .ok (.string (strOfNums [n])) w := by
  refine run_convert_bytes_arg _ 56 5 Tryd.underlying56 Tryd.underlying5 b 0 1 1 [n] rfl ?_ 9 Tryd.underlying9
  intro i hi
  obtain rfl : i = 0 := by omega
  exact hc
theorem one_conv_drew' (n : Int) (w : World) : (convert 56 9 (.slice (some ⟨w.heap.size, 0, none⟩) 1 1)).run Tryd.prog (w.alloc (.cells #[.int .u8 n] 5)).drew = .ok (.string (strOfNums [n])) (w.alloc (.cells #[.int .u8 n] 5)).drew :=
  conv_at _ _ _ (World.cell?_alloc_mark w _ _ _ 0)
theorem ref_dig1 (n : Nat) (h10 : n < 10) (w : World) :
    Calls Tryd.prog 26 #[.int .i64 n] w fun e w' => e = .returned (.string (strOfNums [48 + (n : Int)])) ∧ Below w.heap.size w w' := by
  have hb := Below.refl w.heap.size w
  have hcv := one_conv (48 + (n : Int)) w
  go_enter Tryd.func26, Tryd.ntmps26
  go_wp2_with fail
  go_ret
  exact ⟨rfl, hb.alloc (Nat.le_refl _) _⟩
set_option maxRecDepth 100000 in
set_option maxHeartbeats 1000000 in
theorem rdRefDigits (n : Nat) (h64 : n < 64) (w : World) :
    Calls Tryd.prog 26 #[.int .i64 n] w fun e w' => e = .returned (.string (strOfNums (digs n))) ∧ Below w.heap.size w w' := by
  unfold digs
  by_cases h10 : n < 10
  · rw [if_pos h10]
    exact ref_dig1 n h10 w
  rw [if_neg h10]
  obtain ⟨r, hr⟩ : ∃ r, r = n % 10 := ⟨_, rfl⟩
  obtain ⟨q, hq⟩ : ∃ q, q = n / 10 := ⟨_, rfl⟩
  have hr9 : r < 10 := by omega
  have hq10 : q < 10 := by omega
  have e1 : (n : Int).tdiv 10 = (q : Int) := by rw [Int.tdiv_eq_ediv_of_nonneg (by omega), hq]; omega
  have e2 : (n : Int).tmod 10 = (r : Int) := by rw [Int.tmod_eq_emod_of_nonneg (by omega), hr]; omega
  rw [← hr, ← hq]
  obtain ⟨D, hD⟩ : ∃ D, D = strOfNums [48 + (q : Int)] := ⟨_, rfl⟩
  have hi := fun w => ref_dig1 q hq10 w
  have hfin : strOfNums [48 + (q : Int), 48 + (r : Int)] = D ++ strOfNums [48 + (r : Int)] := by rw [hD, strOfNums_app]; rfl
  have hDs : D.size ≤ 4 := by rw [hD, strOfNums_size]; simp
  have hS1 : (strOfNums [48 + (r : Int)]).size = 1 := strOfNums_size _
  rw [← hD] at hi
  rw [hfin]
  have IH := Lib.hid hi
  have hn10 : 10 ≤ n := by omega
  have hb := Below.refl w.heap.size w
  clear hi hfin hD hq hr h10
  have hcv := one_conv_drew' (48 + (r : Int)) w
  have hwq : IntKind.i64.wrap (q : Int) = (q : Int) := by rw [IntKind.wrap_i64]; omega
  have hwr : IntKind.i64.wrap (r : Int) = (r : Int) := by rw [IntKind.wrap_i64]; omega
  have hws : IntKind.i64.wrap (48 + (r : Int)) = 48 + (r : Int) := by rw [IntKind.wrap_i64]; omega
  have hwu : IntKind.u8.wrap (48 + (r : Int)) = 48 + (r : Int) := by simp [IntKind.wrap, IntKind.signed, IntKind.bits]; omega
  go_enter Tryd.func26, Tryd.ntmps26
  go_wp2_with fail
  have HPRE : Hid (∀ w2, Below (w.alloc (.cells #[.int .u8 (48 + (r : Int))] 5)).drew.heap.size (w.alloc (.cells #[.int .u8 (48 + (r : Int))] 5)).drew w2 → w2.cell? ⟨w.heap.size, 0, none⟩ = some (.int .u8 (48 + (r : Int)))) :=
    Lib.hid fun w2 k => (k.cell (p := ⟨w.heap.size, 0, none⟩) (by simp)).trans (World.cell?_alloc_mark w _ _ _ 0)
  go_region_with (first
    | (go_at_call 26; refine (IH.out w.drew).mono ?_; rintro e w2 ⟨rfl, k2⟩; have hb2 := hb.drew.trans k2; have hb3 := hb2.alloc hb2.size (.cells #[.int .u8 (48 + (r : Int))] 5); have hcv2 := one_conv (48 + (r : Int)) w2)
    | (go_at_call 26; refine (IH.out (w.alloc (.cells #[.int .u8 (48 + (r : Int))] 5)).drew).mono ?_; rintro e w2 ⟨rfl, k2⟩; have hb2 := ((hb.alloc (Nat.le_refl _) (.cells #[.int .u8 (48 + (r : Int))] 5)).drew).trans (k2.mono (show w.heap.size ≤ (w.alloc (.cells #[.int .u8 (48 + (r : Int))] 5)).drew.heap.size by simp)); have hcv3 := conv_at w.heap.size (48 + (r : Int)) w2 (HPRE.out w2 k2)))
  all_goals go_wp2
  all_goals go_ret
  all_goals first | exact ⟨rfl, hb2⟩ | exact ⟨rfl, hb2.alloc hb2.size _⟩ | exact ⟨rfl, hb3⟩
end Go.Proofs.YtlkbgdhlbdjbiaaDoor

/- ctype: the reference's Plain: what is itself; a result. -/
set_option linter.unusedVariables false
set_option linter.unusedSimpArgs false
namespace Go.Proofs.YtlkbgdhlbdjbiaaDoor
open Go.RowKit
open Lex Ct

set_option maxRecDepth 100000 in
set_option maxHeartbeats 4000000 in
theorem rp_same (t : Ty) (an : Option Addr) (cn : Nat) (al : Option Addr) (cl : Nat) (w : World) (h : TyAt w t an cn al cl) (b14 : (t.kind == 14) = false) (b16 : (t.kind == 16) = false) (b17 : (t.kind == 17) = false) (b18 : (t.kind == 18) = false) :
    Calls Tryd.prog 9 #[tyV t an cn al cl] w (PlainR t w) := by
  have HL := Lib.hid h
  clear h
  unfold PlainR
  go_enter Tryd.func9, Tryd.ntmps9
  go_wp2_with fail
  exact bodyPost_ret (v := tyV t an cn al cl) (by simp [results, Tryd.results9, go_sem]) rfl ⟨_, _, _, _, rfl, HL.out.kept ((((Kept.refl _ _).new _).new _).new _), (((Kept.refl _ _).new _).new _).new _⟩
set_option maxRecDepth 100000 in
set_option maxHeartbeats 4000000 in
theorem rp_18 (n : List Nm) (l : List Ty) (r : Int) (an : Option Addr) (cn : Nat) (al : Option Addr) (cl : Nat) (w : World) (h : TyAt w (.mk 18 n l r) an cn al cl) :
    Calls Tryd.prog 9 #[.agg #[.int .i64 18, .slice an n.length cn, .slice al l.length cl, .int .i64 r]] w (PlainR (.mk 15 [nmOk, nmError] l 0) w) := by
  have HL := Lib.hid h.l
  clear h
  go_enter Tryd.func9, Tryd.ntmps9
  go_wp2_with fail
  have kk : Kept (fun _ => False) w _ := ((((Kept.refl _ w).new (.cells #[.int .i64 18, .slice an n.length cn, .slice al l.length cl, .int .i64 r] 25)).new (.cells #[.int .i64 15, .slice (some ⟨w.heap.size + 1 + 1 + 1, 0, none⟩) 2 2, .slice al l.length cl, .int .i64 0] 25)).new (.cells #[.int .i64 15, .slice (some ⟨w.heap.size + 1 + 1 + 1, 0, none⟩) 2 2, .slice al l.length cl, .int .i64 0] 25)).new (.cells #[.string ⟨#[111, 107]⟩, .string ⟨#[101, 114, 114, 111, 114]⟩] 9)
  have hS := BlkAt.new (((w.alloc (.cells #[.int .i64 18, .slice an n.length cn, .slice al l.length cl, .int .i64 r] 25)).alloc (.cells #[.int .i64 15, .slice (some ⟨w.heap.size + 1 + 1 + 1, 0, none⟩) 2 2, .slice al l.length cl, .int .i64 0] 25)).alloc (.cells #[.int .i64 15, .slice (some ⟨w.heap.size + 1 + 1 + 1, 0, none⟩) 2 2, .slice al l.length cl, .int .i64 0] 25)) #[.string ⟨#[111, 107]⟩, .string ⟨#[101, 114, 114, 111, 114]⟩] 9
  rw [World.size_alloc, World.size_alloc, World.size_alloc] at hS
  refine bodyPost_ret (v := .agg #[.int .i64 15, .slice (some ⟨w.heap.size + 1 + 1 + 1, 0, none⟩) 2 2, .slice al l.length cl, .int .i64 0]) (by simp [results, Tryd.results9, go_sem]) rfl ⟨_, _, _, _, rfl, ⟨?_, HL.out.kept kk⟩, kk⟩
  exact liesU_blk (us := [U.s nmOk, U.s nmError]) hS (Nat.le_refl _) (by omega) rfl (.cons (liesU_s nmOk) (.cons (liesU_s nmError) .nil))
end Go.Proofs.YtlkbgdhlbdjbiaaDoor

/- ctype: the reference's Plain: a tuple. -/
set_option linter.unusedVariables false
set_option linter.unusedSimpArgs false
namespace Go.Proofs.YtlkbgdhlbdjbiaaDoor
open Go.RowKit
open Lex Ct

/-- The names' values. -/
def nmV (i : Nat) : List Value := ((List.range i).map digs).map fun d => .string (strOfNums d)
theorem nmV_succ (i : Nat) : nmV (i + 1) = nmV i ++ [.string (strOfNums (digs i))] := by
  unfold nmV
  rw [List.range_succ, List.map_append, List.map_append]
  rfl
theorem nmV_lies (w : World) (d : List Nm) : LiesL AnyB w (d.map .s) (d.map fun d => .string (strOfNums d)) := by
  induction d with
  | nil => exact rfl
  | cons a r ih => exact LiesL.cons (liesU_s a) ih
theorem own_lt {T : TypeId} {m B : Nat} {v : Value} {n : Nat} {vs : List Value} {w : World} (h : w.ownsRow B T m v n vs) : ∀ k, v.ownBlock = some k → B ≤ k ∧ k < w.heap.size := fun k hk => World.ownsRow.lt h k hk
theorem own_slice {T : TypeId} {m B : Nat} {v : Value} {n : Nat} {vs : List Value} {w : World} (h : w.ownsRow B T m v n vs) : ∃ a c, v = .slice a n c := by
  rcases h.2 with ⟨hv, h0⟩ | ⟨g, cap, cur, hv, _⟩
  · exact ⟨none, 0, by rw [hv, h0]⟩
  · exact ⟨_, cap, hv⟩
theorem own_lies {T : TypeId} {m B : Nat} {v : Value} {n : Nat} {vs : List Value} {w : World} {us : List U} (h : w.ownsRow B T m v n vs) (hl : LiesL AnyB w us vs) : LiesU AnyB w (.sl T m n us) v :=
  OwnU.lies (B := B) (P := AnyB) (x := .sl T m n us) ⟨vs, h, hl⟩ (fun _ _ => trivial) (fun _ _ => trivial)
/-- What is told of a value that is laid into the result's box. -/
theorem plainR_of {t : Ty} {w wr : World} {a1 : Option Addr} {c1 : Nat} {a2 : Option Addr} {c2 : Nat} {vs2 : List Value} {B : Nat} (hk : Kept (fun _ => False) w wr) {b : Nat} (hb : w.heap.size ≤ b)
    (hn : ∀ w', Kept (· = b) wr w' → Kept (fun _ => False) w w' → LiesU AnyB w' (strsU t.names) (.slice a1 t.names.length c1)) (h2 : wr.ownsRow B 25 4 (.slice a2 t.l.length c2) t.l.length vs2) (hl2 : LiesL AnyB w (encTys t.l) vs2) (hBb : b < B) (hbw : b < wr.heap.size) (v0 v1 v2 v3 : Value) :
    PlainR t w (.returned (tyV t a1 c1 a2 c2)) ((((wr.setCell ⟨b, 0, none⟩ v0).setCell ⟨b, 1, none⟩ v1).setCell ⟨b, 2, none⟩ v2).setCell ⟨b, 3, none⟩ v3) := by
  have ks : Kept (· = b) wr ((((wr.setCell ⟨b, 0, none⟩ v0).setCell ⟨b, 1, none⟩ v1).setCell ⟨b, 2, none⟩ v2).setCell ⟨b, 3, none⟩ v3) :=
    ((((Kept.refl (· = b) wr).set (p := ⟨b, 0, none⟩) rfl v0).set (p := ⟨b, 1, none⟩) rfl v1).set (p := ⟨b, 2, none⟩) rfl v2).set (p := ⟨b, 3, none⟩) rfl v3
  have kk : Kept (fun _ => False) w ((((wr.setCell ⟨b, 0, none⟩ v0).setCell ⟨b, 1, none⟩ v1).setCell ⟨b, 2, none⟩ v2).setCell ⟨b, 3, none⟩ v3) := ((hk.any (F := (w.heap.size ≤ ·))).trans (ks.mono fun i e => by show w.heap.size ≤ i; omega)).clear (fun i hi e => by have e : w.heap.size ≤ i := e; omega)
  have o2 := ownsRow_kept h2 ks fun k hk e => by have := own_lt h2 k hk; omega
  refine ⟨a1, c1, a2, c2, rfl, ⟨hn _ ks kk, own_lies o2 (hl2.kept kk)⟩, kk⟩
theorem news1 (w : World) (T : TypeId) (v : Value) : ∀ j u, [v][j]? = some u → (w.alloc (.cells #[v] T)).cell? ((⟨w.heap.size, 0, none⟩ : Addr).add j) = some u := World.news_of_block (BlkAt.new w #[v] T)
/-- A tuple's fields so far: its names, its types. -/
structure TupAt (w wr : World) (n : List Nm) (l : List Ty) (r : Int) (an : Option Addr) (cn : Nat) (al : Option Addr) (cl : Nat) (i j : Nat) (nv tv : Value) : Prop where
  kept : Kept (fun _ => False) w wr
  t : BlkAt wr w.heap.size #[.int .i64 14, .slice an n.length cn, .slice al l.length cl, .int .i64 r] 25
  res : BlkAt wr (w.heap.size + 1) #[.int .i64 0, .slice none 0 0, .slice none 0 0, .int .i64 0] 25
  x : BlkAt wr (w.heap.size + 1 + 1) #[.int .i64 13, nv, tv, .int .i64 0] 25
  nrow : wr.ownsRow (w.heap.size + 1 + 1 + 1) 9 1 nv i (nmV i)
  trow : ∃ vs, wr.ownsRow (w.heap.size + 1 + 1 + 1) 25 4 tv j vs ∧ LiesL AnyB w (encTys (l.take j)) vs
  apart : ∀ k, nv.ownBlock = some k → tv.ownBlock ≠ some k
theorem TupAt.names {w wr : World} {n : List Nm} {l : List Ty} {r : Int} {an : Option Addr} {cn : Nat} {al : Option Addr} {cl : Nat} {i j : Nat} {nv tv : Value} (h : TupAt w wr n l r an cn al cl i j nv tv) {w2 w5 : World} (k : Kept (fun _ => False) wr w2) (hg : w2.grownBy w5 nv.ownBlock) {g cap H : Nat}
    (ho : w5.ownsRow (w.heap.size + 1 + 1 + 1) 9 1 (.slice (some ⟨g, 0, none⟩) (i + 1) cap) (i + 1) (nmV i ++ [.string (strOfNums (digs i))])) (hat : nv.ownBlock = some g ∨ g = H) (hH : w2.heap.size = H) :
    BlkAt w5 (w.heap.size + 1 + 1) #[.int .i64 13, nv, tv, .int .i64 0] 25 ∧ TupAt w (w5.setCell ⟨w.heap.size + 1 + 1, 1, none⟩ (.slice (some ⟨g, 0, none⟩) (i + 1) cap)) n l r an cn al cl (i + 1) j (.slice (some ⟨g, 0, none⟩) (i + 1) cap) tv := by
  have hn := own_lt h.nrow
  obtain ⟨vs, hv, hl⟩ := h.trow
  have ht := own_lt hv
  have kg := Kept.grow hg
  have hgg := own_lt ho g rfl
  have hsz := k.size
  have x5 : BlkAt w5 (w.heap.size + 1 + 1) #[.int .i64 13, nv, tv, .int .i64 0] 25 := (h.x.kept k id).kept kg fun e => by have := hn _ e.symm; omega
  have ks : Kept (· = w.heap.size + 1 + 1) w5 (w5.setCell ⟨w.heap.size + 1 + 1, 1, none⟩ (.slice (some ⟨g, 0, none⟩) (i + 1) cap)) := (Kept.refl (· = w.heap.size + 1 + 1) w5).set (p := ⟨w.heap.size + 1 + 1, 1, none⟩) rfl _
  refine ⟨x5, ?_, ?_, ?_, ?_, ?_, ⟨vs, ?_, hl⟩, ?_⟩
  · exact ((((h.kept.trans k).any (F := (w.heap.size ≤ ·))).trans (kg.mono fun b e => by have := hn b e.symm; show w.heap.size ≤ b; omega)).trans (ks.mono fun b e => by show w.heap.size ≤ b; omega)).clear (fun b hb e => by have e : w.heap.size ≤ b := e; omega)
  · exact (((h.t.kept k id).kept kg fun e => by have := hn _ e.symm; omega).kept ks (by omega))
  · exact (((h.res.kept k id).kept kg fun e => by have := hn _ e.symm; omega).kept ks (by omega))
  · exact x5.put 1 _
  · rw [nmV_succ]
    exact ownsRow_kept ho ks fun b hb e => by have := own_lt ho b hb; omega
  · exact ownsRow_kept (ownsRow_kept (ownsRow_kept hv k fun _ _ e => e) kg fun b hb e => h.apart b e.symm hb) ks fun b hb e => by have := ht b hb; omega
  · intro b hb hb'
    have e : g = b := by simpa [Value.ownBlock] using hb
    subst e
    rcases hat with q | q
    · exact h.apart _ q hb'
    · have := ht _ hb'; omega
theorem TupAt.types {w wr : World} {n : List Nm} {l : List Ty} {r : Int} {an : Option Addr} {cn : Nat} {al : Option Addr} {cl : Nat} {i j : Nat} {nv tv : Value} (h : TupAt w wr n l r an cn al cl i j nv tv) {vs : List Value} (hl : LiesL AnyB w (encTys (l.take j)) vs) {y : Ty} (hy : l[j]? = some y) {ys : List Value} (hys : LiesL AnyB w (encTy y) ys)
    {w2 w5 : World} (k : Kept (fun _ => False) wr w2) (hg : w2.grownBy w5 tv.ownBlock) {g cap H : Nat}
    (ho : w5.ownsRow (w.heap.size + 1 + 1 + 1) 25 4 (.slice (some ⟨g, 0, none⟩) (j + 1) cap) (j + 1) (vs ++ ys)) (hat : tv.ownBlock = some g ∨ g = H) (hH : w2.heap.size = H) :
    BlkAt w5 (w.heap.size + 1 + 1) #[.int .i64 13, nv, tv, .int .i64 0] 25 ∧ TupAt w (w5.setCell ⟨w.heap.size + 1 + 1, 2, none⟩ (.slice (some ⟨g, 0, none⟩) (j + 1) cap)) n l r an cn al cl i (j + 1) nv (.slice (some ⟨g, 0, none⟩) (j + 1) cap) := by
  have hn := own_lt h.nrow
  have ht : ∀ k, tv.ownBlock = some k → w.heap.size + 1 + 1 + 1 ≤ k ∧ k < wr.heap.size := by
    obtain ⟨vs, hv, _⟩ := h.trow
    exact own_lt hv
  have kg := Kept.grow hg
  have hgg := own_lt ho g rfl
  have hsz := k.size
  have x5 : BlkAt w5 (w.heap.size + 1 + 1) #[.int .i64 13, nv, tv, .int .i64 0] 25 := (h.x.kept k id).kept kg fun e => by have := ht _ e.symm; omega
  have ks : Kept (· = w.heap.size + 1 + 1) w5 (w5.setCell ⟨w.heap.size + 1 + 1, 2, none⟩ (.slice (some ⟨g, 0, none⟩) (j + 1) cap)) := (Kept.refl (· = w.heap.size + 1 + 1) w5).set (p := ⟨w.heap.size + 1 + 1, 2, none⟩) rfl _
  refine ⟨x5, ?_, ?_, ?_, ?_, ?_, ⟨vs ++ ys, ?_, ?_⟩, ?_⟩
  · exact ((((h.kept.trans k).any (F := (w.heap.size ≤ ·))).trans (kg.mono fun b e => by have := ht b e.symm; show w.heap.size ≤ b; omega)).trans (ks.mono fun b e => by show w.heap.size ≤ b; omega)).clear (fun b hb e => by have e : w.heap.size ≤ b := e; omega)
  · exact (((h.t.kept k id).kept kg fun e => by have := ht _ e.symm; omega).kept ks (by omega))
  · exact (((h.res.kept k id).kept kg fun e => by have := ht _ e.symm; omega).kept ks (by omega))
  · exact x5.put 2 _
  · exact ownsRow_kept (ownsRow_kept (ownsRow_kept h.nrow k fun _ _ e => e) kg fun b hb e => h.apart b hb e.symm) ks fun b hb e => by have := hn b hb; omega
  · exact ownsRow_kept ho ks fun b hb e => by have := own_lt ho b hb; omega
  · rw [List.take_add_one, hy, encTys_append]
    exact hl.append (by rw [show encTys (Option.toList (some y)) = encTy y ++ [] from rfl, List.append_nil]; exact hys)
  · intro b hb hb'
    have e : g = b := by simpa [Value.ownBlock] using hb'
    subst e
    rcases hat with q | q
    · exact h.apart _ hb q
    · have := hn _ hb; omega
theorem tup_start (w : World) (n : List Nm) (l : List Ty) (r : Int) (an : Option Addr) (cn : Nat) (al : Option Addr) (cl : Nat) :
    TupAt w (((w.alloc (.cells #[.int .i64 14, .slice an n.length cn, .slice al l.length cl, .int .i64 r] 25)).alloc (.cells #[.int .i64 0, .slice none 0 0, .slice none 0 0, .int .i64 0] 25)).alloc (.cells #[.int .i64 13, .slice none 0 0, .slice none 0 0, .int .i64 0] 25)) n l r an cn al cl 0 0 (.slice none 0 0) (.slice none 0 0) := by
  have h1 := BlkAt.new w #[.int .i64 14, .slice an n.length cn, .slice al l.length cl, .int .i64 r] 25
  have h2 := BlkAt.new (w.alloc (.cells #[.int .i64 14, .slice an n.length cn, .slice al l.length cl, .int .i64 r] 25)) #[.int .i64 0, .slice none 0 0, .slice none 0 0, .int .i64 0] 25
  have h3 := BlkAt.new ((w.alloc (.cells #[.int .i64 14, .slice an n.length cn, .slice al l.length cl, .int .i64 r] 25)).alloc (.cells #[.int .i64 0, .slice none 0 0, .slice none 0 0, .int .i64 0] 25)) #[.int .i64 13, .slice none 0 0, .slice none 0 0, .int .i64 0] 25
  rw [World.size_alloc] at h2
  rw [World.size_alloc, World.size_alloc] at h3
  refine ⟨(((Kept.refl _ _).new _).new _).new _, h1.kept (F := fun _ => False) (((Kept.refl _ _).new _).new _) id, h2.kept (F := fun _ => False) ((Kept.refl _ _).new _) id, h3, ⟨rfl, .inl ⟨rfl, rfl⟩⟩, ⟨[], ⟨rfl, .inl ⟨rfl, rfl⟩⟩, by rw [List.take_zero]; exact rfl⟩, ?_⟩
  intro k hk
  exact absurd hk (by simp [Value.ownBlock])
set_option maxRecDepth 100000 in
set_option maxHeartbeats 8000000 in
theorem rp_14 (n : List Nm) (l : List Ty) (r : Int) (an : Option Addr) (cn : Nat) (al : Option Addr) (cl : Nat) (w : World) (h : TyAt w (.mk 14 n l r) an cn al cl) (hn : l.length ≤ 64) :
    Calls Tryd.prog 9 #[.agg #[.int .i64 14, .slice an n.length cn, .slice al l.length cl, .int .i64 r]] w (PlainR (.mk 13 ((List.range l.length).map digs) l 0) w) := by
  have HL := Lib.hid h.row
  clear h
  obtain ⟨i0, hi0, hz0, hz1, hz2⟩ := info_text
  obtain ⟨i1, hi1, hy0, hy1, hy2⟩ := info_ty
  have HA := Lib.hid (And.intro hi0 (And.intro hz0 (And.intro hz1 hz2)))
  have HB := Lib.hid (And.intro hi1 (And.intro hy0 (And.intro hy1 hy2)))
  clear hi0 hz0 hz1 hz2 hi1 hy0 hy1 hy2
  go_enter Tryd.func9, Tryd.ntmps9
  go_wp2_with fail
  go_loopw [4] (fun u wr => ∃ (i : Nat) (nv tv : Value), u = .int .i64 i ∧ i ≤ l.length ∧ Hid (TupAt w wr n l r an cn al cl i i nv tv)) (fun u _ => l.length - (intOf u).toNat)
  case atStart => exact ⟨0, .slice none 0 0, .slice none 0 0, rfl, Nat.zero_le _, Lib.hid (tup_start w n l r an cn al cl)⟩
  case round =>
    obtain ⟨i, nv, tv, rfl, hi, hst⟩ := hrel
    have b0 := hst.out.t.cell 0
    have b1 := hst.out.t.cell 1
    have b2 := hst.out.t.cell 2
    have b3 := hst.out.t.cell 3
    have x0 := hst.out.x.cell 0
    have x1 := hst.out.x.cell 1
    have x2 := hst.out.x.cell 2
    have x3 := hst.out.x.cell 3
    have y1 := hst.out.x.frozen 1
    have y2 := hst.out.x.frozen 2
    simp at b0 b1 b2 b3 x0 x1 x2 x3
    by_cases hlt : i < l.length
    · obtain ⟨y, hy⟩ : ∃ y, l[i]? = some y := ⟨_, List.getElem?_eq_getElem hlt⟩
      obtain ⟨g', o, ax, cx, ay, cy, rfl, hgl, htx, c0, c1, c2, c3⟩ := HL.out.at hy
      have HC := Lib.hid (And.intro htx (And.intro c0 (And.intro c1 (And.intro c2 c3))))
      clear hgl htx c0 c1 c2 c3
      have HD := Lib.hid (fun w' => rdRefDigits i (by omega) w')
      have q0 : Kept (fun _ => False) wr wr.drew := (Kept.refl _ _).drew
      have q3 : i + 1 ≤ maxLen := by unfold maxLen; omega
      have q4 : (i + 1) * 16 ≤ 140737488355328 := by omega
      have q5 : (i + 1) * 64 ≤ 140737488355328 := by omega
      have hBw : w.heap.size + 1 + 1 + 1 ≤ wr.heap.size := hst.out.x.lt
      have HQ := Lib.hid (And.intro q3 (And.intro q4 (And.intro q5 hBw)))
      clear q3 q4 q5 hBw
      go_wp2_with fail
      go_region_law (first
        | (go_simp; go_at_call 26; refine (HD.out _).mono ?_; rintro e w2 ⟨rfl, k2⟩
           have q2 := q0.trans (Kept.of_below k2)
           have HQ2 := Lib.hid q2
           have z1 := (hst.out.x.kept (F := fun _ => False) q2 id).cell 1
           have z2 := (hst.out.x.kept (F := fun _ => False) q2 id).frozen 1
           simp at z1
           have z3 := cell_box z1 (.cells #[.string (strOfNums (digs i))] 9)
           clear q2 k2)
        | (refine step_append_lies _ (by rfl) _ _ 22 (by rfl) (w.heap.size + 1 + 1 + 1) 9 i0 (.string ByteArray.empty) 1 16 Tryd.underlying22 HA.out.1 HA.out.2.1 HA.out.2.2.1 HA.out.2.2.2 rfl (by decide) nv i (nmV i) (by rfl) (World.ownsRow.alloc (ownsRow_kept hst.out.nrow HQ2.out (fun _ _ e => e)) _) ⟨w2.heap.size, 0, none⟩ 1 1 [.string (strOfNums (digs i))] (by rfl) (by rfl) (news1 _ _ _) (by simp [Value.oneCell']) (by decide) HQ.out.1 HQ.out.2.1 (le_alloc (Nat.le_trans HQ.out.2.2.2 HQ2.out.size)) (w2.heap.size + 1) (World.size_alloc _ _) ?_
           intro g cap w5 hown5 hgrow hat hlt5
           have M := hst.out.names (HQ2.out.new _) hgrow hown5 hat (World.size_alloc _ _)
           have m1 := M.1.cell 1
           have m2 := M.1.frozen 1
           simp at m1
           have HM := Lib.hid M.2
           clear M hown5 hgrow hat hlt5))
      all_goals
        try clear m1
        try clear m2
        try clear z1
        try clear z2
        try clear z3
        try clear HQ2
        clear b0 b1 b2 b3 x0 x1 x2 x3 y1 y2 hst q0
        revert HM
        generalize w5.setCell ⟨w.heap.size + 1 + 1, 1, none⟩ (.slice (some ⟨g, 0, none⟩) (i + 1) cap) = W6
        intro HM
        obtain ⟨vs, hvs, hlv⟩ := HM.out.trow
        have HV := Lib.hid (And.intro hvs hlv)
        have b0 := HM.out.t.cell 0
        have b2 := HM.out.t.cell 2
        have x2 := HM.out.x.cell 2
        have y2 := HM.out.x.frozen 2
        simp at b0 b2 x2
        have kc := HM.out.kept
        have c0 := (kc.cell1 (World.block_lt_of_cell? w _ HC.out.2.1)).trans HC.out.2.1
        have c1 := (kc.cell1 (World.block_lt_of_cell? w _ HC.out.2.2.1)).trans HC.out.2.2.1
        have c2 := (kc.cell1 (World.block_lt_of_cell? w _ HC.out.2.2.2.1)).trans HC.out.2.2.2.1
        have c3 := (kc.cell1 (World.block_lt_of_cell? w _ HC.out.2.2.2.2)).trans HC.out.2.2.2.2
        have d2 : W6.drew.cell? ⟨w.heap.size + 1 + 1, 2, none⟩ = some tv := x2
        have d3 := cell_box d2 (.cells #[.int .i64 y.kind, .slice ax y.names.length cx, .slice ay y.l.length cy, .int .i64 y.r] 25)
        have d4 : (W6.alloc (.cells #[.int .i64 y.kind, .slice ax y.names.length cx, .slice ay y.l.length cy, .int .i64 y.r] 25)).drew.cell? ⟨w.heap.size + 1 + 1, 2, none⟩ = some tv := d3
        have hsz6 : w.heap.size + 1 + 1 + 1 ≤ W6.heap.size := HM.out.x.lt
        clear hvs hlv kc d2
        go_wp2_with fail
        go_region_law (
          (refine step_append_lies _ (by rfl) _ _ 23 (by rfl) (w.heap.size + 1 + 1 + 1) 25 i1 (.agg #[.int .i64 0, .slice none 0 0, .slice none 0 0, .int .i64 0]) 4 64 Tryd.underlying23 HB.out.1 HB.out.2.1 HB.out.2.2.1 HB.out.2.2.2 rfl (by decide) tv i vs (by rfl) (ownsRow_kept HV.out.1 (by first | exact ((Kept.refl (fun _ => False) W6).new _).drew | exact ((Kept.refl (fun _ => False) W6).drew).new _) (fun _ _ e => e)) ⟨W6.heap.size, 0, none⟩ 1 1 [.int .i64 y.kind, .slice ax y.names.length cx, .slice ay y.l.length cy, .int .i64 y.r] (by rfl) (by rfl) (World.news_of_block (cs := #[.int .i64 y.kind, .slice ax y.names.length cx, .slice ay y.l.length cy, .int .i64 y.r]) (BlkAt.new W6 #[.int .i64 y.kind, .slice ax y.names.length cx, .slice ay y.l.length cy, .int .i64 y.r] 25)) (by simp [Value.oneCell']) (by decide) HQ.out.1 HQ.out.2.2.1 (le_alloc hsz6) (W6.heap.size + 1) (World.size_alloc _ _) ?_
           intro g7 cap7 w7 hown7 hgrow7 hat7 hlt7
           have M := HM.out.types HV.out.2 hy (ty_lies HC.out.1.n HC.out.1.l) (by first | exact ((Kept.refl (fun _ => False) W6).new _).drew | exact ((Kept.refl (fun _ => False) W6).drew).new _) hgrow7 hown7 hat7 (World.size_alloc _ _)
           have m1 := M.1.cell 2
           have m2 := M.1.frozen 2
           simp at m1
           have HM7 := Lib.hid M.2
           clear M hown7 hgrow7 hat7 hlt7))
        all_goals
          clear b0 b2 x2 y2 c0 c1 c2 c3 d3 d4 m1 m2 HC HV HM HQ
          revert HM7
          generalize w7.setCell ⟨w.heap.size + 1 + 1, 2, none⟩ (.slice (some ⟨g7, 0, none⟩) (i + 1) cap7) = W7
          intro HM7
          have hw : IntKind.i64.wrap ((i : Int) + 1) = ((i + 1 : Nat) : Int) := by rw [IntKind.wrap_i64]; omega
          go_wp2_with fail
          exact ⟨⟨i + 1, _, _, by first | rw [hw] | rfl, hlt, HM7⟩, by simp [intOf]; omega⟩
    · have he : i = l.length := by omega
      subst he
      obtain ⟨a1, c1, rfl⟩ := own_slice hst.out.nrow
      obtain ⟨vs2, hv2, hl2⟩ := hst.out.trow
      obtain ⟨a2, c2, rfl⟩ := own_slice hv2
      have HV := Lib.hid (And.intro hv2 hl2)
      have r0 := hst.out.res.cell 0
      have r1 := hst.out.res.cell 1
      have r2 := hst.out.res.cell 2
      have r3 := hst.out.res.cell 3
      have s0 := hst.out.res.frozen 0
      have s1 := hst.out.res.frozen 1
      have s2 := hst.out.res.frozen 2
      have s3 := hst.out.res.frozen 3
      simp at r0 r1 r2 r3
      clear hv2 hl2
      go_wp2_with fail
      have G := (((hst.out.res.put 0 (.int .i64 13)).put 1 (.slice a1 l.length c1)).put 2 (.slice a2 l.length c2)).put 3 (.int .i64 0)
      have u0 := G.cell 0
      have u1 := G.cell 1
      have u2 := G.cell 2
      have u3 := G.cell 3
      simp at u0 u1 u2 u3
      have hl : ((List.range l.length).map digs).length = l.length := by simp
      have hR := plainR_of (t := .mk 13 ((List.range l.length).map digs) l 0) (a1 := a1) (c1 := c1) (a2 := a2) (c2 := c2) hst.out.kept (b := w.heap.size + 1) (Nat.le_succ _)
        (fun w' k _ => by
          show LiesU AnyB w' (.sl 9 1 ((List.range l.length).map digs).length (((List.range l.length).map digs).map .s)) (.slice a1 ((List.range l.length).map digs).length c1)
          rw [hl]
          exact own_lies (ownsRow_kept hst.out.nrow k fun q hq e => by have := own_lt hst.out.nrow q hq; omega) (nmV_lies w' _))
        HV.out.1 (by have := HV.out.2; rwa [List.take_length] at this) (by omega) hst.out.res.lt (.int .i64 13) (.slice a1 l.length c1) (.slice a2 l.length c2) (.int .i64 0)
      refine bodyPost_ret (v := .agg #[.int .i64 13, .slice a1 l.length c1, .slice a2 l.length c2, .int .i64 0]) (by simp [results, Tryd.results9, go_sem, u0, u1, u2, u3]) rfl ?_
      have e : tyV (.mk 13 ((List.range l.length).map digs) l 0) a1 c1 a2 c2 = .agg #[.int .i64 13, .slice a1 l.length c1, .slice a2 l.length c2, .int .i64 0] := by
        show Value.agg #[.int .i64 13, .slice a1 ((List.range l.length).map digs).length c1, .slice a2 l.length c2, .int .i64 0] = _
        rw [hl]
      rw [e] at hR
      exact hR
end Go.Proofs.YtlkbgdhlbdjbiaaDoor

/- ctype: the reference's Plain: an enum, an option. -/
set_option linter.unusedVariables false
set_option linter.unusedSimpArgs false
namespace Go.Proofs.YtlkbgdhlbdjbiaaDoor
open Go.RowKit
open Lex Ct

/-- What is in the making: a box of its own, whose types grow. -/
structure GroAt (w wr : World) (ct : Array Value) (k : Int) (nv tv : Value) (ts : List Ty) : Prop where
  kept : Kept (fun _ => False) w wr
  t : BlkAt wr w.heap.size ct 25
  res : BlkAt wr (w.heap.size + 1) #[.int .i64 0, .slice none 0 0, .slice none 0 0, .int .i64 0] 25
  x : BlkAt wr (w.heap.size + 1 + 1) #[.int .i64 k, nv, tv, .int .i64 0] 25
  trow : ∃ vs, wr.ownsRow (w.heap.size + 1 + 1 + 1) 25 4 tv ts.length vs ∧ LiesL AnyB w (encTys ts) vs
theorem GroAt.types {w wr : World} {ct : Array Value} {k : Int} {nv tv : Value} {ts : List Ty} (h : GroAt w wr ct k nv tv ts) {vs : List Value} (hl : LiesL AnyB w (encTys ts) vs) {y : Ty} {ys : List Value} (hys : LiesL AnyB w (encTy y) ys)
    {w2 w5 : World} (kk : Kept (fun _ => False) wr w2) (hg : w2.grownBy w5 tv.ownBlock) {g cap : Nat}
    (ho : w5.ownsRow (w.heap.size + 1 + 1 + 1) 25 4 (.slice (some ⟨g, 0, none⟩) (ts.length + 1) cap) (ts.length + 1) (vs ++ ys)) :
    BlkAt w5 (w.heap.size + 1 + 1) #[.int .i64 k, nv, tv, .int .i64 0] 25 ∧ GroAt w (w5.setCell ⟨w.heap.size + 1 + 1, 2, none⟩ (.slice (some ⟨g, 0, none⟩) (ts.length + 1) cap)) ct k nv (.slice (some ⟨g, 0, none⟩) (ts.length + 1) cap) (ts ++ [y]) ∧ Kept (w.heap.size + 1 + 1 ≤ ·) wr w5 := by
  have ht : ∀ k, tv.ownBlock = some k → w.heap.size + 1 + 1 + 1 ≤ k ∧ k < wr.heap.size := by
    obtain ⟨vs, hv, _⟩ := h.trow
    exact own_lt hv
  have kg := Kept.grow hg
  have hgg := own_lt ho g rfl
  have hsz := kk.size
  have x5 : BlkAt w5 (w.heap.size + 1 + 1) #[.int .i64 k, nv, tv, .int .i64 0] 25 := (h.x.kept kk id).kept kg fun e => by have := ht _ e.symm; omega
  have ks : Kept (· = w.heap.size + 1 + 1) w5 (w5.setCell ⟨w.heap.size + 1 + 1, 2, none⟩ (.slice (some ⟨g, 0, none⟩) (ts.length + 1) cap)) := (Kept.refl (· = w.heap.size + 1 + 1) w5).set (p := ⟨w.heap.size + 1 + 1, 2, none⟩) rfl _
  have kw : Kept (w.heap.size + 1 + 1 ≤ ·) wr w5 := (kk.any (F := (w.heap.size + 1 + 1 ≤ ·))).trans (Kept.clear (F := fun k => some k = tv.ownBlock) (kg.then (Kept.refl _ _) fun i hi e => e) (fun b hb e => by have := ht b e.symm; show w.heap.size + 1 + 1 ≤ b; omega))
  refine ⟨x5, ⟨?_, ?_, ?_, ?_, ⟨vs ++ ys, ?_, ?_⟩⟩, kw⟩
  · exact ((((h.kept.trans kk).any (F := (w.heap.size ≤ ·))).trans (kg.mono fun b e => by have := ht b e.symm; show w.heap.size ≤ b; omega)).trans (ks.mono fun b e => by show w.heap.size ≤ b; omega)).clear (fun b hb e => by have e : w.heap.size ≤ b := e; omega)
  · exact (((h.t.kept kk id).kept kg fun e => by have := ht _ e.symm; omega).kept ks (by omega))
  · exact (((h.res.kept kk id).kept kg fun e => by have := ht _ e.symm; omega).kept ks (by omega))
  · exact x5.put 2 _
  · rw [List.length_append]
    exact ownsRow_kept ho ks fun b hb e => by have := own_lt ho b hb; omega
  · rw [encTys_append]
    exact hl.append (by rw [encTys_one]; exact hys)
theorem gro_start (w : World) (c0 c1 c2 c3 : Value) (k : Int) (nv : Value) :
    GroAt w (((w.alloc (.cells #[c0, c1, c2, c3] 25)).alloc (.cells #[.int .i64 0, .slice none 0 0, .slice none 0 0, .int .i64 0] 25)).alloc (.cells #[.int .i64 k, nv, .slice none 0 0, .int .i64 0] 25)) #[c0, c1, c2, c3] k nv (.slice none 0 0) [] := by
  have h1 := BlkAt.new w #[c0, c1, c2, c3] 25
  have h2 := BlkAt.new (w.alloc (.cells #[c0, c1, c2, c3] 25)) #[.int .i64 0, .slice none 0 0, .slice none 0 0, .int .i64 0] 25
  have h3 := BlkAt.new ((w.alloc (.cells #[c0, c1, c2, c3] 25)).alloc (.cells #[.int .i64 0, .slice none 0 0, .slice none 0 0, .int .i64 0] 25)) #[.int .i64 k, nv, .slice none 0 0, .int .i64 0] 25
  rw [World.size_alloc] at h2
  rw [World.size_alloc, World.size_alloc] at h3
  exact ⟨(((Kept.refl _ _).new _).new _).new _, h1.kept (F := fun _ => False) (((Kept.refl _ _).new _).new _) id, h2.kept (F := fun _ => False) ((Kept.refl _ _).new _) id, h3, ⟨[], World.ownsRow_nil _ _ _ _, LiesL.nil⟩⟩
/-- The zero type, in cells. -/
theorem zero_lies (w : World) : LiesL AnyB w (encTy .zero) [.int .i64 0, .slice none 0 0, .slice none 0 0, .int .i64 0] := ty_lies (t := Ty.zero) (liesU_nil _ _) (liesU_nil _ _)
/-- The end of both. -/
theorem GroAt.end' {w wr : World} {ct : Array Value} {nm : List Nm} {a1 : Option Addr} {c1 : Nat} {a2 : Option Addr} {c2 : Nat} {ts : List Ty} (h : GroAt w wr ct 15 (.slice a1 nm.length c1) (.slice a2 ts.length c2) ts)
    (hn : ∀ w', Kept (· = w.heap.size + 1) wr w' → Kept (fun _ => False) w w' → LiesU AnyB w' (strsU nm) (.slice a1 nm.length c1)) :
    (∀ v0 v1 v2 v3, PlainR (.mk 15 nm ts 0) w (.returned (.agg #[.int .i64 15, .slice a1 nm.length c1, .slice a2 ts.length c2, .int .i64 0])) ((((wr.setCell ⟨w.heap.size + 1, 0, none⟩ v0).setCell ⟨w.heap.size + 1, 1, none⟩ v1).setCell ⟨w.heap.size + 1, 2, none⟩ v2).setCell ⟨w.heap.size + 1, 3, none⟩ v3)) ∧
    (let W := ((((wr.setCell ⟨w.heap.size + 1, 0, none⟩ (.int .i64 15)).setCell ⟨w.heap.size + 1, 1, none⟩ (.slice a1 nm.length c1)).setCell ⟨w.heap.size + 1, 2, none⟩ (.slice a2 ts.length c2)).setCell ⟨w.heap.size + 1, 3, none⟩ (.int .i64 0))
     W.cell? ⟨w.heap.size + 1, 0, none⟩ = some (.int .i64 15) ∧ W.cell? ⟨w.heap.size + 1, 1, none⟩ = some (.slice a1 nm.length c1) ∧ W.cell? ⟨w.heap.size + 1, 2, none⟩ = some (.slice a2 ts.length c2) ∧ W.cell? ⟨w.heap.size + 1, 3, none⟩ = some (.int .i64 0)) := by
  obtain ⟨vs, hv, hl⟩ := h.trow
  constructor
  · intro v0 v1 v2 v3
    exact plainR_of (t := .mk 15 nm ts 0) (a1 := a1) (c1 := c1) (a2 := a2) (c2 := c2) h.kept (b := w.heap.size + 1) (Nat.le_succ _) hn hv hl (by omega) h.res.lt v0 v1 v2 v3
  · have G := (((h.res.put 0 (.int .i64 15)).put 1 (.slice a1 nm.length c1)).put 2 (.slice a2 ts.length c2)).put 3 (.int .i64 0)
    have u0 := G.cell 0
    have u1 := G.cell 1
    have u2 := G.cell 2
    have u3 := G.cell 3
    simp at u0 u1 u2 u3
    exact ⟨u0, u1, u2, u3⟩
set_option maxRecDepth 100000 in
set_option maxHeartbeats 8000000 in
theorem rp_16 (n : List Nm) (l : List Ty) (r : Int) (an : Option Addr) (cn : Nat) (al : Option Addr) (cl : Nat) (w : World) (h : TyAt w (.mk 16 n l r) an cn al cl) (hn : n.length ≤ 64) :
    Calls Tryd.prog 9 #[.agg #[.int .i64 16, .slice an n.length cn, .slice al l.length cl, .int .i64 r]] w (PlainR (.mk 15 n (List.replicate n.length .zero) 0) w) := by
  have HL := Lib.hid h.n
  clear h
  obtain ⟨i1, hi1, hy0, hy1, hy2⟩ := info_ty
  have HB := Lib.hid (And.intro hi1 (And.intro hy0 (And.intro hy1 hy2)))
  clear hi1 hy0 hy1 hy2
  go_enter Tryd.func9, Tryd.ntmps9
  go_wp2_with fail
  go_loopw [5] (fun u wr => ∃ (i : Nat) (tv : Value), u = .int .i64 i ∧ i ≤ n.length ∧ Hid (GroAt w wr #[.int .i64 16, .slice an n.length cn, .slice al l.length cl, .int .i64 r] 15 (.slice an n.length cn) tv (List.replicate i .zero))) (fun u _ => n.length - (intOf u).toNat)
  case atStart => exact ⟨0, .slice none 0 0, rfl, Nat.zero_le _, Lib.hid (gro_start w _ _ _ _ 15 _)⟩
  case round =>
    obtain ⟨i, tv, rfl, hi, hst⟩ := hrel
    have b0 := hst.out.t.cell 0
    have b1 := hst.out.t.cell 1
    have x0 := hst.out.x.cell 0
    have x1 := hst.out.x.cell 1
    have x2 := hst.out.x.cell 2
    have x3 := hst.out.x.cell 3
    have y2 := hst.out.x.frozen 2
    simp at b0 b1 x0 x1 x2 x3
    by_cases hlt : i < n.length
    · have q3 : i + 1 ≤ maxLen := by unfold maxLen; omega
      have q5 : (i + 1) * 64 ≤ 140737488355328 := by omega
      have hBw : w.heap.size + 1 + 1 + 1 ≤ wr.heap.size := hst.out.x.lt
      obtain ⟨vs, hvs, hlv⟩ := hst.out.trow
      rw [List.length_replicate] at hvs
      have HV := Lib.hid (And.intro hvs hlv)
      have HQ := Lib.hid (And.intro q3 (And.intro q5 hBw))
      have hw : IntKind.i64.wrap ((i : Int) + 1) = ((i + 1 : Nat) : Int) := by rw [IntKind.wrap_i64]; omega
      clear q3 q5 hBw hvs hlv
      go_wp2_with (first
        | (at_builtin; refine wpList_append_lies _ rfl _ _ 23 rfl (w.heap.size + 1 + 1 + 1) 25 i1 (.agg #[.int .i64 0, .slice none 0 0, .slice none 0 0, .int .i64 0]) 4 64 Tryd.underlying23 HB.out.1 HB.out.2.1 HB.out.2.2.1 HB.out.2.2.2 rfl (by decide) tv i vs rfl (World.ownsRow.alloc HV.out.1 _) ⟨wr.heap.size, 0, none⟩ 1 1 [.int .i64 0, .slice none 0 0, .slice none 0 0, .int .i64 0] rfl rfl (World.news_of_block (cs := #[.int .i64 0, .slice none 0 0, .slice none 0 0, .int .i64 0]) (BlkAt.new wr #[.int .i64 0, .slice none 0 0, .slice none 0 0, .int .i64 0] 25)) (by simp [Value.oneCell']) (by decide) HQ.out.1 HQ.out.2.1 (le_alloc HQ.out.2.2) _ rfl ?_
           intro g cap w5 hown5 hgrow hat hlt5
           have M := hst.out.types HV.out.2 (zero_lies w) ((Kept.refl (fun _ => False) wr).new _) hgrow (by rw [List.length_replicate]; exact hown5)
           rw [List.length_replicate, ← List.replicate_succ'] at M
           have m1 := M.1.cell 2
           have m2 := M.1.frozen 2
           simp at m1
           have HM := Lib.hid M.2.1
           clear M hown5 hgrow hat hlt5))
      exact ⟨⟨i + 1, _, by first | rw [hw] | rfl, hlt, HM⟩, by simp [intOf]; omega⟩
    · have he : i = n.length := by omega
      subst he
      obtain ⟨vs2, hv2, hl2⟩ := hst.out.trow
      rw [List.length_replicate] at hv2
      obtain ⟨a2, c2, rfl⟩ := own_slice hv2
      have r0 := hst.out.res.cell 0
      have r1 := hst.out.res.cell 1
      have r2 := hst.out.res.cell 2
      have r3 := hst.out.res.cell 3
      have s0 := hst.out.res.frozen 0
      have s1 := hst.out.res.frozen 1
      have s2 := hst.out.res.frozen 2
      have s3 := hst.out.res.frozen 3
      simp at r0 r1 r2 r3
      clear hv2 hl2
      go_wp2_with fail
      have hst' : GroAt w wr #[.int .i64 16, .slice an n.length cn, .slice al l.length cl, .int .i64 r] 15 (.slice an n.length cn) (.slice a2 (List.replicate n.length Ty.zero).length c2) (List.replicate n.length .zero) := by rw [List.length_replicate]; exact hst.out
      have E := hst'.end' fun w' _ k => HL.out.kept k
      rw [List.length_replicate] at E
      obtain ⟨E1, u0, u1, u2, u3⟩ := E
      exact bodyPost_ret (v := .agg #[.int .i64 15, .slice an n.length cn, .slice a2 n.length c2, .int .i64 0]) (by simp [results, Tryd.results9, go_sem, u0, u1, u2, u3]) rfl (E1 _ _ _ _)
theorem opt_start (w : World) (c0 c1 c2 c3 : Value) :
    GroAt w (((((w.alloc (.cells #[c0, c1, c2, c3] 25)).alloc (.cells #[.int .i64 0, .slice none 0 0, .slice none 0 0, .int .i64 0] 25)).alloc (.cells #[.int .i64 15, .slice (some ⟨w.heap.size + 1 + 1 + 1, 0, none⟩) 2 2, .slice (some ⟨w.heap.size + 1 + 1 + 1 + 1, 0, none⟩) 1 1, .int .i64 0] 25)).alloc (.cells #[.string ⟨#[110, 111, 110, 101]⟩, .string ⟨#[115, 111, 109, 101]⟩] 9)).alloc (.cells #[.int .i64 0, .slice none 0 0, .slice none 0 0, .int .i64 0] 25)) #[c0, c1, c2, c3] 15 (.slice (some ⟨w.heap.size + 1 + 1 + 1, 0, none⟩) 2 2) (.slice (some ⟨w.heap.size + 1 + 1 + 1 + 1, 0, none⟩) 1 1) [.zero] ∧ BlkAt (((((w.alloc (.cells #[c0, c1, c2, c3] 25)).alloc (.cells #[.int .i64 0, .slice none 0 0, .slice none 0 0, .int .i64 0] 25)).alloc (.cells #[.int .i64 15, .slice (some ⟨w.heap.size + 1 + 1 + 1, 0, none⟩) 2 2, .slice (some ⟨w.heap.size + 1 + 1 + 1 + 1, 0, none⟩) 1 1, .int .i64 0] 25)).alloc (.cells #[.string ⟨#[110, 111, 110, 101]⟩, .string ⟨#[115, 111, 109, 101]⟩] 9)).alloc (.cells #[.int .i64 0, .slice none 0 0, .slice none 0 0, .int .i64 0] 25)) (w.heap.size + 1 + 1 + 1) #[.string ⟨#[110, 111, 110, 101]⟩, .string ⟨#[115, 111, 109, 101]⟩] 9 ∧
    (((((w.alloc (.cells #[c0, c1, c2, c3] 25)).alloc (.cells #[.int .i64 0, .slice none 0 0, .slice none 0 0, .int .i64 0] 25)).alloc (.cells #[.int .i64 15, .slice (some ⟨w.heap.size + 1 + 1 + 1, 0, none⟩) 2 2, .slice (some ⟨w.heap.size + 1 + 1 + 1 + 1, 0, none⟩) 1 1, .int .i64 0] 25)).alloc (.cells #[.string ⟨#[110, 111, 110, 101]⟩, .string ⟨#[115, 111, 109, 101]⟩] 9)).alloc (.cells #[.int .i64 0, .slice none 0 0, .slice none 0 0, .int .i64 0] 25)).ownsRow (w.heap.size + 1 + 1 + 1) 25 4 (.slice (some ⟨w.heap.size + 1 + 1 + 1 + 1, 0, none⟩) 1 1) 1 [.int .i64 0, .slice none 0 0, .slice none 0 0, .int .i64 0] := by
  have h1 := BlkAt.new w #[c0, c1, c2, c3] 25
  have h2 := BlkAt.new (w.alloc (.cells #[c0, c1, c2, c3] 25)) #[.int .i64 0, .slice none 0 0, .slice none 0 0, .int .i64 0] 25
  have h3 := BlkAt.new ((w.alloc (.cells #[c0, c1, c2, c3] 25)).alloc (.cells #[.int .i64 0, .slice none 0 0, .slice none 0 0, .int .i64 0] 25)) #[.int .i64 15, .slice (some ⟨w.heap.size + 1 + 1 + 1, 0, none⟩) 2 2, .slice (some ⟨w.heap.size + 1 + 1 + 1 + 1, 0, none⟩) 1 1, .int .i64 0] 25
  have h4 := BlkAt.new (((w.alloc (.cells #[c0, c1, c2, c3] 25)).alloc (.cells #[.int .i64 0, .slice none 0 0, .slice none 0 0, .int .i64 0] 25)).alloc (.cells #[.int .i64 15, .slice (some ⟨w.heap.size + 1 + 1 + 1, 0, none⟩) 2 2, .slice (some ⟨w.heap.size + 1 + 1 + 1 + 1, 0, none⟩) 1 1, .int .i64 0] 25)) #[.string ⟨#[110, 111, 110, 101]⟩, .string ⟨#[115, 111, 109, 101]⟩] 9
  have h5 := World.ownsRow_lit (base := w.heap.size + 1 + 1 + 1) (e := 25) (size := 4) ((((w.alloc (.cells #[c0, c1, c2, c3] 25)).alloc (.cells #[.int .i64 0, .slice none 0 0, .slice none 0 0, .int .i64 0] 25)).alloc (.cells #[.int .i64 15, .slice (some ⟨w.heap.size + 1 + 1 + 1, 0, none⟩) 2 2, .slice (some ⟨w.heap.size + 1 + 1 + 1 + 1, 0, none⟩) 1 1, .int .i64 0] 25)).alloc (.cells #[.string ⟨#[110, 111, 110, 101]⟩, .string ⟨#[115, 111, 109, 101]⟩] 9)) #[.int .i64 0, .slice none 0 0, .slice none 0 0, .int .i64 0] 1 (by simp) (by decide) rfl
  rw [World.size_alloc] at h2
  rw [World.size_alloc, World.size_alloc] at h3
  rw [World.size_alloc, World.size_alloc, World.size_alloc] at h4
  rw [World.size_alloc, World.size_alloc, World.size_alloc, World.size_alloc] at h5
  refine ⟨⟨(((((Kept.refl _ _).new _).new _).new _).new _).new _, h1.kept (F := fun _ => False) (((((Kept.refl _ _).new _).new _).new _).new _) id, h2.kept (F := fun _ => False) ((((Kept.refl _ _).new _).new _).new _) id, h3.kept (F := fun _ => False) (((Kept.refl _ _).new _).new _) id, ⟨_, h5, by rw [encTys_one]; exact zero_lies w⟩⟩, h4.kept (F := fun _ => False) ((Kept.refl _ _).new _) id, h5⟩
set_option maxRecDepth 100000 in
set_option maxHeartbeats 8000000 in
theorem rp_17 (n : List Nm) (x : Ty) (r : Int) (an : Option Addr) (cn : Nat) (al : Option Addr) (cl : Nat) (w : World) (h : TyAt w (.mk 17 n [x] r) an cn al cl) :
    Calls Tryd.prog 9 #[.agg #[.int .i64 17, .slice an n.length cn, .slice al 1 cl, .int .i64 r]] w (PlainR (.mk 15 [nmNone, nmSome] [.zero, x] 0) w) := by
  obtain ⟨g, o, ax, cx, ay, cy, rfl, hgl, htx, c0, c1, c2, c3⟩ := h.row.at (i := 0) (x := x) rfl
  rw [Nat.zero_mul, Nat.add_zero] at c0 c1 c2 c3
  have HC := Lib.hid (And.intro htx (And.intro c0 (And.intro c1 (And.intro c2 c3))))
  clear h hgl htx c0 c1 c2 c3
  obtain ⟨i1, hi1, hy0, hy1, hy2⟩ := info_ty
  have HB := Lib.hid (And.intro hi1 (And.intro hy0 (And.intro hy1 hy2)))
  clear hi1 hy0 hy1 hy2
  go_enter Tryd.func9, Tryd.ntmps9
  have G0 := opt_start w (.int .i64 17) (.slice an n.length cn) (.slice (some ⟨g, o, none⟩) 1 cl) (.int .i64 r)
  have HG := Lib.hid G0
  have e0 : ∀ j u, ([.int .i64 x.kind, .slice ax x.names.length cx, .slice ay x.l.length cy, .int .i64 x.r] : List Value)[j]? = some u → (((((w.alloc (.cells #[.int .i64 17, .slice an n.length cn, .slice (some ⟨g, o, none⟩) 1 cl, .int .i64 r] 25)).alloc (.cells #[.int .i64 0, .slice none 0 0, .slice none 0 0, .int .i64 0] 25)).alloc (.cells #[.int .i64 15, .slice (some ⟨w.heap.size + 1 + 1 + 1, 0, none⟩) 2 2, .slice (some ⟨w.heap.size + 1 + 1 + 1 + 1, 0, none⟩) 1 1, .int .i64 0] 25)).alloc (.cells #[.string ⟨#[110, 111, 110, 101]⟩, .string ⟨#[115, 111, 109, 101]⟩] 9)).alloc (.cells #[.int .i64 0, .slice none 0 0, .slice none 0 0, .int .i64 0] 25)).cell? ((⟨g, o, none⟩ : Addr).add j) = some u := fun j u hj => by
    have q := HC.out
    rw [Addr.add_lit]
    match j, hj with
    | 0, hj => cases hj; exact cell_box (cell_box (cell_box (cell_box (cell_box q.2.1 _) _) _) _) _
    | 1, hj => cases hj; exact cell_box (cell_box (cell_box (cell_box (cell_box q.2.2.1 _) _) _) _) _
    | 2, hj => cases hj; exact cell_box (cell_box (cell_box (cell_box (cell_box q.2.2.2.1 _) _) _) _) _
    | 3, hj => cases hj; exact cell_box (cell_box (cell_box (cell_box (cell_box q.2.2.2.2 _) _) _) _) _
    | j + 4, hj => simp at hj
  have HE := Lib.hid e0
  clear e0 G0
  go_wp2_with (first
        | (at_builtin; refine wpList_append_lies _ rfl _ _ 23 rfl (w.heap.size + 1 + 1 + 1) 25 i1 (.agg #[.int .i64 0, .slice none 0 0, .slice none 0 0, .int .i64 0]) 4 64 Tryd.underlying23 HB.out.1 HB.out.2.1 HB.out.2.2.1 HB.out.2.2.2 rfl (by decide) (.slice (some ⟨w.heap.size + 1 + 1 + 1 + 1, 0, none⟩) 1 1) 1 [.int .i64 0, .slice none 0 0, .slice none 0 0, .int .i64 0] rfl HG.out.2.2 ⟨g, o, none⟩ 1 cl [.int .i64 x.kind, .slice ax x.names.length cx, .slice ay x.l.length cy, .int .i64 x.r] rfl rfl HE.out (by simp [Value.oneCell']) (by decide) (by decide) (by decide) (by simp) _ rfl ?_
           intro g5 cap w5 hown5 hgrow hat hlt5
           have M := HG.out.1.types (zero_lies w |> fun q => by rw [encTys_one]; exact q) (ty_lies HC.out.1.n HC.out.1.l) (Kept.refl (fun _ => False) _) hgrow hown5
           have m0 := M.1.cell 0
           have m1 := M.1.cell 1
           have m2 := M.1.cell 2
           have m3 := M.1.cell 3
           have m4 := M.1.frozen 2
           simp at m0 m1 m2 m3
           have T5 := HG.out.1.t.kept (Kept.grow hgrow) (fun e => absurd (Option.some.inj (show some (w.heap.size) = some (w.heap.size + 1 + 1 + 1 + 1) from e)) (by omega))
           have R5 := HG.out.1.res.kept (Kept.grow hgrow) (fun e => absurd (Option.some.inj (show some (w.heap.size + 1) = some (w.heap.size + 1 + 1 + 1 + 1) from e)) (by omega))
           have t0 := T5.cell 0
           have r0 := R5.cell 0
           have r1 := R5.cell 1
           have r2 := R5.cell 2
           have r3 := R5.cell 3
           have s0 := R5.frozen 0
           have s1 := R5.frozen 1
           have s2 := R5.frozen 2
           have s3 := R5.frozen 3
           simp at t0 r0 r1 r2 r3
           clear T5 R5
           have N5 := HG.out.2.1.kept (Kept.grow hgrow) (fun e => absurd (Option.some.inj (show some (w.heap.size + 1 + 1 + 1) = some (w.heap.size + 1 + 1 + 1 + 1) from e)) (by omega))
           have N6 := N5.other (b' := w.heap.size + 1 + 1) (by omega) 2 (.slice (some ⟨g5, 0, none⟩) (1 + 1) cap)
           have HM := Lib.hid M.2.1
           have HN := Lib.hid N6
           clear M hown5 hgrow hat hlt5 N5 N6))
  have HM' : GroAt w (w5.setCell ⟨w.heap.size + 1 + 1, 2, none⟩ (.slice (some ⟨g5, 0, none⟩) 2 cap)) #[.int .i64 17, .slice an n.length cn, .slice (some ⟨g, o, none⟩) 1 cl, .int .i64 r] 15 (.slice (some ⟨w.heap.size + 1 + 1 + 1, 0, none⟩) [nmNone, nmSome].length 2) (.slice (some ⟨g5, 0, none⟩) [Ty.zero, x].length cap) [.zero, x] := HM.out
  have HN' : BlkAt (w5.setCell ⟨w.heap.size + 1 + 1, 2, none⟩ (.slice (some ⟨g5, 0, none⟩) 2 cap)) (w.heap.size + 1 + 1 + 1) #[.string ⟨#[110, 111, 110, 101]⟩, .string ⟨#[115, 111, 109, 101]⟩] 9 := HN.out
  obtain ⟨E1, u0, u1, u2, u3⟩ := HM'.end' fun w' k _ => liesU_blk (us := [U.s nmNone, U.s nmSome]) (HN'.kept k (by omega)) (Nat.le_refl _) (by omega) rfl (.cons (liesU_s nmNone) (.cons (liesU_s nmSome) .nil))
  exact bodyPost_ret (v := .agg #[.int .i64 15, .slice (some ⟨w.heap.size + 1 + 1 + 1, 0, none⟩) [nmNone, nmSome].length 2, .slice (some ⟨g5, 0, none⟩) [Ty.zero, x].length cap, .int .i64 0]) (by simp only [List.length_cons, List.length_nil, Nat.zero_add, Nat.reduceAdd] at u0 u1 u2 u3 ⊢; simp [results, Tryd.results9, go_sem, u0, u1, u2, u3]) rfl (E1 _ _ _ _)
/-- THE REFERENCE'S PLAIN, of a type that may be. -/
theorem rdRefPlain (t : Ty) (ho : okT t = true) (hn : t.names.length ≤ 64) (hl : t.l.length ≤ 64) (an : Option Addr) (cn : Nat) (al : Option Addr) (cl : Nat) (w : World) (h : TyAt w t an cn al cl) :
    Calls Tryd.prog 9 #[tyV t an cn al cl] w (PlainR (plainT t) w) := by
  have hw := deep_shape (k := 15) (okT_deep ho).1
  cases t with
  | mk k n l r =>
    have hn : n.length ≤ 64 := hn
    have hl : l.length ≤ 64 := hl
    by_cases h14 : k = 14
    · subst h14
      have := rp_14 n l r an cn al cl w h hl
      rw [show plainT (.mk 14 n l r) = .mk 13 ((List.range l.length).map digs) l 0 from if_pos rfl]
      exact this
    by_cases h16 : k = 16
    · subst h16
      have := rp_16 n l r an cn al cl w h hn
      rw [show plainT (.mk 16 n l r) = .mk 15 n (List.replicate n.length .zero) 0 from (if_neg (fun q => absurd (show (16 : Int) = 14 from q) (by decide))).trans (if_pos rfl)]
      exact this
    by_cases h17 : k = 17
    · subst h17
      have hl1 : l.length = 1 := by
        simp [okW] at hw
        exact hw.2
      obtain ⟨x, rfl⟩ := List.length_eq_one_iff.1 hl1
      have := rp_17 n x r an cn al cl w h
      rw [show plainT (.mk 17 n [x] r) = .mk 15 [nmNone, nmSome] [.zero, x] 0 from (if_neg (fun q => absurd (show (17 : Int) = 14 from q) (by decide))).trans ((if_neg (fun q => absurd (show (17 : Int) = 16 from q) (by decide))).trans (if_pos ⟨rfl, rfl⟩))]
      exact this
    by_cases h18 : k = 18
    · subst h18
      have hl2 : l.length = 2 := by
        simp [okW] at hw
        exact hw.2
      have := rp_18 n l r an cn al cl w h
      rw [show plainT (.mk 18 n l r) = .mk 15 [nmOk, nmError] l 0 from (if_neg (fun q => absurd (show (18 : Int) = 14 from q) (by decide))).trans ((if_neg (fun q => absurd (show (18 : Int) = 16 from q) (by decide))).trans ((if_neg (fun q => absurd (show (18 : Int) = 17 from q.1) (by decide))).trans (if_pos ⟨rfl, hl2⟩)))]
      exact this
    have e : plainT (.mk k n l r) = .mk k n l r := (if_neg h14).trans ((if_neg h16).trans ((if_neg (fun q => h17 q.1)).trans (if_neg (fun q => h18 q.1))))
    rw [e]
    exact rp_same (.mk k n l r) an cn al cl w h (beq_eq_false_iff_ne.2 h14) (beq_eq_false_iff_ne.2 h16) (beq_eq_false_iff_ne.2 h17) (beq_eq_false_iff_ne.2 h18)
end Go.Proofs.YtlkbgdhlbdjbiaaDoor

/- ctype: CtypePlain: the walk. -/
set_option linter.unusedVariables false
set_option linter.unusedSimpArgs false
namespace Go.Proofs.YtlkbgdhlbdjbiaaDoor
open Go.RowKit
open Lex Ct

theorem View.kept {w w' : World} {a : Option Addr} {n : Nat} {xs : List Int} (h : View w a n xs) (k : Kept (fun _ => False) w w') : View w' a n xs := h.below (k.below (Nat.le_refl _) fun _ q => q.elim)
set_option maxHeartbeats 400000 in
set_option maxRecDepth 100000 in
theorem Same_long (a c : Option Addr) (n cap cap2 : Nat) (xs : List Int) (w : World) (hn : n ≤ 100000) (ha : View w a n xs) (hc : View w c n xs) :
    Calls Tryd.prog 10 #[.slice a n cap, .slice c n cap2] w fun e w' => e = .returned (.bool true) ∧ Below w.heap.size w w' := by
  have HA := Lib.hid ha
  have HC := Lib.hid hc
  have hne : ((n : Int) != (n : Int)) = false := by simp
  clear ha hc
  go_enter Tryd.func10, Tryd.ntmps10
  go_wp2_with fail
  go_loopw [5] (fun i wr => ∃ k : Nat, i = .int .i64 k ∧ k ≤ n ∧ Below w.heap.size w wr) (fun i _ => n - (intOf i).toNat)
  case atStart => exact ⟨0, rfl, by omega, Below.refl _ _⟩
  case round =>
    obtain ⟨k, rfl, hk, hb⟩ := hrel
    by_cases hlt : k < n
    · obtain ⟨b, off, rfl, hca⟩ := HA.out.resolve_left (by omega)
      obtain ⟨d, off2, rfl, hcc⟩ := HC.out.resolve_left (by omega)
      have h1 := hca k hlt
      have h2 := hcc k hlt
      have g1 := (hb.cell (p := ⟨b, off + k, none⟩) (World.block_lt_of_cell? w _ h1)).trans h1
      have g2 := (hb.cell (p := ⟨d, off2 + k, none⟩) (World.block_lt_of_cell? w _ h2)).trans h2
      clear hca hcc h1 h2
      revert g1 g2
      generalize xs.getD k 0 = z
      intro g1 g2
      go_wp2_with fail
      go_quiet (fail)
      go_wp2
      exact ⟨⟨k + 1, by go_num, by omega, below_drewN hb _⟩, by simp [intOf]; omega⟩
    · have hke : k = n := by omega
      subst hke
      go_wp2_with fail
      go_ret
      exact ⟨rfl, hb⟩
theorem rdSame (a c : Option Addr) (cap cap2 : Nat) (xs : List Int) (w : World) (hn : xs.length ≤ 100000) (ha : View w a xs.length xs) (hc : View w c xs.length xs) :
    Calls Tryd.prog 10 #[.slice a xs.length cap, .slice c xs.length cap2] w fun e w' => e = .returned (.bool true) ∧ Kept (fun _ => False) w w' :=
  (Same_long a c xs.length cap cap2 xs w hn ha hc).mono fun _ _ h => ⟨h.1, Kept.of_below h.2⟩
theorem Ints.sees {b : Nat} {a : Option Addr} {n cap : Nat} {xs : List Int} {w : World} (h : Ints b (.slice a n cap) xs w) (hn : n = xs.length) : View w a xs.length xs := by
  obtain ⟨a2, cap2, e, h2⟩ := h.view
  cases e
  exact h2
set_option maxRecDepth 100000 in
set_option maxHeartbeats 8000000 in
theorem plainL_no (t : Ty) (an : Option Addr) (cn : Nat) (al : Option Addr) (cl : Nat) (w : World) (h : TyAt w t an cn al cl) (hf : FineT t) (ho : okT t = false) :
    Calls Tryd.prog 3 #[tyV t an cn al cl] w fun y w' => y = .returned (.bool true) ∧ Kept (fun _ => False) w w' := by
  have k0 : Kept (fun _ => False) w (w.alloc (.cells #[.int .i64 t.kind, .slice an t.names.length cn, .slice al t.l.length cl, .int .i64 t.r] 25)) := (Kept.refl _ _).new _
  have HK := Lib.hid k0
  have HM := Lib.hid (fun w' (k : Kept (fun _ => False) w w') => by have := rdMay t an cn al cl w' (h.kept k) hf; rw [ho] at this; exact this)
  have HAW := Lib.hid (fun w => awake_any w)
  clear k0 h hf ho
  go_enter Tryd.func3, Tryd.ntmps3
  go_wp2_with (first
    | (go_at_call 5; refine (HM.out _ HK.out).mono ?_; rintro y w1 ⟨rfl, k1⟩; have HK1 := Lib.hid (HK.out.trans k1); clear k1)
    | (go_at_call 6; refine (HAW.out _).mono ?_; rintro y w2 ⟨rfl, k2⟩; have HK2 := Lib.hid (HK1.out.trans k2); clear k2))
  go_ret
  exact ⟨rfl, HK2.out⟩
set_option maxRecDepth 100000 in
set_option maxHeartbeats 8000000 in
theorem plainL_ok (t X : Ty) (an : Option Addr) (cn : Nat) (al : Option Addr) (cl : Nat) (w : World) (h : TyAt w t an cn al cl) (xs : List Int) (S A : Nat) (hxs : xs.length ≤ 100000)
    (b14 : (X.kind != 14) = true) (b16 : (X.kind != 16) = true) (b17 : (X.kind != 17) = true) (b18 : (X.kind != 18) = true)
    (HM : Hid (∀ w', Kept (fun _ => False) w w' → Calls Tryd.prog 5 #[tyV t an cn al cl] w' fun y w'' => y = .returned (.bool true) ∧ Kept (fun _ => False) w' w''))
    (HP : Hid (∀ w', Kept (fun _ => False) w w' → Calls Tryd.prog 7 #[tyV t an cn al cl] w' (PlainR X w')))
    (HR : Hid (∀ w', Kept (fun _ => False) w w' → Calls Tryd.prog 9 #[tyV t an cn al cl] w' (PlainR X w')))
    (HF : Hid (∀ w', Kept (fun _ => False) w w' → Calls Tryd.prog 12 #[tyV t an cn al cl] w' (CoreR xs w')))
    (HS : Hid (∀ w', Kept (fun _ => False) w w' → Calls Tryd.prog 14 #[tyV t an cn al cl] w' fun y w'' => y = .returned (.int .i64 (S : Nat)) ∧ Kept (fun _ => False) w' w''))
    (HA : Hid (∀ w', Kept (fun _ => False) w w' → Calls Tryd.prog 16 #[tyV t an cn al cl] w' fun y w'' => y = .returned (.int .i64 (A : Nat)) ∧ Kept (fun _ => False) w' w''))
    (HC : Hid (∀ ax cx ay cy w', TyAt w' X ax cx ay cy → Calls Tryd.prog 11 #[tyV X ax cx ay cy] w' (CoreR xs w')))
    (HZ : Hid (∀ ax cx ay cy w', TyAt w' X ax cx ay cy → Calls Tryd.prog 13 #[tyV X ax cx ay cy] w' fun y w'' => y = .returned (.int .i64 (S : Nat)) ∧ Kept (fun _ => False) w' w''))
    (HN : Hid (∀ ax cx ay cy w', TyAt w' X ax cx ay cy → Calls Tryd.prog 15 #[tyV X ax cx ay cy] w' fun y w'' => y = .returned (.int .i64 (A : Nat)) ∧ Kept (fun _ => False) w' w'')) :
    Calls Tryd.prog 3 #[tyV t an cn al cl] w fun y w' => y = .returned (.bool true) ∧ Kept (fun _ => False) w w' := by
  have k0 : Kept (fun _ => False) w (w.alloc (.cells #[.int .i64 t.kind, .slice an t.names.length cn, .slice al t.l.length cl, .int .i64 t.r] 25)) := (Kept.refl _ _).new _
  have T0 := BlkAt.new w #[.int .i64 t.kind, .slice an t.names.length cn, .slice al t.l.length cl, .int .i64 t.r] 25
  have HK := Lib.hid k0
  have HT := Lib.hid T0
  have HX := Lib.hid (rdSameTy X)
  have HG := Lib.hid (fun (a c : Option Addr) (cap cap2 : Nat) w' => rdSame a c cap cap2 xs w' hxs)
  have HAW := Lib.hid (fun w => awake_any w)
  clear k0 T0 hxs
  go_enter Tryd.func3, Tryd.ntmps3
  go_wp2_with (first
    | (go_at_call 5; refine (HM.out _ HK.out).mono ?_; rintro y w1 ⟨rfl, k1⟩; have HK1 := Lib.hid (HK.out.trans k1); have HT1 := Lib.hid (HT.out.kept (F := fun _ => False) k1 id); obtain ⟨t0, t1, t2, t3⟩ := boxT_cells HT1.out; clear k1 HM)
    | (go_at_call 7; refine (HP.out _ HK1.out).mono ?_; rintro y w2 ⟨ap, cp, aq, cq, rfl, hX2, k2⟩; have HK2 := Lib.hid (HK1.out.trans k2); have HT2 := Lib.hid (HT1.out.kept (F := fun _ => False) k2 id); have HX2 := Lib.hid hX2; clear k2 hX2 HP t0 t1 t2 t3))
  have HKX := Lib.hid (HK2.out.new (.cells #[.int .i64 X.kind, .slice ap X.names.length cp, .slice aq X.l.length cq, .int .i64 X.r] 25))
  have HTX := Lib.hid (HT2.out.kept (F := fun _ => False) ((Kept.refl _ _).new (.cells #[.int .i64 X.kind, .slice ap X.names.length cp, .slice aq X.l.length cq, .int .i64 X.r] 25)) id)
  have HXX := Lib.hid (HX2.out.kept ((Kept.refl _ _).new (.cells #[.int .i64 X.kind, .slice ap X.names.length cp, .slice aq X.l.length cq, .int .i64 X.r] 25)))
  have HBX := Lib.hid (BlkAt.new w2 #[.int .i64 X.kind, .slice ap X.names.length cp, .slice aq X.l.length cq, .int .i64 X.r] 25)
  clear HK2 HT2 HX2
  revert HKX HTX HXX HBX
  generalize hw3 : w2.alloc (.cells #[.int .i64 X.kind, .slice ap X.names.length cp, .slice aq X.l.length cq, .int .i64 X.r] 25) = w3
  intro HKX HTX HXX HBX
  have q0 : Kept (fun _ => False) w3 w3.drew := (Kept.refl _ _).drew
  have HW : Hid (∀ w', Kept (fun _ => False) w3 w' → w'.cell? ⟨w.heap.size, 0, none⟩ = some (.int .i64 t.kind) ∧ w'.cell? ⟨w.heap.size, 1, none⟩ = some (.slice an t.names.length cn) ∧ w'.cell? ⟨w.heap.size, 2, none⟩ = some (.slice al t.l.length cl) ∧ w'.cell? ⟨w.heap.size, 3, none⟩ = some (.int .i64 t.r) ∧ w'.cell? ⟨w2.heap.size, 0, none⟩ = some (.int .i64 X.kind) ∧ w'.cell? ⟨w2.heap.size, 1, none⟩ = some (.slice ap X.names.length cp) ∧ w'.cell? ⟨w2.heap.size, 2, none⟩ = some (.slice aq X.l.length cq) ∧ w'.cell? ⟨w2.heap.size, 3, none⟩ = some (.int .i64 X.r)) := Lib.hid fun w' k => by
    obtain ⟨e0, e1, e2, e3⟩ := boxT_cells (HTX.out.kept (F := fun _ => False) k id)
    obtain ⟨f0, f1, f2, f3⟩ := boxT_cells (HBX.out.kept (F := fun _ => False) k id)
    exact ⟨e0, e1, e2, e3, f0, f1, f2, f3⟩
  go_region_held3 (fun w' => w'.cell? ⟨w.heap.size, 0, none⟩ = some (.int .i64 t.kind) ∧ w'.cell? ⟨w.heap.size, 1, none⟩ = some (.slice an t.names.length cn) ∧ w'.cell? ⟨w.heap.size, 2, none⟩ = some (.slice al t.l.length cl) ∧ w'.cell? ⟨w.heap.size, 3, none⟩ = some (.int .i64 t.r) ∧ w'.cell? ⟨w2.heap.size, 0, none⟩ = some (.int .i64 X.kind) ∧ w'.cell? ⟨w2.heap.size, 1, none⟩ = some (.slice ap X.names.length cp) ∧ w'.cell? ⟨w2.heap.size, 2, none⟩ = some (.slice aq X.l.length cq) ∧ w'.cell? ⟨w2.heap.size, 3, none⟩ = some (.int .i64 X.r))
    (first | exact HW.out _ q0)
    (first
      | (go_at_call 9; refine (HR.out _ (HKX.out.trans q0)).mono ?_; rintro y w4 ⟨bp, dp, bq, dq, rfl, hY, k4⟩; replace q0 := q0.trans k4; have HY := Lib.hid hY; clear hY k4)
      | (go_at_call 8; refine (HX.out ap cp aq cq bp dp bq dq _ (HXX.out.kept q0) HY.out).mono ?_; rintro y w5 ⟨rfl, k5⟩; replace q0 := q0.trans k5; clear k5)
      | (go_at_call 11; refine (HC.out ap cp aq cq _ (HXX.out.kept q0)).mono ?_; rintro y w6 ⟨av, cv, rfl, hi6, hz6, k6⟩; replace q0 := q0.trans k6; have HV6 := Lib.hid (hi6.sees rfl); clear hi6 hz6 k6)
      | (go_at_call 12; refine (HF.out _ (HKX.out.trans q0)).mono ?_; rintro y w7 ⟨aw, cw, rfl, hi7, hz7, k7⟩; replace q0 := q0.trans k7; have HV7 := Lib.hid (HV6.out.kept k7); have HU7 := Lib.hid (hi7.sees rfl); clear hi7 hz7 k7)
      | (go_at_call 10; refine (HG.out av aw cv cw _ HV7.out HU7.out).mono ?_; rintro y w8 ⟨rfl, k8⟩; replace q0 := q0.trans k8; clear k8)
      | (go_at_call 13; refine (HZ.out ap cp aq cq _ (HXX.out.kept q0)).mono ?_; rintro y w9 ⟨rfl, k9⟩; replace q0 := q0.trans k9; clear k9)
      | (go_at_call 14; refine (HS.out _ (HKX.out.trans q0)).mono ?_; rintro y w10 ⟨rfl, k10⟩; replace q0 := q0.trans k10; clear k10)
      | (go_at_call 15; refine (HN.out ap cp aq cq _ (HXX.out.kept q0)).mono ?_; rintro y w11 ⟨rfl, k11⟩; replace q0 := q0.trans k11; clear k11)
      | (go_at_call 16; refine (HA.out _ (HKX.out.trans q0)).mono ?_; rintro y w12 ⟨rfl, k12⟩; replace q0 := q0.trans k12; clear k12))
  have HQ := Lib.hid q0
  have HKE := Lib.hid (HKX.out.trans q0)
  obtain ⟨t0, t1, t2, t3, x0, x1, x2, x3⟩ := HW.out _ q0
  clear q0
  go_wp2_with (first
    | (go_at_call 6; refine (HAW.out _).mono ?_; rintro y wf ⟨rfl, kf⟩))
  go_ret
  exact ⟨rfl, HKE.out.trans kf⟩
theorem CtypePlain_walk (t : Ty) (an : Option Addr) (cn : Nat) (al : Option Addr) (cl : Nat) (w : World) (h : TyAt w t an cn al cl) (hf : FineT t) :
    Calls Tryd.prog 3 #[tyV t an cn al cl] w fun y w' => y = .returned (.bool true) ∧ Kept (fun _ => False) w w' := by
  cases ho : okT t
  · exact plainL_no t an cn al cl w h hf ho
  · have hlen := okT_lens ho
    have hk := plain_kinds ho
    have hnum := siz_all 16 (plainT t) (plain_fit ho) (plain_gK ho)
    rw [plain_lie ho] at hnum
    refine plainL_ok t (plainT t) an cn al cl w h (coreK 16 t) (lieK 16 t).1 (lieK 16 t).2 (by have h1 := (coreK_len 16 t).2; have h2 := (okT_deep ho).2; omega)
      (by rw [bne_iff_ne]; rcases hk with ⟨e, _⟩ | ⟨e, _⟩ | ⟨e, q⟩ <;> (try rw [e]) <;> omega) (by rw [bne_iff_ne]; rcases hk with ⟨e, _⟩ | ⟨e, _⟩ | ⟨e, q⟩ <;> (try rw [e]) <;> omega)
      (by rw [bne_iff_ne]; rcases hk with ⟨e, _⟩ | ⟨e, _⟩ | ⟨e, q⟩ <;> (try rw [e]) <;> omega) (by rw [bne_iff_ne]; rcases hk with ⟨e, _⟩ | ⟨e, _⟩ | ⟨e, q⟩ <;> (try rw [e]) <;> omega)
      (Lib.hid fun w' k => by have := rdMay t an cn al cl w' (h.kept k) hf; rw [ho] at this; exact this)
      (Lib.hid fun w' k => rdPlainC t an cn al cl w' (h.kept k) ho)
      (Lib.hid fun w' k => rdRefPlain t ho hlen.1 hlen.2.1 an cn al cl w' (h.kept k))
      (Lib.hid fun w' k => by have := rdFlat t an cn al cl w' (h.kept k) hf; rw [if_pos ho] at this; exact this)
      (Lib.hid fun w' k => by have := rdSize t an cn al cl w' (h.kept k) hf; rw [if_pos ho] at this; exact this)
      (Lib.hid fun w' k => by have := rdAlign t an cn al cl w' (h.kept k) hf; rw [if_pos ho] at this; exact this)
      (Lib.hid fun ax cx ay cy w' hX => by have := corr_all 16 (plainT t) ax cx ay cy w' hX (plain_fit ho) (plain_e16 ho); rw [plain_core ho] at this; exact this)
      (Lib.hid fun ax cx ay cy w' hX => hnum.2 ax cx ay cy w' hX)
      (Lib.hid fun ax cx ay cy w' hX => hnum.1 ax cx ay cy w' hX)
end Go.Proofs.YtlkbgdhlbdjbiaaDoor
