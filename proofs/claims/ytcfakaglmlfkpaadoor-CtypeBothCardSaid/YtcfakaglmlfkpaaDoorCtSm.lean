/- ctype: two rows that are the same, two functions' types that are the same; the core types of both, as contracts. -/
import Derived.Test.YtcfakaglmlfkpaaDoorCtCr
import Derived.Test.YtcfakaglmlfkpaaDoorCtL1
set_option linter.unusedVariables false
set_option linter.unusedSimpArgs false
namespace Go.Proofs.YtcfakaglmlfkpaaDoor
open Go.RowKit
open Lex Ct

theorem View.kept {w w' : World} {a : Option Addr} {n : Nat} {xs : List Int} (h : View w a n xs) (k : Kept (fun _ => False) w w') : View w' a n xs := h.below (k.below (Nat.le_refl _) fun _ q => q.elim)
set_option maxHeartbeats 400000 in
set_option maxRecDepth 100000 in
theorem Same_long (a c : Option Addr) (n cap cap2 : Nat) (xs : List Int) (w : World) (hn : n ≤ 100000) (ha : View w a n xs) (hc : View w c n xs) :
    Calls Tryd.prog 16 #[.slice a n cap, .slice c n cap2] w fun e w' => e = .returned (.bool true) ∧ Below w.heap.size w w' := by
  have HA := Lib.hid ha
  have HC := Lib.hid hc
  have hne : ((n : Int) != (n : Int)) = false := by simp
  clear ha hc
  go_enter Tryd.func16, Tryd.ntmps16
  go_wp2_with fail
  go_loopw [5] (fun i wr => ∃ k : Nat, i = .int .i64 k ∧ k ≤ n ∧ Below w.heap.size w wr) (fun i _ => n - (intOf i).toNat)
  case atStart => exact ⟨0, rfl, by omega, Below.refl _ _⟩
  case round =>
    obtain ⟨k, rfl, hk, hb⟩ := hrel
    by_cases hlt : k < n
    · obtain ⟨b, off, rfl, hca⟩ := HA.out.resolve_left (by omega)
      obtain ⟨d, off2, rfl, hcc⟩ := HC.out.resolve_left (by omega)
      have h1 := hca k hlt
      have h2 := hcc k hlt
      have g1 := (hb.cell (p := ⟨b, off + k, none⟩) (World.block_lt_of_cell? w _ h1)).trans h1
      have g2 := (hb.cell (p := ⟨d, off2 + k, none⟩) (World.block_lt_of_cell? w _ h2)).trans h2
      clear hca hcc h1 h2
      revert g1 g2
      generalize xs.getD k 0 = z
      intro g1 g2
      go_wp2_with fail
      go_quiet (fail)
      go_wp2
      exact ⟨⟨k + 1, by go_num, by omega, below_drewN hb _⟩, by simp [intOf]; omega⟩
    · have hke : k = n := by omega
      subst hke
      go_wp2_with fail
      go_ret
      exact ⟨rfl, hb⟩
theorem rdSame (a c : Option Addr) (cap cap2 : Nat) (xs : List Int) (w : World) (hn : xs.length ≤ 100000) (ha : View w a xs.length xs) (hc : View w c xs.length xs) :
    Calls Tryd.prog 16 #[.slice a xs.length cap, .slice c xs.length cap2] w fun e w' => e = .returned (.bool true) ∧ Kept (fun _ => False) w w' :=
  (Same_long a c xs.length cap cap2 xs w hn ha hc).mono fun _ _ h => ⟨h.1, Kept.of_below h.2⟩
theorem Ints.sees {b : Nat} {a : Option Addr} {n cap : Nat} {xs : List Int} {w : World} (h : Ints b (.slice a n cap) xs w) (hn : n = xs.length) : View w a xs.length xs := by
  obtain ⟨a2, cap2, e, h2⟩ := h.view
  cases e
  exact h2
set_option maxHeartbeats 800000 in
set_option maxRecDepth 100000 in
theorem rdSameT (ap : Option Addr) (cp : Nat) (ar : Option Addr) (cr : Nat) (aq : Option Addr) (cq : Nat) (az : Option Addr) (cs : Nat) (p r : List Int) (w : World) (hp : p.length ≤ 100000) (hr : r.length ≤ 100000)
    (h1 : View w ap p.length p) (h2 : View w ar r.length r) (h3 : View w aq p.length p) (h4 : View w az r.length r) :
    Calls Tryd.prog 27 #[.agg #[.slice ap p.length cp, .slice ar r.length cr], .agg #[.slice aq p.length cq, .slice az r.length cs]] w fun e w' => e = .returned (.bool true) ∧ Kept (fun _ => False) w w' := by
  have k0 : Kept (fun _ => False) w ((w.alloc (.cells #[.slice ap p.length cp, .slice ar r.length cr] 44)).alloc (.cells #[.slice aq p.length cq, .slice az r.length cs] 44)) := ((Kept.refl _ _).new _).new _
  have F0 := (BlkAt.new w #[.slice ap p.length cp, .slice ar r.length cr] 44).up (.cells #[.slice aq p.length cq, .slice az r.length cs] 44)
  have G0 := BlkAt.new (w.alloc (.cells #[.slice ap p.length cp, .slice ar r.length cr] 44)) #[.slice aq p.length cq, .slice az r.length cs] 44
  rw [World.size_alloc] at G0
  have HK := Lib.hid k0
  have HF := Lib.hid F0
  have HG := Lib.hid G0
  have HP := Lib.hid (fun w' (k : Kept (fun _ => False) w w') => rdSame ap aq cp cq p w' hp (h1.kept k) (h3.kept k))
  have HR := Lib.hid (fun w' (k : Kept (fun _ => False) w w') => rdSame ar az cr cs r w' hr (h2.kept k) (h4.kept k))
  clear k0 F0 G0 h1 h2 h3 h4
  all_goals
    go_enter Tryd.func27, Tryd.ntmps27
    go_wp2_with (first
      | (go_at_call 16; refine (HP.out _ HK.out).mono ?_; rintro y w1 ⟨rfl, k1⟩; have HK1 := Lib.hid (HK.out.trans k1); have F1 := HF.out.kept (F := fun _ => False) k1 id; have G1 := HG.out.kept (F := fun _ => False) k1 id; have f1 := F1.cell 1; have g1 := G1.cell 1; simp at f1 g1; clear HP F1 G1 k1)
      | (go_at_call 16; refine (HR.out _ HK1.out).mono ?_; rintro y w2 ⟨rfl, k2⟩; have HK2 := Lib.hid (HK1.out.trans k2); clear HR k2))
    go_ret
    exact ⟨rfl, HK2.out⟩
theorem resK_small {s : Sg} (h : okS s = true) : (coreK 16 s.r).length ≤ 1000 := by
  have h1 := (coreK_len 16 s.r).2
  rcases (okS_parts h).2.2 with h3 | h3
  · rw [(coreK_len 16 s.r).1 (isNone_kind h3)]
    exact Nat.zero_le _
  · have h2 := (okT_deep h3).2
    omega
/-- CORE, the project's. -/
theorem rdCore_ok (s : Sg) (lower : Bool) (ap : Option Addr) (cp : Nat) (aq : Option Addr) (cq : Nat) (an : Option Addr) (cn : Nat) (al : Option Addr) (cl : Nat) (w : World) (h : SgAt w s ap cp aq cq an cn al cl) (hf : FineS s) (ho : okS s = true) :
    Calls Tryd.prog 25 #[sgV s ap cp aq cq an cn al cl, .bool lower] w (CoreFR 0 (ctP (argL s) (coreK 16 s.r) lower) (ctR (coreK 16 s.r) lower) w) :=
  core_go s lower ap cp aq cq an cn al cl w (argL s) (coreK 16 s.r) (argL_small ho) (resK_small ho)
    (Lib.hid fun w' k => by have := rdCheckSig_is s ap cp aq cq an cn al cl w' (h.kept k) hf true ho; simpa using this)
    (Lib.hid fun w' k => rdArgs0 s ho aq cq w' (h.kept k).t)
    (Lib.hid fun w' k => cor_all 16 s.r an cn al cl w' (h.kept k).r (okS_fit ho).2.2.1)
theorem rdCore_no (s : Sg) (lower : Bool) (ap : Option Addr) (cp : Nat) (aq : Option Addr) (cq : Nat) (an : Option Addr) (cn : Nat) (al : Option Addr) (cl : Nat) (w : World) (h : SgAt w s ap cp aq cq an cn al cl) (hf : FineS s) (ho : okS s = false) :
    Calls Tryd.prog 25 #[sgV s ap cp aq cq an cn al cl, .bool lower] w (CoreFR 1 [] [] w) :=
  core_no s lower ap cp aq cq an cn al cl w
    (Lib.hid fun w' k => by have := rdCheckSig_is s ap cp aq cq an cn al cl w' (h.kept k) hf false ho; simpa using this)
/-- CORE, the reference's. -/
theorem rdRefCore_ok (s : Sg) (lower : Bool) (ap : Option Addr) (cp : Nat) (aq : Option Addr) (cq : Nat) (an : Option Addr) (cn : Nat) (al : Option Addr) (cl : Nat) (w : World) (h : SgAt w s ap cp aq cq an cn al cl) (hf : FineS s) (ho : okS s = true) :
    Calls Tryd.prog 26 #[sgV s ap cp aq cq an cn al cl, .bool lower] w (CoreFR 0 (ctP (argL s) (coreK 16 s.r) lower) (ctR (coreK 16 s.r) lower) w) :=
  rcore_go s lower ap cp aq cq an cn al cl w (argL s) (coreK 16 s.r) (argL_small ho) (resK_small ho)
    (Lib.hid fun w' k => rdMaySig_is s ap cp aq cq an cn al cl w' (h.kept k) hf true ho)
    (Lib.hid fun w' k => rdRefRow 16 (corr_all 16) s.t aq cq w' (h.kept k).t (okS_fit ho).1 (okS_fit ho).2.1)
    (Lib.hid fun w' k => corr_all 16 s.r an cn al cl w' (h.kept k).r (okS_fit ho).2.2.1 (okS_fit ho).2.2.2)
theorem rdRefCore_no (s : Sg) (lower : Bool) (ap : Option Addr) (cp : Nat) (aq : Option Addr) (cq : Nat) (an : Option Addr) (cn : Nat) (al : Option Addr) (cl : Nat) (w : World) (h : SgAt w s ap cp aq cq an cn al cl) (hf : FineS s) (ho : okS s = false) :
    Calls Tryd.prog 26 #[sgV s ap cp aq cq an cn al cl, .bool lower] w (CoreFR 1 [] [] w) :=
  rcore_no s lower ap cp aq cq an cn al cl w
    (Lib.hid fun w' k => rdMaySig_is s ap cp aq cq an cn al cl w' (h.kept k) hf false ho)
end Go.Proofs.YtcfakaglmlfkpaaDoor
