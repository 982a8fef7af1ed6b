/- lex: the iterator of a text's parts. -/
import Derived.RangeFuncNested
import Derived.RangeFuncBound
import Derived.RangeFuncCalls
import Derived.RangeFuncLeaves
import Derived.Shelf.Abstract
import Derived.Shelf.RegionOpen
import Derived.WalkKit
import Derived.OwnWalkIn
import Derived.TacticsInMore
import Derived.LoopNIn
import Derived.LoopIn
import Derived.Test.YtlkbgdhlbdjbiaaDoorLexF
namespace Go.Proofs.YtlkbgdhlbdjbiaaDoor
open Go.RowKit Go.Shelf
open Lex
attribute [local go_sem] Oper.semAt_some

/-- A text, as long as there may be one. -/
abbrev Txt := { x : ByteArray // x.size ≤ maxLen }
def sub (s : ByteArray) (hs : s.size ≤ maxLen) (a b : Nat) : Txt := ⟨s.extract a b, by rw [ByteArray.size_extract]; omega⟩
/-- The parts that are left: the one under way begins at a, i bytes were looked at. -/
def rst (s : ByteArray) (hs : s.size ≤ maxLen) (c : Int) : Nat → Nat → List Int → List Txt
  | a, _, [] => [sub s hs a s.size]
  | a, i, x :: r => if x = c then sub s hs a i :: rst s hs c (i + 1) (i + 1) r else rst s hs c a (i + 1) r
def parts (s : ByteArray) (hs : s.size ≤ maxLen) (c : Int) : List Txt := rst s hs c 0 0 (bl s)

/-- What a round keeps: two boxes. -/
def KpB (B : Nat) (W W' : World) : Prop := ∀ b, (b = B ∨ b = B + 1) → W'.cell? ⟨b, 0, none⟩ = W.cell? ⟨b, 0, none⟩

set_option maxRecDepth 100000 in
set_option maxHeartbeats 2000000 in
theorem parts1_in (F : Fence) (n : Nat) (hf : F.fn 68) (hro : F.round = none) (hn : 1 ≤ n) (l Bs : Nat) (s : ByteArray) (hs : s.size ≤ maxLen) (c : Nat) (J Jx : List Txt → World → Prop)
    (hY : ∀ pre x W, J pre W → pre.length < (parts s hs c).length → YieldAt F (n - 1) Tryd.prog l #[.string x.1] W fun e W' =>
      (e = .returned (.bool true) ∧ J (pre ++ [x]) W' ∧ KpB Bs W W') ∨ (e = .returned (.bool false) ∧ Jx (pre ++ [x]) W'))
    (W : World) (hBs : W.cell? ⟨Bs, 0, none⟩ = some (.string s)) (hBc : W.cell? ⟨Bs + 1, 0, none⟩ = some (.int .u8 c)) (hJd : ∀ p W, J p W → J p W.drew) (h0 : J [] W) :
    CallsIn F n Tryd.prog 68 #[.func (.yield l) #[] #[], .pointer (some ⟨Bs, 0, none⟩), .pointer (some ⟨Bs + 1, 0, none⟩)] W fun e W' => (∃ v, e = .returned v) ∧
      ((∃ ys, ys = parts s hs c ∧ J ys W') ∨ (∃ pre, pre <+: parts s hs c ∧ Jx pre W')) := by
  have hmax : s.size ≤ 9223372036854775807 := by unfold maxLen at hs; omega
  refine callsIn_of_wp Tryd.func68 rfl hf ?_ hro
  simp only [Tryd.ntmps68, List.size_toArray, List.length_cons, List.length_nil, Nat.reduceAdd, Nat.reduceSub, Array.replicate_succ, Array.replicate_zero, List.push_toArray, List.append_toArray, List.nil_append, List.cons_append]
  gi_wp2
  gi_loopw [4, 8] (fun fv iv wr => ∃ (a i : Nat) (pre : List Txt), fv = .int .i64 a ∧ iv = .int .i64 i ∧ a ≤ i ∧ i ≤ s.size ∧ parts s hs c = pre ++ rst s hs c a i ((bl s).drop i) ∧ J pre wr ∧ wr.cell? ⟨Bs, 0, none⟩ = some (.string s) ∧ wr.cell? ⟨Bs + 1, 0, none⟩ = some (.int .u8 c))
    (fun _ iv _ => s.size - (intOf iv).toNat)
  case atStart => exact ⟨0, 0, [], rfl, rfl, by omega, by omega, rfl, h0, hBs, hBc⟩
  case round =>
    obtain ⟨a, i, pre, rfl, rfl, hai, hi, hparts, hJs, hc1, hc2⟩ := hrel
    by_cases hlt : i < s.size
    · rw [bl_cons hlt, bl_get s i hlt, rst] at hparts
      by_cases hx : ((s[i].toNat : Int)) = (c : Int)
      · rw [if_pos hx] at hparts
        have hlen : pre.length < (parts s hs c).length := by rw [hparts]; simp
        obtain ⟨fn, tmps, assign, body, hy, hR⟩ := hY pre (sub s hs a i) wr.drew (hJd _ _ hJs) hlen
        dsimp only [sub] at hy
        have hne : (((s[i].toNat : Int)) != (c : Int)) = false := by simpa using hx
        have hmx : Tryd.prog.follows .mixedOrders = true := by kernel_rfl
        have HP := Lib.hid hparts
        have HX := Lib.hid hx
        clear hparts hx
        gi_wp2
        gi_region_o
        all_goals gi_wp2
        all_goals
          refine hR.mono ?_
          rintro e W3 (⟨rfl, hJ3, hk3⟩ | ⟨rfl, hJx3⟩)
          · have g1 : W3.cell? ⟨Bs, 0, none⟩ = some (.string s) := (hk3 Bs (.inl rfl)).trans hc1
            have g2 : W3.cell? ⟨Bs + 1, 0, none⟩ = some (.int .u8 c) := (hk3 (Bs + 1) (.inr rfl)).trans hc2
            gi_wp2
            exact ⟨⟨i + 1, i + 1, pre ++ [sub s hs a i], by go_num, by go_num, by omega, by omega, by rw [HP.out]; simp, hJ3, g1, g2⟩, by simp [intOf]; omega⟩
          · gi_wp2
            refine bodyPost_ret (results_none rfl _ _ _) rfl ?_
            exact ⟨⟨_, rfl⟩, .inr ⟨pre ++ [sub s hs a i], by rw [HP.out]; exact ⟨rst s hs c (i + 1) (i + 1) ((bl s).drop (i + 1)), by simp⟩, hJx3⟩⟩
      · rw [if_neg hx] at hparts
        have hne : (((s[i].toNat : Int)) != (c : Int)) = true := by simpa using hx
        have hmx : Tryd.prog.follows .mixedOrders = true := by kernel_rfl
        have HP := Lib.hid hparts
        clear hparts hx
        gi_wp2
        gi_region_o
        all_goals gi_wp2
        all_goals exact ⟨⟨a, i + 1, pre, rfl, by go_num, by omega, by omega, HP.out, hJd _ _ hJs, hc1, hc2⟩, by simp [intOf]; omega⟩
    · rw [bl_over (by omega), rst] at hparts
      have hlen : pre.length < (parts s hs c).length := by rw [hparts]; simp
      obtain ⟨fn, tmps, assign, body, hy, hR⟩ := hY pre (sub s hs a s.size) wr hJs hlen
      dsimp only [sub] at hy
      have hil : i = s.size := by omega
      subst hil
      have HP := Lib.hid hparts
      clear hparts
      gi_wp2
      refine hR.mono ?_
      rintro e W3 (⟨rfl, hJ3, hk3⟩ | ⟨rfl, hJx3⟩)
      · gi_wp2
        go_end0
        exact ⟨⟨_, rfl⟩, .inl ⟨pre ++ [sub s hs a s.size], HP.out.symm, hJ3⟩⟩
      · gi_wp2
        go_end0
        exact ⟨⟨_, rfl⟩, .inr ⟨pre ++ [sub s hs a s.size], by rw [HP.out]; exact List.prefix_refl _, hJx3⟩⟩
end Go.Proofs.YtlkbgdhlbdjbiaaDoor
