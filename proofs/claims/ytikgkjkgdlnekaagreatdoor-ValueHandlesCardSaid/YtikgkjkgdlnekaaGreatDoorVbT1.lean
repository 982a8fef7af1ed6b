/- value: FormatUint, FormatBool, joined. -/
import Derived.Test.YtikgkjkgdlnekaaGreatDoorVbO
import Derived.Test.YtikgkjkgdlnekaaGreatDoorVbBu
import Derived.Test.YtikgkjkgdlnekaaGreatDoorSh
import Derived.Lib.AppendIntMem
set_option linter.unusedVariables false
set_option linter.unusedSimpArgs false
namespace Go.Proofs.YtikgkjkgdlnekaaGreatDoor
open Go.RowKit
open Lex Ct
open Go.Sort

def TxtR (b : ByteArray) (w : World) (y : Ending) (w' : World) : Prop := y = .returned (.string b) ∧ Kept (fun _ => False) w w'
/-- The tables that are read. -/
def Tabs (w : World) : Prop := Lib.TabIs Tryz.prog w "internal/strconv.uint64pow10" .u64 Lib.pow10Tab
theorem tabIs_kept {w w' : World} {name : String} {k : IntKind} {zs : List Int} (h : Lib.TabIs Tryz.prog w name k zs) (kk : Kept (fun _ => False) w w') : Lib.TabIs Tryz.prog w' name k zs := by
  unfold Lib.TabIs World.var? at *
  cases hg : Tryz.prog.globalNamed name with
  | none => simp [hg] at h
  | some g =>
    simp only [hg, Option.bind_some] at h ⊢
    cases hb : w.heap[g]? with
    | none => simp [hb] at h
    | some o => rw [kk.block g (Array.getElem?_eq_some_iff.1 hb).1 id]; exact h
set_option maxRecDepth 100000 in
set_option maxHeartbeats 4000000 in
theorem rdFmtUintI (u : Nat) (hu : 100 ≤ u) (hu64 : u < 18446744073709551616) (w : World) (htab : Tabs w) :
    Calls Tryz.prog 73 #[.int .u64 u, .int .i64 10] w (TxtR ⟨(Lib.decDigits u).toArray⟩ w) := by
  have hu1 : 1 ≤ u := by omega
  have hnd20 : Lib.nDigits u ≤ 20 := by have := Lib.numDigits_eq u hu1 hu64; split at this <;> omega
  have hb3 : Lib.nDigits u ≤ 24 := by omega
  have hlt : decide ((u : Int) < 100) = false := by simp; omega
  have hal : Tryz.prog.arrayLen 110 = 24 := by kernel_rfl
  have hsl1 : ∀ W, (Instr.sliceAt 110 (.pointer (some ⟨w.heap.size, 0, none⟩)) none (some (.int .i64 (Lib.nDigits u : Int))) none).run Tryz.prog W = .ok (.slice (some ⟨w.heap.size, 0, none⟩) (Lib.nDigits u) 24) W := fun W => by
    rw [run_sliceAt_array_h W 110 ⟨w.heap.size, 0, none⟩ Tryz.underlying110 .i64 (Lib.nDigits u : Int) (by omega) (by rw [hal]; omega)]
    go_simp
  have hH0 := Lib.holds_zero0 w 110 (Lib.nDigits u) (by omega)
  have hfmt := Tryz.internal_strconv_formatBase10 w.heap.size 0 24 u (Array.replicate (Lib.nDigits u) 0) (w.alloc (.cells Lib.zeros24 110)) hH0 (by rw [Array.size_replicate]; exact Lib.lt_pow_nDigits u) hu64 (by rw [Array.size_replicate]; omega)
  rw [Array.size_replicate] at hfmt
  have HH0 := Lib.hid hH0
  have HND := Lib.hid (Tryz.internal_strconv_numDigits u hu1 hu64 (w.alloc (.cells Lib.zeros24 110)) (Lib.tabIs_alloc htab _))
  have HF0 := Lib.hid hfmt
  clear hH0 hal hfmt htab hu
  go_enter Tryz.func73, Tryz.ntmps73
  go_wp2_with (first
    | (go_at_call 90; refine HND.out.mono ?_; rintro e w' ⟨rfl, rfl⟩)
    | (go_at_call 91
       refine HF0.out.mono ?_
       rintro e w' ⟨rfl, k, v', dk, rfl, hF⟩
       have hcv : (convert 91 9 (.slice (some ⟨w.heap.size, 0, none⟩) (Lib.nDigits u) 24)).run Tryz.prog ((putRow (fun (b : UInt8) => Value.int .u8 (b.toNat : Int)) (w.alloc (.cells Lib.zeros24 110)) w.heap.size 0 dk).drewN k) = .ok (.string ⟨(Lib.decDigits u).toArray⟩) ((putRow (fun (b : UInt8) => Value.int .u8 (b.toNat : Int)) (w.alloc (.cells Lib.zeros24 110)) w.heap.size 0 dk).drewN k) := by
         have h := run_convert_bytes_back (P := Tryz.prog) ((putRow (fun (b : UInt8) => Value.int .u8 (b.toNat : Int)) (w.alloc (.cells Lib.zeros24 110)) w.heap.size 0 dk).drewN k) 91 9 5 ⟨w.heap.size, 0, none⟩ 24 (Lib.decDigits u) Tryz.underlying91 Tryz.underlying5 Tryz.underlying9 (fun j hj => by
           rw [Lib.row_is_numeral hF j hj, Lib.add_plain, World.cell?_drewN]
           exact cell?_putRow (fun (b : UInt8) => Value.int .u8 (b.toNat : Int)) _ w.heap.size 0 _ dk HH0.out (by rw [hF.size, Array.size_replicate]) j (by rw [hF.size]; rw [Lib.decDigits_length] at hj; exact hj))
         rw [Lib.decDigits_length] at h
         exact h
       have HFI := Lib.hid (Lib.fin_at w (.cells Lib.zeros24 110) dk k 0)
       clear hF))
  go_ret
  obtain ⟨os, eo⟩ := HFI.out
  refine ⟨rfl, ?_⟩
  rw [eo]
  exact Kept.of (Lib.below_grow w.heap.size w (Nat.le_refl _) k os) (Nat.le_refl _)
theorem rdFmtUint (u : Nat) (hu : 100 ≤ u) (hu64 : u < 18446744073709551616) (w : World) (htab : Tabs w) :
    Calls Tryz.prog 50 #[.int .u64 u, .int .i64 10] w (TxtR ⟨(Lib.decDigits u).toArray⟩ w) := by
  have H := Lib.hid (rdFmtUintI u hu hu64 w htab)
  unfold TxtR at H
  clear hu hu64 htab
  go_enter Tryz.func50, Tryz.ntmps50
  go_wp2_with (first
    | (go_at_call 73; refine H.out.mono ?_; rintro y w1 ⟨rfl, k1⟩))
  go_ret
  exact ⟨rfl, k1⟩
namespace Ct
def joinB (xs : List ByteArray) : ByteArray := ⟨(Lib.join (xs.map (·.data.toList)) [44, 32]).toArray⟩
end Ct
theorem rdJoinB (xs : List ByteArray) (sv : Value) (B : Nat) (w : World) (h : w.ownsRow B 9 1 sv xs.length (xs.map .string)) (hb : xs.length ≤ 1000) (hlen : (Lib.join (xs.map (·.data.toList)) [44, 32]).length ≤ 140737488355328) :
    Calls Tryz.prog 54 #[sv] w (TxtR (joinB xs) w) := by
  have HJ : Hid (Calls Tryz.prog 81 #[sv, .string ⟨#[44, 32]⟩] w (TxtR (joinB xs) w)) := Lib.hid (by
    rcases h.2 with ⟨e, h0⟩ | ⟨g, cap, cur, e, hbg, hg, hc, hm, h3, h4⟩
    · subst e
      have hx : xs = [] := List.length_eq_zero_iff.1 h0
      subst hx
      refine (Tryz.strings_Join_none none 0 ⟨#[44, 32]⟩ w).mono ?_
      rintro y w' ⟨rfl, rfl⟩
      exact ⟨rfl, Kept.refl _ _⟩
    · subst e
      refine (Tryz.strings_Join g 0 cap xs ⟨#[44, 32]⟩ w (fun j x hx => ?_) (Array.getElem?_eq_some_iff.1 hg).1 (by omega) hc hlen).mono ?_
      · have := World.ownsRow.cells h rfl j (.string x) (by rw [List.getElem?_map, hx]; rfl)
        rw [Addr.add_lit] at this
        exact this
      · rintro y w' ⟨rfl, hB⟩
        exact ⟨rfl, Kept.of hB (Nat.le_refl _)⟩)
  unfold TxtR at HJ
  clear h hb hlen
  go_enter Tryz.func54, Tryz.ntmps54
  go_wp2_with (first
    | (go_at_call 81; refine HJ.out.mono ?_; rintro y w1 ⟨rfl, k1⟩))
  go_ret
  exact ⟨rfl, k1⟩
end Go.Proofs.YtikgkjkgdlnekaaGreatDoor
