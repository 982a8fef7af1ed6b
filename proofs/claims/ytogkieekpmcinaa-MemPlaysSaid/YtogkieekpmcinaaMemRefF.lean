/- The reference's writing of a text, and its copying. -/
import Derived.Test.YtogkieekpmcinaaMemRefE
import Derived.Lib.BufferWrite
import Derived.Laws.CopyOwn
namespace Go.Proofs.Ytogkieekpmcinaa
open Go.RowKit

theorem wpList_copy_run {P : Program} {w : World} {ops : Array Oper} {rest : List Oper} {o : Oper} {a : Act} {Q : Exit → Act → World → Prop} (hgd : o.guard = none) (d s : Operand) (dT sT : TypeId)
    (ho : o.op = .call { callee := .builtin .copy, args := #[d, s], argTypes := #[dT, sT] }) (n : Nat) (w' : World)
    (hrun : (Builtin.copy_ #[dT, sT] o.type #[a.eval d, a.eval s]).run P w = .ok (goInt n) w') (h : wpList P ops Q rest (a.put o.dst (goInt n)) w') : wpList P ops Q (o :: rest) a w :=
  wpList_plain hgd fun K hK => by
    unfold Oper.wp
    simp [execOp, ho, resolve, invoke, builtin, hrun, Result.andThen]
    exact hK _ _ h
theorem size_u8 : ((Try.prog.info? 5).map (·.size)) = some 1 := by kernel_rfl

/-- A text's bytes as numbers. -/
def bytesL (s : ByteArray) : List Int := s.data.toList.map fun b => (b.toNat : Int)
theorem bytesL_length (s : ByteArray) : (bytesL s).length = s.size := by
  unfold bytesL
  rw [List.length_map, Array.length_toList]
  rfl
theorem bytesL_byte (s : ByteArray) : ∀ z ∈ bytesL s, 0 ≤ z ∧ z ≤ 255 := by
  intro z hz
  obtain ⟨b, _, rfl⟩ := List.mem_map.1 hz
  have := UInt8.toNat_lt b
  omega
theorem patch_byte {S bs : List Int} (h : ∀ z ∈ S, 0 ≤ z ∧ z ≤ 255) (k : ∀ z ∈ bs, 0 ≤ z ∧ z ≤ 255) (p : Nat) : ∀ z ∈ patch S p bs, 0 ≤ z ∧ z ≤ 255 := by
  intro z hz
  unfold patch at hz
  rcases List.mem_append.1 hz with hz | hz
  · rcases List.mem_append.1 hz with hz | hz
    · exact h z (List.mem_of_mem_take hz)
    · exact k z hz
  · exact h z (List.mem_of_mem_drop hz)
theorem RMem.row {a g : Nat} {S bs : List Int} {mx bd : Int} {w : World} (h : RMem a g S mx bd w) {p : Nat} (hp : p + bs.length ≤ S.length) (hb : ∀ z ∈ bs, 0 ≤ z ∧ z ≤ 255) :
    RMem a g (patch S p bs) mx bd (w.setRow g (((S.map (Value.int .u8)).take p ++ bs.map (Value.int .u8) ++ (S.map (Value.int .u8)).drop (p + bs.length)).toArray)) := by
  refine ⟨h.ne, ?_, ?_, patch_byte h.byte hb p, by rw [patch_length hp]; exact h.len⟩
  · rw [setRow_other w g a _ h.ne, h.head, patch_length hp]
  · have hg := h.body
    simp only [World.setRow, Array.getElem?_modify, if_pos, hg, Option.map_some]
    simp [patch, List.map_take, List.map_drop]
theorem Kept.row {F : Nat → Prop} {a w : World} (h : Kept F a w) {g : Nat} (hg : F g) (cs : Array Value) : Kept F a (w.setRow g cs) :=
  h.trans ⟨rfl, rfl, rfl, by simp [World.setRow], fun k _ hf => setRow_other w g k cs (fun e => hf (e ▸ hg))⟩
/-- What writing a text leaves. -/
def writeS (S : List Int) (at' : Int) (s : ByteArray) : List Int := if inB S.length at' s.size = true then patch S at'.toNat (bytesL s) else S
def writeT (S : List Int) (at' : Int) (s : ByteArray) : Int := if inB S.length at' s.size = true then 0 else 4
set_option maxRecDepth 100000 in
theorem refWrite_any (a g : Nat) (S : List Int) (mx bd : Int) (at' : Int) (s : ByteArray) (w : World) (h : RMem a g S mx bd w) (hs : s.size ≤ maxLen) :
    Calls Try.prog 34 #[.pointer (some ⟨a, 0, none⟩), .int .i64 at', .string s] w fun e w' => e = .returned (.int .i64 (writeT S at' s)) ∧ RMem a g (writeS S at' s) mx bd w' ∧ Kept (· = g) w w' := by
  have hlen := h.len
  unfold maxLen at hs
  have HIN := Lib.hid (refIn_any a _ _ _ at' s.size (by omega) w h.slot)
  have H := Lib.hid h
  have hslot := h.slot
  unfold writeS writeT
  by_cases hi : inB S.length at' s.size = true
  · rw [if_pos hi, if_pos hi]
    rw [hi] at HIN
    obtain ⟨i1, i2, i3, i4⟩ : 0 ≤ at' ∧ 0 ≤ (s.size : Int) ∧ at' ≤ S.length ∧ (s.size : Int) ≤ S.length - at' := of_decide_eq_true hi
    obtain ⟨p, rfl⟩ := Int.eq_ofNat_of_zero_le i1
    rw [Int.toNat_natCast]
    have hbl := bytesL_length s
    have hpq : p + s.size ≤ S.length := by omega
    clear hi i1 i2 i3 i4 h
    by_cases hp : p = S.length
    · have h0 : s.size = 0 := by omega
      subst hp
      have hbe : bytesL s = [] := List.length_eq_zero_iff.1 (by omega)
      have HP : Hid (patch S S.length (bytesL s) = S) := Lib.hid (by rw [hbe, patch_nil])
      have hrun : (∀ ty d dl dc, (Builtin.copy_ #[39, 9] ty #[.slice d dl dc, .string s]).run Try.prog w = .ok (goInt 0) w) := fun ty d dl dc => Lib.run_copy_empty_string w _ _ ty 5 d dl dc s Try.underlying39 rfl h0
      clear hbe hpq hbl h0
      go_enter Try.func34, Try.ntmps34
      go_wp2_with (go_at_call 44; refine HIN.out.mono ?_; rintro e w2 ⟨rfl, rfl⟩)
      go_ret
      rw [HP.out]
      exact ⟨rfl, H.out, Kept.refl _ _⟩
    · have hp' : ¬ S.length = p := fun e => hp e.symm
      have HROW := Lib.hid (H.out.row (p := p) (bs := bytesL s) (by omega) (bytesL_byte s))
      have hrun := fun ty => Lib.run_copy_row_string w 39 9 ty 5 g p (S.length - p) (S.length - p) s (S.map (Value.int .u8)).toArray 5 Try.underlying39 size_u8 H.out.body (by omega) (by simp; omega)
      clear hbl
      go_enter Try.func34, Try.ntmps34
      go_wp2_with (go_at_call 44; refine HIN.out.mono ?_; rintro e w2 ⟨rfl, rfl⟩)
      go_ret
      refine ⟨rfl, ?_, Kept.row (F := (· = g)) (Kept.refl _ _) rfl _⟩
      have hr := HROW.out
      rw [bytesL_length] at hr
      have e : Lib.byteCells s.data.toList = (bytesL s).map (Value.int .u8) := by unfold bytesL; rw [List.map_map]; rfl
      try simp only [e, List.append_assoc] at hr ⊢
      first
        | exact hr
        | simpa using hr
  · rw [if_neg hi, if_neg hi]
    rw [not_true hi] at HIN
    clear hi h
    go_enter Try.func34, Try.ntmps34
    go_wp2_with (go_at_call 44; refine HIN.out.mono ?_; rintro e w2 ⟨rfl, rfl⟩)
    go_ret
    exact ⟨rfl, H.out, Kept.refl _ _⟩
end Go.Proofs.Ytogkieekpmcinaa
