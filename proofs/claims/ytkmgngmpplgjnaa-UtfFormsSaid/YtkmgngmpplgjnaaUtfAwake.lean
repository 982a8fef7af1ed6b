/- The chapter's examples, and reading and writing as what they come to. -/
import Derived.Test.YtkmgngmpplgjnaaUtfRd
import Derived.Test.YtkmgngmpplgjnaaUtfWr
import Derived.Test.YtkmgngmpplgjnaaUtfCut
import Derived.Test.YtkmgngmpplgjnaaSame
import Derived.KernelRfl
namespace Go.Proofs.Ytkmgngmpplgjnaa
open Go.RowKit

theorem Ints.viewAt {base : Nat} {a : Option Addr} {n cap : Nat} {xs : List Int} {w : World} (h : Ints base (.slice a n cap) xs w) : View w a xs.length xs := by
  obtain ⟨a', cap', e, hv⟩ := h.view
  cases e
  exact hv

namespace Utf
/-- What reading comes to. -/
def Out (form : Int) (L : List Int) (ok : Bool) (ps : List Int) : Prop := (ok = true ∧ Reads form L ps) ∨ (ok = false ∧ ps = [] ∧ ∀ qs, ¬ Reads form L qs)
theorem out_any (form : Int) (L : List Int) : ∃ ok ps, Out form L ok ps := by
  by_cases h : ∃ ps, Reads form L ps
  · obtain ⟨ps, h⟩ := h
    exact ⟨true, ps, .inl ⟨rfl, h⟩⟩
  · exact ⟨false, [], .inr ⟨rfl, rfl, fun qs hq => h ⟨qs, hq⟩⟩⟩
theorem out_uniq {form : Int} {L : List Int} {ok is : Bool} {ps qs : List Int} (h : Out form L ok ps) (k : Out form L is qs) : is = ok ∧ qs = ps := by
  rcases h with ⟨rfl, h⟩ | ⟨rfl, rfl, h⟩ <;> rcases k with ⟨rfl, k⟩ | ⟨rfl, rfl, k⟩
  · exact ⟨rfl, reads_uniq k h⟩
  · exact absurd h (k _)
  · exact absurd k (h _)
  · exact ⟨rfl, rfl⟩
theorem cat_ge {form : Int} : ∀ {ps : List Int}, allW form ps = true → ps.length ≤ (catL form ps).length := by
  intro ps
  induction ps with
  | nil => intro _; exact Nat.le_refl _
  | cons p ps ih =>
    intro h
    obtain ⟨h1, h2⟩ := allW_cons h
    have h0 : 0 < (oneL form p).length := List.length_pos_iff.2 h1
    have := ih h2
    rw [catL_cons, List.length_append, List.length_cons]
    omega
theorem out_length {form : Int} {L : List Int} {ok : Bool} {ps : List Int} (h : Out form L ok ps) : ps.length ≤ L.length := by
  rcases h with ⟨_, _, h2, h3⟩ | ⟨_, rfl, _⟩
  · rw [← h3]
    exact cat_ge h2
  · simp
end Utf

theorem read_out {form : Int} {s : ByteArray} {ok : Bool} {ps : List Int} (h : Utf.Out form (bl s) ok ps) (hs : s.size ≤ 100000) (w : World) :
    Calls Try.prog 11 #[.int .i64 form, .string s] w fun e w' => ∃ a cap, e = .returned (.tuple #[.slice a ps.length cap, .bool ok]) ∧ Ints w.heap.size (.slice a ps.length cap) ps w' ∧ Below w.heap.size w w' := by
  refine (read_any form s hs w).mono ?_
  rintro e w' ⟨v, is, qs, rfl, hown, hb, hor⟩
  obtain ⟨rfl, rfl⟩ := Utf.out_uniq h hor
  obtain ⟨a, cap, rfl, _⟩ := hown.view
  exact ⟨a, cap, rfl, hown, hb⟩
theorem refRead_out {form : Int} {s : ByteArray} {ok : Bool} {ps : List Int} (h : Utf.Out form (bl s) ok ps) (hs : s.size ≤ 1000) (w : World) :
    Calls Try.prog 12 #[.int .i64 form, .string s] w fun e w' => ∃ a cap, e = .returned (.tuple #[.slice a ps.length cap, .bool ok]) ∧ Ints w.heap.size (.slice a ps.length cap) ps w' ∧ Below w.heap.size w w' := by
  refine (refRead_any form s hs w).mono ?_
  rintro e w' ⟨v, is, qs, rfl, hown, hb, hor⟩
  obtain ⟨rfl, rfl⟩ := Utf.out_uniq h hor
  obtain ⟨a, cap, rfl, _⟩ := hown.view
  exact ⟨a, cap, rfl, hown, hb⟩
theorem valid_out {s : ByteArray} {ok : Bool} {ps : List Int} (h : Utf.Out 0 (bl s) ok ps) (w : World) :
    Calls Try.prog 14 #[.string s] w fun e w' => e = .returned (.bool ok) ∧ Below w.heap.size w w' := by
  refine (valid_any s w).mono ?_
  rintro e w' ⟨b, rfl, hb, hor⟩
  refine ⟨?_, hb⟩
  rcases h with ⟨rfl, h⟩ | ⟨rfl, rfl, h⟩ <;> rcases hor with ⟨rfl, qs, k⟩ | ⟨rfl, k⟩
  · rfl
  · exact absurd h (k _)
  · exact absurd k (h _)
  · rfl
/-- Write of a slice that was just laid. -/
theorem write_new (form : Int) (zs : List Int) (hlen : zs.length ≤ 2000) (w : World) :
    Calls Try.prog 17 #[.int .i64 form, .slice (some ⟨w.heap.size, 0, none⟩) zs.length zs.length] (w.alloc (.cells (zs.map (Value.int .i64)).toArray 3)) fun e w' => e = .returned (Utf.wTup form zs) ∧ Below w.heap.size w w' := by
  refine (write_any form _ _ zs _ (view_new zs _ w) hlen).mono ?_
  rintro e w' ⟨rfl, hb⟩
  exact ⟨rfl, ((Below.refl _ _).alloc (Nat.le_refl _) _).trans (hb.mono (by simp))⟩

theorem ex_w0 : Utf.wTup 0 [233, 128512] = .tuple #[.string ⟨#[195, 169, 240, 159, 152, 128]⟩, .bool true] := by kernel_rfl
theorem ex_w1 : Utf.wTup 1 [128512] = .tuple #[.string ⟨#[61, 216, 0, 222]⟩, .bool true] := by kernel_rfl
theorem ex_none : Utf.Out 0 (bl ⟨#[192, 128]⟩) false [] := by
  refine .inr ⟨rfl, rfl, ?_⟩
  have e : bl ⟨#[192, 128]⟩ = [192, 128] := by kernel_rfl
  rw [e]
  exact Utf.reads_none (form := 0) (ps := []) rfl (by simp) (by
    intro p x hp e
    have := Utf.head0 hp e
    simp at this
    omega)
set_option maxRecDepth 100000 in
theorem awake_any (w : World) : Calls Try.prog 15 #[] w fun e w' => e = .returned (.bool true) ∧ Below w.heap.size w w' := by
  have H0 := Lib.hid (write_new 0 [233, 128512] (by simp))
  have H1 := Lib.hid (write_new 1 [128512] (by simp))
  rw [ex_w0] at H0
  rw [ex_w1] at H1
  have HR := Lib.hid (read_out ex_none (by decide))
  have hb := Below.refl w.heap.size w
  go_enter Try.func15, Try.ntmps15
  go_wp2_with (first
    | (go_at_call_of 17 (Value.int .i64 0); refine (H0.out _).mono ?_; rintro e w1 ⟨rfl, h1⟩; replace hb := hb.trans (h1.mono hb.size); clear h1)
    | (go_at_call_of 17 (Value.int .i64 1); refine (H1.out _).mono ?_; rintro e w2 ⟨rfl, h1⟩; replace hb := hb.trans (h1.mono hb.size); clear h1)
    | (go_at_call 11; refine (HR.out _).mono ?_; rintro e w3 ⟨a, cap, rfl, _, h1⟩; replace hb := hb.trans (h1.mono hb.size); clear h1))
  go_ret
  exact ⟨rfl, hb⟩
end Go.Proofs.Ytkmgngmpplgjnaa
