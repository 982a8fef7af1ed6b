/- The project's reading of an opcode; a taker that has a fault. -/
import Derived.Test.YtgacnelpdhmeiaaInsT6
namespace Go.Proofs.Ytgacnelpdhmeiaa
open Go.RowKit Go.Deep
open Leb (byt byt_lt byt_get)

set_option maxRecDepth 100000 in
set_option maxHeartbeats 1000000 in
theorem takerOp_any (t b : Nat) (r : ByteArray) (c : Int) (w : World) (h : TkAt w t r c 0) (hb : BlkAt w b #[.int .i64 0, .int .i64 0, .int .i64 0, .int .i64 0, .slice none 0 0, .slice none 0 0, .slice none 0 0] 57) (hne : b ≠ t) (hs : r.size ≤ 1000000000) :
    Calls Try.prog 47 #[.pointer (some ⟨t, 0, none⟩), .pointer (some ⟨b, 0, none⟩)] w fun x w' => ∃ op r' f', Took t r' c f' b #[.int .i64 op, .int .i64 0, .int .i64 0, .int .i64 0, .slice none 0 0, .slice none 0 0, .slice none 0 0] 57 w x w' ∧ Fits (opT r) op r' f' := by
  have d0 := h.cell 0
  simp at d0
  have k0 := hb.cell 0
  simp at k0
  have z0 := hb.frozen 0
  have hlt := h.lt
  have hlb := hb.lt
  have H := Lib.hid h
  have HB := Lib.hid hb
  have e5 := byt_lt r 0
  by_cases hs0 : r.size = 0
  · have hse : r = ⟨#[]⟩ := ByteArray.size_eq_zero_iff.1 hs0
    have HE : Hid (opT r = .error 2) := Lib.hid (if_pos hs0)
    subst hse
    have HT := Lib.hid (took_any t ⟨#[]⟩ ⟨#[]⟩ c 0 2 w h)
    rw [tkR0, tkF0] at HT
    clear h hb e5 hs0 hs
    go_enter Try.func47, Try.ntmps47
    go_wp2_with (go_at_call 65; refine HT.out.mono ?_; rintro x w1 ⟨rfl, t1, k1⟩)
    exact bodyPost_voidr rfl rfl ⟨0, _, _, ⟨rfl, t1, HB.out.kept k1 hne, k1.mono fun _ q => .inl q⟩, by rw [HE.out]; exact ⟨rfl, by decide, rfl⟩⟩
  · have hpos : 0 < r.size := by omega
    have e3 := byt_get r 0 hpos
    have hnn := toList_some hpos
    have b1' : (1 : Int) ≤ r.size := by omega
    have hm : r.size ≤ 9223372036854775807 := by omega
    have HT := Lib.hid (took_any t r (r.extract 1 r.size) c 0 0 _ (h.other (fun q => hne q.symm) 0 (.int .i64 (byt r 0 : Int))))
    rw [tkR0, tkF0] at HT
    have HB2 := Lib.hid (hb.put 0 (.int .i64 (byt r 0 : Int)))
    have HK := Lib.hid ((Kept.refl (fun k => k = t ∨ k = b) w).set (p := ⟨b, 0, none⟩) (.inr rfl) (.int .i64 (byt r 0 : Int)))
    have hx : (r.extract 1 r.size).size ≤ maxLen := by rw [ByteArray.size_extract]; unfold maxLen; omega
    have HX := Lib.hid hx
    by_cases h252 : byt r 0 = 252
    · have HE : Hid (opT r = (uT (r.extract 1 r.size)).bind fun q => .ok (64512 + q.1, q.2)) := Lib.hid ((if_neg hs0).trans (if_pos h252))
      have wz : IntKind.i64.wrap (uN (r.extract 1 r.size) + 64512) = 64512 + uN (r.extract 1 r.size) := by
        have := uN_range (r.extract 1 r.size)
        rw [IntKind.wrap_i64]; omega
      rw [h252] at HT HB2 HK e3
      have HF := Lib.hid (fits_u (r.extract 1 r.size))
      clear h hb e5 hs0 hs hx h252
      go_enter Try.func47, Try.ntmps47
      go_wp2_with (first
        | (go_at_call 65; refine HT.out.mono ?_; rintro x w1 ⟨rfl, t1, k1⟩; have b1 := HB2.out.kept k1 hne; have c1 := b1.cell 0; rw [show (_ : Array Value)[0]? = some (.int .i64 252) from rfl] at c1; have HN := Lib.hid (number_any t b 0 _ _ _ c 0 252 w1 t1 b1 hne rfl HX.out))
        | (go_at_call 66; refine HN.out.mono ?_; rw [tkR0, tkF0]; rintro x w2 ⟨rfl, t2, b2, k2⟩; have c2 := b2.cell 0; rw [show (_ : Array Value)[0]? = some (.int .i64 (uN (r.extract 1 r.size))) from rfl] at c2; have z2 := b2.frozen 0; have b3 := b2.put 0 (.int .i64 (64512 + uN (r.extract 1 r.size))); have t3 := t2.other (fun q => hne q.symm) 0 (.int .i64 (64512 + uN (r.extract 1 r.size)))))
      refine bodyPost_void rfl rfl ⟨_, _, _, ⟨rfl, t3, b3, (((HK.out.trans (k1.mono fun _ q => .inl q)).trans k2).set (p := ⟨b, 0, none⟩) (.inr rfl) _)⟩, ?_⟩
      rw [HE.out]
      exact fits_map HF.out (fun a => 64512 + a)
    · have HE : Hid (opT r = .ok ((byt r 0 : Int), r.extract 1 r.size)) := Lib.hid ((if_neg hs0).trans (if_neg h252))
      have hn : ((byt r 0 : Int) == 252) = false := eq_no (by omega)
      clear h hb hs0 hs hx h252
      go_enter Try.func47, Try.ntmps47
      go_wp2_with (go_at_call 65; refine HT.out.mono ?_; rintro x w1 ⟨rfl, t1, k1⟩; have b1 := HB2.out.kept k1 hne; have c1 := b1.cell 0; rw [show (_ : Array Value)[0]? = some (.int .i64 (byt r 0 : Int)) from rfl] at c1)
      exact bodyPost_void rfl rfl ⟨_, _, _, ⟨rfl, t1, b1, HK.out.trans (k1.mono fun _ q => .inl q)⟩, by rw [HE.out]; exact ⟨rfl, rfl, rfl⟩⟩
set_option maxRecDepth 100000 in
theorem opcode_dead (t b : Nat) (c f : Int) (hf : f ≠ 0) (w : World) (h : TkAt w t ⟨#[]⟩ c f) :
    Calls Try.prog 47 #[.pointer (some ⟨t, 0, none⟩), .pointer (some ⟨b, 0, none⟩)] w fun x w' => x = .returned (.tuple #[]) ∧ TkAt w' t ⟨#[]⟩ c f ∧ Kept (· = t) w w' := by
  have d0 := h.cell 0
  simp at d0
  have HT := Lib.hid (took_any t ⟨#[]⟩ ⟨#[]⟩ c f 2 w h)
  rw [show tkR f (⟨#[]⟩ : ByteArray) ⟨#[]⟩ = ⟨#[]⟩ from if_neg hf, show tkF f 2 = f from if_neg hf] at HT
  clear h hf
  go_enter Try.func47, Try.ntmps47
  go_wp2_with (go_at_call 65; refine HT.out.mono ?_; rintro x w1 ⟨rfl, t1, k1⟩)
  exact bodyPost_voidr rfl rfl ⟨rfl, t1, k1⟩
set_option maxRecDepth 100000 in
set_option maxHeartbeats 1000000 in
theorem list_dead (t : Nat) (c f d : Int) (hf : f ≠ 0) (w : World) (h : TkAt w t ⟨#[]⟩ c f) :
    Calls Try.prog 36 #[.pointer (some ⟨t, 0, none⟩), .int .i64 d] w fun x w' => x = .returned (.tuple #[.slice none 0 0, .int .i64 0]) ∧ TkAt w' t ⟨#[]⟩ c f ∧ Kept (· = t) w w' := by
  have H := Lib.hid h
  have hlt := h.lt
  have HF := Lib.hid hf
  have hf2 : (f != 0) = true := by simpa using hf
  clear h hf
  go_enter Try.func36, Try.ntmps36
  go_wp2_with fail
  go_loopw [6] (fun v wr => v = .slice none 0 0 ∧ wr = w) (fun _ _ => 0)
  case atStart => exact ⟨rfl, rfl⟩
  case round =>
    obtain ⟨rfl, rfl⟩ := hrel
    have hb0 := Lib.hid ((Below.refl wr.heap.size wr).alloc (Nat.le_refl _) (.cells #[.int .i64 0, .int .i64 0, .int .i64 0, .int .i64 0, .slice none 0 0, .slice none 0 0, .slice none 0 0] 57))
    have HO := Lib.hid (opcode_dead t wr.heap.size c f HF.out _ (H.out.below hb0.out))
    have HBN := Lib.hid (BlkAt.new wr #[.int .i64 0, .int .i64 0, .int .i64 0, .int .i64 0, .slice none 0 0, .slice none 0 0, .slice none 0 0] 57)
    go_wp2_with (go_at_call 47; refine HO.out.mono ?_; rintro x w1 ⟨rfl, t1, k1⟩; have b1 := HBN.out.kept k1 (by omega); have c0 := b1.cell 0; rw [show (_ : Array Value)[0]? = some (.int .i64 0) from rfl] at c0; have f1 := t1.cell 2; rw [show (_ : Array Value)[2]? = some (.int .i64 f) from rfl] at f1)
    go_quiet (fail)
    go_wp2
    go_ret2
    exact ⟨rfl, t1, (Kept.of_below hb0.out).trans ⟨k1.os, k1.tape, k1.output, k1.size, k1.block⟩⟩
end Go.Proofs.Ytgacnelpdhmeiaa
