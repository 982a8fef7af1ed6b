/- The project's reading of an instruction's numbers, each shape. -/
import Derived.Test.YtgacnelpdhmeiaaInsT4
import Derived.Test.YtgacnelpdhmeiaaInsF
namespace Go.Proofs.Ytgacnelpdhmeiaa
open Go.RowKit

set_option maxRecDepth 100000 in
set_option maxHeartbeats 1000000 in
theorem tf_s1 (t b : Nat) (op : Int) (r : ByteArray) (c : Int) (w : World) (_h : TkAt w t r c 0) (_hb : BlkAt w b #[.int .i64 op, .int .i64 0, .int .i64 0, .int .i64 0, .slice none 0 0, .slice none 0 0, .slice none 0 0] 57) (_hne : b ≠ t) (_hs : r.size ≤ 1000000000) :
    Calls Try.prog 67 #[.pointer (some ⟨t, 0, none⟩), .pointer (some ⟨b, 0, none⟩), .int .i64 1] w fun x w' => GivesF t b op 1 r c w x w' := by
  have h := _h
  have hb := _hb
  have hne := _hne
  have hs := _hs
  have hlt := h.lt
  have hlb := hb.lt
  have hm : r.size ≤ maxLen := by unfold maxLen; omega
  have _HT := Lib.hid h
  have _HB := Lib.hid hb
  clear h hb hs _h _hb _hs _hne hm hne hlt hlb
  go_enter Try.func67, Try.ntmps67
  go_wp2_with fail
  exact bodyPost_void rfl rfl ⟨0, 0, 0, none, 0, [], r, 0, ⟨rfl, _HT.out, _HB.out, Kept.refl _ _⟩, ⟨rfl, rfl, rfl⟩, ints_nil _ _⟩
set_option maxRecDepth 100000 in
set_option maxHeartbeats 1000000 in
theorem tf_s2 (t b : Nat) (op : Int) (r : ByteArray) (c : Int) (w : World) (_h : TkAt w t r c 0) (_hb : BlkAt w b #[.int .i64 op, .int .i64 0, .int .i64 0, .int .i64 0, .slice none 0 0, .slice none 0 0, .slice none 0 0] 57) (_hne : b ≠ t) (_hs : r.size ≤ 1000000000) :
    Calls Try.prog 67 #[.pointer (some ⟨t, 0, none⟩), .pointer (some ⟨b, 0, none⟩), .int .i64 2] w fun x w' => GivesF t b op 2 r c w x w' := by
  have h := _h
  have hb := _hb
  have hne := _hne
  have hs := _hs
  have hlt := h.lt
  have hlb := hb.lt
  have hm : r.size ≤ maxLen := by unfold maxLen; omega
  have H1 := Lib.hid (takerBlock_any t b 1 _ _ r c 0 w h hb hne rfl (show 1 < 7 by decide) hm)
  clear h hb hs _h _hb _hs _hne hm
  go_enter Try.func67, Try.ntmps67
  go_wp2_with (first
    | (go_at_call 80; refine H1.out.mono ?_; rintro x w1 ⟨n, r1, f1, ⟨rfl, t1, b1, k1⟩, q1⟩))
  exact bodyPost_void rfl rfl ⟨n, 0, 0, none, 0, [], _, _, ⟨rfl, t1, b1, k1⟩, fits_map q1 (fun a => ((a, 0, 0, []) : Int × Int × Int × List Int)), ints_nil _ _⟩
set_option maxRecDepth 100000 in
set_option maxHeartbeats 1000000 in
theorem tf_s3 (t b : Nat) (op : Int) (r : ByteArray) (c : Int) (w : World) (_h : TkAt w t r c 0) (_hb : BlkAt w b #[.int .i64 op, .int .i64 0, .int .i64 0, .int .i64 0, .slice none 0 0, .slice none 0 0, .slice none 0 0] 57) (_hne : b ≠ t) (_hs : r.size ≤ 1000000000) :
    Calls Try.prog 67 #[.pointer (some ⟨t, 0, none⟩), .pointer (some ⟨b, 0, none⟩), .int .i64 3] w fun x w' => GivesF t b op 3 r c w x w' := by
  have h := _h
  have hb := _hb
  have hne := _hne
  have hs := _hs
  have hlt := h.lt
  have hlb := hb.lt
  have hm : r.size ≤ maxLen := by unfold maxLen; omega
  have H1 := Lib.hid (number_any t b 1 _ _ r c 0 0 w h hb hne rfl hm)
  rw [tkR0, tkF0] at H1
  clear h hb hs _h _hb _hs _hne hm
  go_enter Try.func67, Try.ntmps67
  go_wp2_with (first
    | (go_at_call 66; refine H1.out.mono ?_; rintro x w1 ⟨rfl, t1, b1, k1⟩))
  exact bodyPost_void rfl rfl ⟨uN r, 0, 0, none, 0, [], _, _, ⟨rfl, t1, b1, k1⟩, fits_map (fits_u r) (fun a => ((a, 0, 0, []) : Int × Int × Int × List Int)), ints_nil _ _⟩
set_option maxRecDepth 100000 in
set_option maxHeartbeats 1000000 in
theorem tf_s5 (t b : Nat) (op : Int) (r : ByteArray) (c : Int) (w : World) (_h : TkAt w t r c 0) (_hb : BlkAt w b #[.int .i64 op, .int .i64 0, .int .i64 0, .int .i64 0, .slice none 0 0, .slice none 0 0, .slice none 0 0] 57) (_hne : b ≠ t) (_hs : r.size ≤ 1000000000) :
    Calls Try.prog 67 #[.pointer (some ⟨t, 0, none⟩), .pointer (some ⟨b, 0, none⟩), .int .i64 5] w fun x w' => GivesF t b op 5 r c w x w' := by
  have h := _h
  have hb := _hb
  have hne := _hne
  have hs := _hs
  have hlt := h.lt
  have hlb := hb.lt
  have hm : r.size ≤ maxLen := by unfold maxLen; omega
  have H1 := Lib.hid (number_any t b 1 _ _ r c 0 0 w h hb hne rfl hm)
  rw [tkR0, tkF0] at H1
  have s1 : Hid ((uR r).size ≤ maxLen) := Lib.hid (Nat.le_trans (uR_size r) hm)
  clear h hb hs _h _hb _hs _hne hm
  go_enter Try.func67, Try.ntmps67
  go_wp2_with (first
    | (go_at_call 66; refine H1.out.mono ?_; rintro x w1 ⟨rfl, t1, b1, k1⟩; clear H1; have H2 := Lib.hid (number_any t b 3 _ _ _ c _ 0 w1 t1 b1 hne rfl s1.out))
    | (go_at_call 66; refine H2.out.mono ?_; rintro x w2 ⟨rfl, t2, b2, k2⟩))
  exact bodyPost_void rfl rfl ⟨uN r, 0, uN (uR r), none, 0, [], _, _, ⟨rfl, t2, b2, k1.trans k2⟩, fits_bind (fits_u r) (fun h0 => fits_bind (k := fun o => .ok (((uN r, 0, o.1, []) : Int × Int × Int × List Int), o.2)) (fits_tk h0 (fits_u (uR r))) (fun h1 => ⟨h1, rfl, rfl⟩) fun _ => ⟨rfl, rfl⟩) fun h0 => tk_no h0, ints_nil _ _⟩
set_option maxRecDepth 100000 in
set_option maxHeartbeats 1000000 in
theorem tf_s6 (t b : Nat) (op : Int) (r : ByteArray) (c : Int) (w : World) (_h : TkAt w t r c 0) (_hb : BlkAt w b #[.int .i64 op, .int .i64 0, .int .i64 0, .int .i64 0, .slice none 0 0, .slice none 0 0, .slice none 0 0] 57) (_hne : b ≠ t) (_hs : r.size ≤ 1000000000) :
    Calls Try.prog 67 #[.pointer (some ⟨t, 0, none⟩), .pointer (some ⟨b, 0, none⟩), .int .i64 6] w fun x w' => GivesF t b op 6 r c w x w' := by
  have h := _h
  have hb := _hb
  have hne := _hne
  have hs := _hs
  have hlt := h.lt
  have hlb := hb.lt
  have hm : r.size ≤ maxLen := by unfold maxLen; omega
  have H1 := Lib.hid (types_any t b 1 _ _ r c 0 w h hb hne rfl hm)
  clear h hb hs _h _hb _hs _hne hm
  go_enter Try.func67, Try.ntmps67
  go_wp2_with (first
    | (go_at_call 82; refine H1.out.mono ?_; rintro x w1 ⟨n, r1, f1, ⟨rfl, t1, b1, k1⟩, q1⟩))
  exact bodyPost_void rfl rfl ⟨n, 0, 0, none, 0, [], _, _, ⟨rfl, t1, b1, k1⟩, fits_map q1 (fun a => ((a, 0, 0, []) : Int × Int × Int × List Int)), ints_nil _ _⟩
set_option maxRecDepth 100000 in
set_option maxHeartbeats 1000000 in
theorem tf_s7 (t b : Nat) (op : Int) (r : ByteArray) (c : Int) (w : World) (_h : TkAt w t r c 0) (_hb : BlkAt w b #[.int .i64 op, .int .i64 0, .int .i64 0, .int .i64 0, .slice none 0 0, .slice none 0 0, .slice none 0 0] 57) (_hne : b ≠ t) (_hs : r.size ≤ 1000000000) :
    Calls Try.prog 67 #[.pointer (some ⟨t, 0, none⟩), .pointer (some ⟨b, 0, none⟩), .int .i64 7] w fun x w' => GivesF t b op 7 r c w x w' := by
  have h := _h
  have hb := _hb
  have hne := _hne
  have hs := _hs
  have hlt := h.lt
  have hlb := hb.lt
  have hm : r.size ≤ maxLen := by unfold maxLen; omega
  have H1 := Lib.hid (takerPlace_any t b op _ _ _ _ r c w h hb hne hm)
  clear h hb hs _h _hb _hs _hne hm
  go_enter Try.func67, Try.ntmps67
  go_wp2_with (first
    | (go_at_call 83; refine H1.out.mono ?_; rintro x w1 ⟨a1, a2, a3, r1, f1, ⟨rfl, t1, b1, k1⟩, q1⟩))
  exact bodyPost_void rfl rfl ⟨a1, a2, a3, none, 0, [], _, _, ⟨rfl, t1, b1, k1⟩, fits_map q1 (fun a => ((a.1, a.2.1, a.2.2, []) : Int × Int × Int × List Int)), ints_nil _ _⟩
set_option maxRecDepth 100000 in
set_option maxHeartbeats 1000000 in
theorem tf_s8 (t b : Nat) (op : Int) (r : ByteArray) (c : Int) (w : World) (_h : TkAt w t r c 0) (_hb : BlkAt w b #[.int .i64 op, .int .i64 0, .int .i64 0, .int .i64 0, .slice none 0 0, .slice none 0 0, .slice none 0 0] 57) (_hne : b ≠ t) (_hs : r.size ≤ 1000000000) :
    Calls Try.prog 67 #[.pointer (some ⟨t, 0, none⟩), .pointer (some ⟨b, 0, none⟩), .int .i64 8] w fun x w' => GivesF t b op 8 r c w x w' := by
  have h := _h
  have hb := _hb
  have hne := _hne
  have hs := _hs
  have hlt := h.lt
  have hlb := hb.lt
  have hm : r.size ≤ maxLen := by unfold maxLen; omega
  have H1 := Lib.hid (number_any t b 3 _ _ r c 0 0 w h hb hne rfl hm)
  rw [tkR0, tkF0] at H1
  clear h hb hs _h _hb _hs _hne hm
  go_enter Try.func67, Try.ntmps67
  go_wp2_with (first
    | (go_at_call 66; refine H1.out.mono ?_; rintro x w1 ⟨rfl, t1, b1, k1⟩))
  exact bodyPost_void rfl rfl ⟨0, 0, uN r, none, 0, [], _, _, ⟨rfl, t1, b1, k1⟩, fits_map (fits_u r) (fun a => ((0, 0, a, []) : Int × Int × Int × List Int)), ints_nil _ _⟩
set_option maxRecDepth 100000 in
set_option maxHeartbeats 1000000 in
theorem tf_s9 (t b : Nat) (op : Int) (r : ByteArray) (c : Int) (w : World) (_h : TkAt w t r c 0) (_hb : BlkAt w b #[.int .i64 op, .int .i64 0, .int .i64 0, .int .i64 0, .slice none 0 0, .slice none 0 0, .slice none 0 0] 57) (_hne : b ≠ t) (_hs : r.size ≤ 1000000000) :
    Calls Try.prog 67 #[.pointer (some ⟨t, 0, none⟩), .pointer (some ⟨b, 0, none⟩), .int .i64 9] w fun x w' => GivesF t b op 9 r c w x w' := by
  have h := _h
  have hb := _hb
  have hne := _hne
  have hs := _hs
  have hlt := h.lt
  have hlb := hb.lt
  have hm : r.size ≤ maxLen := by unfold maxLen; omega
  have H1 := Lib.hid (number_any t b 3 _ _ r c 0 0 w h hb hne rfl hm)
  rw [tkR0, tkF0] at H1
  have s1 : Hid ((uR r).size ≤ maxLen) := Lib.hid (Nat.le_trans (uR_size r) hm)
  clear h hb hs _h _hb _hs _hne hm
  go_enter Try.func67, Try.ntmps67
  go_wp2_with (first
    | (go_at_call 66; refine H1.out.mono ?_; rintro x w1 ⟨rfl, t1, b1, k1⟩; clear H1; have H2 := Lib.hid (number_any t b 1 _ _ _ c _ 0 w1 t1 b1 hne rfl s1.out))
    | (go_at_call 66; refine H2.out.mono ?_; rintro x w2 ⟨rfl, t2, b2, k2⟩))
  exact bodyPost_void rfl rfl ⟨uN (uR r), 0, uN r, none, 0, [], _, _, ⟨rfl, t2, b2, k1.trans k2⟩, fits_bind (fits_u r) (fun h0 => fits_bind (k := fun o => .ok (((o.1, 0, uN r, []) : Int × Int × Int × List Int), o.2)) (fits_tk h0 (fits_u (uR r))) (fun h1 => ⟨h1, rfl, rfl⟩) fun _ => ⟨rfl, rfl⟩) fun h0 => tk_no h0, ints_nil _ _⟩
set_option maxRecDepth 100000 in
set_option maxHeartbeats 1000000 in
theorem tf_s10 (t b : Nat) (op : Int) (r : ByteArray) (c : Int) (w : World) (_h : TkAt w t r c 0) (_hb : BlkAt w b #[.int .i64 op, .int .i64 0, .int .i64 0, .int .i64 0, .slice none 0 0, .slice none 0 0, .slice none 0 0] 57) (_hne : b ≠ t) (_hs : r.size ≤ 1000000000) (hop : op = 65 ∨ op = 66) :
    Calls Try.prog 67 #[.pointer (some ⟨t, 0, none⟩), .pointer (some ⟨b, 0, none⟩), .int .i64 10] w fun x w' => GivesF t b op 10 r c w x w' := by
  have h := _h
  have hb := _hb
  have hne := _hne
  have hs := _hs
  have hlt := h.lt
  have hlb := hb.lt
  have hm : r.size ≤ maxLen := by unfold maxLen; omega
  have H1 := Lib.hid (takerConst_any t b op r c w hop h hb hne hm)
  clear h hb hs _h _hb _hs _hne hm
  go_enter Try.func67, Try.ntmps67
  go_wp2_with (first
    | (go_at_call 84; refine H1.out.mono ?_; rintro x w1 ⟨n, r1, f1, ⟨rfl, t1, b1, k1⟩, q1⟩))
  exact bodyPost_void rfl rfl ⟨n, 0, 0, none, 0, [], _, _, ⟨rfl, t1, b1, k1⟩, fits_map q1 (fun a => ((a, 0, 0, []) : Int × Int × Int × List Int)), ints_nil _ _⟩
set_option maxRecDepth 100000 in
set_option maxHeartbeats 1000000 in
theorem tf_s11 (t b : Nat) (op : Int) (r : ByteArray) (c : Int) (w : World) (_h : TkAt w t r c 0) (_hb : BlkAt w b #[.int .i64 op, .int .i64 0, .int .i64 0, .int .i64 0, .slice none 0 0, .slice none 0 0, .slice none 0 0] 57) (_hne : b ≠ t) (_hs : r.size ≤ 1000000000) :
    Calls Try.prog 67 #[.pointer (some ⟨t, 0, none⟩), .pointer (some ⟨b, 0, none⟩), .int .i64 11] w fun x w' => GivesF t b op 11 r c w x w' := by
  have h := _h
  have hb := _hb
  have hne := _hne
  have hs := _hs
  have hlt := h.lt
  have hlb := hb.lt
  have hm : r.size ≤ maxLen := by unfold maxLen; omega
  have H1 := Lib.hid (null_any t r c w h hm)
  have HB := Lib.hid hb
  clear h hb hs _h _hb _hs _hne hm
  go_enter Try.func67, Try.ntmps67
  go_wp2_with (first
    | (go_at_call 85; refine H1.out.mono ?_; rintro x w1 ⟨n, r1, f1, rfl, t1, k1, q1⟩))
  exact bodyPost_void rfl rfl ⟨0, 0, 0, none, 0, [], _, _, ⟨rfl, t1, HB.out.kept k1 hne, k1.mono fun _ q => .inl q⟩, fits_map q1 (fun _ => ((0, 0, 0, []) : Int × Int × Int × List Int)), ints_nil _ _⟩
set_option maxRecDepth 100000 in
set_option maxHeartbeats 1000000 in
theorem tf_s4 (t b : Nat) (op : Int) (r : ByteArray) (c : Int) (w : World) (_h : TkAt w t r c 0) (_hb : BlkAt w b #[.int .i64 op, .int .i64 0, .int .i64 0, .int .i64 0, .slice none 0 0, .slice none 0 0, .slice none 0 0] 57) (_hne : b ≠ t) (_hs : r.size ≤ 1000000000) :
    Calls Try.prog 67 #[.pointer (some ⟨t, 0, none⟩), .pointer (some ⟨b, 0, none⟩), .int .i64 4] w fun x w' => GivesF t b op 4 r c w x w' := by
  have h := _h
  have hb := _hb
  have hne := _hne
  have hs := _hs
  have hlt := h.lt
  have hlb := hb.lt
  have hm : r.size ≤ maxLen := by unfold maxLen; omega
  have H1 := Lib.hid (labels_any t b 4 _ _ r c 0 none 0 0 w h hb hne rfl hs)
  rw [tkR0, tkF0] at H1
  have s1 : Hid ((allRes r 1000).2.1.size ≤ maxLen) := Lib.hid (Nat.le_trans (aR_size r 1000) hm)
  clear h hb hs _h _hb _hs _hne hm
  go_enter Try.func67, Try.ntmps67
  go_wp2_with (first
    | (go_at_call 81; refine H1.out.mono ?_; rintro x w1 ⟨v1, ⟨rfl, t1, b1, k1⟩, i1⟩; clear H1; obtain ⟨x1, c1, hv1, _⟩ := i1.view; subst hv1; have H2 := Lib.hid (number_any t b 1 _ _ _ c _ 0 w1 t1 b1 hne rfl s1.out))
    | (go_at_call 66; refine H2.out.mono ?_; rintro x w2 ⟨rfl, t2, b2, k2⟩))
  exact bodyPost_void rfl rfl ⟨uN (allRes r 1000).2.1, 0, 0, x1, c1, (allRes r 1000).1, _, _, ⟨rfl, t2, b2, k1.trans k2⟩, fits_bind (fits_a r) (fun h0 => fits_bind (k := fun o => .ok (((o.1, 0, 0, (allRes r 1000).1) : Int × Int × Int × List Int), o.2)) (fits_tk h0 (fits_u (allRes r 1000).2.1)) (fun h1 => ⟨h1, rfl, rfl⟩) fun _ => ⟨rfl, rfl⟩) fun h0 => tk_no h0, i1.kept k2 (by rintro k (q | q) <;> omega)⟩
/-- The opcodes of constants. -/
theorem shape10 {op : Int} (h : shapeV op = (10, 0)) : op = 65 ∨ op = 66 := by
  by_cases hm : op ∈ nameOps
  · have key : ∀ op ∈ nameOps, (shapeV op).1 = 10 → op = 65 ∨ op = 66 := by decide
    exact key op hm (by rw [h])
  · rw [shapeV_other hm] at h
    split at h
    · cases h
    split at h
    · cases h
    split at h
    · cases h
    split at h
    · cases h
    · cases h
theorem tf_any (t b : Nat) (op : Int) (r : ByteArray) (c : Int) (w : World) (h : TkAt w t r c 0) (hb : BlkAt w b #[.int .i64 op, .int .i64 0, .int .i64 0, .int .i64 0, .slice none 0 0, .slice none 0 0, .slice none 0 0] 57) (hne : b ≠ t) (hs : r.size ≤ 1000000000) (her : (shapeV op).2 = 0) :
    Calls Try.prog 67 #[.pointer (some ⟨t, 0, none⟩), .pointer (some ⟨b, 0, none⟩), .int .i64 (shapeV op).1] w fun x w' => GivesF t b op (shapeV op).1 r c w x w' := by
  rcases shapeV_in op her with s | s | s | s | s | s | s | s | s | s | s
  all_goals rw [s]
  · exact tf_s1 t b op r c w h hb hne hs
  · exact tf_s2 t b op r c w h hb hne hs
  · exact tf_s3 t b op r c w h hb hne hs
  · exact tf_s4 t b op r c w h hb hne hs
  · exact tf_s5 t b op r c w h hb hne hs
  · exact tf_s6 t b op r c w h hb hne hs
  · exact tf_s7 t b op r c w h hb hne hs
  · exact tf_s8 t b op r c w h hb hne hs
  · exact tf_s9 t b op r c w h hb hne hs
  · exact tf_s10 t b op r c w h hb hne hs (shape10 s)
  · exact tf_s11 t b op r c w h hb hne hs
end Go.Proofs.Ytgacnelpdhmeiaa
