/- handles: tables behind deeds. -/
import Derived.Test.YtglhfofofacekaaHeA
import Derived.Test.YtglhfofofacekaaHdU
set_option linter.unusedVariables false
set_option linter.unusedSimpArgs false
namespace Go.Proofs.Ytglhfofofacekaa
open Go.RowKit

theorem addS_ms (S : Tb) (k : Nat) (x : Hd) : (addS S k x).2.2.ms = S.ms := by unfold addS; split <;> rfl
theorem addS_tl (S : Tb) (k : Nat) (x : Hd) : (addS S k x).2.2.tb.length = S.tb.length := by unfold addS; split <;> simp
theorem putS_ms (S : Tb) (i r p : Int) : (putS S i r p).2.2.ms = S.ms := by unfold putS; split; exact addS_ms _ _ _; rfl
theorem putS_tl (S : Tb) (i r p : Int) : (putS S i r p).2.2.tb.length = S.tb.length := by unfold putS; split; exact addS_tl _ _ _; rfl
theorem makeS_ms (S : Tb) (i r p : Int) : (makeS S i r p).2.2.ms = S.ms := by unfold makeS; split; exact putS_ms _ _ _ _; rfl
theorem makeS_tl (S : Tb) (i r p : Int) : (makeS S i r p).2.2.tb.length = S.tb.length := by unfold makeS; split; exact putS_tl _ _ _ _; rfl
theorem dropS_ms (S : Tb) (i r h : Int) : (dropS S i r h).2.2.2.ms = S.ms := by
  unfold dropS
  split
  · split <;> rfl
  · rfl
theorem dropS_tl (S : Tb) (i r h : Int) : (dropS S i r h).2.2.2.tb.length = S.tb.length := by
  unfold dropS
  split
  · split
    · rfl
    · simp
  · rfl
theorem takeS_ms (S : Tb) (i r h : Int) : (takeS S i r h).2.2.ms = S.ms := by unfold takeS; split; exact dropS_ms _ _ _ _; rfl
theorem takeS_tl (S : Tb) (i r h : Int) : (takeS S i r h).2.2.tb.length = S.tb.length := by unfold takeS; split; exact dropS_tl _ _ _ _; rfl
theorem lendS_ms (S : Tb) (i r h : Int) : (lendS S i r h).2.2.ms = S.ms := by unfold lendS; split <;> rfl
theorem lendS_tl (S : Tb) (i r h : Int) : (lendS S i r h).2.2.tb.length = S.tb.length := by unfold lendS; split <;> simp
theorem borrowS_ms (S : Tb) (i r p : Int) : (borrowS S i r p).2.2.ms = S.ms := by
  unfold borrowS
  split
  · split
    · rfl
    · exact addS_ms _ _ _
  · rfl
theorem borrowS_tl (S : Tb) (i r p : Int) : (borrowS S i r p).2.2.tb.length = S.tb.length := by
  unfold borrowS
  split
  · split
    · rfl
    · exact addS_tl _ _ _
  · rfl
theorem enterS_ms (S : Tb) (i : Int) : (enterS S i).2.ms = S.ms := by
  unfold enterS
  split
  · split <;> rfl
  · rfl
theorem enterS_tl (S : Tb) (i : Int) : (enterS S i).2.tb.length = S.tb.length := by
  unfold enterS
  split
  · split <;> rfl
  · rfl
theorem givenT_len (L : List (Int × Int)) (tb : List (List Hd)) : (givenT L tb).length = tb.length := by simp [givenT]
theorem leaveS_ms (S : Tb) : (leaveS S).2.ms = S.ms := by
  unfold leaveS
  split
  · rfl
  · split <;> rfl
theorem leaveS_tl (S : Tb) : (leaveS S).2.tb.length = S.tb.length := by
  unfold leaveS
  split
  · rfl
  · split
    · rfl
    · exact givenT_len _ _
theorem doesS_ms (S : Tb) (d : Dh) : (doesS S d).2.2.2.ms = S.ms := by
  unfold doesS
  split; exact makeS_ms _ _ _ _
  split; rfl
  split; exact dropS_ms _ _ _ _
  split; exact takeS_ms _ _ _ _
  split; exact putS_ms _ _ _ _
  split; exact lendS_ms _ _ _ _
  split; exact borrowS_ms _ _ _ _
  split; exact enterS_ms _ _
  exact leaveS_ms _
theorem doesS_tl (S : Tb) (d : Dh) : (doesS S d).2.2.2.tb.length = S.tb.length := by
  unfold doesS
  split; exact makeS_tl _ _ _ _
  split; rfl
  split; exact dropS_tl _ _ _ _
  split; exact takeS_tl _ _ _ _
  split; exact putS_tl _ _ _ _
  split; exact lendS_tl _ _ _ _
  split; exact borrowS_tl _ _ _ _
  split; exact enterS_tl _ _
  exact leaveS_tl _

theorem handlesS_ok {N : Nat} {S : Tb} (h : TbOk N S) (i : Int) : (handlesS S i).length ≤ 256 ∧ Rise (handlesS S i) ∧ ∀ x ∈ handlesS S i, HdOk S.ms.length S.cl.length N x := by
  unfold handlesS
  split
  · rename_i hi
    have hk : i.toNat < S.tb.length := by simp [hasB] at hi; omega
    exact ⟨h.len _ hk, h.rise _ hk, h.hd _ hk⟩
  · exact ⟨by simp, List.Pairwise.nil, by simp⟩
theorem handlesS_wf {N : Nat} {S : Tb} (h : TbOk N S) (i : Int) : ∀ x ∈ handlesS S i, wf64 x.h := fun x hx => by
  have := (handlesS_ok h i).2.2 x hx
  exact wf_small (by have := this.h1; omega) this.h2

theorem two_in (w : World) (x y : Int) : IntsIn (w.alloc (.cells #[.int .i64 x, .int .i64 y] 3)) (some ⟨w.heap.size, 0, none⟩) 2 2 [x, y] := by
  refine ⟨rfl, .inr ⟨w.heap.size, 0, rfl, fun i hi => ?_⟩⟩
  have : i = 0 ∨ i = 1 := by omega
  rcases this with rfl | rfl
  · rw [BlkAt.cell (BlkAt.new w _ _)]; rfl
  · rw [BlkAt.cell (BlkAt.new w _ _)]; rfl
/-- Tables of two instances, each of which makes a resource. -/
structure Two (B a : Nat) (w : World) (S : Tb) (N : Nat) : Prop where
  st : St B a w S N
  ms : S.ms = [0, 1]
  tl : S.tb.length = 2
theorem Two.did {B a N : Nat} {w w' : World} {S : Tb} (h : Two B a w S N) {d : Dh} {M : Nat} (hs : St B a w' (doesS S d).2.2.2 M) : Two B a w' (doesS S d).2.2.2 M := ⟨hs, by rw [doesS_ms, h.ms], by rw [doesS_tl, h.tl]⟩
set_option maxRecDepth 100000 in
set_option maxHeartbeats 8000000 in
theorem made (x : Option Addr) (len cap : Nat) (ds : List Dh) (w : World) (h : DhIn w x len cap ds) :
    Calls Try.prog 14 #[.slice x len cap] w fun e w' => ∃ a S, e = .returned (.pointer (some ⟨a, 0, none⟩)) ∧ Two w.heap.size a w' S 150 ∧ Below w.heap.size w w' := by
  have B0 : Below w.heap.size w (w.alloc (.cells #[.int .i64 0, .int .i64 1] 3)) := (Below.refl _ w).alloc (Nat.le_refl _) _
  have N0 := St.new 2 _ 2 2 [0, 1] _ (two_in w 0 1) rfl
  have HB := Lib.hid B0
  have HH := Lib.hid h
  clear B0 h
  go_enter Try.func14, Try.ntmps14
  go_wp2_with (first
    | (go_at_call 5; refine N0.mono ?_; rintro e w0 ⟨a, rfl, t0, b0⟩; have T0 := Lib.hid t0; have C0 := Lib.hid (HB.out.trans (b0.mono (show w.heap.size ≤ (w.alloc (.cells #[.int .i64 0, .int .i64 1] 3)).heap.size by simp))); clear t0 b0)
    | (go_at_call 8; refine (some16 x len cap ds _ (HH.out.below C0.out)).mono ?_; rintro e w1 ⟨⟨len', rfl, hd, h150⟩, rfl⟩; have HD := Lib.hid (show len' ≤ len by have h1 := hd.eq; have h2 := HH.out.eq; rw [List.length_take] at h1; omega); have H150 := Lib.hid h150; clear hd h150))
  have R0 : Hid (Two w.heap.size a w0 ⟨[0, 1], List.replicate (2 : Int).toNat [], []⟩ 0) := Lib.hid ⟨⟨T0.out.at'.mono (fun b hb => Nat.le_trans HB.out.size hb), T0.out.ok, C0.out.size, by omega⟩, rfl, rfl⟩
  clear N0 HB T0
  go_loopw [5] (fun i wr => ∃ (k : Nat) (S : Tb), i = .int .i64 k ∧ k ≤ len' ∧ Hid (Two w.heap.size a wr S k ∧ Below w.heap.size w wr)) (fun i _ => len' - (intOf i).toNat)
  case atStart => exact ⟨0, _, rfl, Nat.zero_le _, Lib.hid ⟨R0.out, C0.out⟩⟩
  case round =>
    obtain ⟨k, S, rfl, hk, HR⟩ := hrel
    by_cases hlt : k < len'
    · obtain ⟨g, o, rfl, hc⟩ := HH.out.row.resolve_left (by have := HD.out; omega)
      obtain ⟨c0, c1, c2, c3, c4⟩ := (hc k (by have := HD.out; omega)).below HR.out.2
      have HW : Hid (wf64 (ds.getD k default).h) := Lib.hid (HH.out.ok _ (mem_getD (by have := HD.out; have := HH.out.eq; omega)))
      generalize ds.getD k default = d at c0 c1 c2 c3 c4 HW
      obtain ⟨dk, di, dr, dh, dn⟩ := d
      dsimp only at c0 c1 c2 c3 c4
      have HK := Lib.hid hk
      have HL := Lib.hid hlt
      have HS := Lib.hid (handlesS_ok HR.out.1.st.ok)
      have HSW := Lib.hid (handlesS_wf HR.out.1.st.ok)
      clear hc hk
      go_wp2_with fail
      have HB1 : Hid (Below w.heap.size w (wr.alloc (.cells #[.int .i64 dk, .int .i64 (bits BinOp.and .i64 di 1), .int .i64 (bits BinOp.and .i64 dr 1), .int .i64 dh, .bool dn] 34))) := Lib.hid (HR.out.2.alloc HR.out.2.size _)
      have ST1 : Hid (St w.heap.size a (wr.alloc (.cells #[.int .i64 dk, .int .i64 (bits BinOp.and .i64 di 1), .int .i64 (bits BinOp.and .i64 dr 1), .int .i64 dh, .bool dn] 34)).drew S k) := Lib.hid (HR.out.1.st.below ((Below.refl _ wr).alloc (Nat.le_refl _) _).drew).1
      have Q0 := BlkAt.new wr #[.int .i64 dk, .int .i64 (bits BinOp.and .i64 di 1), .int .i64 (bits BinOp.and .i64 dr 1), .int .i64 dh, .bool dn] 34
      generalize bits BinOp.and .i64 di 1 = qi at HB1 ST1 Q0 ⊢
      generalize bits BinOp.and .i64 dr 1 = qr at HB1 ST1 Q0 ⊢
      generalize (wr.alloc (.cells #[.int .i64 dk, .int .i64 qi, .int .i64 qr, .int .i64 dh, .bool dn] 34)) = W1 at HB1 ST1 Q0 ⊢
      have D0 : Hid (∀ W', Below W1.heap.size W1 W' → W'.cell? ⟨wr.heap.size, 0, none⟩ = some (.int .i64 dk) ∧ W'.cell? ⟨wr.heap.size, 1, none⟩ = some (.int .i64 qi) ∧ W'.cell? ⟨wr.heap.size, 2, none⟩ = some (.int .i64 qr) ∧ W'.cell? ⟨wr.heap.size, 3, none⟩ = some (.int .i64 dh) ∧ W'.cell? ⟨wr.heap.size, 4, none⟩ = some (.bool dn)) := Lib.hid (fun W' hb => by
        have q := Q0.below hb
        exact ⟨q.cell 0, q.cell 1, q.cell 2, q.cell 3, q.cell 4⟩)
      obtain ⟨x0, x1, x2, x3, x4⟩ := D0.out W1.drew (Below.refl _ W1).drew
      have HBD : Hid (Below W1.heap.size W1 W1.drew) := Lib.hid (Below.refl _ W1).drew
      clear Q0 c0 c1 c2 c3 c4
      go_region_with (first
        | (go_at_call 16; refine (ST1.out.handles _).mono ?_; rintro e w2 ⟨v, rfl, hv, st2, b2⟩; have HV := Lib.hid hv; have ST2 := Lib.hid st2; have B2 := Lib.hid (HBD.out.trans (b2.mono HBD.out.size)); clear hv st2 b2; obtain ⟨y0, y1, y2, y3, y4⟩ := D0.out w2 B2.out)
        | (go_at_call 9; refine (aimed ⟨dk, _, _, dh, dn⟩ HV.out (HS.out _).1).mono ?_; rintro e w3 ⟨rfl, b3⟩; have ST3 := Lib.hid (ST2.out.below b3); have B3 := Lib.hid (B2.out.trans (b3.mono B2.out.size)); clear b3)
        | (go_at_call 11; refine (does ST3.out.1 (by have := H150.out; have := HL.out; omega) _ (aimed_wf HW.out (HSW.out _))).mono ?_; rintro e w4 ⟨rfl, st4, b4⟩; have ST4 := Lib.hid st4; have B4 := Lib.hid b4; clear st4 b4))
      all_goals go_wp2
      all_goals rw [show wrap64 ((k : Int) + 1) = (k : Int) + 1 by have := H150.out; have := HL.out; unfold wrap64; omega]
      all_goals refine ⟨⟨k + 1, _, by simp, by have := HL.out; omega, Lib.hid ⟨HR.out.1.did ST4.out, HB1.out.trans ((B3.out.mono HB1.out.size).trans B4.out)⟩⟩, by have := HL.out; simp [intOf]; omega⟩
    · have hke : k = len' := by omega
      subst hke
      clear hlt hk
      go_wp2_with fail
      go_ret
      exact ⟨a, S, rfl, ⟨HR.out.1.st.more H150.out (by omega), HR.out.1.ms, HR.out.1.tl⟩, HR.out.2⟩
end Go.Proofs.Ytglhfofofacekaa
