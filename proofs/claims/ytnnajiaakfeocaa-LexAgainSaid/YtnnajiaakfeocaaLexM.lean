/- lex: the first token. -/
import Derived.Test.YtnnajiaakfeocaaLexL
import Derived.Test.YtnnajiaakfeocaaBlk
namespace Go.Proofs.Ytnnajiaakfeocaa
open Go.RowKit
open Lex

theorem bl_ne {s : ByteArray} (h0 : 0 < s.size) : bl s ≠ [] := by
  intro h
  have h3 : s.size = 0 := by rw [← bl_length, h]; rfl
  omega
theorem ext_le {s : ByteArray} {n : Nat} (h : s.size ≤ n) (a b : Nat) : (s.extract a b).size ≤ n := by
  rw [ByteArray.size_extract]
  omega
theorem spn_in : ∀ (l : List Int), l ≠ [] → (spn l).2.1 ≤ (spn l).2.2 ∧ (spn l).2.2 ≤ l.length ∧ ((spn l).1 = 4 → (spn l).2.1 = 0 ∧ ((spn l).2.2 = 1 ∨ ((spn l).2.2 = 2 ∧ pre [45, 62] l = true)))
  | [], h => absurd rfl h
  | c :: r, _ => by
    have h1 := far_le nam r
    have h2 := far_le nam (c :: r)
    have h3 := far_le ver (c :: r)
    rw [spn_cons]
    split
    · exact ⟨by simp, by simp; omega, by simp⟩
    · split
      · exact ⟨by simp, by simp; simp at h2; omega, by simp⟩
      · split
        · exact ⟨by simp, by simp; simp at h3; omega, by simp⟩
        · split
          · rename_i hp
            have := (List.isPrefixOf_iff_prefix.1 hp).length_le
            exact ⟨by simp, by simpa using this, fun _ => ⟨rfl, .inr ⟨rfl, hp⟩⟩⟩
          · exact ⟨by simp, by simp, fun _ => ⟨rfl, .inl rfl⟩⟩
theorem mayBe_span (s : ByteArray) (h0 : 0 < s.size) (hs : s.size ≤ 8192) (w : World) :
    Calls Try.prog 33 #[.agg #[.int .i64 ((spn (bl s)).1 : Nat), .string (s.extract (spn (bl s)).2.1 (spn (bl s)).2.2), .int .i64 0]] w fun e w' => e = .returned (.bool (may (spn (bl s)).1 (bl (s.extract (spn (bl s)).2.1 (spn (bl s)).2.2)))) ∧ Below w.heap.size w w' := by
  have hne : bl s ≠ [] := bl_ne h0
  obtain ⟨h1, h2, h4⟩ := spn_in (bl s) hne
  rw [bl_length] at h2
  have hm : (s.extract (spn (bl s)).2.1 (spn (bl s)).2.2).size ≤ maxLen := ext_le (by unfold maxLen; omega) _ _
  by_cases k3 : (spn (bl s)).1 = 3
  · rw [k3]
    exact mayBe_ver _ hm 0 w
  · by_cases k4 : (spn (bl s)).1 = 4
    · obtain ⟨ha, hb | ⟨hb, hp⟩⟩ := h4 k4
      · rw [k4]
        refine mayBe_sign _ ?_ 0 w
        rw [ha, hb, ByteArray.size_extract]
        omega
      · rw [k4]
        refine mayBe_arrow _ ?_ 0 w
        rw [ha, hb, bl_part]
        have := List.prefix_iff_eq_take.1 (List.isPrefixOf_iff_prefix.1 hp)
        exact this.symm
    · exact mayBe_name _ k3 k4 _ hm 0 w

def tokV (k : Nat) (S : ByteArray) (at_ : Int) : Value := .agg #[.int .i64 k, .string S, .int .i64 at_]
/-- The first token of a text, and how many bytes it has. -/
def fstV (s : ByteArray) : Value :=
  if may (spn (bl s)).1 (bl (s.extract (spn (bl s)).2.1 (spn (bl s)).2.2)) then .tuple #[tokV (spn (bl s)).1 (s.extract (spn (bl s)).2.1 (spn (bl s)).2.2) 0, .int .i64 ((spn (bl s)).2.2 : Nat)]
  else .tuple #[tokV 0 ⟨#[]⟩ 0, .int .i64 0]

set_option maxRecDepth 100000 in
theorem first_any (s : ByteArray) (h0 : 0 < s.size) (hs : s.size ≤ 8192) (w : World) :
    Calls Try.prog 21 #[.string s] w fun e w' => e = .returned (fstV s) ∧ Below w.heap.size w w' := by
  have hne : bl s ≠ [] := bl_ne h0
  obtain ⟨h1, h2, h4⟩ := spn_in (bl s) hne
  rw [bl_length] at h2
  have hsp := fun w => span_any s h0 hs w
  have hmb := fun w => mayBe_span s h0 hs w
  obtain ⟨V, hV⟩ : ∃ V, V = fstV s := ⟨_, rfl⟩
  rw [← hV]
  unfold fstV at hV
  have hm : (s.extract (spn (bl s)).2.1 (spn (bl s)).2.2).size ≤ 8192 := ext_le hs _ _
  clear h4
  revert h1 h2 hsp hmb hV hm
  generalize spn (bl s) = x
  obtain ⟨k, a, b⟩ := x
  intro h1 h2 hsp hmb hV hm
  dsimp only at h1 h2 hmb hV hm
  have hb := Below.refl w.heap.size w
  by_cases ht : may k (bl (s.extract a b)) = true
  · rw [if_pos ht] at hV
    rw [ht] at hmb
    have HV := Lib.hid hV
    have HS := Lib.hid hsp
    have HM := Lib.hid hmb
    clear hV hsp hmb ht hne
    rw [spV_mk] at HS
    go_enter Try.func21, Try.ntmps21
    have A1 := (BlkAt.new w #[.int .i64 0, .string ⟨#[]⟩, .int .i64 0] 33).below ((Below.refl _ _).alloc (Nat.le_refl _) (.cells #[.int .i64 k, .string (s.extract a b), .int .i64 0] 33))
    have B1 := BlkAt.new (w.alloc (.cells #[.int .i64 0, .string ⟨#[]⟩, .int .i64 0] 33)) #[.int .i64 k, .string (s.extract a b), .int .i64 0] 33
    rw [World.size_alloc] at B1
    go_wp2_with (first
      | (go_at_call 32; refine (HS.out _).mono ?_; rintro e w1 ⟨rfl, rfl⟩)
      | (go_at_call 33; refine (HM.out _).mono ?_; rintro e w1 ⟨rfl, k1⟩; have A2 := A1.below k1; have B2 := B1.below k1; have hb2 := ((hb.alloc (Nat.le_refl _) (.cells #[.int .i64 0, .string ⟨#[]⟩, .int .i64 0] 33)).alloc (by simp) (.cells #[.int .i64 k, .string (s.extract a b), .int .i64 0] 33)).trans (k1.mono (by simp; omega)); clear k1 A1 B1; have ac0 := A2.cell 0; have ac1 := A2.cell 1; have ac2 := A2.cell 2; simp at ac0 ac1 ac2; have az0 := A2.frozen 0; have az1 := A2.frozen 1; have az2 := A2.frozen 2; have bc0 := B2.cell 0; have bc1 := B2.cell 1; have bc2 := B2.cell 2; simp at bc0 bc1 bc2; have bz0 := B2.frozen 0; have bz1 := B2.frozen 1; have bz2 := B2.frozen 2))
    have R3 := ((A2.put 0 (.int .i64 k)).put 1 (.string (s.extract a b))).put 2 (.int .i64 0)
    have rc0 := R3.cell 0
    have rc1 := R3.cell 1
    have rc2 := R3.cell 2
    simp at rc0 rc1 rc2
    refine bodyPost_ret (v := V) ?_ rfl ⟨rfl, ((hb2.setCell (p := ⟨w.heap.size, 0, none⟩) (Nat.le_refl _) _).setCell (p := ⟨w.heap.size, 1, none⟩) (Nat.le_refl _) _).setCell (p := ⟨w.heap.size, 2, none⟩) (Nat.le_refl _) _⟩
    rw [HV.out]
    simp [results, Try.f21, go_sem, rc0, rc1, rc2, tokV]
  · rw [if_neg ht] at hV
    rw [not_true ht] at hmb
    have HV := Lib.hid hV
    have HS := Lib.hid hsp
    have HM := Lib.hid hmb
    clear hV hsp hmb ht hne
    rw [spV_mk] at HS
    go_enter Try.func21, Try.ntmps21
    have A1 := (BlkAt.new w #[.int .i64 0, .string ⟨#[]⟩, .int .i64 0] 33).below ((Below.refl _ _).alloc (Nat.le_refl _) (.cells #[.int .i64 k, .string (s.extract a b), .int .i64 0] 33))
    have B1 := BlkAt.new (w.alloc (.cells #[.int .i64 0, .string ⟨#[]⟩, .int .i64 0] 33)) #[.int .i64 k, .string (s.extract a b), .int .i64 0] 33
    rw [World.size_alloc] at B1
    go_wp2_with (first
      | (go_at_call 32; refine (HS.out _).mono ?_; rintro e w1 ⟨rfl, rfl⟩)
      | (go_at_call 33; refine (HM.out _).mono ?_; rintro e w1 ⟨rfl, k1⟩; have A2 := A1.below k1; have B2 := B1.below k1; have hb2 := ((hb.alloc (Nat.le_refl _) (.cells #[.int .i64 0, .string ⟨#[]⟩, .int .i64 0] 33)).alloc (by simp) (.cells #[.int .i64 k, .string (s.extract a b), .int .i64 0] 33)).trans (k1.mono (by simp; omega)); clear k1 A1 B1; have ac0 := A2.cell 0; have ac1 := A2.cell 1; have ac2 := A2.cell 2; simp at ac0 ac1 ac2; have az0 := A2.frozen 0; have az1 := A2.frozen 1; have az2 := A2.frozen 2; have bc0 := B2.cell 0; have bc1 := B2.cell 1; have bc2 := B2.cell 2; simp at bc0 bc1 bc2; have bz0 := B2.frozen 0; have bz1 := B2.frozen 1; have bz2 := B2.frozen 2))
    have R3 := ((A2.put 0 (.int .i64 0)).put 1 (.string ⟨#[]⟩)).put 2 (.int .i64 0)
    have rc0 := R3.cell 0
    have rc1 := R3.cell 1
    have rc2 := R3.cell 2
    simp at rc0 rc1 rc2
    refine bodyPost_ret (v := V) ?_ rfl ⟨rfl, ((hb2.setCell (p := ⟨w.heap.size, 0, none⟩) (Nat.le_refl _) _).setCell (p := ⟨w.heap.size, 1, none⟩) (Nat.le_refl _) _).setCell (p := ⟨w.heap.size, 2, none⟩) (Nat.le_refl _) _⟩
    rw [HV.out]
    simp [results, Try.f21, go_sem, rc0, rc1, rc2, tokV]
end Go.Proofs.Ytnnajiaakfeocaa
