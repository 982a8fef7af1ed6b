/- handles: with a trap nothing is done (plain). -/
import Derived.Test.YtglhfofofacekaaHeJ
set_option linter.unusedVariables false
set_option linter.unusedSimpArgs false
namespace Go.Proofs.Ytglhfofofacekaa
open Go.RowKit

theorem addS_trap (S : Tb) (k : Nat) (x : Hd) (h : (addS S k x).2.1 ≠ 0) : (addS S k x).1 = 0 ∧ (addS S k x).2.2 = S := by
  unfold addS at h ⊢
  split
  · exact ⟨rfl, rfl⟩
  · rename_i hn
    rw [if_neg hn] at h
    exact absurd rfl h
theorem putS_trap (S : Tb) (i r p : Int) (h : (putS S i r p).2.1 ≠ 0) : (putS S i r p).1 = 0 ∧ (putS S i r p).2.2 = S := by
  unfold putS at h ⊢
  split
  · rename_i hn
    rw [if_pos hn] at h
    exact addS_trap _ _ _ h
  · exact ⟨rfl, rfl⟩
theorem makeS_trap (S : Tb) (i r p : Int) (h : (makeS S i r p).2.1 ≠ 0) : (makeS S i r p).1 = 0 ∧ (makeS S i r p).2.2 = S := by
  unfold makeS at h ⊢
  split
  · rename_i hn
    rw [if_pos hn] at h
    exact putS_trap _ _ _ _ h
  · exact ⟨rfl, rfl⟩
theorem repS_trap (S : Tb) (i r p : Int) (h : (repS S i r p).2 ≠ 0) : (repS S i r p).1 = 0 := by
  unfold repS at h ⊢
  split
  · rename_i hn
    rw [if_pos hn] at h
    exact absurd rfl h
  · rfl
theorem dropS_trap (S : Tb) (i r p : Int) (h : (dropS S i r p).2.2.1 ≠ 0) : (dropS S i r p).1 = 0 ∧ (dropS S i r p).2.1 = false ∧ (dropS S i r p).2.2.2 = S := by
  unfold dropS at h ⊢
  split
  · rename_i hn
    rw [if_pos hn] at h
    split
    · exact ⟨rfl, rfl, rfl⟩
    · rename_i hm
      rw [if_neg hm] at h
      exact absurd rfl h
  · exact ⟨rfl, rfl, rfl⟩
theorem takeS_trap (S : Tb) (i r p : Int) (h : (takeS S i r p).2.1 ≠ 0) : (takeS S i r p).1 = 0 ∧ (takeS S i r p).2.2 = S := by
  unfold takeS at h ⊢
  split
  · rename_i hn
    rw [if_pos hn] at h
    have := dropS_trap S i r p h
    exact ⟨this.1, this.2.2⟩
  · exact ⟨rfl, rfl⟩
theorem lendS_trap (S : Tb) (i r p : Int) (h : (lendS S i r p).2.1 ≠ 0) : (lendS S i r p).1 = 0 ∧ (lendS S i r p).2.2 = S := by
  unfold lendS at h ⊢
  split
  · rename_i hn
    rw [if_pos hn] at h
    exact absurd rfl h
  · exact ⟨rfl, rfl⟩
theorem borrowS_trap (S : Tb) (i r p : Int) (h : (borrowS S i r p).2.1 ≠ 0) : (borrowS S i r p).1 = 0 ∧ (borrowS S i r p).2.2 = S := by
  unfold borrowS at h ⊢
  split
  · rename_i hn
    rw [if_pos hn] at h
    split
    · rename_i hm
      rw [if_pos hm] at h
      exact absurd rfl h
    · rename_i hm
      rw [if_neg hm] at h
      exact addS_trap _ _ _ h
  · exact ⟨rfl, rfl⟩
theorem enterS_trap (S : Tb) (i : Int) (h : (enterS S i).1 ≠ 0) : (enterS S i).2 = S := by
  unfold enterS at h ⊢
  split
  · rename_i hn
    rw [if_pos hn] at h
    split
    · rfl
    · rename_i hm
      rw [if_neg hm] at h
      exact absurd rfl h
  · rfl
theorem leaveS_trap (S : Tb) (h : (leaveS S).1 ≠ 0) : (leaveS S).2 = S := by
  unfold leaveS at h ⊢
  split
  · rfl
  · rename_i hn
    rw [if_neg hn] at h
    split
    · rfl
    · rename_i hm
      rw [if_neg hm] at h
      exact absurd rfl h
/-- With a trap nothing is done. -/
theorem doesS_trap (S : Tb) (d : Dh) (h : (doesS S d).2.1 ≠ 0) : (doesS S d).1 = 0 ∧ (doesS S d).2.2.1 = false ∧ (doesS S d).2.2.2 = S := by
  unfold doesS at h ⊢
  by_cases h0 : d.kind = 0
  · rw [if_pos h0] at h ⊢
    exact ⟨(makeS_trap _ _ _ _ h).1, rfl, (makeS_trap _ _ _ _ h).2⟩
  rw [if_neg h0] at h ⊢
  by_cases h1 : d.kind = 1
  · rw [if_pos h1] at h ⊢
    exact ⟨repS_trap _ _ _ _ h, rfl, rfl⟩
  rw [if_neg h1] at h ⊢
  by_cases h2 : d.kind = 2 ∨ d.kind = 3
  · rw [if_pos h2] at h ⊢
    exact dropS_trap _ _ _ _ h
  rw [if_neg h2] at h ⊢
  by_cases h4 : d.kind = 4
  · rw [if_pos h4] at h ⊢
    exact ⟨(takeS_trap _ _ _ _ h).1, rfl, (takeS_trap _ _ _ _ h).2⟩
  rw [if_neg h4] at h ⊢
  by_cases h5 : d.kind = 5
  · rw [if_pos h5] at h ⊢
    exact ⟨(putS_trap _ _ _ _ h).1, rfl, (putS_trap _ _ _ _ h).2⟩
  rw [if_neg h5] at h ⊢
  by_cases h6 : d.kind = 6
  · rw [if_pos h6] at h ⊢
    exact ⟨(lendS_trap _ _ _ _ h).1, rfl, (lendS_trap _ _ _ _ h).2⟩
  rw [if_neg h6] at h ⊢
  by_cases h7 : d.kind = 7
  · rw [if_pos h7] at h ⊢
    exact ⟨(borrowS_trap _ _ _ _ h).1, rfl, (borrowS_trap _ _ _ _ h).2⟩
  rw [if_neg h7] at h ⊢
  by_cases h8 : d.kind = 8
  · rw [if_pos h8] at h ⊢
    exact ⟨rfl, rfl, enterS_trap _ _ h⟩
  rw [if_neg h8] at h ⊢
  exact ⟨rfl, rfl, leaveS_trap _ h⟩
end Go.Proofs.Ytglhfofofacekaa
