/- The document's counting comes to the project's. -/
import Derived.Test.YtfhifnkekegkkaaInsP5
namespace Go.Proofs.Ytfhifnkekegkkaa
open Go.RowKit

/-- What counting comes to in the reference's words. -/
def cR (d n : Nat) (l : List Ins) : Int := if okL d l = true ∧ n + sizL l ≤ 8192 then ((n + sizL l : Nat) : Int) else -1
theorem okI_plain {d : Nat} {c : Ins} (h : ¬ (2 ≤ c.op ∧ c.op ≤ 4)) : okI d c = mayI c := by rw [okI_eq, if_neg h, Bool.and_true]
mutual
theorem inI_ok : ∀ (d : Nat) (c : Ins), inI d c = if okL (d + 1) c.l = true ∧ sizL c.l ≤ 8192 ∧ okL (d + 1) c.e = true ∧ sizL c.e ≤ 8192 then ((sizL c.l + sizL c.e : Nat) : Int) else -1
  | d, .mk op a b m n l e => by
    have h1 := cntL_ok (d + 1) 0 l (by decide)
    have h2 := cntL_ok (d + 1) 0 e (by decide)
    unfold cR at h1 h2
    rw [inI, show ((0 : Nat) : Int) = 0 from rfl] at *
    rw [h1, h2]
    rw [Nat.zero_add, Nat.zero_add]
    show _ = if okL (d + 1) l = true ∧ sizL l ≤ 8192 ∧ okL (d + 1) e = true ∧ sizL e ≤ 8192 then ((sizL l + sizL e : Nat) : Int) else -1
    by_cases a1 : okL (d + 1) l = true ∧ sizL l ≤ 8192
    · by_cases a2 : okL (d + 1) e = true ∧ sizL e ≤ 8192
      · rw [if_pos a1, if_pos a2, if_neg (by omega), if_pos ⟨a1.1, a1.2, a2.1, a2.2⟩]
        omega
      · rw [if_neg a2, if_pos (by omega), if_neg (fun q => a2 q.2.2)]
    · rw [if_neg a1, if_pos (by omega), if_neg (fun q => a1 ⟨q.1, q.2.1⟩)]
theorem cntL_ok : ∀ (d n : Nat) (l : List Ins), n ≤ 8192 → cntL d n l = cR d n l
  | d, n, [], h => by
    unfold cR
    rw [cntL, okL, sizL, if_pos ⟨rfl, by omega⟩]
    rfl
  | d, n, c :: r, h => by
    have h1 := inI_ok d c
    unfold cR
    rw [cntL, okL, sizL, sizI_eq]
    by_cases hm : mayI c = false
    · rw [if_pos hm, if_neg (fun q => by have := q.1; rw [okI_eq, hm] at this; simp at this)]
    · rw [if_neg hm]
      have hm' : mayI c = true := by simpa using hm
      by_cases hb : 2 ≤ c.op ∧ c.op ≤ 4
      · rw [if_pos hb]
        by_cases hd : d = 32
        · rw [if_pos hd, if_neg (fun q => by have := q.1; rw [okI_eq, if_pos hb, hd] at this; simp at this)]
        · rw [if_neg hd]
          have hoc : okI d c = (okL (d + 1) c.l && okL (d + 1) c.e) := by rw [okI_eq, hm', if_pos hb, decide_eq_true hd, Bool.true_and, Bool.true_and]
          rw [hoc]
          by_cases hi : okL (d + 1) c.l = true ∧ sizL c.l ≤ 8192 ∧ okL (d + 1) c.e = true ∧ sizL c.e ≤ 8192
          · rw [if_pos hi] at h1
            rw [h1, if_neg (by omega), hi.1, hi.2.2.1, Bool.true_and, Bool.true_and]
            by_cases hs : n + 1 + (sizL c.l + sizL c.e) ≤ 8192
            · rw [if_neg (by omega)]
              have h2 := cntL_ok d (n + 1 + (sizL c.l + sizL c.e)) r hs
              unfold cR at h2
              rw [show (n : Int) + 1 + ((sizL c.l + sizL c.e : Nat) : Int) = ((n + 1 + (sizL c.l + sizL c.e) : Nat) : Int) by omega, h2, show n + (1 + sizL c.l + sizL c.e + sizL r) = n + 1 + (sizL c.l + sizL c.e) + sizL r by omega]
            · rw [if_pos (by omega), if_neg (fun q => hs (by omega))]
          · rw [if_neg hi] at h1
            rw [h1, if_pos (by decide), if_neg (fun q => hi ?_)]
            obtain ⟨q1, q2⟩ := q
            simp only [Bool.and_eq_true] at q1
            exact ⟨q1.1.1, by omega, q1.1.2, by omega⟩
      · rw [if_neg hb, okI_plain hb, hm', Bool.true_and]
        obtain ⟨e1, e2, e3⟩ := mayI_parts hm'
        have hl : c.l = [] := e2.resolve_left (fun q => hb (shapeV_two q))
        have he : c.e = [] := e3.resolve_left (fun q => hb (by omega))
        rw [hl, he, sizL]
        by_cases hs : n + 1 ≤ 8192
        · rw [if_neg (by omega)]
          have h2 := cntL_ok d (n + 1) r hs
          unfold cR at h2
          rw [show (n : Int) + 1 = ((n + 1 : Nat) : Int) by omega, h2, show n + (1 + 0 + 0 + sizL r) = n + 1 + sizL r by omega]
        · rw [if_pos (by omega), if_neg (fun q => hs (by omega))]
end
end Go.Proofs.Ytfhifnkekegkkaa
