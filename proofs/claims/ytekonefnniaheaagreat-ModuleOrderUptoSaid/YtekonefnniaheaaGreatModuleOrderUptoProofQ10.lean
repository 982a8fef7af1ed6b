/- Texts of the proof of ModuleOrderUptoProof, part 10. -/
import Derived.Test.YtekonefnniaheaaGreatModuleOrderUptoProofQ4
import Derived.Test.YtekonefnniaheaaGreatModuleOrderUptoProofQ6
/- What is laid is read as it was, and cut off it is none: numbers, rows, types. -/
namespace Go.Proofs.YtekonefnniaheaaGreat
open Go.RowKit
open Leb (byt byt_lt byt_get len7 sum7 sg7 putU putS)

/-- These bytes are read as x, with whatever behind them; cut off they have no end. -/
def Enc {X : Type} (R : ByteArray → Except Int (X × ByteArray)) (x : X) (b : List Int) : Prop :=
  (∀ more, R (strOfNums b ++ more) = .ok (x, more)) ∧ ∀ k, k < b.length → R (strOfNums (b.take k)) = .error 2
theorem nums_app (x y : List Int) (more : ByteArray) : strOfNums (x ++ y) ++ more = strOfNums x ++ (strOfNums y ++ more) := by
  rw [← strOfNums_app, ByteArray.append_assoc]
theorem nums_nil (more : ByteArray) : strOfNums [] ++ more = more := ByteArray.empty_append
theorem enc_bind {X Y : Type} {R : ByteArray → Except Int (X × ByteArray)} {R2 : X × ByteArray → Except Int (Y × ByteArray)} {x : X} {y : Y} {b1 b2 : List Int} (h1 : Enc R x b1) (h2 : Enc (fun s => R2 (x, s)) y b2) : Enc (fun s => (R s).bind R2) y (b1 ++ b2) := by
  refine ⟨fun more => ?_, fun k hk => ?_⟩
  · show (R (strOfNums (b1 ++ b2) ++ more)).bind R2 = _
    rw [nums_app, h1.1]
    exact h2.1 more
  · show (R (strOfNums ((b1 ++ b2).take k))).bind R2 = _
    by_cases hl : k < b1.length
    · rw [List.take_append_of_le_length (by omega), h1.2 k hl]
      rfl
    · rw [List.take_append, List.take_of_length_le (by omega), ← strOfNums_app, h1.1]
      rw [List.length_append] at hk
      exact h2.2 (k - b1.length) (by omega)
theorem enc_ok {X : Type} (x : X) : Enc (fun s => (.ok (x, s) : Except Int (X × ByteArray))) x [] :=
  ⟨fun more => by rw [nums_nil], fun _ hk => absurd hk (by simp)⟩
theorem enc_map {X Y : Type} {R : ByteArray → Except Int (X × ByteArray)} {x : X} {b : List Int} (h : Enc R x b) (g : X → Y) : Enc (fun s => (R s).bind fun q => .ok (g q.1, q.2)) (g x) b := by
  have := enc_bind h (R2 := fun q => .ok (g q.1, q.2)) (enc_ok (g x))
  rwa [List.append_nil] at this
/-- Bytes that are laid, cut off. -/
theorem laid_cut {l : List Int} {more : ByteArray} (h : Leb.Laid l more) {k : Nat} (hk : k < l.length) (most : Nat) : len7 (strOfNums (l.take k)) most = 0 := by
  rcases Leb.len7_prop (strOfNums (l.take k)) most with h0 | ⟨h1, h2, h3, h4, _⟩
  · exact h0
  · exfalso
    have hs : (strOfNums (l.take k)).size = k := by rw [strOfNums_size, List.length_take]; omega
    rw [hs] at h3
    have hb := h.others (len7 (strOfNums (l.take k)) most - 1) (by omega)
    have e : byt (strOfNums (l.take k)) (len7 (strOfNums (l.take k)) most - 1) = byt (strOfNums l ++ more) (len7 (strOfNums (l.take k)) most - 1) := by
      have hj : len7 (strOfNums (l.take k)) most - 1 < k := by omega
      revert hj
      generalize len7 (strOfNums (l.take k)) most - 1 = j
      intro hj
      unfold byt
      rw [ByteArray.data_append, Array.toList_append, strOfNums_data, strOfNums_data]
      rw [List.getD_eq_getElem?_getD, List.getD_eq_getElem?_getD, List.getElem?_append_left (by rw [List.length_map]; omega)]
      rw [List.map_take, List.getElem?_take, if_pos (by omega)]
    omega
theorem uT_of {s r : ByteArray} {n : Int} (h : uTup s = .tuple #[.int .i64 n, .string r, .int .i64 0]) : uT s = .ok (n, r) := by
  unfold uTup at h
  simp only [Value.tuple.injEq, Array.mk.injEq, List.cons.injEq, Value.int.injEq, Value.string.injEq, true_and, and_true] at h
  obtain ⟨h1, h2, h3⟩ := h
  have hok : okU s = true := by
    unfold uE at h3
    split at h3
    · assumption
    · cases h3
  unfold uT
  rw [if_pos hok, h1, h2]
theorem sT_of {s r : ByteArray} {most : Nat} {half n : Int} (h : sTup s most half = .tuple #[.int .i64 n, .string r, .int .i64 0]) : sT s most half = .ok (n, r) := by
  unfold sTup at h
  simp only [Value.tuple.injEq, Array.mk.injEq, List.cons.injEq, Value.int.injEq, Value.string.injEq, true_and, and_true] at h
  obtain ⟨h1, h2, h3⟩ := h
  have hok : okS s most half = true := by
    unfold sE at h3
    split at h3
    · assumption
    · cases h3
  unfold sT
  rw [if_pos hok, h1, h2]
theorem uT_none {s : ByteArray} (h : len7 s 5 = 0) : uT s = .error 2 := by
  unfold uT
  rw [okU_none h]
  rfl
theorem sT_none {s : ByteArray} {most : Nat} {half : Int} (h : len7 s most = 0) : sT s most half = .error 2 := by
  unfold sT
  rw [if_neg]
  intro hok
  exact (okS_parts hok).1 h
theorem enc_u {n : Int} (h0 : 0 ≤ n) (h1 : n ≤ 4294967295) : Enc uT n (putU n) :=
  ⟨fun more => uT_of (back_U more h0 (by omega)), fun _ hk => uT_none (laid_cut (Leb.putU_laid n ⟨#[]⟩ h0 (by omega)).1 hk 5)⟩
theorem enc_s64 {n : Int} (h0 : -9223372036854775808 ≤ n) (h1 : n ≤ 9223372036854775807) : Enc (fun s => sT s 10 9223372036854775808) n (putS n) :=
  ⟨fun more => sT_of (back_64 more h0 h1), fun _ hk => sT_none (laid_cut (Leb.putS_laid n ⟨#[]⟩ h0 h1).1 hk 10)⟩
theorem enc_s32 {n : Int} (h0 : -2147483648 ≤ n) (h1 : n < 2147483648) : Enc (fun s => sT s 5 2147483648) n (putS n) :=
  ⟨fun more => sT_of (back_32 more h0 h1), fun _ hk => sT_none (laid_cut (Leb.putS_laid n ⟨#[]⟩ (by omega) (by omega)).1 hk 5)⟩
theorem back_33 {n : Int} (more : ByteArray) (h0 : -4294967296 ≤ n) (h1 : n < 4294967296) :
    sTup (strOfNums (putS n) ++ more) 5 4294967296 = .tuple #[.int .i64 n, .string more, .int .i64 0] := by
  obtain ⟨hL, hs⟩ := Leb.putS_laid n more (by omega) (by omega)
  have hsh : (putS n).length ≤ 5 := Leb.putG_short 10 n 5 (by simp; omega) (by simp; omega) (by decide)
  have hlen := hL.len7 5 hsh
  have hp := hL.pos
  have hok : okS (strOfNums (putS n) ++ more) 5 4294967296 = true :=
    decide_eq_true (by rw [hlen, hs]; exact ⟨by omega, fun h => by omega, by omega, by omega⟩)
  rw [sTup_good hok, hlen, hs, ext_app]
theorem enc_s33 {n : Int} (h0 : -4294967296 ≤ n) (h1 : n < 4294967296) : Enc (fun s => sT s 5 4294967296) n (putS n) :=
  ⟨fun more => sT_of (back_33 more h0 h1), fun _ hk => sT_none (laid_cut (Leb.putS_laid n ⟨#[]⟩ (by omega) (by omega)).1 hk 5)⟩
theorem uT_ok {s r : ByteArray} {n : Int} (h : uT s = .ok (n, r)) : okU s = true ∧ (sum7 s (len7 s 5) : Int) = n ∧ s.extract (len7 s 5) s.size = r := by
  unfold uT at h
  split at h
  · rename_i hok
    injection h with h
    injection h with h1 h2
    unfold uN at h1
    unfold uR at h2
    rw [if_pos hok] at h1 h2
    exact ⟨hok, h1, h2⟩
  · cases h
theorem rowsF_back (more : ByteArray) : ∀ (zs l : List Int), (∀ z ∈ zs, 0 ≤ z ∧ z ≤ 4294967295) → rowsF zs.length l (strOfNums (zs.flatMap putU) ++ more) = some (l ++ zs, more) := by
  intro zs
  induction zs with
  | nil => intro l _; rw [List.flatMap_nil, nums_nil, List.append_nil]; rfl
  | cons z zs ih =>
    intro l hz
    have h1 := hz z (by simp)
    obtain ⟨a, b, c⟩ := uT_ok ((enc_u h1.1 h1.2).1 (strOfNums (zs.flatMap putU) ++ more))
    rw [List.flatMap_cons, nums_app, List.length_cons, rowsF, if_pos a, b, c, ih _ (fun x hx => hz x (by simp [hx])), List.append_assoc]
    rfl
theorem rowsF_cut : ∀ (zs l : List Int), (∀ z ∈ zs, 0 ≤ z ∧ z ≤ 4294967295) → ∀ k, k < (zs.flatMap putU).length → rowsF zs.length l (strOfNums ((zs.flatMap putU).take k)) = none := by
  intro zs
  induction zs with
  | nil => intro l _ k hk; exact absurd hk (by simp)
  | cons z zs ih =>
    intro l hz k hk
    have h1 := hz z (by simp)
    rw [List.flatMap_cons] at hk ⊢
    rw [List.length_cons, rowsF]
    by_cases hl : k < (putU z).length
    · rw [List.take_append_of_le_length (by omega), if_neg]
      rw [okU_none (laid_cut (Leb.putU_laid z ⟨#[]⟩ h1.1 (by omega)).1 hl 5)]
      decide
    · rw [List.take_append, List.take_of_length_le (by omega), ← strOfNums_app]
      obtain ⟨a, b, c⟩ := uT_ok ((enc_u h1.1 h1.2).1 (strOfNums ((zs.flatMap putU).take (k - (putU z).length))))
      rw [if_pos a, b, c]
      rw [List.length_append] at hk
      exact ih _ (fun x hx => hz x (by simp [hx])) _ (by omega)
theorem enc_a {zs : List Int} (hz : ∀ z ∈ zs, 0 ≤ z ∧ z ≤ 4294967295) (hl : zs.length ≤ 1000) : Enc aT zs (allB zs) := by
  have hu := enc_u (n := (zs.length : Int)) (by omega) (by omega)
  refine ⟨fun more => ?_, fun k hk => ?_⟩
  · unfold allB
    rw [nums_app]
    obtain ⟨a, b, c⟩ := uT_ok (hu.1 (strOfNums (zs.flatMap putU) ++ more))
    have hr := rowsF_back more zs [] hz
    have b' : sum7 (strOfNums (putU zs.length) ++ (strOfNums (zs.flatMap putU) ++ more)) (len7 (strOfNums (putU zs.length) ++ (strOfNums (zs.flatMap putU) ++ more)) 5) = zs.length := by omega
    have he := allRes_some (most := 1000) a (by rw [b]; omega) (l := zs) (r := more) (by rw [b', c]; exact hr)
    unfold aT
    rw [he, if_pos rfl]
  · unfold allB at hk ⊢
    have key : (allRes (strOfNums ((putU zs.length ++ zs.flatMap putU).take k)) 1000) = ([], ⟨#[]⟩, 2) := by
      by_cases hk1 : k < (putU zs.length).length
      · rw [List.take_append_of_le_length (by omega)]
        exact allRes_bad 1000 (okU_none (laid_cut (Leb.putU_laid zs.length ⟨#[]⟩ (by omega) (by omega)).1 hk1 5))
      · rw [List.take_append, List.take_of_length_le (by omega), ← strOfNums_app]
        obtain ⟨a, b, c⟩ := uT_ok (hu.1 (strOfNums ((zs.flatMap putU).take (k - (putU zs.length).length))))
        rw [List.length_append] at hk
        have hr := rowsF_cut zs [] hz (k - (putU zs.length).length) (by omega)
        refine allRes_none (most := 1000) a (by rw [b]; omega) ?_
        rw [c]
        rw [show sum7 _ _ = zs.length from by omega]
        exact hr
    unfold aT
    rw [key]
    rfl
theorem byt_one (c : Int) (more : ByteArray) (h1 : c < 256) : byt (strOfNums [c] ++ more) 0 = c.toNat := Leb.byt_head c [] more h1
theorem ext_one (c : Int) (more : ByteArray) : (strOfNums [c] ++ more).extract 1 (strOfNums [c] ++ more).size = more := ext_app [c] more
theorem size_one (c : Int) (more : ByteArray) : (strOfNums [c] ++ more).size = 1 + more.size := by rw [Leb.size_app]; rfl
theorem enc_y {t : Int} (ht : (typeV t).2 = 0) : Enc yT t [t] := by
  have hc : t = 127 ∨ t = 126 ∨ t = 112 := by
    rcases typeV_cases t with ⟨h, _⟩ | ⟨h, _⟩ | ⟨h, _⟩ | ⟨h, h2⟩ | ⟨h, h2⟩ | ⟨h, h2⟩ | ⟨h, h2⟩
    · exact .inl h
    · exact .inr (.inl h)
    · exact .inr (.inr h)
    all_goals (rw [h2] at ht; cases ht)
  refine ⟨fun more => ?_, fun k hk => ?_⟩
  · have h0 : ¬ (strOfNums [t] ++ more).size = 0 := by rw [size_one]; omega
    have hb : ((byt (strOfNums [t] ++ more) 0 : Nat) : Int) = t := by rw [byt_one t more (by omega)]; omega
    have he : tyE (strOfNums [t] ++ more) = 0 := by unfold tyE; rw [if_neg h0, hb]; exact ht
    have hn : (typeV t).1 = t := by rcases hc with rfl | rfl | rfl <;> rfl
    unfold yT
    rw [if_pos he]
    unfold tyN tyR
    rw [if_pos he, if_pos he, hb, hn, ext_one]
  · obtain rfl : k = 0 := by simp at hk; omega
    rfl
end Go.Proofs.YtekonefnniaheaaGreat

/- What is laid is read as it was, and cut off it is none: an opcode, an instruction's numbers. -/
namespace Go.Proofs.YtekonefnniaheaaGreat
open Go.RowKit
open Leb (byt byt_lt byt_get len7 sum7 sg7 putU putS)

theorem enc_of {X : Type} {R R' : ByteArray → Except Int (X × ByteArray)} {x : X} {b : List Int} (h : Enc R x b) (e : ∀ s, R' s = R s) : Enc R' x b :=
  ⟨fun more => (e _).trans (h.1 more), fun k hk => (e _).trans (h.2 k hk)⟩
theorem enc_types {t : Int} (ht : (typeV t).2 = 0) (hr : t % 256 = t) : Enc typesT t (1 :: [t % 256]) := by
  rw [hr]
  have h1 := enc_u (n := 1) (by decide) (by decide)
  have := enc_bind (R2 := fun q => if q.1 = 1 then yT q.2 else .error 2) h1 (y := t) (b2 := [t]) (enc_of (enc_y ht) fun _ => if_pos rfl)
  exact this
theorem enc_null : Enc nullT 112 [112] := by
  have := enc_bind (R2 := fun q => if q.1 = 112 then .ok q else .error 2) (enc_y (t := 112) (by decide)) (y := 112) (b2 := []) (enc_of (enc_ok 112) fun _ => if_pos rfl)
  exact this
theorem enc_place {a b m : Int} (ha : 0 ≤ a ∧ a ≤ 4294967295) (hb : 0 ≤ b ∧ b ≤ 63) (hm : 0 ≤ m ∧ m ≤ 4294967295) : Enc placeT (a, b, m) (placeB b m ++ putU a) := by
  unfold placeB
  by_cases h0 : m = 0
  · subst h0
    rw [if_pos rfl]
    refine enc_bind (enc_u hb.1 (by omega)) ?_
    rw [show (fun s => if 128 ≤ ((b, s) : Int × ByteArray).1 then (.error 2 : Except Int ((Int × Int × Int) × ByteArray)) else if 64 ≤ ((b, s) : Int × ByteArray).1 then (uT ((b, s) : Int × ByteArray).2).bind fun p => (uT p.2).bind fun o => .ok ((o.1, ((b, s) : Int × ByteArray).1 - 64, p.1), o.2) else (uT ((b, s) : Int × ByteArray).2).bind fun o => .ok ((o.1, ((b, s) : Int × ByteArray).1, 0), o.2)) = fun s => (uT s).bind fun o => .ok ((o.1, b, 0), o.2) from by
      funext s
      show (if 128 ≤ b then _ else if 64 ≤ b then _ else _) = _
      rw [if_neg (by omega), if_neg (by omega)]]
    exact enc_map (enc_u ha.1 ha.2) (fun x => (x, b, 0))
  · rw [if_neg h0, List.append_assoc]
    refine enc_bind (enc_u (n := b + 64) (by omega) (by omega)) ?_
    rw [show (fun s => if 128 ≤ ((b + 64, s) : Int × ByteArray).1 then (.error 2 : Except Int ((Int × Int × Int) × ByteArray)) else if 64 ≤ ((b + 64, s) : Int × ByteArray).1 then (uT ((b + 64, s) : Int × ByteArray).2).bind fun p => (uT p.2).bind fun o => .ok ((o.1, ((b + 64, s) : Int × ByteArray).1 - 64, p.1), o.2) else (uT ((b + 64, s) : Int × ByteArray).2).bind fun o => .ok ((o.1, ((b + 64, s) : Int × ByteArray).1, 0), o.2)) = fun s => (uT s).bind fun p => (uT p.2).bind fun o => .ok ((o.1, b, p.1), o.2) from by
      funext s
      show (if 128 ≤ b + 64 then _ else if 64 ≤ b + 64 then (uT s).bind fun p => (uT p.2).bind fun o => .ok ((o.1, b + 64 - 64, p.1), o.2) else _) = _
      rw [if_neg (by omega), if_pos (by omega), show b + 64 - 64 = b by omega]]
    exact enc_bind (R2 := fun p => (uT p.2).bind fun o => .ok ((o.1, b, p.1), o.2)) (enc_u hm.1 hm.2) (enc_map (enc_u ha.1 ha.2) (fun x => (x, b, m)))
theorem putS_head {n : Int} (h0 : 0 ≤ n) (h1 : n ≤ 4294967295) : ∃ d l, putS n = d :: l ∧ 0 ≤ d ∧ d < 256 ∧ (d < 64 ∨ 128 ≤ d) := by
  unfold putS
  by_cases h : n < 64
  · rw [Leb.putG_last 9 n (by omega)]
    exact ⟨_, _, rfl, by omega, by omega, by omega⟩
  · rw [Leb.putG_next 9 n (by omega)]
    exact ⟨_, _, rfl, by omega, by omega, by omega⟩
theorem blk_far {s : ByteArray} (h : ¬ (0 < s.size ∧ 64 ≤ byt s 0 ∧ byt s 0 < 128)) : blkT s = (sT s 5 4294967296).bind fun q => if q.1 < 0 then .error 2 else .ok q := if_neg h
theorem enc_blk {a : Int} (ha : blkB a = true) : Enc blkT a (putS a) := by
  unfold blkB at ha
  rw [Bool.or_eq_true, decide_eq_true_eq] at ha
  rcases ha with ha | ha
  · have h := idxB_parts ha
    obtain ⟨d, l, hp, hd0, hd1, hd⟩ := putS_head h.1 h.2
    have hn : ∀ (x : List Int) (more : ByteArray), ¬ (0 < (strOfNums (d :: x) ++ more).size ∧ 64 ≤ byt (strOfNums (d :: x) ++ more) 0 ∧ byt (strOfNums (d :: x) ++ more) 0 < 128) := fun x more q => by
      rw [Leb.byt_head d x more hd1] at q
      omega
    have he := enc_s33 (n := a) (by omega) (by omega)
    rw [hp] at he ⊢
    refine ⟨fun more => ?_, fun k hk => ?_⟩
    · rw [blk_far (hn l more), show sT (strOfNums (d :: l) ++ more) 5 4294967296 = .ok (a, more) from he.1 more]
      show (if a < 0 then _ else _) = _
      rw [if_neg (by omega)]
    · cases k with
      | zero => rfl
      | succ k =>
        rw [blk_far]
        · rw [show sT (strOfNums ((d :: l).take (k + 1))) 5 4294967296 = .error 2 from he.2 _ hk]
          rfl
        · have := hn (l.take k) ⟨#[]⟩
          rw [show strOfNums (d :: l.take k) ++ ⟨#[]⟩ = strOfNums (d :: l.take k) from ByteArray.append_empty] at this
          exact this
  · have hc : a = -64 ∨ a = -1 ∨ a = -2 ∨ a = -16 := by simpa using ha
    rcases hc with rfl | rfl | rfl | rfl
    · refine ⟨fun more => ?_, fun k hk => ?_⟩
      · have hb := byt_one 64 more (by decide)
        rw [show putS (-64) = [64] from rfl]
        unfold blkT
        rw [if_pos ⟨by rw [size_one]; omega, by rw [hb]; decide, by rw [hb]; decide⟩, if_pos (by rw [hb]; rfl), ext_one]
      · obtain rfl : k = 0 := by rw [show putS (-64) = [64] from rfl] at hk; simp at hk; omega
        rfl
    all_goals
      refine ⟨fun more => ?_, fun k hk => ?_⟩
      · first
          | rw [show putS (-1) = [127] from rfl]
          | rw [show putS (-2) = [126] from rfl]
          | rw [show putS (-16) = [112] from rfl]
        first
          | (have hb := byt_one 127 more (by decide)
             have hy := (enc_y (t := 127) (by decide)).1 more
             unfold blkT
             rw [if_pos ⟨by rw [size_one]; omega, by rw [hb]; decide, by rw [hb]; decide⟩, if_neg (by rw [hb]; decide), hy, hb]
             rfl)
          | (have hb := byt_one 126 more (by decide)
             have hy := (enc_y (t := 126) (by decide)).1 more
             unfold blkT
             rw [if_pos ⟨by rw [size_one]; omega, by rw [hb]; decide, by rw [hb]; decide⟩, if_neg (by rw [hb]; decide), hy, hb]
             rfl)
          | (have hb := byt_one 112 more (by decide)
             have hy := (enc_y (t := 112) (by decide)).1 more
             unfold blkT
             rw [if_pos ⟨by rw [size_one]; omega, by rw [hb]; decide, by rw [hb]; decide⟩, if_neg (by rw [hb]; decide), hy, hb]
             rfl)
      · obtain rfl : k = 0 := by
          first
            | (rw [show putS (-1) = [127] from rfl] at hk; simp at hk; omega)
            | (rw [show putS (-2) = [126] from rfl] at hk; simp at hk; omega)
            | (rw [show putS (-16) = [112] from rfl] at hk; simp at hk; omega)
        rfl
/-- An instruction's numbers. -/
theorem enc_nums {c : Ins} (h : mayI c = true) (hw : -9223372036854775808 ≤ c.a ∧ c.a ≤ 9223372036854775807) : Enc (numsT c.op (shapeV c.op).1) (c.a, c.b, c.m, c.n) (fldB (shapeV c.op).1 c.a c.b c.m c.n) := by
  obtain ⟨hm, hb, hnl, hn, hA⟩ := mayI_bounds h
  have her := (mayI_parts h).1
  have hz := h
  rw [← may_same c her] at hz
  unfold mayPV at hz
  simp only [Bool.and_eq_true] at hz
  obtain ⟨⟨⟨⟨⟨_, hB⟩, hM⟩, hN⟩, _⟩, _⟩ := hz
  have hn' : ∀ z ∈ c.n, 0 ≤ z ∧ z ≤ 4294967295 := fun z hz => by
    obtain ⟨k, hk, rfl⟩ := List.getElem_of_mem hz
    have := hn k hk
    rwa [List.getD_eq_getElem?_getD, List.getElem?_eq_getElem hk] at this
  have hb0 : (shapeV c.op).1 ≠ 7 → c.b = 0 := fun q => by
    unfold mayBV at hB
    rw [if_neg q] at hB
    exact of_decide_eq_true hB
  have hm0 : (shapeV c.op).1 ∉ ([5, 7, 8, 9] : List Int) → c.m = 0 := fun q => by
    unfold mayMV at hM
    rw [if_neg q] at hM
    exact of_decide_eq_true hM
  have hn0 : (shapeV c.op).1 ≠ 4 → c.n = [] := fun q => by
    unfold mayNV at hN
    rw [if_neg q] at hN
    exact List.length_eq_zero_iff.1 (of_decide_eq_true hN)
  generalize hop : c.op = op at *
  generalize c.a = a at *
  generalize c.b = b at *
  generalize c.m = m at *
  generalize c.n = n at *
  have e10 : (shapeV op).1 = 10 → op = 65 ∨ op = 66 := fun q => shape10 (Prod.ext q her)
  rcases shapeV_in op her with s | s | s | s | s | s | s | s | s | s | s
  all_goals
    rw [s] at hA hb0 hm0 hn0 e10 ⊢
    unfold mayAV at hA
  · rw [hb0 (by decide), hm0 (by decide), hn0 (by decide), show a = 0 from of_decide_eq_true hA]
    exact enc_ok _
  · rw [hb0 (by decide), hm0 (by decide), hn0 (by decide)]
    exact enc_map (enc_blk hA) (fun x => ((x, 0, 0, []) : Int × Int × Int × List Int))
  · rw [hb0 (by decide), hm0 (by decide), hn0 (by decide)]
    have ha := idxB_parts hA
    exact enc_map (enc_u ha.1 ha.2) (fun x => ((x, 0, 0, []) : Int × Int × Int × List Int))
  · rw [hb0 (by decide), hm0 (by decide)]
    have ha := idxB_parts hA
    exact enc_bind (R2 := fun q => (uT q.2).bind fun p => .ok ((p.1, 0, 0, q.1), p.2)) (enc_a hn' hnl) (enc_map (enc_u ha.1 ha.2) (fun x => ((x, 0, 0, n) : Int × Int × Int × List Int)))
  · rw [hb0 (by decide), hn0 (by decide)]
    have ha := idxB_parts hA
    exact enc_bind (R2 := fun q => (uT q.2).bind fun p => .ok ((q.1, 0, p.1, []), p.2)) (enc_u ha.1 ha.2) (enc_map (enc_u hm.1 hm.2) (fun x => ((a, 0, x, []) : Int × Int × Int × List Int)))
  · rw [hb0 (by decide), hm0 (by decide), hn0 (by decide)]
    have ha : (typeV a).2 = 0 := of_decide_eq_true hA
    have hr : a % 256 = a := by
      rcases typeV_cases a with ⟨h, _⟩ | ⟨h, _⟩ | ⟨h, _⟩ | ⟨h, _⟩ | ⟨h, _⟩ | ⟨h, _⟩ | ⟨_, h2⟩
      all_goals first
        | omega
        | (rw [h2] at ha; cases ha)
    exact enc_map (enc_types ha hr) (fun x => ((x, 0, 0, []) : Int × Int × Int × List Int))
  · rw [hn0 (by decide)]
    have ha := idxB_parts hA
    exact enc_map (enc_place ha hb hm) (fun x => ((x.1, x.2.1, x.2.2, []) : Int × Int × Int × List Int))
  · rw [hb0 (by decide), hn0 (by decide), show a = 0 from of_decide_eq_true hA]
    exact enc_map (enc_u hm.1 hm.2) (fun x => ((0, 0, x, []) : Int × Int × Int × List Int))
  · rw [hb0 (by decide), hn0 (by decide)]
    have ha := idxB_parts hA
    exact enc_bind (R2 := fun q => (uT q.2).bind fun p => .ok ((p.1, 0, q.1, []), p.2)) (enc_u hm.1 hm.2) (enc_map (enc_u ha.1 ha.2) (fun x => ((x, 0, m, []) : Int × Int × Int × List Int)))
  · rw [hb0 (by decide), hm0 (by decide), hn0 (by decide)]
    rcases e10 rfl with rfl | rfl
    · have ha : decide ((65 : Int) = 66) || (decide (-2147483648 ≤ a) && decide (a ≤ 2147483647)) := hA
      simp at ha
      exact enc_map (R := constT 65) (enc_s32 ha.1 (by omega)) (fun x => ((x, 0, 0, []) : Int × Int × Int × List Int))
    · exact enc_map (R := constT 66) (enc_s64 hw.1 hw.2) (fun x => ((x, 0, 0, []) : Int × Int × Int × List Int))
  · rw [hb0 (by decide), hm0 (by decide), hn0 (by decide), show a = 0 from of_decide_eq_true hA]
    exact enc_map enc_null (fun _ => ((0, 0, 0, []) : Int × Int × Int × List Int))
/-- The opcodes that there are. -/
theorem ops_in {op : Int} (h : (shapeV op).2 = 0) : (0 ≤ op ∧ op ≤ 255 ∧ op ≠ 252 ∧ op ≠ 11 ∧ op ≠ 5) ∨ (64512 ≤ op ∧ op ≤ 65000) := by
  by_cases hm : op ∈ nameOps
  · have key : ∀ op ∈ nameOps, (0 ≤ op ∧ op ≤ 255 ∧ op ≠ 252 ∧ op ≠ 11 ∧ op ≠ 5) ∨ (64512 ≤ op ∧ op ≤ 65000) := by decide
    exact key op hm
  · rw [shapeV_other hm] at h
    by_cases hs : 0 < (Num.sig op).1
    · rcases Num.sig_cases op with ⟨h, k⟩ | ⟨h, h', k⟩ | ⟨h, k⟩ | ⟨h, k⟩ | ⟨h, k⟩ | ⟨h, k⟩ | ⟨h, h', k⟩ | ⟨h, h', k⟩ | ⟨h, k⟩ | ⟨h, k⟩ | ⟨h, h', k⟩ | ⟨h, h', k⟩ | ⟨h, h', k⟩ | ⟨h, h', k⟩ | ⟨h, k⟩
      all_goals first
        | (left; omega)
        | (exfalso
           unfold Num.sigTup Num.tup3 at k
           simp only [Value.tuple.injEq, Array.mk.injEq, List.cons.injEq, Value.int.injEq, true_and] at k
           omega)
    rw [if_neg hs] at h
    by_cases hw : 0 < (Mem.width op).1
    · have hm2 : op ∈ Mem.wOps := by
        by_cases q : op ∈ Mem.wOps
        · exact q
        · unfold Mem.width at hw
          rw [if_neg q] at hw
          exact absurd hw (by decide)
      have key : ∀ op ∈ Mem.wOps, (0 ≤ op ∧ op ≤ 255 ∧ op ≠ 252 ∧ op ≠ 11 ∧ op ≠ 5) ∨ (64512 ≤ op ∧ op ≤ 65000) := by decide
      exact key op hm2
    rw [if_neg hw] at h
    split at h
    · cases h
    split at h
    · cases h
    · cases h
theorem opT_byte {op : Int} (h0 : 0 ≤ op) (h1 : op ≤ 255) (h2 : op ≠ 252) (more : ByteArray) : opT (strOfNums [op] ++ more) = .ok (op, more) := by
  have hb := byt_one op more (by omega)
  unfold opT
  rw [if_neg (by rw [size_one]; omega), if_neg (by rw [hb]; omega), ext_one, hb]
  rw [show ((op.toNat : Nat) : Int) = op by omega]
theorem enc_op {op : Int} (h : (shapeV op).2 = 0) : Enc opT op (opB op) := by
  unfold opB
  rcases ops_in h with ⟨h0, h1, h2, _, _⟩ | ⟨h0, h1⟩
  · rw [if_pos (by omega), show op % 256 = op by omega]
    refine ⟨fun more => opT_byte h0 h1 h2 more, fun k hk => ?_⟩
    obtain rfl : k = 0 := by simp at hk; omega
    rfl
  · rw [if_neg (by omega)]
    have hu := enc_u (n := op - 64512) (by omega) (by omega)
    have e : ∀ more : ByteArray, opT (strOfNums [252] ++ more) = (uT more).bind fun q => .ok (64512 + q.1, q.2) := fun more => by
      have hb := byt_one 252 more (by decide)
      unfold opT
      rw [if_neg (by rw [size_one]; omega), if_pos (by rw [hb]; rfl), ext_one]
    refine ⟨fun more => ?_, fun k hk => ?_⟩
    · rw [show (252 :: putU (op - 64512)) = [252] ++ putU (op - 64512) from rfl, nums_app, e, hu.1]
      show Except.ok (64512 + (op - 64512), more) = _
      rw [show 64512 + (op - 64512) = op by omega]
    · cases k with
      | zero => rfl
      | succ k =>
        have := e (strOfNums ((putU (op - 64512)).take k))
        rw [strOfNums_app] at this
        rw [List.length_cons] at hk
        rw [hu.2 k (by omega)] at this
        exact this
end Go.Proofs.YtekonefnniaheaaGreat

/- What is laid is read as it was, and cut off it is none: instructions. -/
namespace Go.Proofs.YtekonefnniaheaaGreat
open Go.RowKit
open Leb (byt byt_lt byt_get len7 sum7 sg7 putU putS)

/-- An instruction's bytes behind its opcode. -/
def restI (c : Ins) : List Int := fldB (shapeV c.op).1 c.a c.b c.m c.n ++ (if (shapeV c.op).1 = 2 then putL c.l ++ ((if c.e.length = 0 then [] else 5 :: putL c.e) ++ [11]) else [])
theorem putI_rest (c : Ins) : putI c = opB c.op ++ restI c := putI_eq c
/-- Instructions that are laid are read as they were, whatever is behind; cut off they have no end. -/
def BackL (d : Nat) (ls : List Ins) : Prop := ∀ n, n + sizL ls ≤ 8192 →
  (∀ f more, (strOfNums (putL ls) ++ more).size < f → ∃ f', more.size < f' ∧ f' ≤ f ∧ takeL f (strOfNums (putL ls) ++ more) d n = (takeL f' more d (n + sizL ls)).bind fun q => .ok ((ls ++ q.1.1, q.1.2.1, q.1.2.2), q.2)) ∧
  (∀ f k, k ≤ (putL ls).length → k < f → takeL f (strOfNums ((putL ls).take k)) d n = .error 2)
def BackI (d : Nat) (c : Ins) : Prop := ∀ n, n + sizI c ≤ 8192 →
  (∀ f more, (strOfNums (restI c) ++ more).size < f → instrT (takeL f) c.op (strOfNums (restI c) ++ more) d n = .ok ((c, n + sizI c), more)) ∧
  (∀ f k, k < (restI c).length → k < f → instrT (takeL f) c.op (strOfNums ((restI c).take k)) d n = .error 2)
theorem take_stop {f : Nat} {more : ByteArray} {d n : Nat} {x : Int} (hf : 0 < f) (hx : x = 11 ∨ x = 5) : takeL f (strOfNums [x] ++ more) d n = .ok (([], x, n), more) := by
  obtain ⟨g, rfl⟩ : ∃ g, f = g + 1 := ⟨f - 1, by omega⟩
  rw [takeL, opT_byte (by omega) (by omega) (by omega)]
  show (if x = 11 ∨ x = 5 then _ else _) = _
  rw [if_pos hx]
theorem size_nums (l : List Int) (more : ByteArray) : (strOfNums l ++ more).size = l.length + more.size := Leb.size_app l more
theorem nums_take (l : List Int) (k : Nat) (hk : k ≤ l.length) : (strOfNums (l.take k)).size = k := by rw [strOfNums_size, List.length_take]; omega
/-- A block's bytes. -/
theorem blk_back {op a b m : Int} {ns : List Int} {l e : List Ins} {d : Nat} (hl : BackL (d + 1) l) (he : BackL (d + 1) e) (h4 : op = 4 ∨ e = []) {n : Nat} (hn : n + sizL l + sizL e ≤ 8192) :
    (∀ f more, (strOfNums (putL l ++ ((if e.length = 0 then [] else 5 :: putL e) ++ [11])) ++ more).size < f → blockT (takeL f) op a b m ns (strOfNums (putL l ++ ((if e.length = 0 then [] else 5 :: putL e) ++ [11])) ++ more) d n = .ok ((.mk op a b m ns l e, n + sizL l + sizL e), more)) ∧
    (∀ f k, k < (putL l ++ ((if e.length = 0 then [] else 5 :: putL e) ++ [11])).length → k < f → blockT (takeL f) op a b m ns (strOfNums ((putL l ++ ((if e.length = 0 then [] else 5 :: putL e) ++ [11])).take k)) d n = .error 2) := by
  obtain ⟨A1, B1⟩ := hl n (by omega)
  by_cases h0 : e.length = 0
  · have hnil : e = [] := List.length_eq_zero_iff.1 h0
    subst hnil
    rw [if_pos h0, List.nil_append]
    refine ⟨fun f more hf => ?_, fun f k hk hkf => ?_⟩
    · rw [nums_app] at hf ⊢
      obtain ⟨f', h1, h2, h3⟩ := A1 f _ hf
      unfold blockT
      rw [h3, take_stop (by omega) (.inl rfl)]
      show (if (11 : Int) = 11 then Except.ok ((Ins.mk op a b m ns (l ++ []) [], n + sizL l), more) else (if op = 4 then (takeL f more (d + 1) (n + sizL l)).bind (fun e => if e.1.2.1 = 11 then Except.ok ((Ins.mk op a b m ns (l ++ []) e.1.1, e.1.2.2), e.2) else Except.error 2) else Except.error 2)) = _
      rw [if_pos rfl, sizL, List.append_nil]
      rfl
    · rw [List.length_append, List.length_singleton] at hk
      rw [List.take_append_of_le_length (by omega)]
      unfold blockT
      rw [B1 f k (by omega) hkf]
      rfl
  · have hop : op = 4 := h4.resolve_right (fun q => h0 (by rw [q]; rfl))
    obtain ⟨A2, B2⟩ := he (n + sizL l) (by omega)
    rw [if_neg h0]
    have e1 : (5 :: putL e) ++ [11] = [5] ++ (putL e ++ [11]) := rfl
    rw [e1]
    refine ⟨fun f more hf => ?_, fun f k hk hkf => ?_⟩
    · rw [nums_app, nums_app] at hf ⊢
      obtain ⟨f', h1, h2, h3⟩ := A1 f _ hf
      unfold blockT
      rw [h3, take_stop (by omega) (.inr rfl)]
      show (if (5 : Int) = 11 then Except.ok ((Ins.mk op a b m ns (l ++ []) [], n + sizL l), strOfNums (putL e ++ [11]) ++ more) else if op = 4 then ((takeL f (strOfNums (putL e ++ [11]) ++ more) (d + 1) (n + sizL l)).bind fun q => if q.1.2.1 = 11 then .ok ((Ins.mk op a b m ns (l ++ []) q.1.1, q.1.2.2), q.2) else .error 2) else Except.error 2) = _
      rw [if_neg (by decide), if_pos hop, nums_app]
      have hsz : (strOfNums (putL e) ++ (strOfNums [11] ++ more)).size < f := by
        rw [size_nums, size_nums, nums_app] at hf
        omega
      obtain ⟨f2, j1, j2, j3⟩ := A2 f _ hsz
      rw [j3, take_stop (by omega) (.inl rfl)]
      show (if (11 : Int) = 11 then Except.ok ((Ins.mk op a b m ns (l ++ []) (e ++ []), n + sizL l + sizL e), more) else Except.error 2) = _
      rw [if_pos rfl, List.append_nil, List.append_nil]
    · by_cases hkl : k ≤ (putL l).length
      · rw [List.take_append_of_le_length (by omega)]
        unfold blockT
        rw [B1 f k hkl hkf]
        rfl
      · rw [List.length_append, List.length_append, List.length_append, List.length_singleton, List.length_singleton] at hk
        have e2 : (putL l ++ ([5] ++ (putL e ++ [11]))).take k = putL l ++ ([5] ++ (putL e).take (k - (putL l).length - 1)) := by
          rw [List.take_append, List.take_of_length_le (by omega), List.take_append, List.take_of_length_le (show ([5] : List Int).length ≤ k - (putL l).length by simp; omega), List.length_singleton, List.take_append_of_le_length (by omega)]
        rw [e2]
        have e3 : strOfNums (putL l ++ ([5] ++ (putL e).take (k - (putL l).length - 1))) = strOfNums (putL l) ++ (strOfNums [5] ++ strOfNums ((putL e).take (k - (putL l).length - 1))) := by rw [strOfNums_app, strOfNums_app]
        rw [e3]
        have hsz : (strOfNums (putL l) ++ (strOfNums [5] ++ strOfNums ((putL e).take (k - (putL l).length - 1)))).size < f := by
          rw [size_nums, size_nums, nums_take _ _ (by omega), List.length_singleton]
          omega
        obtain ⟨f', h1, h2, h3⟩ := A1 f _ hsz
        unfold blockT
        rw [h3, take_stop (by omega) (.inr rfl)]
        show (if (5 : Int) = 11 then Except.ok ((Ins.mk op a b m ns (l ++ []) [], n + sizL l), strOfNums ((putL e).take (k - (putL l).length - 1))) else if op = 4 then ((takeL f (strOfNums ((putL e).take (k - (putL l).length - 1))) (d + 1) (n + sizL l)).bind fun q => if q.1.2.1 = 11 then .ok ((Ins.mk op a b m ns (l ++ []) q.1.1, q.1.2.2), q.2) else .error 2) else Except.error 2) = _
        rw [if_neg (by decide), if_pos hop, B2 f _ (by omega) (by omega)]
        rfl
theorem ins_back {c : Ins} {d : Nat} (hd : d ≤ 32) (hok : okI d c = true) (hw : wfI c) (hl : d + 1 ≤ 32 → okL (d + 1) c.l = true → BackL (d + 1) c.l) (he : d + 1 ≤ 32 → okL (d + 1) c.e = true → BackL (d + 1) c.e) : BackI d c := by
  intro n hn
  rw [okI_eq, Bool.and_eq_true] at hok
  obtain ⟨hm, hbk⟩ := hok
  have her := (mayI_parts hm).1
  obtain ⟨_, hp1, hp2⟩ := mayI_parts hm
  have hen := enc_nums hm ((wfI_eq c).1 hw).1
  rw [sizI_eq] at hn
  unfold restI
  by_cases h2 : (shapeV c.op).1 = 2
  · rw [if_pos h2]
    rw [if_pos (shapeV_two h2), Bool.and_eq_true, Bool.and_eq_true, decide_eq_true_eq] at hbk
    obtain ⟨A, B⟩ := blk_back (op := c.op) (a := c.a) (b := c.b) (m := c.m) (ns := c.n) (d := d) (n := n + 1) (hl (by omega) hbk.2.1) (he (by omega) hbk.2.2) hp2 (by omega)
    refine ⟨fun f more hf => ?_, fun f k hk hkf => ?_⟩
    · rw [nums_app] at hf ⊢
      unfold instrT
      rw [if_pos her, hen.1]
      show (if n + 1 ≤ 8192 then if (shapeV c.op).1 = 2 then if d < 32 then blockT (takeL f) c.op c.a c.b c.m c.n _ d (n + 1) else _ else _ else _) = _
      rw [if_pos (by omega), if_pos h2, if_pos (by omega), A f more (by rw [size_nums] at hf; omega), sizI_eq]
      cases c
      show Except.ok ((_, n + 1 + _ + _), more) = Except.ok ((_, n + (1 + _ + _)), more)
      congr 3
      omega
    · unfold instrT
      rw [if_pos her]
      by_cases hk1 : k < (fldB (shapeV c.op).1 c.a c.b c.m c.n).length
      · rw [List.take_append_of_le_length (by omega), hen.2 k hk1]
        rfl
      · rw [List.take_append, List.take_of_length_le (by omega), ← strOfNums_app, hen.1]
        rw [List.length_append] at hk
        show (if n + 1 ≤ 8192 then if (shapeV c.op).1 = 2 then if d < 32 then blockT (takeL f) c.op c.a c.b c.m c.n _ d (n + 1) else _ else _ else _) = _
        rw [if_pos (by omega), if_pos h2, if_pos (by omega)]
        exact B f _ (by omega) (by omega)
  · rw [if_neg h2, List.append_nil]
    have hln := hp1.resolve_left h2
    have hen2 := hp2.resolve_left (fun q => h2 (by rw [q]; rfl))
    refine ⟨fun f more _ => ?_, fun f k hk _ => ?_⟩
    · unfold instrT
      rw [if_pos her, hen.1]
      show (if n + 1 ≤ 8192 then if (shapeV c.op).1 = 2 then _ else Except.ok ((Ins.mk c.op c.a c.b c.m c.n [] [], n + 1), more) else _) = _
      rw [if_pos (by omega), if_neg h2, sizI_eq, hln, hen2, sizL]
      cases c
      simp only [Ins.l, Ins.e] at hln hen2
      subst hln hen2
      rfl
    · unfold instrT
      rw [if_pos her, hen.2 k hk]
      rfl
theorem list_nil (d : Nat) : BackL d [] := by
  intro n _
  refine ⟨fun f more hf => ⟨f, by rw [putL, nums_nil] at hf; exact hf, Nat.le_refl _, ?_⟩, fun f k hk hkf => ?_⟩
  · rw [putL, nums_nil, sizL, Nat.add_zero]
    exact (bind_id _).symm
  · rw [putL] at hk ⊢
    obtain ⟨g, rfl⟩ : ∃ g, f = g + 1 := ⟨f - 1, by omega⟩
    rw [List.take_nil, takeL]
    rfl
theorem list_cons {c : Ins} {r : List Ins} {d : Nat} (her : (shapeV c.op).2 = 0) (hc : BackI d c) (hr : BackL d r) : BackL d (c :: r) := by
  intro n hn
  rw [sizL] at hn
  obtain ⟨A, B⟩ := hc n (by omega)
  obtain ⟨A2, B2⟩ := hr (n + sizI c) (by omega)
  have hop := enc_op her
  have hx : ¬ (c.op = 11 ∨ c.op = 5) := by
    rcases ops_in her with h | h <;> omega
  rw [putL, putI_rest, List.append_assoc]
  refine ⟨fun f more hf => ?_, fun f k hk hkf => ?_⟩
  · rw [nums_app, nums_app] at hf ⊢
    obtain ⟨g, rfl⟩ : ∃ g, f = g + 1 := ⟨f - 1, by omega⟩
    have ho : 0 < (opB c.op).length := by
      unfold opB
      split <;> simp
    rw [size_nums, size_nums, size_nums] at hf
    obtain ⟨f', h1, h2, h3⟩ := A2 g more (by rw [size_nums]; omega)
    refine ⟨f', h1, by omega, ?_⟩
    rw [takeL, hop.1]
    show (if c.op = 11 ∨ c.op = 5 then _ else (instrT (takeL g) c.op (strOfNums (restI c) ++ (strOfNums (putL r) ++ more)) d n).bind _) = _
    rw [if_neg hx, A g _ (by rw [size_nums, size_nums]; omega)]
    show ((takeL g (strOfNums (putL r) ++ more) d (n + sizI c)).bind _) = _
    rw [h3, bind_bind, sizL, Nat.add_assoc]
    rfl
  · obtain ⟨g, rfl⟩ : ∃ g, f = g + 1 := ⟨f - 1, by omega⟩
    have ho : 0 < (opB c.op).length := by
      unfold opB
      split <;> simp
    rw [List.length_append, List.length_append] at hk
    rw [takeL]
    by_cases k1 : k < (opB c.op).length
    · rw [List.take_append_of_le_length (by omega), hop.2 k k1]
      rfl
    · rw [List.take_append, List.take_of_length_le (by omega), ← strOfNums_app, hop.1]
      show (if c.op = 11 ∨ c.op = 5 then _ else (instrT (takeL g) c.op _ d n).bind _) = _
      rw [if_neg hx]
      by_cases k2 : k - (opB c.op).length < (restI c).length
      · rw [List.take_append_of_le_length (by omega), B g _ k2 (by omega)]
        rfl
      · rw [List.take_append, List.take_of_length_le (by omega), ← strOfNums_app, A g _ (by rw [size_nums, nums_take _ _ (by omega)]; omega)]
        show ((takeL g (strOfNums ((putL r).take _)) d (n + sizI c)).bind _) = _
        rw [B2 g _ (by omega) (by omega)]
        rfl
mutual
theorem backI (d : Nat) (hd : d ≤ 32) : ∀ c : Ins, okI d c = true → wfI c → BackI d c
  | .mk op a b m n l e, hok, hw => by
    exact ins_back hd hok hw (fun hd2 h => backL (d + 1) hd2 l h ((wfI_eq _).1 hw).2.1) (fun hd2 h => backL (d + 1) hd2 e h ((wfI_eq _).1 hw).2.2)
theorem backL (d : Nat) (hd : d ≤ 32) : ∀ ls : List Ins, okL d ls = true → wfL ls → BackL d ls
  | [], _, _ => list_nil d
  | c :: r, hok, hw => by
    rw [okL, Bool.and_eq_true] at hok
    rw [wfL] at hw
    have hm : mayI c = true := by
      have := hok.1
      rw [okI_eq, Bool.and_eq_true] at this
      exact this.1
    exact list_cons (mayI_parts hm).1 (backI d hd c hok.1 hw.1) (backL d hd r hok.2 hw.2)
end
end Go.Proofs.YtekonefnniaheaaGreat
