/- The statement of copying. -/
import Derived.Test.YtogkieekpmcinaaMemO
import Derived.StillTailTactics
import Derived.BigQuiet
namespace Go.Proofs.Ytogkieekpmcinaa
open Go.RowKit

/-- What is read of the deeds that came in. -/
structure DeedIn (w : World) (x : Option Addr) (len cap : Nat) (ds : List DeedL) : Prop where
  eq : len = ds.length
  le : len ≤ cap
  top : cap ≤ 9223372036854775807
  row : DeedRow 0 w x ds
theorem made_in (x : Option Addr) (len cap0 : Nat) (ds : List DeedL) (w : World) (h : DeedIn w x len cap0 ds) :
    Calls Try.prog 20 #[.slice x len cap0] w fun e w' => ∃ a g cap S, e = .returned (.pointer (some ⟨a, 0, none⟩)) ∧ PMem a g cap S 2 w' ∧ S.length = 65536 ∧ Below w.heap.size w w' ∧ w.heap.size ≤ a ∧ w.heap.size ≤ g := by
  obtain ⟨rfl, h1, h2, h3⟩ := h
  exact made_any x cap0 ds w h3 h1 h2
theorem str_extract (l : List Int) (i j : Nat) : (strOfNums l).extract i j = strOfNums ((l.drop i).take (j - i)) := by
  apply ByteArray.ext
  unfold strOfNums
  rw [ByteArray.data_extract]
  apply Array.ext'
  simp [List.map_take, List.map_drop]
theorem part_all {S : List Int} {n : Nat} (h : S.length = n) : part S 0 n = S := by
  unfold part
  rw [List.drop_zero, List.take_of_length_le (by omega)]
theorem read_all (a g cap : Nat) (S : List Int) (mo : Int) (w : World) (h : PMem a g cap S mo w) (hl : S.length = 65536) :
    Calls Try.prog 21 #[.pointer (some ⟨a, 0, none⟩), .int .i64 0, .int .i64 65536] w fun e w' => e = .returned (.tuple #[.string (strOfNums S), .int .i64 0]) ∧ w = w' := by
  have h1 := read_any a g cap S mo 0 65536 w h (by omega)
  have hi : inB S.length 0 65536 = true := decide_eq_true (by omega)
  have e : part S (0 : Int).toNat (65536 : Int).toNat = S := part_all hl
  unfold readTup at h1
  rw [if_pos hi, e] at h1
  exact h1
theorem patch_head {S bs : List Int} {p : Nat} (hp : p + bs.length ≤ S.length) : (patch S p bs).take p = S.take p := by
  unfold patch
  have h1 : (S.take p).length = p := by rw [List.length_take]; omega
  rw [List.append_assoc, List.take_append, h1, Nat.sub_self, List.take_zero, List.append_nil, List.take_take, Nat.min_self]
theorem patch_tail {S bs : List Int} {p : Nat} (hp : p + bs.length ≤ S.length) : (patch S p bs).drop (p + bs.length) = S.drop (p + bs.length) := by
  unfold patch
  have h1 : (S.take p ++ bs).length = p + bs.length := by rw [List.length_append, List.length_take]; omega
  rw [List.drop_append, h1, Nat.sub_self, List.drop_zero, List.drop_of_length_le (by omega), List.nil_append]
theorem moves_facts {S : List Int} {p o q : Nat} (hl : S.length = 65536) (hp : p < 1024) (ho : o < 1024) (hq : q < 1024) :
    (strOfNums (patch S p (part S o q))).extract 0 p = (strOfNums S).extract 0 p ∧
    (strOfNums (patch S p (part S o q))).extract p (p + q) = (strOfNums S).extract o (o + q) ∧
    (strOfNums (patch S p (part S o q))).extract (p + q) 65536 = (strOfNums S).extract (p + q) 65536 := by
  have hpl : (part S o q).length = q := part_length (by omega)
  refine ⟨?_, ?_, ?_⟩
  · rw [str_extract, str_extract, List.drop_zero, List.drop_zero, Nat.sub_zero, patch_head (by omega)]
  · rw [str_extract, str_extract, show p + q - p = q by omega, show o + q - o = q by omega]
    have := part_patch (S := S) (bs := part S o q) (p := p) (k := q) (by omega) (by omega)
    unfold part at this ⊢
    rw [this, List.take_take, Nat.min_self]
  · rw [str_extract, str_extract]
    have := patch_tail (S := S) (bs := part S o q) (p := p) (by omega)
    rw [hpl] at this
    rw [this]
set_option maxRecDepth 100000 in
set_option maxHeartbeats 2000000 in
theorem MemMoves_walk (x : Option Addr) (len cap0 : Nat) (ds : List DeedL) (at' place n : Int) (w : World) (hd : DeedIn w x len cap0 ds) :
    Calls Try.prog 7 #[.slice x len cap0, .int .i64 at', .int .i64 place, .int .i64 n] w fun e w' => e = .returned (.bool true) ∧ Below w.heap.size w w' := by
  have HM := Lib.hid (made_in x len cap0 ds w hd)
  obtain ⟨p, hp⟩ : ∃ p : Nat, at' % 1024 = p := Int.eq_ofNat_of_zero_le (by omega)
  obtain ⟨o, ho⟩ : ∃ p : Nat, place % 1024 = p := Int.eq_ofNat_of_zero_le (by omega)
  obtain ⟨q, hq⟩ : ∃ p : Nat, n % 1024 = p := Int.eq_ofNat_of_zero_le (by omega)
  have e1 : bits .and .i64 at' 1023 = p := (i64_and1023 at').trans hp
  have e2 : bits .and .i64 place 1023 = o := (i64_and1023 place).trans ho
  have e3 : bits .and .i64 n 1023 = q := (i64_and1023 n).trans hq
  have hp' : p < 1024 := by omega
  have ho' : o < 1024 := by omega
  have hq' : q < 1024 := by omega
  clear hp ho hq hd
  go_enter Try.func7, Try.ntmps7
  go_wp2_with (first
    | (go_at_call 20; refine HM.out.mono ?_; rintro e w1 ⟨a, g, cap, S, rfl, h1, hl, hb1, ha1, hg1⟩
       have HR := Lib.hid (read_all a g cap S 2 w1 h1 hl)
       have HC := Lib.hid (copy_any a g cap S 2 p a g cap S 2 o q w1 h1 h1 (by omega) (by omega))
       obtain ⟨f1, f2, f3⟩ := moves_facts hl hp' ho' hq'
       have hbl : (patch S p (part S o q)).length = 65536 := (by rw [patch_length (by rw [part_length (by omega)]; omega), hl])
       have hcok : copyOk S p S o q = true := (by unfold copyOk; rw [Bool.and_eq_true]; exact ⟨decide_eq_true (by omega), decide_eq_true (by omega)⟩)
       unfold copyT copyS at HC
       rw [if_pos hcok, if_pos hcok, Int.toNat_natCast, Int.toNat_natCast, Int.toNat_natCast] at HC
       have hsA : (strOfNums S).size = 65536 := (by rw [strOfNums_size, hl])
       have hsB : (strOfNums (patch S p (part S o q))).size = 65536 := (by rw [strOfNums_size, hbl])
       have HBL := Lib.hid hbl
       clear h1 hl hcok HM hbl
       revert HR f1 f2 f3 hsA hsB
       generalize strOfNums S = sA
       intro HR f1 f2 f3 hsA hsB)
    | (go_at_call 21; refine HR.out.mono ?_; rintro e w2 ⟨rfl, rfl⟩; clear HR)
    | (go_at_call 24; refine HC.out.mono ?_; rintro e w3 ⟨rfl, h3, k3⟩
       have HR2 := Lib.hid (read_all a g cap _ 2 w3 h3 HBL.out)
       clear HC h3
       revert HR2
       generalize strOfNums (patch S p (part S o q)) = sB at *
       intro HR2)
    | (go_at_call 21; refine HR2.out.mono ?_; rintro e w2 ⟨rfl, rfl⟩; clear HR2))
  obtain ⟨pq, hpq⟩ : ∃ t, t = p + q := ⟨_, rfl⟩
  obtain ⟨oq, hoq⟩ : ∃ t, t = o + q := ⟨_, rfl⟩
  rw [← hpq, ← hoq] at f2
  rw [← hpq] at f3
  have b1 : (p : Int) ≤ 65536 := by omega
  have b2 : (pq : Int) ≤ 65536 := by omega
  have b3 : (oq : Int) ≤ 65536 := by omega
  have b4 : (p : Int) ≤ pq := by omega
  have b5 : (o : Int) ≤ oq := by omega
  have b6 : IntKind.i64.wrap ((p : Int) + q) = pq := by rw [IntKind.wrap_i64]; omega
  have b7 : IntKind.i64.wrap ((o : Int) + q) = oq := by rw [IntKind.wrap_i64]; omega
  clear hpq hoq
  go_still_tail 36, (by kernel_rfl)
  change wpList _ _ _ _ _ w3.drew
  have hw : Below w.heap.size w w3.drew := (hb1.trans (k3.below hb1.size fun b hb => hb ▸ hg1)).drew
  revert hw
  generalize w3.drew = w4
  intro hw
  go_wp2_with (go_at_call 12; refine (awake_any _).mono ?_; rintro e w6 ⟨rfl, hb6⟩)
  go_ret
  exact ⟨rfl, hw.trans (hb6.mono hw.size)⟩
end Go.Proofs.Ytogkieekpmcinaa
