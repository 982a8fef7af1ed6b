/- The walks of the statements on bytes that are cut off, and on opcodes that there are not. -/
import Derived.Test.YtgacnelpdhmeiaaInsAw
import Derived.Test.YtgacnelpdhmeiaaInsBk
import Derived.Test.YtgacnelpdhmeiaaInsD2
namespace Go.Proofs.Ytgacnelpdhmeiaa
open Go.RowKit Go.Deep
open Leb (byt byt_lt byt_get)

theorem take_laid {ls : List Ins} (hok : okL 0 ls = true) (hn : sizL ls ≤ 8192) (hw : wfL ls) (more : ByteArray) : takeT (strOfNums (putL ls ++ [11]) ++ more) = .ok (ls, more) := by
  obtain ⟨A, _⟩ := backL 0 (by decide) ls hok hw 0 (by omega)
  unfold takeT
  rw [nums_app]
  obtain ⟨f', h1, h2, h3⟩ := A _ (strOfNums [11] ++ more) (Nat.lt_succ_self _)
  rw [h3, take_stop (by omega) (.inl rfl)]
  show (if (11 : Int) = 11 then Except.ok (ls ++ [], more) else Except.error 2) = _
  rw [if_pos rfl, List.append_nil]
theorem take_cut {ls : List Ins} (hok : okL 0 ls = true) (hn : sizL ls ≤ 8192) (hw : wfL ls) {k : Nat} (hk : k < (putL ls ++ [11]).length) : takeT (strOfNums ((putL ls ++ [11]).take k)) = .error 2 := by
  obtain ⟨_, B⟩ := backL 0 (by decide) ls hok hw 0 (by omega)
  rw [List.length_append, List.length_singleton] at hk
  rw [List.take_append_of_le_length (by omega)]
  unfold takeT
  rw [B _ k (by omega) (by rw [nums_take _ _ (by omega)]; omega)]
  rfl
theorem take_refused {ls : List Ins} (hok : okL 0 ls = true) (hn : sizL ls ≤ 8192) (hw : wfL ls) {op : Int} (h0 : 0 ≤ op) (h1 : op ≤ 255) (h2 : op ≠ 252) (h3 : op ≠ 11) (h4 : op ≠ 5) (he : (shapeV op).2 ≠ 0) (more : ByteArray) :
    takeT (strOfNums (putL ls) ++ (strOfNums [op] ++ more)) = .error (shapeV op).2 := by
  obtain ⟨A, _⟩ := backL 0 (by decide) ls hok hw 0 (by omega)
  unfold takeT
  obtain ⟨f', j1, j2, j3⟩ := A _ (strOfNums [op] ++ more) (Nat.lt_succ_self _)
  obtain ⟨g, rfl⟩ : ∃ g, f' = g + 1 := ⟨f' - 1, by omega⟩
  rw [j3, takeL, opT_byte h0 h1 h2]
  show (((if op = 11 ∨ op = 5 then _ else (instrT (takeL g) op more 0 (0 + sizL ls)).bind _).bind _).bind _) = _
  rw [if_neg (by omega)]
  unfold instrT
  rw [if_neg he]
  rfl
theorem ext_take (l : List Int) (k : Nat) (hk : k ≤ l.length) : (strOfNums l).extract 0 k = strOfNums (l.take k) := by
  have e : strOfNums l = strOfNums (l.take k) ++ strOfNums (l.drop k) := by rw [strOfNums_app, List.take_append_drop]
  rw [e]
  exact ByteArray.extract_append_eq_left (nums_take l k hk).symm
theorem Put_yes {ls : List Ins} {x : Option Addr} {len cap : Nat} {w : World} (h : InsIn w x len cap ls) (hwf : wfL ls) (hc : (cP 0 0 ls).2 = true) :
    Calls Try.prog 16 #[.slice x len cap] w fun e w' => e = .returned (.tuple #[.string (strOfNums (putL ls ++ [11])), .int .i64 0]) ∧ Below w.heap.size w w' := by
  have := Put_any ls x len cap w h hwf
  unfold putV at this
  rwa [if_pos hc] at this
theorem Put_no {ls : List Ins} {x : Option Addr} {len cap : Nat} {w : World} (h : InsIn w x len cap ls) (hwf : wfL ls) (hc : (cP 0 0 ls).2 = false) :
    Calls Try.prog 16 #[.slice x len cap] w fun e w' => e = .returned (.tuple #[.string ⟨#[]⟩, .int .i64 1]) ∧ Below w.heap.size w w' := by
  have := Put_any ls x len cap w h hwf
  unfold putV at this
  rw [hc, if_neg (by decide)] at this
  exact this
theorem Take_no {s : ByteArray} (hs : s.size ≤ 1000000000) {f : Int} (h : takeT s = .error f) (hf : f ≠ 0) (w : World) :
    Calls Try.prog 20 #[.string s] w fun e w' => e = .returned (.tuple #[.slice none 0 0, .string ⟨#[]⟩, .int .i64 f]) ∧ Below w.heap.size w w' := by
  refine (Take_any s hs w).mono ?_
  rintro e w' ⟨x0, len, cap, r, f', rfl, hb, hn, hq⟩
  rw [h] at hq
  obtain ⟨h1, h2, h3⟩ := hq
  obtain ⟨rfl, rfl, rfl⟩ := hn (by rw [h1]; exact hf)
  rw [h1, h3]
  exact ⟨rfl, hb⟩
set_option maxRecDepth 100000 in
set_option maxHeartbeats 1000000 in
theorem InstrCut_walk (a : Option Addr) (len cap : Nat) (ls : List Ins) (at' : Int) (w : World) (hin : InsIn w a len cap ls) (hwf : wfL ls) :
    Calls Try.prog 9 #[.slice a len cap, .int .i64 at'] w fun e w' => e = .returned (.bool true) ∧ Below w.heap.size w w' := by
  have HA := Lib.hid awake_any
  have hb := Below.refl w.heap.size w
  cases hc : (cP 0 0 ls).2 with
  | false =>
    have HP := Lib.hid (Put_no hin hwf hc)
    clear hin hwf hc
    go_enter Try.func9, Try.ntmps9
    go_wp2_with (first
      | (go_at_call 16; refine HP.out.mono ?_; rintro e w1 ⟨rfl, k1⟩; replace hb := hb.trans (k1.mono hb.size); clear k1)
      | (go_at_call 15; refine (HA.out _).mono ?_; rintro e w1 ⟨rfl, k1⟩; replace hb := hb.trans (k1.mono hb.size); clear k1))
    go_ret
    exact ⟨rfl, hb⟩
  | true =>
    obtain ⟨hok, hn⟩ := cP_yes hc
    have hlen := putL_len 0 ls hok
    have HP := Lib.hid (Put_yes hin hwf hc)
    have hns := strOfNums_size
    by_cases h0 : at' < 0
    · clear hin hwf hc hok hn hlen
      go_enter Try.func9, Try.ntmps9
      go_wp2_with (first
        | (go_at_call 16; refine HP.out.mono ?_; rintro e w1 ⟨rfl, k1⟩; replace hb := hb.trans (k1.mono hb.size); clear k1)
        | (go_at_call 15; refine (HA.out _).mono ?_; rintro e w1 ⟨rfl, k1⟩; replace hb := hb.trans (k1.mono hb.size); clear k1))
      go_ret
      exact ⟨rfl, hb⟩
    obtain ⟨k, rfl⟩ := Int.eq_ofNat_of_zero_le (Int.not_lt.1 h0)
    obtain ⟨bs, hbs⟩ : ∃ bs, bs = putL ls ++ [11] := ⟨_, rfl⟩
    have hbl : bs.length ≤ 100000000 := by rw [hbs, List.length_append, List.length_singleton]; omega
    rw [← hbs] at HP
    by_cases hk : k < bs.length
    · have hk2 : ((k : Nat) : Int) < (bs.length : Int) := by omega
      have HT := Lib.hid (Take_no (s := strOfNums (bs.take k)) (by rw [nums_take _ _ (by omega)]; omega) (by rw [hbs] at hk ⊢; exact take_cut hok (by omega) hwf hk) (by decide))
      have b0 : (0 : Int) ≤ ((k : Nat) : Int) := by omega
      have b1 : ((k : Nat) : Int) ≤ (bs.length : Int) := by omega
      have hex := ext_take bs k (by omega)
      clear hin hwf hc hok hn hlen h0 hk hbs
      go_enter Try.func9, Try.ntmps9
      go_wp2_with (first
        | (go_at_call 16; refine HP.out.mono ?_; rintro e w1 ⟨rfl, k1⟩; replace hb := hb.trans (k1.mono hb.size); clear k1)
        | (go_at_call 20; refine (HT.out _).mono ?_; rintro e w1 ⟨rfl, k1⟩; replace hb := hb.trans (k1.mono hb.size); clear k1)
        | (go_at_call 15; refine (HA.out _).mono ?_; rintro e w1 ⟨rfl, k1⟩; replace hb := hb.trans (k1.mono hb.size); clear k1))
      go_ret
      exact ⟨rfl, hb⟩
    · have hk2 : ¬ ((k : Nat) : Int) < (bs.length : Int) := by omega
      have hk3 : (bs.length : Int) ≤ ((k : Nat) : Int) := by omega
      clear hin hwf hc hok hn hlen h0 hk hbs
      go_enter Try.func9, Try.ntmps9
      go_wp2_with (first
        | (go_at_call 16; refine HP.out.mono ?_; rintro e w1 ⟨rfl, k1⟩; replace hb := hb.trans (k1.mono hb.size); clear k1)
        | (go_at_call 15; refine (HA.out _).mono ?_; rintro e w1 ⟨rfl, k1⟩; replace hb := hb.trans (k1.mono hb.size); clear k1))
      go_ret
      exact ⟨rfl, hb⟩
theorem one_conv_drew (n : Int) (w : World) : (convert 45 9 (.slice (some ⟨w.heap.size, 0, none⟩) 1 1)).run Try.prog (w.alloc (.cells #[.int .u8 n] 5)).drew = .ok (.string (strOfNums [n])) (w.alloc (.cells #[.int .u8 n] 5)).drew := by
  refine run_convert_bytes_arg _ 45 5 Try.underlying45 Try.underlying5 w.heap.size 0 1 1 [n] rfl ?_ 9 Try.underlying9
  intro i hi
  obtain rfl : i = 0 := by omega
  exact World.cell?_alloc_mark w _ _ _ 0
set_option maxRecDepth 100000 in
set_option maxHeartbeats 2000000 in
theorem InstrRefused_walk (a : Option Addr) (len cap : Nat) (ls : List Ins) (op : Int) (w : World) (hin : InsIn w a len cap ls) (hwf : wfL ls) :
    Calls Try.prog 8 #[.slice a len cap, .int .i64 op] w fun e w' => e = .returned (.bool true) ∧ Below w.heap.size w w' := by
  have HA := Lib.hid awake_any
  have HIN := Lib.hid hin
  have hb := Below.refl w.heap.size w
  have HS := Lib.hid (shape_any op)
  rcases cP_cases 0 0 ls with ⟨n, hn8, hc⟩ | hc
  · have hc2 : (cP 0 0 ls).2 = true := by rw [hc]
    obtain ⟨hok, hn⟩ := cP_yes hc2
    have hlen := putL_len 0 ls hok
    have HP := Lib.hid (Put_yes hin hwf hc2)
    have hns := strOfNums_size
    obtain ⟨bs, hbs⟩ : ∃ bs, bs = putL ls := ⟨_, rfl⟩
    have hbl : bs.length ≤ 100000000 := by rw [hbs]; omega
    rw [← hbs] at HP
    have HBS := Lib.hid hbs
    have HWF := Lib.hid hwf
    have HOK := Lib.hid hok
    have HN := Lib.hid hn
    clear hin hwf hok hlen hbs hc2 hn
    by_cases h8 : n = 8192
    · have h8' : ((n : Int) == 8192) = true := by rw [h8]; rfl
      subst h8
      go_enter Try.func8, Try.ntmps8
      go_wp2_with (first
          | (go_at_call 16; refine HP.out.mono ?_; rintro e w1 ⟨rfl, k1⟩; replace hb := hb.trans (k1.mono hb.size); have HC := Lib.hid (Count_any ls a len cap _ (HIN.out.below k1)); rw [hc] at HC; clear k1)
          | (go_at_call 18; refine HC.out.mono ?_; rintro e w1 ⟨rfl, k1⟩; replace hb := hb.trans (k1.mono hb.size); clear k1)
          | (go_at_call 11; refine (HS.out _).mono ?_; rintro e w1 ⟨rfl, rfl⟩)
          | (go_at_call 15; refine (HA.out _).mono ?_; rintro e w1 ⟨rfl, k1⟩; replace hb := hb.trans (k1.mono hb.size); clear k1))
      go_ret
      exact ⟨rfl, hb⟩
    have h8' : ((n : Int) == 8192) = false := eq_no (by omega)
    by_cases g0 : op < 0
    · clear h8
      go_enter Try.func8, Try.ntmps8
      go_wp2_with (first
          | (go_at_call 16; refine HP.out.mono ?_; rintro e w1 ⟨rfl, k1⟩; replace hb := hb.trans (k1.mono hb.size); have HC := Lib.hid (Count_any ls a len cap _ (HIN.out.below k1)); rw [hc] at HC; clear k1)
          | (go_at_call 18; refine HC.out.mono ?_; rintro e w1 ⟨rfl, k1⟩; replace hb := hb.trans (k1.mono hb.size); clear k1)
          | (go_at_call 11; refine (HS.out _).mono ?_; rintro e w1 ⟨rfl, rfl⟩)
          | (go_at_call 15; refine (HA.out _).mono ?_; rintro e w1 ⟨rfl, k1⟩; replace hb := hb.trans (k1.mono hb.size); clear k1))
      go_ret
      exact ⟨rfl, hb⟩
    by_cases g1 : 255 < op
    · clear h8
      go_enter Try.func8, Try.ntmps8
      go_wp2_with (first
          | (go_at_call 16; refine HP.out.mono ?_; rintro e w1 ⟨rfl, k1⟩; replace hb := hb.trans (k1.mono hb.size); have HC := Lib.hid (Count_any ls a len cap _ (HIN.out.below k1)); rw [hc] at HC; clear k1)
          | (go_at_call 18; refine HC.out.mono ?_; rintro e w1 ⟨rfl, k1⟩; replace hb := hb.trans (k1.mono hb.size); clear k1)
          | (go_at_call 11; refine (HS.out _).mono ?_; rintro e w1 ⟨rfl, rfl⟩)
          | (go_at_call 15; refine (HA.out _).mono ?_; rintro e w1 ⟨rfl, k1⟩; replace hb := hb.trans (k1.mono hb.size); clear k1))
      go_ret
      exact ⟨rfl, hb⟩
    by_cases g2 : op = 5
    · subst g2
      clear h8 g0 g1
      go_enter Try.func8, Try.ntmps8
      go_wp2_with (first
          | (go_at_call 16; refine HP.out.mono ?_; rintro e w1 ⟨rfl, k1⟩; replace hb := hb.trans (k1.mono hb.size); have HC := Lib.hid (Count_any ls a len cap _ (HIN.out.below k1)); rw [hc] at HC; clear k1)
          | (go_at_call 18; refine HC.out.mono ?_; rintro e w1 ⟨rfl, k1⟩; replace hb := hb.trans (k1.mono hb.size); clear k1)
          | (go_at_call 11; refine (HS.out _).mono ?_; rintro e w1 ⟨rfl, rfl⟩)
          | (go_at_call 15; refine (HA.out _).mono ?_; rintro e w1 ⟨rfl, k1⟩; replace hb := hb.trans (k1.mono hb.size); clear k1))
      go_ret
      exact ⟨rfl, hb⟩
    by_cases g3 : op = 11
    · subst g3
      clear h8 g0 g1 g2
      go_enter Try.func8, Try.ntmps8
      go_wp2_with (first
          | (go_at_call 16; refine HP.out.mono ?_; rintro e w1 ⟨rfl, k1⟩; replace hb := hb.trans (k1.mono hb.size); have HC := Lib.hid (Count_any ls a len cap _ (HIN.out.below k1)); rw [hc] at HC; clear k1)
          | (go_at_call 18; refine HC.out.mono ?_; rintro e w1 ⟨rfl, k1⟩; replace hb := hb.trans (k1.mono hb.size); clear k1)
          | (go_at_call 11; refine (HS.out _).mono ?_; rintro e w1 ⟨rfl, rfl⟩)
          | (go_at_call 15; refine (HA.out _).mono ?_; rintro e w1 ⟨rfl, k1⟩; replace hb := hb.trans (k1.mono hb.size); clear k1))
      go_ret
      exact ⟨rfl, hb⟩
    by_cases g4 : op = 252
    · subst g4
      clear h8 g0 g1 g2 g3
      go_enter Try.func8, Try.ntmps8
      go_wp2_with (first
          | (go_at_call 16; refine HP.out.mono ?_; rintro e w1 ⟨rfl, k1⟩; replace hb := hb.trans (k1.mono hb.size); have HC := Lib.hid (Count_any ls a len cap _ (HIN.out.below k1)); rw [hc] at HC; clear k1)
          | (go_at_call 18; refine HC.out.mono ?_; rintro e w1 ⟨rfl, k1⟩; replace hb := hb.trans (k1.mono hb.size); clear k1)
          | (go_at_call 11; refine (HS.out _).mono ?_; rintro e w1 ⟨rfl, rfl⟩)
          | (go_at_call 15; refine (HA.out _).mono ?_; rintro e w1 ⟨rfl, k1⟩; replace hb := hb.trans (k1.mono hb.size); clear k1))
      go_ret
      exact ⟨rfl, hb⟩
    have e2 := eq_no g2
    have e3 := eq_no g3
    have e4 := eq_no g4
    by_cases g5 : (shapeV op).2 = 0
    · rw [g5] at HS
      clear h8 g2 g3 g4 g5
      go_enter Try.func8, Try.ntmps8
      go_wp2_with (first
          | (go_at_call 16; refine HP.out.mono ?_; rintro e w1 ⟨rfl, k1⟩; replace hb := hb.trans (k1.mono hb.size); have HC := Lib.hid (Count_any ls a len cap _ (HIN.out.below k1)); rw [hc] at HC; clear k1)
          | (go_at_call 18; refine HC.out.mono ?_; rintro e w1 ⟨rfl, k1⟩; replace hb := hb.trans (k1.mono hb.size); clear k1)
          | (go_at_call 11; refine (HS.out _).mono ?_; rintro e w1 ⟨rfl, rfl⟩)
          | (go_at_call 15; refine (HA.out _).mono ?_; rintro e w1 ⟨rfl, k1⟩; replace hb := hb.trans (k1.mono hb.size); clear k1))
      go_ret
      exact ⟨rfl, hb⟩
    have HT := Lib.hid (Take_no (s := strOfNums bs ++ strOfNums [op] ++ ⟨#[11]⟩) (by rw [ByteArray.append_assoc, size_nums, size_nums]; show bs.length + (1 + 1) ≤ _; omega) (by rw [ByteArray.append_assoc, HBS.out]; exact take_refused HOK.out (by have := HN.out; omega) HWF.out (by omega) (by omega) g4 g3 g2 g5 _) g5)
    have e5 := eq_no g5
    revert HS HT e5
    generalize (shapeV op).1 = sh
    generalize (shapeV op).2 = er
    intro HS HT e5
    have hu : IntKind.u8.wrap op = op := by
      simp [IntKind.wrap, IntKind.signed, IntKind.bits]
      omega
    have hlb : (bs ++ [11]).length = bs.length + 1 := by rw [List.length_append, List.length_singleton]
    have hex : (strOfNums (bs ++ [11])).extract 0 bs.length = strOfNums bs := by rw [ext_take _ _ (by omega)]; simp
    clear h8 g2 g3 g4
    go_enter Try.func8, Try.ntmps8
    go_wp2_with (first
      | (go_at_call 16; refine HP.out.mono ?_; rintro e w1 ⟨rfl, k1⟩; replace hb := hb.trans (k1.mono hb.size); have HC := Lib.hid (Count_any ls a len cap _ (HIN.out.below k1)); rw [hc] at HC; clear k1)
      | (go_at_call 18; refine HC.out.mono ?_; rintro e w1 ⟨rfl, k1⟩; replace hb := hb.trans (k1.mono hb.size); clear k1)
      | (go_at_call 11; refine (HS.out _).mono ?_; rintro e w1 ⟨rfl, rfl⟩)
      | (go_at_call 15; refine (HA.out _).mono ?_; rintro e w1 ⟨rfl, k1⟩; replace hb := hb.trans (k1.mono hb.size); clear k1))
    have hcv1 := one_conv_drew op w1
    have hb1 : Below w.heap.size w (w1.alloc (.cells #[.int .u8 op] 5)).drew := (hb.alloc hb.size _).drew
    have b0 : (0 : Int) ≤ (bs.length : Int) := by omega
    have b1 : (bs.length : Int) ≤ (bs.length : Int) + 1 := by omega
    have wl : IntKind.i64.wrap (bs.length : Int) = (bs.length : Int) := by rw [IntKind.wrap_i64]; omega
    have b2 : ¬ 9223372036854775807 < bs.length + 1 := by omega
    have b3 : ¬ 9223372036854775807 < bs.length + 1 + 1 := by omega
    go_region_with (go_at_call 20; refine (HT.out _).mono ?_; rintro e w2 ⟨rfl, k2⟩; have hb2 := hb1.trans (k2.mono hb1.size))
    all_goals
      go_wp2_with (go_at_call 15; refine (HA.out _).mono ?_; rintro e w3 ⟨rfl, k3⟩; have hb3 := hb2.trans (k3.mono hb2.size))
      go_ret
      exact ⟨rfl, hb3⟩
  · have hc2 : (cP 0 0 ls).2 = false := by rw [hc]
    have HP := Lib.hid (Put_no hin hwf hc2)
    clear hin hwf hc2
    go_enter Try.func8, Try.ntmps8
    go_wp2_with (first
        | (go_at_call 16; refine HP.out.mono ?_; rintro e w1 ⟨rfl, k1⟩; replace hb := hb.trans (k1.mono hb.size); have HC := Lib.hid (Count_any ls a len cap _ (HIN.out.below k1)); rw [hc] at HC; clear k1)
        | (go_at_call 18; refine HC.out.mono ?_; rintro e w1 ⟨rfl, k1⟩; replace hb := hb.trans (k1.mono hb.size); clear k1)
        | (go_at_call 11; refine (HS.out _).mono ?_; rintro e w1 ⟨rfl, rfl⟩)
        | (go_at_call 15; refine (HA.out _).mono ?_; rintro e w1 ⟨rfl, k1⟩; replace hb := hb.trans (k1.mono hb.size); clear k1))
    go_ret
    exact ⟨rfl, hb⟩
end Go.Proofs.Ytgacnelpdhmeiaa
