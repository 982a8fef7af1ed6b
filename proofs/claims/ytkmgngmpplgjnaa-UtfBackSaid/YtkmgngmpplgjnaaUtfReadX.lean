/- The document's own reading of characters: the loops. -/
import Derived.Test.YtkmgngmpplgjnaaUtfReadW
import Derived.Deep.RegionWith
namespace Go.Proofs.Ytkmgngmpplgjnaa
open Go.RowKit

theorem toList_eq_iff (a b : ByteArray) : a.toList = b.toList ↔ a = b := by
  constructor
  · intro h
    rw [ByteArray.toList_eq, ByteArray.toList_eq] at h
    exact ByteArray.ext (Array.toList_inj.1 h)
  · intro h
    rw [h]
theorem hit_list {form : Int} {r : ByteArray} {k : Nat} (hk : k ≤ r.size) : ((strOfNums (Utf.oneL form (Utf.guessL form (bl r) k))).toList == (r.extract 0 k).toList) = Utf.hitB form (bl r) k := by
  rw [Bool.eq_iff_iff, beq_iff_eq, toList_eq_iff]
  exact hit_eq hk

/-- What reading leaves: the characters, or none. -/
def GivesRead (base : Nat) (form : Int) (s : ByteArray) (w : World) (e : Ending) (w' : World) : Prop :=
  ∃ v ok ps, e = .returned (.tuple #[v, .bool ok]) ∧ Ints base v ps w' ∧ Below base w w' ∧
    ((ok = true ∧ Utf.Reads form (bl s) ps) ∨ (ok = false ∧ ps = [] ∧ ∀ qs, ¬ Utf.Reads form (bl s) qs))
def strLen : Value → Nat
  | .string r => r.size
  | _ => 0
def ReadAt (base : Nat) (form : Int) (s : ByteArray) (w : World) (sv lv : Value) (wr : World) : Prop :=
  ∃ (r : ByteArray) (acc : List Int), sv = .string r ∧ bl s = Utf.catL form acc ++ bl r ∧ Utf.allW form acc = true ∧ acc.length + r.size ≤ s.size ∧ Ints base lv acc wr ∧ Below base w wr
def ReadIn (base : Nat) (form : Int) (r : ByteArray) (acc : List Int) (wo : World) (lv nv kv : Value) (wr : World) : Prop :=
  ∃ k : Nat, kv = .int .i64 k ∧ 1 ≤ k ∧ k ≤ 5 ∧ Below base wo wr ∧
    ((nv = .int .i64 0 ∧ (∀ j, 1 ≤ j → j < k → j ≤ r.size → Utf.hitB form (bl r) j = false) ∧ Ints base lv acc wr) ∨
     (∃ n : Nat, 1 ≤ n ∧ n ≤ r.size ∧ nv = .int .i64 n ∧ Utf.hitB form (bl r) n = true ∧ Ints base lv (acc ++ [Utf.guessL form (bl r) n]) wr))

set_option maxRecDepth 100000 in
set_option maxHeartbeats 1000000 in
theorem refRead_go (form : Int) (s : ByteArray) (h0 : 0 ≤ form) (h2 : form ≤ 2) (hs : s.size ≤ 1000) (w : World) :
    Calls Try.prog 12 #[.int .i64 form, .string s] w fun e w' => GivesRead w.heap.size form s w e w' := by
  obtain ⟨i0, hi, hz0, hz1, hz2⟩ := info_parts info_int
  go_enter Try.func12, Try.ntmps12
  go_wp2_with fail
  go_loopw [1, 6] (fun sv lv wr => ReadAt w.heap.size form s w sv lv wr) (fun sv _ _ => strLen sv)
  case atStart => exact ⟨s, [], rfl, rfl, rfl, by simp, World.ownsRow_nil _ _ _ _, Below.refl _ _⟩
  case round =>
    obtain ⟨r, acc, rfl, hbl, hall, hsz, hown, hbel⟩ := hrel
    have HBL := Lib.hid hbl
    have HAL := Lib.hid hall
    have hsl := hbel.size
    obtain ⟨wo, rfl⟩ : ∃ wo : World, wo = wr := ⟨_, rfl⟩
    clear hbl hall
    by_cases hpos : 0 < r.size
    · go_wp2_with fail
      go_loopw [6, 7, 8] (fun lv nv kv wr => ReadIn w.heap.size form r acc wo lv nv kv wr) (fun _ _ kv _ => (6 - intOf kv).toNat)
      case atStart => exact ⟨1, rfl, by decide, by decide, Below.refl _ _, .inl ⟨rfl, fun j h1 h2 _ => by omega, hown⟩⟩
      case round =>
        obtain ⟨k, rfl, hk1, hk5, hbo, hrest⟩ := hrel
        have hslo := hbo.size
        rcases hrest with ⟨rfl, hno, hown2⟩ | ⟨n, hn1, hnr, rfl, hhit, hown2⟩
        · have HNO := Lib.hid hno
          clear hno
          by_cases hk : k ≤ 4 ∧ k ≤ r.size
          · obtain ⟨hk4, hkr⟩ := hk
            have hT := hit_list (form := form) hkr
            have HG := Lib.hid (guess_any form r k hk1 hk4 hkr)
            obtain ⟨p, hp⟩ : ∃ p, p = Utf.guessL form (bl r) k := ⟨_, rfl⟩
            rw [← hp] at hT HG
            have HP := Lib.hid hp
            clear hp
            by_cases hh : Utf.hitB form (bl r) k = true
            · rw [hh] at hT
              have HH := Lib.hid hh
              have q3 : acc.length + 1 ≤ maxLen := by unfold maxLen; omega
              have q4 : (acc.length + 1) * 8 ≤ 140737488355328 := by omega
              clear hh
              go_wp2_with (go_at_call 27; refine (HG.out _).mono ?_; rintro e w1 ⟨rfl, hb1⟩)
              go_region_with (go_at_call 28; refine (refOne_any form _ _).mono ?_; rintro e w2 ⟨rfl, hb2⟩)
              replace hb1 := hb1.drew
              have hbo2 := (hbo.trans (hb1.mono (Nat.le_trans hsl hslo))).trans (hb2.mono (Nat.le_trans hsl (Nat.le_trans hslo hb1.size)))
              have hown3 := Ints.below (Ints.below hown2 hb1) hb2
              have hsl3 : w.heap.size ≤ w2.heap.size := Nat.le_trans hsl (Nat.le_trans hslo (Nat.le_trans hb1.size hb2.size))
              clear hb1 hb2 hown2
              go_wp2_with (at_builtin; refine wpList_append_own _ rfl _ _ 23 rfl w.heap.size 3 i0 (.int .i64 0) 1 8 Try.underlying23 hi hz0 hz1 hz2 rfl (by decide) _ acc.length (acc.map (Value.int .i64)) rfl (World.ownsRow.alloc hown3 _) ⟨w2.heap.size, 0, none⟩ 1 1 [.int .i64 p] rfl rfl (cell_one_new _ _ _) (one_i64 _) q3 q4 (le_alloc hsl3) ?_; intro v' w3 hown4 hg3 _; clear q3 q4)
              exact ⟨⟨k + 1, by go_num, by omega, by omega, grown_below' hown3 hbo2 hsl hg3, .inr ⟨k, hk1, hkr, rfl, HH.out, by rw [← HP.out]; exact Ints.snoc hown4⟩⟩, by simp [intOf]; omega⟩
            · rw [not_true hh] at hT
              have HH := Lib.hid (not_true hh)
              clear hh
              go_wp2_with (go_at_call 27; refine (HG.out _).mono ?_; rintro e w1 ⟨rfl, hb1⟩)
              go_region_with (go_at_call 28; refine (refOne_any form _ _).mono ?_; rintro e w2 ⟨rfl, hb2⟩)
              replace hb1 := hb1.drew
              have hbo2 := (hbo.trans (hb1.mono (Nat.le_trans hsl hslo))).trans (hb2.mono (Nat.le_trans hsl (Nat.le_trans hslo hb1.size)))
              have hown3 := Ints.below (Ints.below hown2 hb1) hb2
              clear hb1 hb2 hown2
              go_wp2_with fail
              refine ⟨⟨k + 1, by go_num, by omega, by omega, hbo2, .inl ⟨rfl, fun j j1 j2 j3 => ?_, hown3⟩⟩, by simp [intOf]; omega⟩
              by_cases hj : j = k
              · rw [hj]; exact HH.out
              · exact HNO.out j j1 (by omega) j3
          · have hbr : bl r ≠ [] := fun h => by have := bl_nil h; omega
            have hnh : Utf.NoHead form (bl r) := Utf.noHead_of (fun j j1 j4 jl => HNO.out j j1 (by rw [bl_length] at jl; omega) (by rw [bl_length] at jl; exact jl))
            have HN := Lib.hid (Utf.reads_none HAL.out hbr hnh)
            rw [← HBL.out] at HN
            clear hbr hnh
            by_cases hk4 : k ≤ 4
            · have hkr : r.size < k := by omega
              go_wp2_with fail
              go_ret2
              exact ⟨.slice none 0 0, false, [], rfl, World.ownsRow_nil _ _ _ _, hbel.trans hbo, .inr ⟨rfl, rfl, HN.out⟩⟩
            · have hk5' : k = 5 := by omega
              subst hk5'
              go_wp2_with fail
              go_ret2
              exact ⟨.slice none 0 0, false, [], rfl, World.ownsRow_nil _ _ _ _, hbel.trans hbo, .inr ⟨rfl, rfl, HN.out⟩⟩
        · obtain ⟨hy1, hy2⟩ := Utf.hit_yes hn1 hhit
          have hbl2 : bl s = Utf.catL form (acc ++ [Utf.guessL form (bl r) n]) ++ bl (r.extract n r.size) := by
            rw [bl_drop, Utf.catL_snoc, List.append_assoc, ← hy2]
            exact HBL.out
          have hal2 := Utf.allW_snoc HAL.out hy1
          have hs2 : (acc ++ [Utf.guessL form (bl r) n]).length + (r.extract n r.size).size ≤ s.size := by
            rw [List.length_append, List.length_singleton, ByteArray.size_extract]
            omega
          have hlen : (r.extract n r.size).size < r.size := by
            rw [ByteArray.size_extract]
            omega
          have hne : ((n : Int) == 0) = false := by simp; omega
          have HX := Lib.hid (show ReadAt w.heap.size form s w (.string (r.extract n r.size)) u6 wr from ⟨_, _, rfl, hbl2, hal2, hs2, hown2, hbel.trans hbo⟩)
          have HLN := Lib.hid hlen
          clear hy1 hy2 hbl2 hal2 hs2 hlen hhit
          go_wp2_with fail
          all_goals exact ⟨HX.out, HLN.out⟩
    · have hr0 : r.size = 0 := by omega
      have hb0 : bl r = [] := List.length_eq_zero_iff.1 (by rw [bl_length, hr0])
      have hR : Utf.Reads form (bl s) acc := ⟨decide_eq_true ⟨h0, h2⟩, HAL.out, by rw [HBL.out, hb0, List.append_nil]⟩
      have HRD := Lib.hid hR
      clear hR hb0
      go_wp2_with fail
      go_ret2
      exact ⟨_, _, _, rfl, hown, hbel, .inl ⟨rfl, HRD.out⟩⟩
theorem refRead_no (form : Int) (s : ByteArray) (h : form < 0 ∨ 2 < form) (w : World) :
    Calls Try.prog 12 #[.int .i64 form, .string s] w fun e w' => GivesRead w.heap.size form s w e w' := by
  have HN := Lib.hid (Utf.reads_form (form := form) (decide_eq_false (by omega)) (bl s))
  rcases h with h | h
  · go_enter Try.func12, Try.ntmps12
    go_wp2_with fail
    go_ret2
    exact ⟨.slice none 0 0, false, [], rfl, World.ownsRow_nil _ _ _ _, Below.refl _ _, .inr ⟨rfl, rfl, HN.out⟩⟩
  · have h0 : 0 ≤ form := by omega
    go_enter Try.func12, Try.ntmps12
    go_wp2_with fail
    go_ret2
    exact ⟨.slice none 0 0, false, [], rfl, World.ownsRow_nil _ _ _ _, Below.refl _ _, .inr ⟨rfl, rfl, HN.out⟩⟩
theorem refRead_any (form : Int) (s : ByteArray) (hs : s.size ≤ 1000) (w : World) :
    Calls Try.prog 12 #[.int .i64 form, .string s] w fun e w' => GivesRead w.heap.size form s w e w' := by
  by_cases h0 : 0 ≤ form
  · by_cases h2 : form ≤ 2
    · exact refRead_go form s h0 h2 hs w
    · exact refRead_no form s (by omega) w
  · exact refRead_no form s (by omega) w
end Go.Proofs.Ytkmgngmpplgjnaa
