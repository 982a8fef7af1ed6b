/- The chapter's examples. -/
import Derived.Test.YtfhifnkekegkkaaInsP9
import Derived.Test.YtfhifnkekegkkaaInsTk
namespace Go.Proofs.Ytfhifnkekegkkaa
open Go.RowKit Go.Deep

def exA : List Ins := [.mk 65 (-1) 0 0 [] [] [], .mk 26 0 0 0 [] [] []]
def exB : List Ins := [.mk 4 (-64) 0 0 [] [.mk 1 0 0 0 [] [] []] [.mk 15 0 0 0 [] [] []]]
theorem ex_putA : putV exA = ([65, 127, 26, 11], 0) := by kernel_rfl
theorem ex_putB : putV exB = ([4, 64, 1, 5, 15, 11, 11], 0) := by kernel_rfl
theorem ex_takeC : takeT ⟨#[67, 0, 0, 0, 0, 11]⟩ = .error 3 := by kernel_rfl
theorem ex_takeA : takeT ⟨#[65, 127, 26, 11, 122]⟩ = .ok (exA, ⟨#[122]⟩) := by kernel_rfl
theorem ex_strA : strOfNums [65, 127, 26, 11] = ⟨#[65, 127, 26, 11]⟩ := by kernel_rfl
theorem ex_strB : strOfNums [4, 64, 1, 5, 15, 11, 11] = ⟨#[4, 64, 1, 5, 15, 11, 11]⟩ := by kernel_rfl
theorem lies_plain {w : World} {b off : Nat} {op a b' m : Int} {x1 x2 x3 : Option Addr} {c1 c2 c3 : Nat} {l e : List Ins} (h0 : w.cell? ⟨b, off, none⟩ = some (.int .i64 op)) (h1 : w.cell? ⟨b, off + 1, none⟩ = some (.int .i64 a)) (h2 : w.cell? ⟨b, off + 2, none⟩ = some (.int .i64 b')) (h3 : w.cell? ⟨b, off + 3, none⟩ = some (.int .i64 m))
    (h4 : w.cell? ⟨b, off + 4, none⟩ = some (.slice x1 0 c1)) (h5 : w.cell? ⟨b, off + 5, none⟩ = some (.slice x2 l.length c2)) (h6 : w.cell? ⟨b, off + 6, none⟩ = some (.slice x3 e.length c3)) (hl : LiesL w x2 l) (he : LiesL w x3 e) (k1 : c1 ≤ 10) (k2 : l.length ≤ c2 ∧ c2 ≤ 10) (k3 : e.length ≤ c3 ∧ c3 ≤ 10) :
    LiesI w b off (.mk op a b' m [] l e) := by
  unfold LiesI
  exact ⟨h0, h1, h2, h3, ⟨x1, c1, h4, .inl rfl, Nat.zero_le _, by omega⟩, ⟨x2, c2, h5, hl, k2.1, by omega⟩, ⟨x3, c3, h6, he, k3.1, by omega⟩⟩
theorem lies_nil (w : World) (x : Option Addr) : LiesL w x [] := by unfold LiesL; trivial
theorem lies_cons {w : World} {b off : Nat} {i : Ins} {r : List Ins} (h : LiesI w b off i) (hr : LiesL w (some ⟨b, off + 7, none⟩) r) : LiesL w (some ⟨b, off, none⟩) (i :: r) := by
  unfold LiesL
  exact ⟨b, off, rfl, h, hr⟩
theorem exA_lies (w' : World) (b : Nat) (hb : BlkAt w' b #[.int .i64 65, .int .i64 (-1), .int .i64 0, .int .i64 0, .slice none 0 0, .slice none 0 0, .slice none 0 0, .int .i64 26, .int .i64 0, .int .i64 0, .int .i64 0, .slice none 0 0, .slice none 0 0, .slice none 0 0] 47) : InsIn w' (some ⟨b, 0, none⟩) 2 2 exA :=
  ⟨rfl, by decide, by decide, lies_cons (lies_plain (hb.cell 0) (hb.cell 1) (hb.cell 2) (hb.cell 3) (hb.cell 4) (hb.cell 5) (hb.cell 6) (lies_nil _ _) (lies_nil _ _) (by decide) (by decide) (by decide))
    (lies_cons (lies_plain (hb.cell 7) (hb.cell 8) (hb.cell 9) (hb.cell 10) (hb.cell 11) (hb.cell 12) (hb.cell 13) (lies_nil _ _) (lies_nil _ _) (by decide) (by decide) (by decide)) (lies_nil _ _))⟩
theorem exB_lies (w' : World) (b bl be : Nat) (hl : BlkAt w' bl #[.int .i64 1, .int .i64 0, .int .i64 0, .int .i64 0, .slice none 0 0, .slice none 0 0, .slice none 0 0] 47) (he : BlkAt w' be #[.int .i64 15, .int .i64 0, .int .i64 0, .int .i64 0, .slice none 0 0, .slice none 0 0, .slice none 0 0] 47)
    (hb : BlkAt w' b #[.int .i64 4, .int .i64 (-64), .int .i64 0, .int .i64 0, .slice none 0 0, .slice (some ⟨bl, 0, none⟩) 1 1, .slice (some ⟨be, 0, none⟩) 1 1] 47) : InsIn w' (some ⟨b, 0, none⟩) 1 1 exB :=
  ⟨rfl, by decide, by decide, lies_cons (lies_plain (hb.cell 0) (hb.cell 1) (hb.cell 2) (hb.cell 3) (hb.cell 4) (hb.cell 5) (hb.cell 6)
    (lies_cons (lies_plain (hl.cell 0) (hl.cell 1) (hl.cell 2) (hl.cell 3) (hl.cell 4) (hl.cell 5) (hl.cell 6) (lies_nil _ _) (lies_nil _ _) (by decide) (by decide) (by decide)) (lies_nil _ _))
    (lies_cons (lies_plain (he.cell 0) (he.cell 1) (he.cell 2) (he.cell 3) (he.cell 4) (he.cell 5) (he.cell 6) (lies_nil _ _) (lies_nil _ _) (by decide) (by decide) (by decide)) (lies_nil _ _)) (by decide) (by decide) (by decide)) (lies_nil _ _)⟩
theorem wfA : wfL exA := by
  unfold exA
  repeat (first | (rw [wfL]; trivial) | rw [wfL] | rw [wfI] | (refine ⟨⟨⟨by decide, by decide⟩, ?_, ?_⟩, ?_⟩))
theorem wfB : wfL exB := by
  unfold exB
  repeat (first | (rw [wfL]; trivial) | rw [wfL] | rw [wfI] | (refine ⟨⟨⟨by decide, by decide⟩, ?_, ?_⟩, ?_⟩))
theorem exPutA (w : World) (b : Nat) (hb : BlkAt w b #[.int .i64 65, .int .i64 (-1), .int .i64 0, .int .i64 0, .slice none 0 0, .slice none 0 0, .slice none 0 0, .int .i64 26, .int .i64 0, .int .i64 0, .int .i64 0, .slice none 0 0, .slice none 0 0, .slice none 0 0] 47) :
    Calls Try.prog 5 #[.slice (some ⟨b, 0, none⟩) 2 2] w fun e w' => e = .returned (.tuple #[.string ⟨#[65, 127, 26, 11]⟩, .int .i64 0]) ∧ Below w.heap.size w w' := by
  have := Put_any exA _ 2 2 w (exA_lies w b hb) wfA
  rwa [ex_putA, ex_strA] at this
theorem exPutB (w : World) (b bl be : Nat) (hl : BlkAt w bl #[.int .i64 1, .int .i64 0, .int .i64 0, .int .i64 0, .slice none 0 0, .slice none 0 0, .slice none 0 0] 47) (he : BlkAt w be #[.int .i64 15, .int .i64 0, .int .i64 0, .int .i64 0, .slice none 0 0, .slice none 0 0, .slice none 0 0] 47)
    (hb : BlkAt w b #[.int .i64 4, .int .i64 (-64), .int .i64 0, .int .i64 0, .slice none 0 0, .slice (some ⟨bl, 0, none⟩) 1 1, .slice (some ⟨be, 0, none⟩) 1 1] 47) :
    Calls Try.prog 5 #[.slice (some ⟨b, 0, none⟩) 1 1] w fun e w' => e = .returned (.tuple #[.string ⟨#[4, 64, 1, 5, 15, 11, 11]⟩, .int .i64 0]) ∧ Below w.heap.size w w' := by
  have := Put_any exB _ 1 1 w (exB_lies w b bl be hl he hb) wfB
  rwa [ex_putB, ex_strB] at this
theorem exPutB' (w : World) :
    Calls Try.prog 5 #[.slice (some ⟨w.heap.size + 1 + 1, 0, none⟩) 1 1] (((w.alloc (.cells #[.int .i64 1, .int .i64 0, .int .i64 0, .int .i64 0, .slice none 0 0, .slice none 0 0, .slice none 0 0] 47)).alloc (.cells #[.int .i64 15, .int .i64 0, .int .i64 0, .int .i64 0, .slice none 0 0, .slice none 0 0, .slice none 0 0] 47)).alloc (.cells #[.int .i64 4, .int .i64 (-64), .int .i64 0, .int .i64 0, .slice none 0 0, .slice (some ⟨w.heap.size, 0, none⟩) 1 1, .slice (some ⟨w.heap.size + 1, 0, none⟩) 1 1] 47)) fun e w' => e = .returned (.tuple #[.string ⟨#[4, 64, 1, 5, 15, 11, 11]⟩, .int .i64 0]) ∧ Below w.heap.size w w' := by
  have z1 : (w.alloc (.cells #[.int .i64 1, .int .i64 0, .int .i64 0, .int .i64 0, .slice none 0 0, .slice none 0 0, .slice none 0 0] 47)).heap.size = w.heap.size + 1 := by simp
  have z2 : ((w.alloc (.cells #[.int .i64 1, .int .i64 0, .int .i64 0, .int .i64 0, .slice none 0 0, .slice none 0 0, .slice none 0 0] 47)).alloc (.cells #[.int .i64 15, .int .i64 0, .int .i64 0, .int .i64 0, .slice none 0 0, .slice none 0 0, .slice none 0 0] 47)).heap.size = w.heap.size + 1 + 1 := by simp
  have k1 : Below w.heap.size w (w.alloc (.cells #[.int .i64 1, .int .i64 0, .int .i64 0, .int .i64 0, .slice none 0 0, .slice none 0 0, .slice none 0 0] 47)) := (Below.refl _ _).alloc (Nat.le_refl _) _
  have b2 : Below (w.alloc (.cells #[.int .i64 1, .int .i64 0, .int .i64 0, .int .i64 0, .slice none 0 0, .slice none 0 0, .slice none 0 0] 47)).heap.size (w.alloc (.cells #[.int .i64 1, .int .i64 0, .int .i64 0, .int .i64 0, .slice none 0 0, .slice none 0 0, .slice none 0 0] 47)) ((w.alloc (.cells #[.int .i64 1, .int .i64 0, .int .i64 0, .int .i64 0, .slice none 0 0, .slice none 0 0, .slice none 0 0] 47)).alloc (.cells #[.int .i64 15, .int .i64 0, .int .i64 0, .int .i64 0, .slice none 0 0, .slice none 0 0, .slice none 0 0] 47)) := (Below.refl _ _).alloc (Nat.le_refl _) _
  have b3 : Below ((w.alloc (.cells #[.int .i64 1, .int .i64 0, .int .i64 0, .int .i64 0, .slice none 0 0, .slice none 0 0, .slice none 0 0] 47)).alloc (.cells #[.int .i64 15, .int .i64 0, .int .i64 0, .int .i64 0, .slice none 0 0, .slice none 0 0, .slice none 0 0] 47)).heap.size ((w.alloc (.cells #[.int .i64 1, .int .i64 0, .int .i64 0, .int .i64 0, .slice none 0 0, .slice none 0 0, .slice none 0 0] 47)).alloc (.cells #[.int .i64 15, .int .i64 0, .int .i64 0, .int .i64 0, .slice none 0 0, .slice none 0 0, .slice none 0 0] 47)) (((w.alloc (.cells #[.int .i64 1, .int .i64 0, .int .i64 0, .int .i64 0, .slice none 0 0, .slice none 0 0, .slice none 0 0] 47)).alloc (.cells #[.int .i64 15, .int .i64 0, .int .i64 0, .int .i64 0, .slice none 0 0, .slice none 0 0, .slice none 0 0] 47)).alloc (.cells #[.int .i64 4, .int .i64 (-64), .int .i64 0, .int .i64 0, .slice none 0 0, .slice (some ⟨w.heap.size, 0, none⟩) 1 1, .slice (some ⟨w.heap.size + 1, 0, none⟩) 1 1] 47)) := (Below.refl _ _).alloc (Nat.le_refl _) _
  have hl := ((BlkAt.new w #[.int .i64 1, .int .i64 0, .int .i64 0, .int .i64 0, .slice none 0 0, .slice none 0 0, .slice none 0 0] 47).below b2).below b3
  have he := (BlkAt.new (w.alloc (.cells #[.int .i64 1, .int .i64 0, .int .i64 0, .int .i64 0, .slice none 0 0, .slice none 0 0, .slice none 0 0] 47)) #[.int .i64 15, .int .i64 0, .int .i64 0, .int .i64 0, .slice none 0 0, .slice none 0 0, .slice none 0 0] 47).below b3
  have ho := BlkAt.new ((w.alloc (.cells #[.int .i64 1, .int .i64 0, .int .i64 0, .int .i64 0, .slice none 0 0, .slice none 0 0, .slice none 0 0] 47)).alloc (.cells #[.int .i64 15, .int .i64 0, .int .i64 0, .int .i64 0, .slice none 0 0, .slice none 0 0, .slice none 0 0] 47)) #[.int .i64 4, .int .i64 (-64), .int .i64 0, .int .i64 0, .slice none 0 0, .slice (some ⟨w.heap.size, 0, none⟩) 1 1, .slice (some ⟨w.heap.size + 1, 0, none⟩) 1 1] 47
  rw [z1] at he
  rw [z2] at ho
  refine (exPutB _ _ _ _ hl he ho).mono ?_
  rintro e w' ⟨h1, h2⟩
  have kk := (k1.trans (b2.mono (by omega))).trans (b3.mono (by omega))
  exact ⟨h1, kk.trans (h2.mono kk.size)⟩
theorem exTakeC (w : World) : Calls Try.prog 10 #[.string ⟨#[67, 0, 0, 0, 0, 11]⟩] w fun e w' => e = .returned (.tuple #[.slice none 0 0, .string ⟨#[]⟩, .int .i64 3]) ∧ Below w.heap.size w w' := by
  refine (Take_any ⟨#[67, 0, 0, 0, 0, 11]⟩ (by decide) w).mono ?_
  rintro e w' ⟨x0, len, cap, r, f, rfl, hb, hn, hq⟩
  rw [ex_takeC] at hq
  obtain ⟨h1, h2, h3⟩ := hq
  obtain ⟨rfl, rfl, rfl⟩ := hn (by rw [h1]; exact h2)
  rw [h1, h3]
  exact ⟨rfl, hb⟩
theorem exTakeA (w : World) : Calls Try.prog 10 #[.string ⟨#[65, 127, 26, 11, 122]⟩] w fun e w' => (∃ x cap, e = .returned (.tuple #[.slice x 2 cap, .string ⟨#[122]⟩, .int .i64 0])) ∧ Below w.heap.size w w' := by
  refine (Take_any ⟨#[65, 127, 26, 11, 122]⟩ (by decide) w).mono ?_
  rintro e w' ⟨x0, len, cap, r, f, rfl, hb, hn, hq⟩
  rw [ex_takeA] at hq
  obtain ⟨h1, h2, h3⟩ := hq
  rw [h1, h2, h3.eq]
  exact ⟨⟨x0, cap, rfl⟩, hb⟩
theorem awake_any (w : World) : Calls Try.prog 9 #[] w fun e w' => e = .returned (.bool true) ∧ Below w.heap.size w w' := by
  have HP1 := Lib.hid (exPutA _ w.heap.size (BlkAt.new w _ _))
  have HC := Lib.hid exTakeC
  have HA := Lib.hid exTakeA
  have hb0 : Below w.heap.size w (w.alloc (.cells #[.int .i64 65, .int .i64 (-1), .int .i64 0, .int .i64 0, .slice none 0 0, .slice none 0 0, .slice none 0 0, .int .i64 26, .int .i64 0, .int .i64 0, .int .i64 0, .slice none 0 0, .slice none 0 0, .slice none 0 0] 47)) := (Below.refl _ _).alloc (Nat.le_refl _) _
  go_enter Try.func9, Try.ntmps9
  go_wp2_with (first
    | (go_at_call 5; refine HP1.out.mono ?_; rintro e w1 ⟨rfl, h1⟩; have hb1 := hb0.trans (h1.mono hb0.size); clear HP1; have HP2 := Lib.hid (exPutB' w1))
    | (go_at_call 5; refine HP2.out.mono ?_; rintro e w2 ⟨rfl, h2⟩; have hb2 := hb1.trans (h2.mono hb1.size); clear HP2)
    | (go_at_call 10; refine (HC.out _).mono ?_; rintro e w3 ⟨rfl, h3⟩; have hb3 := hb2.trans (h3.mono hb2.size); clear HC)
    | (go_at_call 10; refine (HA.out _).mono ?_; rintro e w4 ⟨⟨x4, c4, rfl⟩, h4⟩; have hb4 := hb3.trans (h4.mono hb3.size); clear HA))
  go_ret
  exact ⟨rfl, hb4⟩
end Go.Proofs.Ytfhifnkekegkkaa
