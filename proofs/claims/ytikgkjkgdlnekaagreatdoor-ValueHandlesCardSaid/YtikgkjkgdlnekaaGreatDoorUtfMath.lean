/- Characters and their bytes in three forms: numbers and lists alone, no program. -/
import Derived.Laws.BytesArg
import Derived.IntWalk
namespace Go.Proofs.YtikgkjkgdlnekaaGreatDoor
namespace Utf

def scal (p : Int) : Bool := decide (0 ≤ p ∧ p ≤ 1114111 ∧ (p < 55296 ∨ 57343 < p))
/-- The two units of a great character. -/
def hiU (p : Int) : Int := 55296 + (p - 65536) / 1024
def loU (p : Int) : Int := 56320 + (p - 65536) % 1024
/-- A character's bytes in a form; none: there are none. -/
def oneL (form p : Int) : List Int :=
  if scal p = true then
    if form = 2 then (if 255 < p then [] else [p])
    else if form = 1 then
      (if p < 65536 then [p % 256, p / 256] else [hiU p % 256, hiU p / 256, loU p % 256, loU p / 256])
    else if form = 0 then
      (if p < 128 then [p]
       else if p < 2048 then [192 + p / 64, 128 + p % 64]
       else if p < 65536 then [224 + p / 4096, 128 + p / 64 % 64, 128 + p % 64]
       else [240 + p / 262144, 128 + p / 4096 % 64, 128 + p / 64 % 64, 128 + p % 64])
    else []
  else []

theorem scal_parts {p : Int} (h : scal p = true) : 0 ≤ p ∧ p ≤ 1114111 ∧ (p < 55296 ∨ 57343 < p) := of_decide_eq_true h
theorem oneL_no {form p : Int} (h : scal p = false) : oneL form p = [] := by
  unfold oneL
  rw [h]
  rfl
theorem oneL_2a {p : Int} (h : scal p = true) (hp : 255 < p) : oneL 2 p = [] := by
  unfold oneL
  rw [if_pos h, if_pos rfl, if_pos hp]
theorem oneL_2 {p : Int} (h : scal p = true) (hp : ¬ 255 < p) : oneL 2 p = [p] := by
  unfold oneL
  rw [if_pos h, if_pos rfl, if_neg hp]
theorem oneL_1a {p : Int} (h : scal p = true) (hp : p < 65536) : oneL 1 p = [p % 256, p / 256] := by
  unfold oneL
  rw [if_pos h, if_neg (by decide), if_pos rfl, if_pos hp]
theorem oneL_1b {p : Int} (h : scal p = true) (hp : ¬ p < 65536) : oneL 1 p = [hiU p % 256, hiU p / 256, loU p % 256, loU p / 256] := by
  unfold oneL
  rw [if_pos h, if_neg (by decide), if_pos rfl, if_neg hp]
theorem oneL_0a {p : Int} (h : scal p = true) (hp : p < 128) : oneL 0 p = [p] := by
  unfold oneL
  rw [if_pos h, if_neg (by decide), if_neg (by decide), if_pos rfl, if_pos hp]
theorem oneL_0b {p : Int} (h : scal p = true) (h1 : ¬ p < 128) (h2 : p < 2048) : oneL 0 p = [192 + p / 64, 128 + p % 64] := by
  unfold oneL
  rw [if_pos h, if_neg (by decide), if_neg (by decide), if_pos rfl, if_neg h1, if_pos h2]
theorem oneL_0c {p : Int} (h : scal p = true) (h1 : ¬ p < 2048) (h2 : p < 65536) : oneL 0 p = [224 + p / 4096, 128 + p / 64 % 64, 128 + p % 64] := by
  unfold oneL
  rw [if_pos h, if_neg (by decide), if_neg (by decide), if_pos rfl, if_neg (by omega), if_neg h1, if_pos h2]
theorem oneL_0d {p : Int} (h : scal p = true) (h1 : ¬ p < 65536) : oneL 0 p = [240 + p / 262144, 128 + p / 4096 % 64, 128 + p / 64 % 64, 128 + p % 64] := by
  unfold oneL
  rw [if_pos h, if_neg (by decide), if_neg (by decide), if_pos rfl, if_neg (by omega), if_neg (by omega), if_neg h1]
theorem oneL_other {form p : Int} (h0 : form ≠ 0) (h1 : form ≠ 1) (h2 : form ≠ 2) : oneL form p = [] := by
  unfold oneL
  by_cases h : scal p = true
  · rw [if_pos h, if_neg h2, if_neg h1, if_neg h0]
  · rw [if_neg h]
end Utf
end Go.Proofs.YtikgkjkgdlnekaaGreatDoor
