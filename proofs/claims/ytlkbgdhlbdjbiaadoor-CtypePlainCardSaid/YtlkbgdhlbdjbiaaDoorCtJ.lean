/- ctype: a function's types: CheckSig and MaySig. -/
import Derived.Test.YtlkbgdhlbdjbiaaDoorCtI
set_option linter.unusedVariables false
set_option linter.unusedSimpArgs false
namespace Go.Proofs.YtlkbgdhlbdjbiaaDoor
open Go.RowKit
open Lex Ct

/-- A function's types, as a struct of these cells. -/
structure SgAt (w : World) (s : Sg) (ap : Option Addr) (cp : Nat) (aq : Option Addr) (cq : Nat) (an : Option Addr) (cn : Nat) (al : Option Addr) (cl : Nat) : Prop where
  p : NmsAt w s.p ap cp
  t : RowAt w s.t aq cq
  r : TyAt w s.r an cn al cl
theorem SgAt.kept {w w' : World} {s : Sg} {ap : Option Addr} {cp : Nat} {aq : Option Addr} {cq : Nat} {an : Option Addr} {cn : Nat} {al : Option Addr} {cl : Nat} (h : SgAt w s ap cp aq cq an cn al cl) (k : Kept (fun _ => False) w w') : SgAt w' s ap cp aq cq an cn al cl := ⟨h.p.kept k, h.t.kept k, h.r.kept k⟩
abbrev sgC (s : Sg) (ap : Option Addr) (cp : Nat) (aq : Option Addr) (cq : Nat) (an : Option Addr) (cn : Nat) (al : Option Addr) (cl : Nat) : Array Value := #[.string (strOfNums s.name), .slice ap s.p.length cp, .slice aq s.t.length cq, .int .i64 s.r.kind, .slice an s.r.names.length cn, .slice al s.r.l.length cl, .int .i64 s.r.r]
abbrev sgV (s : Sg) (ap : Option Addr) (cp : Nat) (aq : Option Addr) (cq : Nat) (an : Option Addr) (cn : Nat) (al : Option Addr) (cl : Nat) : Value := .agg (sgC s ap cp aq cq an cn al cl)
structure FineS (s : Sg) : Prop where
  p : ∀ b ∈ s.p, NmOk b
  t : ∀ t ∈ s.t, FineT t
  r : FineT s.r
theorem rdCheck_ok (t : Ty) (an : Option Addr) (cn : Nat) (al : Option Addr) (cl : Nat) (w : World) (h : TyAt w t an cn al cl) (hf : FineT t) (ho : okT t = true) :
    Calls Tryd.prog 28 #[tyV t an cn al cl] w fun y w' => y = .returned (.int .i64 0) ∧ Kept (fun _ => False) w w' := by
  have := rdCheck t an cn al cl w h hf
  rw [ho, if_pos rfl] at this
  exact this
theorem rdCheck_no (t : Ty) (an : Option Addr) (cn : Nat) (al : Option Addr) (cl : Nat) (w : World) (h : TyAt w t an cn al cl) (hf : FineT t) (ho : okT t = false) :
    Calls Tryd.prog 28 #[tyV t an cn al cl] w fun y w' => y = .returned (.int .i64 1) ∧ Kept (fun _ => False) w w' := by
  have := rdCheck t an cn al cl w h hf
  rw [ho, if_neg (by decide)] at this
  exact this
end Go.Proofs.YtlkbgdhlbdjbiaaDoor
