/- The walks with each premise that the rows lay. -/
import Derived.Test.YtkmgngmpplgjnaaUtfPicks
namespace Go.Proofs.Ytkmgngmpplgjnaa
open Go.RowKit

theorem UtfReads_all (form : Int) (s : ByteArray) (_h : (Lit.int .i64 form).wf = true) (hs : s.size ≤ maxLen) (w : World) :
    Calls Try.prog 3 #[.int .i64 form, .string s] w fun e w' => e = .returned (.bool true) ∧ Below w.heap.size w w' := UtfReads_walk form s w hs
theorem UtfWrites_all (form : Int) (a : Option Addr) (len cap : Nat) (zs : List Int) (w : World) (_h : (Lit.int .i64 form).wf = true) (h : RowIn .i64 w a len cap zs) :
    Calls Try.prog 4 #[.int .i64 form, .slice a len cap] w fun e w' => e = .returned (.bool true) ∧ Below w.heap.size w w' := UtfWrites_walk form a len cap zs w h
theorem UtfScalars_all (p : Int) (_h : (Lit.int .i64 p).wf = true) (w : World) :
    Calls Try.prog 5 #[.int .i64 p] w fun e w' => e = .returned (.bool true) ∧ Below w.heap.size w w' := UtfScalars_walk p w
theorem UtfBack_all (form : Int) (a : Option Addr) (len cap : Nat) (zs : List Int) (w : World) (_h : (Lit.int .i64 form).wf = true) (h : RowIn .i64 w a len cap zs) :
    Calls Try.prog 6 #[.int .i64 form, .slice a len cap] w fun e w' => e = .returned (.bool true) ∧ Below w.heap.size w w' := UtfBack_walk form a len cap zs w h
theorem UtfOnly_all (form : Int) (s : ByteArray) (_h : (Lit.int .i64 form).wf = true) (hs : s.size ≤ maxLen) (w : World) :
    Calls Try.prog 7 #[.int .i64 form, .string s] w fun e w' => e = .returned (.bool true) ∧ Below w.heap.size w w' := UtfOnly_walk form s w hs
theorem UtfForms_all (enc form : Int) (a : Option Addr) (len cap : Nat) (zs : List Int) (w : World) (_h : (Lit.int .i64 enc).wf = true) (_k : (Lit.int .i64 form).wf = true) (h : RowIn .i64 w a len cap zs) :
    Calls Try.prog 8 #[.int .i64 enc, .int .i64 form, .slice a len cap] w fun e w' => e = .returned (.bool true) ∧ Below w.heap.size w w' := UtfForms_walk enc form a len cap zs w h
end Go.Proofs.Ytkmgngmpplgjnaa
