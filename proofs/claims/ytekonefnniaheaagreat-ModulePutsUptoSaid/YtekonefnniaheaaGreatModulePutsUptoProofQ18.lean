/- Texts of the proof of ModulePutsUptoProof, part 18. -/
import Derived.Test.YtekonefnniaheaaGreatModulePutsUptoProofQ16
import Derived.Test.YtekonefnniaheaaGreatModulePutsUptoProofQ17
set_option linter.unusedVariables false
set_option linter.unusedVariables false
namespace Go.Proofs.YtekonefnniaheaaGreat
open Go.RowKit Go.Deep
open Leb (byt byt_lt byt_get len7 sum7 putU putS)

theorem Enc.congr {X : Type} {R : Rd X} {x : X} {b b' : List Int} (h : Enc R x b) (e : b = b') : Enc R x b' := e ▸ h
theorem enc_bindR {X Y : Type} {R : Rd X} {R2 : X → Rd Y} {x : X} {y : Y} {b1 b2 : List Int} (h1 : Enc R x b1) (h2 : Enc (R2 x) y b2) : Enc (bindR R R2) y (b1 ++ b2) := enc_bind (R2 := fun q => R2 q.1 q.2) h1 h2
theorem enc_pure {X : Type} (x : X) : Enc (pureR x) x [] := enc_ok x
theorem enc_byte {c : Int} (h0 : 0 ≤ c) (h1 : c < 256) : Enc byteR c [c] := by
  refine ⟨fun more => ?_, fun k hk => ?_⟩
  · have h : ¬ (strOfNums [c] ++ more).size = 0 := by rw [size_one]; omega
    unfold byteR
    rw [if_neg h, ext_one, byt_one c more h1, show ((c.toNat : Nat) : Int) = c by omega]
  · obtain rfl : k = 0 := by simp at hk; omega
    rfl
theorem enc_mod {R : Rd Int} {c : Int} (h : Enc R c [c]) (h0 : 0 ≤ c) (h1 : c < 256) : Enc R c [c % 256] := h.congr (by rw [Int.emod_eq_of_lt h0 h1])
theorem bytesR_eq (s : ByteArray) : bytesR s = (uT s).bind fun q => if q.1 ≤ (q.2.size : Int) then .ok (q.2.extract 0 q.1.toNat, q.2.extract q.1.toNat q.2.size) else .error 2 := by
  unfold bytesR uT bE bA bB
  by_cases hu : okU s = true
  · have hN : uN s = (sum7 s (len7 s 5) : Nat) := by unfold uN; rw [if_pos hu]
    have hR : uR s = s.extract (len7 s 5) s.size := by unfold uR; rw [if_pos hu]
    have hle := Leb.len7_le s 5
    have hz : (s.extract (len7 s 5) s.size).size = s.size - len7 s 5 := by rw [ByteArray.size_extract]; omega
    rw [if_pos hu]
    show _ = if uN s ≤ ((uR s).size : Int) then _ else _
    by_cases hb : sum7 s (len7 s 5) + len7 s 5 ≤ s.size
    · have hk : okB s = true := decide_eq_true ⟨hu, hb⟩
      rw [if_pos hk, if_pos rfl, if_pos hk, if_pos hk, hN, hR, if_pos (by rw [hz]; omega)]
      rfl
    · have hk : okB s = false := decide_eq_false fun q => hb q.2
      rw [hk, hN, hR, if_neg (show ¬ ((sum7 s (len7 s 5) : Nat) : Int) ≤ ((s.extract (len7 s 5) s.size).size : Int) by rw [hz]; omega)]
      rfl
  · have hk : okB s = false := decide_eq_false fun q => hu q.1
    rw [hk, if_neg hu]
    rfl
theorem ext_head (b : List Int) (more : ByteArray) : (strOfNums b ++ more).extract 0 b.length = strOfNums b := by
  rw [← strOfNums_size b]
  exact ByteArray.extract_append_eq_left rfl
theorem enc_bytesN (b : List Int) (hb : b.length ≤ 4294967295) : Enc bytesR (strOfNums b) (putU b.length ++ b) := by
  have h1 := enc_u (n := (b.length : Int)) (by omega) (by omega)
  refine ⟨fun more => ?_, fun k hk => ?_⟩
  · rw [bytesR_eq, nums_app, h1.1]
    show (if (b.length : Int) ≤ ((strOfNums b ++ more).size : Int) then _ else _) = _
    rw [if_pos (by rw [size_nums]; omega)]
    show Except.ok ((strOfNums b ++ more).extract 0 b.length, (strOfNums b ++ more).extract b.length (strOfNums b ++ more).size) = _
    rw [ext_head, ext_app]
  · rw [bytesR_eq]
    by_cases hl : k < (putU (b.length : Int)).length
    · rw [List.take_append_of_le_length (by omega), h1.2 k hl]
      rfl
    · rw [List.take_append, List.take_of_length_le (by omega), ← strOfNums_app, h1.1]
      rw [List.length_append] at hk
      show (if (b.length : Int) ≤ ((strOfNums (b.take _)).size : Int) then _ else _) = _
      rw [if_neg (by rw [strOfNums_size, List.length_take]; omega)]
end Go.Proofs.YtekonefnniaheaaGreat
set_option linter.unusedVariables false
namespace Go.Proofs.YtekonefnniaheaaGreat
open Go.RowKit Go.Deep
open Leb (byt byt_lt byt_get len7 sum7 putU putS)

theorem enc_in {X : Type} {R : Rd X} {x : X} {b : List Int} (h : Enc R x b) (hb : b.length ≤ 4294967295) : Enc (inR R) x (putU b.length ++ b) := by
  have h1 := enc_bytesN b hb
  refine ⟨fun more => ?_, fun k hk => ?_⟩
  · unfold inR
    rw [h1.1]
    show ((R (strOfNums b)).bind fun p => if p.2.size = 0 then Except.ok (p.1, more) else .error 2) = _
    have h2 := h.1 ⟨#[]⟩
    rw [show strOfNums b ++ (⟨#[]⟩ : ByteArray) = strOfNums b from ByteArray.append_empty] at h2
    rw [h2]
    rfl
  · unfold inR
    rw [h1.2 k hk]
    rfl
end Go.Proofs.YtekonefnniaheaaGreat
set_option linter.unusedVariables false
namespace Go.Proofs.YtekonefnniaheaaGreat
open Go.RowKit Go.Deep
open Leb (byt byt_lt byt_get len7 sum7 putU putS)

theorem enc_sect {so : Sofar} {n : Int} {q : Mdl × Int} {b : List Int} (h0 : 0 < n) (h1 : n ≤ 12) (hl : so.last < placeN n) (h : Enc (contR n so.m so.d) q b) (hb : b.length ≤ 4294967295) : Enc (sectR so) ⟨q.1, placeN n, q.2⟩ ([n % 256] ++ (putU b.length ++ b)) := by
  have h2 : Enc (if n = 0 then pureR (Sofar.mk q.1 so.last q.2) else if so.last < placeN n then pureR (Sofar.mk q.1 (placeN n) q.2) else failR 2) ⟨q.1, placeN n, q.2⟩ [] := by
    rw [if_neg (by omega), if_pos hl]
    exact enc_pure _
  have hin := enc_in h hb
  revert hin
  generalize putU (b.length : Int) ++ b = bb
  intro hin
  have e1 : Enc byteR n [n % 256] := enc_mod (enc_byte (by omega) (by omega)) (by omega) (by omega)
  have := enc_bindR (R2 := fun n => bindR (inR (contR n so.m so.d)) fun q => if n = 0 then pureR (Sofar.mk q.1 so.last q.2) else if so.last < placeN n then pureR (Sofar.mk q.1 (placeN n) q.2) else failR 2) e1 (enc_bindR (R2 := fun q => if n = 0 then pureR (Sofar.mk q.1 so.last q.2) else if so.last < placeN n then pureR (Sofar.mk q.1 (placeN n) q.2) else failR 2) hin h2)
  exact this.congr (by rw [List.append_nil])
/-- These bytes are sections that lead from here to there. -/
def SecOk (so : Sofar) (b : List Int) (so' : Sofar) : Prop := ∀ (k : Nat) (rest : List Int), (strOfNums (b ++ rest)).size < k → ∃ k', (strOfNums rest).size < k' ∧ secsR k so (strOfNums (b ++ rest)) = secsR k' so' (strOfNums rest)
theorem SecOk.refl (so : Sofar) : SecOk so [] so := fun k rest h => ⟨k, h, rfl⟩
theorem SecOk.trans {a b c : Sofar} {x y : List Int} (h1 : SecOk a x b) (h2 : SecOk b y c) : SecOk a (x ++ y) c := fun k rest h => by
  rw [List.append_assoc] at h
  obtain ⟨k1, e1, q1⟩ := h1 k (y ++ rest) h
  obtain ⟨k2, e2, q2⟩ := h2 k1 rest e1
  exact ⟨k2, e2, by rw [List.append_assoc, q1, q2]⟩
theorem SecOk.one {so so' : Sofar} {b : List Int} (h : Enc (sectR so) so' b) (hb : 0 < b.length) : SecOk so b so' := fun k rest hk => by
  obtain ⟨j, rfl⟩ : ∃ j, k = j + 1 := ⟨k - 1, by omega⟩
  have hz : ¬ (strOfNums (b ++ rest)).size = 0 := by rw [strOfNums_size, List.length_append]; omega
  refine ⟨j, ?_, ?_⟩
  · rw [strOfNums_size, List.length_append] at hk
    rw [strOfNums_size]
    omega
  · rw [secs_step hz, ← strOfNums_app, h.1]
    rfl
/-- Sections that lead from one module to another, from any place before p0 to one not behind p1. -/
def SecTo (m : Mdl) (p0 : Int) (b : List Int) (m' : Mdl) (p1 : Int) : Prop := ∀ last, last ≤ p0 → ∃ last', last' ≤ p1 ∧ SecOk ⟨m, last, -1⟩ b ⟨m', last', -1⟩
theorem SecTo.trans {m1 m2 m3 : Mdl} {p0 p1 p2 : Int} {x y : List Int} (h1 : SecTo m1 p0 x m2 p1) (h2 : SecTo m2 p1 y m3 p2) : SecTo m1 p0 (x ++ y) m3 p2 := fun last hl => by
  obtain ⟨l1, e1, q1⟩ := h1 last hl
  obtain ⟨l2, e2, q2⟩ := h2 l1 e1
  exact ⟨l2, e2, q1.trans q2⟩
theorem SecTo.none {m : Mdl} {p0 p1 : Int} (h : p0 ≤ p1) : SecTo m p0 [] m p1 := fun last hl => ⟨last, by omega, SecOk.refl _⟩
theorem SecTo.one {m m' : Mdl} {p0 n : Int} {b : List Int} (h0 : 0 < n) (h1 : n ≤ 12) (hp : p0 < placeN n) (h : Enc (contR n m (-1)) (m', -1) b) (hb : b.length ≤ 4294967295) : SecTo m p0 ([n % 256] ++ (putU b.length ++ b)) m' (placeN n) := fun last hl =>
  ⟨placeN n, Int.le_refl _, SecOk.one (enc_sect (so := ⟨m, last, -1⟩) h0 h1 (by show last < placeN n; omega) h hb) (by simp)⟩
end Go.Proofs.YtekonefnniaheaaGreat
set_option linter.unusedVariables false
namespace Go.Proofs.YtekonefnniaheaaGreat
open Go.RowKit Go.Deep

/-- Some truth value. -/
def IsB (e : Ending) : Prop := ∃ b, e = .returned (.bool b)
set_option maxRecDepth 100000 in
set_option maxHeartbeats 4000000 in
theorem Light_any (m : Mdl) (xT : Option Addr) (cT : Nat) (xI : Option Addr) (cI : Nat) (xF : Option Addr) (cF : Nat) (xB : Option Addr) (cB : Nat) (xM : Option Addr) (cM : Nat) (xG : Option Addr) (cG : Nat) (xX : Option Addr) (cX : Nat) (xE : Option Addr) (cE : Nat) (xC : Option Addr) (cC : Nat) (xD : Option Addr) (cD : Nat) (w : World) (hx : MdlIn w m xT cT xI cI xF cF xB cB xM cM xG cG xX cX xE cE xC cC xD cD) :
    Calls Tryz.prog 8 #[.agg #[.slice xT m.types.length cT, .slice xI m.imports.length cI, .slice xF m.funcs.length cF, .slice xB m.tables.length cB, .slice xM m.mems.length cM, .slice xG m.globals.length cG, .slice xX m.exports.length cX, .int .i64 m.start, .slice xE m.elems.length cE, .slice xC m.codes.length cC, .slice xD m.datas.length cD]] w fun e w' => IsB e ∧ Below w.heap.size w w' := by
  have b1 := BlkAt.new w #[.slice xT m.types.length cT, .slice xI m.imports.length cI, .slice xF m.funcs.length cF, .slice xB m.tables.length cB, .slice xM m.mems.length cM, .slice xG m.globals.length cG, .slice xX m.exports.length cX, .int .i64 m.start, .slice xE m.elems.length cE, .slice xC m.codes.length cC, .slice xD m.datas.length cD] 32
  have HB := Lib.hid ((Below.refl w.heap.size w).alloc (Nat.le_refl _) (.cells #[.slice xT m.types.length cT, .slice xI m.imports.length cI, .slice xF m.funcs.length cF, .slice xB m.tables.length cB, .slice xM m.mems.length cM, .slice xG m.globals.length cG, .slice xX m.exports.length cX, .int .i64 m.start, .slice xE m.elems.length cE, .slice xC m.codes.length cC, .slice xD m.datas.length cD] 32))
  have HC : Hid (∀ w', Below (w.alloc (.cells #[.slice xT m.types.length cT, .slice xI m.imports.length cI, .slice xF m.funcs.length cF, .slice xB m.tables.length cB, .slice xM m.mems.length cM, .slice xG m.globals.length cG, .slice xX m.exports.length cX, .int .i64 m.start, .slice xE m.elems.length cE, .slice xC m.codes.length cC, .slice xD m.datas.length cD] 32)).heap.size (w.alloc (.cells #[.slice xT m.types.length cT, .slice xI m.imports.length cI, .slice xF m.funcs.length cF, .slice xB m.tables.length cB, .slice xM m.mems.length cM, .slice xG m.globals.length cG, .slice xX m.exports.length cX, .int .i64 m.start, .slice xE m.elems.length cE, .slice xC m.codes.length cC, .slice xD m.datas.length cD] 32)) w' → w'.cell? ⟨w.heap.size, 10, none⟩ = some (.slice xD m.datas.length cD)) := Lib.hid fun w' h => (b1.below h).cell 10
  have tD := hx.hD.top
  have lD := hx.hD.le
  have HD := Lib.hid hx.hD
  clear b1 hx
  go_enter Tryz.func8, Tryz.ntmps8
  go_wp2_with fail
  go_loopw [3, 4] (fun nv iv wr => ∃ (z : Int) (i : Nat), nv = .int .i64 z ∧ 0 ≤ z ∧ z ≤ i * 70000 ∧ iv = .int .i64 i ∧ i ≤ m.datas.length ∧ i ≤ 100 ∧ Below (w.alloc (.cells #[.slice xT m.types.length cT, .slice xI m.imports.length cI, .slice xF m.funcs.length cF, .slice xB m.tables.length cB, .slice xM m.mems.length cM, .slice xG m.globals.length cG, .slice xX m.exports.length cX, .int .i64 m.start, .slice xE m.elems.length cE, .slice xC m.codes.length cC, .slice xD m.datas.length cD] 32)).heap.size (w.alloc (.cells #[.slice xT m.types.length cT, .slice xI m.imports.length cI, .slice xF m.funcs.length cF, .slice xB m.tables.length cB, .slice xM m.mems.length cM, .slice xG m.globals.length cG, .slice xX m.exports.length cX, .int .i64 m.start, .slice xE m.elems.length cE, .slice xC m.codes.length cC, .slice xD m.datas.length cD] 32)) wr) (fun _ iv _ => m.datas.length - (intOf iv).toNat)
  case atStart => exact ⟨0, 0, rfl, by decide, by decide, rfl, by omega, by omega, Below.refl _ _⟩
  case round =>
    obtain ⟨z, i, rfl, hz0, hz1, rfl, hi, hi2, hb⟩ := hrel
    have hk := HC.out _ hb
    by_cases hlt : i < m.datas.length
    · by_cases h100 : i < 100
      · obtain ⟨bx, ox, ex, xn, nc, xl, lc, xe, ec, ⟨e0, e1⟩, _, _, _, hbs, _⟩ := HD.out.at hlt
        have e1' := below_cell (HB.out.trans (hb.mono HB.out.size)) e1
        rw [ex] at hk
        unfold maxLen at hbs
        clear e0 e1 ex
        revert e1' hbs
        generalize (m.datas.getD i default).b = s
        intro e1' hbs
        by_cases hs : (70000 : Int) < (s.size : Int)
        · go_wp2_with fail
          go_ret
          exact ⟨⟨_, rfl⟩, HB.out.trans (hb.mono HB.out.size)⟩
        · go_wp2_with fail
          refine ⟨⟨z + s.size, i + 1, by go_num, by omega, by omega, by go_num, by omega, by omega, hb⟩, by simp [intOf]; omega⟩
      · have h100' : ¬ (i : Int) < 100 := by omega
        go_wp2_with fail
        go_ret
        exact ⟨⟨_, rfl⟩, HB.out.trans (hb.mono HB.out.size)⟩
    · go_wp2_with fail
      go_ret
      exact ⟨⟨_, rfl⟩, HB.out.trans (hb.mono HB.out.size)⟩
def mdA : Mdl := { noM with types := [⟨[127], []⟩] }
theorem ex_layN : layV noM = ([0, 97, 115, 109, 1, 0, 0, 0], 0) := by kernel_rfl
theorem ex_layA : layV mdA = ([0, 97, 115, 109, 1, 0, 0, 0, 1, 5, 1, 96, 1, 127, 0], 0) := by kernel_rfl
theorem ex_strN : strOfNums [0, 97, 115, 109, 1, 0, 0, 0] = ⟨#[0, 97, 115, 109, 1, 0, 0, 0]⟩ := by kernel_rfl
theorem ex_strA6 : strOfNums [0, 97, 115, 109, 1, 0, 0, 0, 1, 5, 1, 96, 1, 127, 0] = ⟨#[0, 97, 115, 109, 1, 0, 0, 0, 1, 5, 1, 96, 1, 127, 0]⟩ := by kernel_rfl
theorem ex_takeM : takeMd ⟨#[0, 97, 115, 109, 1, 0, 0, 0, 1, 5, 1, 96, 1, 127, 0]⟩ = .ok mdA := by kernel_rfl
theorem noM_in (w : World) : MdlIn w noM none 0 none 0 none 0 none 0 none 0 none 0 none 0 none 0 none 0 none 0 :=
  ⟨⟨rfl, Nat.le_refl _, by decide, .inl rfl⟩, ⟨rfl, Nat.le_refl _, by decide, .inl rfl⟩, ⟨rfl, Nat.le_refl _, by decide, .inl rfl, fun i hi => absurd hi (by simp [noM])⟩, ⟨rfl, Nat.le_refl _, by decide, .inl rfl⟩, ⟨rfl, Nat.le_refl _, by decide, .inl rfl⟩, ⟨rfl, Nat.le_refl _, by decide, .inl rfl⟩, ⟨rfl, Nat.le_refl _, by decide, .inl rfl⟩, ⟨rfl, Nat.le_refl _, by decide, .inl rfl⟩, ⟨rfl, Nat.le_refl _, by decide, .inl rfl⟩, ⟨rfl, Nat.le_refl _, by decide, .inl rfl⟩, by decide⟩
theorem exPutN (w : World) : Calls Tryz.prog 10 #[.agg #[.slice none 0 0, .slice none 0 0, .slice none 0 0, .slice none 0 0, .slice none 0 0, .slice none 0 0, .slice none 0 0, .int .i64 0, .slice none 0 0, .slice none 0 0, .slice none 0 0]] w fun e w' => e = .returned (.tuple #[.string ⟨#[0, 97, 115, 109, 1, 0, 0, 0]⟩, .int .i64 0]) ∧ Below w.heap.size w w' := by
  have := PutM_any noM none 0 none 0 none 0 none 0 none 0 none 0 none 0 none 0 none 0 none 0 w (noM_in w)
  rw [ex_layN, ex_strN] at this
  exact this
theorem two_blk (w : World) (X Y : Array Value) (S T : TypeId) : BlkAt ((w.alloc (.cells X S)).alloc (.cells Y T)) w.heap.size X S ∧ BlkAt ((w.alloc (.cells X S)).alloc (.cells Y T)) (w.heap.size + 1) Y T ∧ Below w.heap.size w ((w.alloc (.cells X S)).alloc (.cells Y T)) := by
  have hbp : Below w.heap.size w (w.alloc (.cells X S)) := (Below.refl _ _).alloc (Nat.le_refl _) _
  have hbz : Below (w.alloc (.cells X S)).heap.size (w.alloc (.cells X S)) ((w.alloc (.cells X S)).alloc (.cells Y T)) := (Below.refl _ _).alloc (Nat.le_refl _) _
  have hsz0 : (w.alloc (.cells X S)).heap.size = w.heap.size + 1 := by simp
  exact ⟨(BlkAt.new w X _).below hbz, hsz0 ▸ BlkAt.new (w.alloc (.cells X S)) Y _, hbp.trans (hbz.mono hbp.size)⟩
theorem exPutA6 (w : World) : Calls Tryz.prog 10 #[.agg #[.slice (some ⟨w.heap.size + 1, 0, none⟩) 1 1, .slice none 0 0, .slice none 0 0, .slice none 0 0, .slice none 0 0, .slice none 0 0, .slice none 0 0, .int .i64 0, .slice none 0 0, .slice none 0 0, .slice none 0 0]] ((w.alloc (.cells #[.int .i64 127] 3)).alloc (.cells #[.slice (some ⟨w.heap.size, 0, none⟩) 1 1, .slice none 0 0] 54)) fun e w' => e = .returned (.tuple #[.string ⟨#[0, 97, 115, 109, 1, 0, 0, 0, 1, 5, 1, 96, 1, 127, 0]⟩, .int .i64 0]) ∧ Below w.heap.size w w' := by
  obtain ⟨b1, b2, hb⟩ := two_blk w #[.int .i64 127] #[.slice (some ⟨w.heap.size, 0, none⟩) 1 1, .slice none 0 0] 3 54
  have hn := noM_in ((w.alloc (.cells #[.int .i64 127] 3)).alloc (.cells #[.slice (some ⟨w.heap.size, 0, none⟩) 1 1, .slice none 0 0] 54))
  have := PutM_any mdA (some ⟨w.heap.size + 1, 0, none⟩) 1 none 0 none 0 none 0 none 0 none 0 none 0 none 0 none 0 none 0 _ ⟨⟨rfl, Nat.le_refl _, by decide, .inr ⟨_, _, rfl, fun i hi => by
    have hi0 : i = 0 := by have : i < 1 := hi; omega
    subst hi0
    exact ⟨some ⟨w.heap.size, 0, none⟩, 1, none, 0, ⟨b2.cell 0, b2.cell 1⟩, ⟨rfl, Nat.le_refl _, by decide, .inr ⟨_, _, rfl, fun k hk => by
      have hk0 : k = 0 := by have : k < 1 := hk; omega
      subst hk0
      exact b1.cell 0⟩, fun k hk => by
      have hk0 : k = 0 := by have : k < 1 := hk; omega
      subst hk0
      decide⟩, ⟨rfl, Nat.le_refl _, by decide, .inl rfl, fun k hk => absurd hk (by simp [mdA])⟩⟩⟩⟩, hn.hI, hn.hF, hn.hB, hn.hM, hn.hG, hn.hX, hn.hE, hn.hC, hn.hD, hn.hS⟩
  rw [ex_layA, ex_strA6] at this
  refine this.mono ?_
  rintro e w' ⟨h1, h2⟩
  exact ⟨h1, hb.trans (h2.mono hb.size)⟩
/-- What the reading of the example gives. -/
def ExT (w : World) (e : Ending) (w' : World) : Prop := ∃ (b off cp c : Nat) (xp xI : Option Addr) (cI : Nat) (xF : Option Addr) (cF : Nat) (xB : Option Addr) (cB : Nat) (xM : Option Addr) (cM : Nat) (xG : Option Addr) (cG : Nat) (xX : Option Addr) (cX : Nat) (xE : Option Addr) (cE : Nat) (xC : Option Addr) (cC : Nat) (xD : Option Addr) (cD : Nat), e = .returned (.tuple #[.agg #[.slice (some ⟨b, off, none⟩) 1 c, .slice xI 0 cI, .slice xF 0 cF, .slice xB 0 cB, .slice xM 0 cM, .slice xG 0 cG, .slice xX 0 cX, .int .i64 0, .slice xE 0 cE, .slice xC 0 cC, .slice xD 0 cD], .int .i64 0]) ∧
  Below w.heap.size w w' ∧ w'.cell? ⟨b, off, none⟩ = some (.slice xp 1 cp) ∧ View w' xp 1 [127]
theorem exSame (w : World) (xp : Option Addr) (cp : Nat) (hv : View w xp 1 [127]) (X : Array Value) :
    Calls Tryz.prog 15 #[.slice xp 1 cp, .slice (some ⟨w.heap.size + 1, 0, none⟩) 1 1] ((w.alloc (.cells X 32)).alloc (.cells #[.int .i64 127] 3)) fun e w' => e = .returned (.bool true) ∧ Below (w.alloc (.cells X 32)).heap.size (w.alloc (.cells X 32)) w' := by
  obtain ⟨_, b2, hb⟩ := two_blk w X #[.int .i64 127] 32 3
  refine (Same_long xp (some ⟨w.heap.size + 1, 0, none⟩) 1 cp 1 [127] _ (by decide) (hv.below hb) (.inr ⟨_, _, rfl, fun k hk => by
    have hk0 : k = 0 := by omega
    subst hk0
    exact b2.cell 0⟩)).mono ?_
  rintro e w' ⟨rfl, k⟩
  have bz : Below (w.alloc (.cells X 32)).heap.size (w.alloc (.cells X 32)) ((w.alloc (.cells X 32)).alloc (.cells #[.int .i64 127] 3)) := (Below.refl _ _).alloc (Nat.le_refl _) _
  exact ⟨rfl, bz.trans (k.mono bz.size)⟩
end Go.Proofs.YtekonefnniaheaaGreat
set_option linter.unusedVariables false
namespace Go.Proofs.YtekonefnniaheaaGreat
open Go.RowKit Go.Deep
open Leb (byt byt_lt byt_get)

/-- There is no section, or one of types that is the last. -/
def OnlyOne (so : Sofar) (s : ByteArray) : Prop := s.size = 0 ∨ ((∃ r, byteR s = .ok (1, r)) ∧ ∀ q, sectR so s = .ok q → q.2.size = 0)
set_option maxRecDepth 100000 in
theorem tmSect1_one (B t : Nat) (g : St) (x : List Value) (n : Int) (hn1 : n = 1) (m : Mdl) (last d : Int) (k0 k1 : Nat) (w : World) (h : TmAt w t g x) (hx : ShX x) (hs : ∀ s, g = .ok s → SoX B w x ⟨m, last, d⟩) (ht : t < B) (hB : B ≤ w.heap.size)
    (b0 : BlkAt w k0 #[.pointer (some ⟨t, 0, none⟩)] 63) (b1 : BlkAt w k1 #[.int .i64 n] 3) :
    Calls Tryz.prog 119 #[.pointer (some ⟨k0, 0, none⟩), .pointer (some ⟨k1, 0, none⟩)] w fun y w' => GivesCt B t last (contR n m d) g w y w' := by
  subst hn1
  have c0 := b0.cell 0
  have c1 := b1.cell 0
  simp at c0 c1
  have HC := Lib.hid (tmContent_1 B t g x m last d w h hx hs ht hB)
  clear h hx hs b0 b1
  go_enter Tryz.func119, Tryz.ntmps119
  go_wp2_with (go_at_call 120; refine HC.out.mono ?_; rintro y w1 ⟨x2, g1, rfl, t1, k1', o1, d1⟩)
  exact bodyPost_void rfl rfl ⟨x2, g1, rfl, t1, k1', o1, d1⟩
set_option maxRecDepth 100000 in
set_option maxHeartbeats 4000000 in
theorem tmSection_one (B t : Nat) (s : ByteArray) (r : ByteArray) (hone : byteR s = .ok (1, r)) (x : List Value) (so : Sofar) (w : World) (h : TmAt w t (.ok s) x) (hx : ShX x) (hs : SoX B w x so) (ht : t < B) (hB : B ≤ w.heap.size) :
    Calls Tryz.prog 70 #[.pointer (some ⟨t, 0, none⟩)] w fun y w' => GivesSec B t so (.ok s) w y w' := by
  have hba : Below w.heap.size w (w.alloc (.cells #[.pointer (some ⟨t, 0, none⟩)] 63)) := (Below.refl _ _).alloc (Nat.le_refl _) _
  have hs0 : (w.alloc (.cells #[.pointer (some ⟨t, 0, none⟩)] 63)).heap.size = w.heap.size + 1 := by simp
  have ts0 := h.below hba
  have htl := h.lt
  have bs0 := BlkAt.new w #[.pointer (some ⟨t, 0, none⟩)] 63
  have HX := Lib.hid hx
  have HS := Lib.hid hs
  have HONE := Lib.hid hone
  have HBB := Lib.hid hB
  have K0 : Hid (Kept (· = t) w (w.alloc (.cells #[.pointer (some ⟨t, 0, none⟩)] 63))) := Lib.hid (Kept.of_below hba)
  have HB := Lib.hid (tmByte_any t (.ok s) x _ ts0)
  clear h hx hs hba hone
  go_enter Tryz.func70, Tryz.ntmps70
  go_wp2_with (first
    | (go_at_call 117; refine HB.out.mono ?_; rintro y w1 ⟨n, g1, rfl, hn, t1, k1, o1⟩; have HN1 := Lib.hid ((out_ok HONE.out).1 o1).2; have O1 := Lib.hid o1; have HN := Lib.hid hn; clear o1 HB hn
       have hz1 := k1.size
       have b1 := bs0.kept k1 (by omega)
       have hb1 : Below w1.heap.size w1 (w1.alloc (.cells #[.int .i64 n] 3)) := (Below.refl _ _).alloc (Nat.le_refl _) _
       have hs1 : (w1.alloc (.cells #[.int .i64 n] 3)).heap.size = w1.heap.size + 1 := by simp
       have t1' := t1.below hb1
       have b1' := b1.below hb1
       have v1' := BlkAt.new w1 #[.int .i64 n] 3
       have cb1 := b1'.cell 0
       simp at cb1
       have KA : Kept (· = t) w (w1.alloc (.cells #[.int .i64 n] 3)) := (K0.out.trans k1).trans (Kept.of_below hb1)
       have hso : ∀ s, g1 = .ok s → SoX B (w1.alloc (.cells #[.int .i64 n] 3)) x so := fun s e => by
         exact HS.out.after KA ht
       have HIN := Lib.hid (tmIn_sect (contR n so.m so.d) (· = t) (fun w x2 q => SoX B w x2 ⟨q.1, so.last, q.2⟩) (fun _ x2 => ShX x2) t g1 x w.heap.size w1.heap.size _ t1' rfl
         (fun w2 w3 x2 a k hp => hp.after k ht) (fun w2 w3 x2 k hd => hd)
         (fun w' g' t' k' hl => tmSect1_one B t g' x n HN1.out so.m so.last so.d w.heap.size w1.heap.size w' t' HX.out (fun s e => by
           obtain ⟨s1, e1⟩ := hl s e
           exact (hso s1 e1).after k' ht) ht (by have := k'.size; have := HBB.out; omega) (b1'.kept k' (by omega)) (v1'.kept k' (by have := t1.lt; omega)))))
    | (go_at_call 118; refine HIN.out.mono ?_; rintro y w2 ⟨x2, g2, rfl, t2, k2, o2, d2⟩; have O2 := Lib.hid o2; have D2 := Lib.hid d2; clear HIN o2
       have hz2 := k2.size
       have b2 := b1'.kept k2 (by omega)
       have v2 := v1'.kept k2 (by have := t1.lt; omega)
       have cb2 := b2.cell 0
       have cv2 := v2.cell 0
       simp at cb2 cv2
       obtain ⟨lz, hlz⟩ := d2.s11
       have HLZ := Lib.hid hlz
       have c13 := (t2.blk.cell 13).trans ((tkC_get g2 x2 11).trans hlz)
       have f13 := t2.blk.frozen 13
       clear hlz d2
       by_cases hn0 : n = 0
       case' pos => subst hn0
       case' neg =>
         have en0 : (n != 0) = true := by simpa using hn0
         have HN0 := Lib.hid hn0
         clear hn0))
  · have hbd : Below w2.heap.size w2 w2.drew := (Below.refl _ _).drew
    have t2d := t2.below hbd
    have HP := Lib.hid (mplace_any n HN.out)
    obtain ⟨pz, hpz⟩ : ∃ pz, pz = placeN n := ⟨_, rfl⟩
    rw [← hpz] at HP
    have HPZ := Lib.hid hpz
    clear hpz
    have DS := Lib.hid (And.intro cb2 (And.intro cv2 c13))
    clear cb2 cv2 c13
    go_region_held3 (fun w' => w'.cell? ⟨w.heap.size, 0, none⟩ = some (.pointer (some ⟨t, 0, none⟩)) ∧ w'.cell? ⟨w1.heap.size, 0, none⟩ = some (.int .i64 n) ∧ w'.cell? ⟨t, 13, none⟩ = some (.int .i64 lz))
      (first | exact DS.out | exact DS3.out)
      (first
        | (go_at_call 121; refine (HP.out _).mono ?_; rintro y w9 ⟨rfl, rfl⟩)
        | (go_at_call 69; refine (tmNeed_any t g2 x2 (decide (lz < pz)) 2 _ t2d).mono ?_; rintro y w3 ⟨rfl, t3, k3⟩
           have hz3 := k3.size
           have KD := (Kept.of_below (F := fun k => k = t) hbd).trans k3
           have b3 := b2.kept KD (by omega)
           have v3 := v2.kept KD (by have := t1.lt; omega)
           have cb3 := b3.cell 0
           have cv3 := v3.cell 0
           simp at cb3 cv3
           have c13' := (t3.blk.cell 13).trans ((tkC_get _ x2 11).trans HLZ.out)
           have f13' := t3.blk.frozen 13
           have DS3 := Lib.hid (And.intro cb3 (And.intro cv3 c13'))))
    go_wp2_with fail
    have t3d := t3.below (Below.refl w3.heap.size w3).drew
    have DS4 := Lib.hid (And.intro cb3 cv3)
    have e5 := (b3.other (b' := t) (by omega) 13 (.int .i64 pz)).cell 0
    have e6 := (v3.other (b' := t) (by have := t1.lt; omega) 13 (.int .i64 pz)).cell 0
    simp at e5 e6
    have DS5 := Lib.hid (And.intro e5 e6)
    clear cb3 cv3 e5 e6
    go_region_held3 (fun w' => w'.cell? ⟨w.heap.size, 0, none⟩ = some (.pointer (some ⟨t, 0, none⟩)) ∧ w'.cell? ⟨w1.heap.size, 0, none⟩ = some (.int .i64 n))
      (first | exact DS4.out | exact DS5.out)
      (first
        | (go_at_call 121; refine (HP.out _).mono ?_; rintro y w9 ⟨rfl, rfl⟩))
    have hdw : Below (w3.setCell ⟨t, 13, none⟩ (.int .i64 pz)).heap.size (w3.setCell ⟨t, 13, none⟩ (.int .i64 pz)) (w3.setCell ⟨t, 13, none⟩ (.int .i64 pz)).drew := (Below.refl _ _).drew
    have t4 := (t3.put 11 (.int .i64 pz)).below hdw
    have K4 := (k3.set (p := ⟨t, 13, none⟩) rfl (.int .i64 pz)).trans (Kept.of_below hdw)
    have KE := (KA.trans k2).trans ((Kept.of_below hbd).trans K4)
    refine bodyPost_void rfl rfl ⟨x2.set 11 (.int .i64 pz), _, rfl, t4, KE, ?_, D2.out.setZ (.inr (.inl rfl)) _⟩
    have hpz := HPZ.out
    have hn0 := HN0.out
    refine O1.out.then (O2.out.bind (fun q hq => ?_) (fun f e => needS_dead e))
    show Out g2 (if n = 0 then pureR (Sofar.mk q.1 so.last q.2) else if so.last < placeN n then pureR (Sofar.mk q.1 (placeN n) q.2) else failR 2) _ _
    rw [if_neg hn0, ← hpz]
    have hle : lz = so.last := by
      have h1 := hq.f11
      rw [HLZ.out] at h1
      simp only [Option.some.injEq, Value.int.injEq, true_and] at h1
      exact h1
    subst hle
    by_cases hlt : so.last < pz
    · rw [if_pos hlt, decide_eq_true hlt]
      exact Out.pure ((hq.after ((Kept.of_below (F := (· = t)) hbd).trans K4) ht).put11 pz)
    · rw [if_neg hlt, decide_eq_false hlt]
      cases g2 with
      | error f => rfl
      | ok s => rfl
  · refine bodyPost_void rfl rfl ⟨x2, _, rfl, t2, KA.trans k2, ?_, D2.out⟩
    refine O1.out.then (O2.out.bind (fun q hq => ?_) (fun f e => e))
    show Out g2 (if (0 : Int) = 0 then pureR (Sofar.mk q.1 so.last q.2) else _) g2 _
    rw [if_pos rfl]
    exact Out.pure hq
def SecRel1 (B t : Nat) (g0 : St) (w wr : World) : Prop :=
  ∃ g x, TmAt wr t g x ∧ ShX x ∧ Kept (· = t) w wr ∧
    ((∃ s s0 so k, g = .ok s ∧ g0 = .ok s0 ∧ SoX B wr x so ∧ OnlyOne so s ∧ s.size < k ∧ secsR (s0.size + 1) so0 s0 = secsR k so s) ∨
     (∃ f, g = .error f ∧ f ≠ 0 ∧ ((∃ s0, g0 = .ok s0 ∧ secsR (s0.size + 1) so0 s0 = .error f) ∨ g0 = .error f)))
set_option maxRecDepth 100000 in
set_option maxHeartbeats 4000000 in
theorem tmModule_one (B t : Nat) (s : ByteArray) (x : List Value) (w : World) (h : TmAt w t (.ok s) x) (hx : ShX x) (hs : SoX B w x so0) (ht : t < B) (hB : B ≤ w.heap.size) (hhd : hdOk s = true) (hon : OnlyOne so0 (s.extract 8 s.size)) :
    Calls Tryz.prog 21 #[.pointer (some ⟨t, 0, none⟩)] w fun y w' => GivesMd B t s w y w' := by
  have d0 := h.rest
  replace d0 : w.cell? ⟨t, 0, none⟩ = some (.string s) := d0
  have hsz := h.wf.sz
  replace hsz : s.size ≤ 65536 := hsz
  have HP := Lib.hid (cutPre_any s hsz)
  have HON := Lib.hid hon
  have HHR : Hid (hdR s = .ok ((), s.extract 8 s.size)) := Lib.hid (if_pos (of_decide_eq_true hhd))
  clear hon hhd
  have hcz : (cutB s).size ≤ 65536 := by
    unfold cutB
    split
    · rw [ByteArray.size_extract]; omega
    · exact hsz
  have HO : Hid (Out (.ok s) hdR (needS (tookS (.ok s) (cutB s) 0) (hdOk s) 2) (fun _ => True)) := Lib.hid (by
    by_cases hk : hdOk s = true
    · have hr : hdR s = .ok ((), s.extract 8 s.size) := if_pos (of_decide_eq_true hk)
      refine (out_ok hr).2 ⟨?_, trivial⟩
      unfold cutB
      rw [hk]
      rfl
    · have hk' : hdOk s = false := by cases q : hdOk s <;> simp_all
      have hr : hdR s = .error 2 := if_neg (of_decide_eq_false hk')
      refine (out_err' hr).2 ?_
      rw [hk']
      rfl)
  revert HP hcz HO
  generalize cutB s = cb
  generalize hdOk s = ok
  intro HP hcz HO
  have HT1 := Lib.hid (tmTook_any t (.ok s) x cb 0 w h (fun q => absurd rfl q) hcz)
  have HX := Lib.hid hx
  have HS := Lib.hid hs
  have HB := Lib.hid hB
  clear h hx hs hsz hcz
  go_enter Tryz.func21, Tryz.ntmps21
  go_wp2_with (first
    | (go_at_call 67; refine (HP.out _).mono ?_; rintro y w9 ⟨rfl, rfl⟩)
    | (go_at_call 68; refine HT1.out.mono ?_; rintro y w1 ⟨rfl, t1, k1⟩; have HN1 := Lib.hid (tmNeed_any t _ x ok 2 _ t1); clear HT1)
    | (go_at_call 69; refine HN1.out.mono ?_; rintro y w2 ⟨rfl, t2, k2⟩; clear HN1))
  revert HO t2
  generalize needS (tookS (.ok s) cb 0) ok 2 = g2
  intro HO t2
  have HSTA : Hid (SecRel1 B t g2 w w2) := Lib.hid (by
    refine ⟨g2, x, t2, HX.out, k1.trans k2, ?_⟩
    rcases t2.wf.cases with ⟨s2, rfl, _⟩ | ⟨f, rfl, hf⟩
    · have hq := ((out_ok HHR.out).1 HO.out).1
      injection hq with hq
      exact .inl ⟨s2, s2, so0, s2.size + 1, rfl, rfl, HS.out.after (k1.trans k2) ht, by rw [hq]; exact HON.out, Nat.lt_succ_self _, rfl⟩
    · exact .inr ⟨f, rfl, hf, .inr rfl⟩)
  clear t1 t2 k1 k2 d0
  go_loopw [] (fun wr => SecRel1 B t g2 w wr) (fun wr => szM wr t)
  case atStart => exact HSTA.out
  case round =>
    clear HSTA
    obtain ⟨gi, xi, ti, hxi, ki, hst⟩ := hrel
    have di := ti.rest
    have HSZ := Lib.hid ti.szM
    have HK := Lib.hid ki
    have hsplit : (∃ si s0 so k, gi = .ok si ∧ g2 = .ok s0 ∧ SoX B wr xi so ∧ OnlyOne so si ∧ si.size < k ∧ secsR (s0.size + 1) so0 s0 = secsR k so si ∧ ¬ si.size = 0) ∨ (stR gi = ⟨#[]⟩ ∧ Out g2 (fun s => secsR (s.size + 1) so0 s) gi (fun so => SoX B wr xi so)) := by
      rcases hst with ⟨si, s0, so, k, rfl, hg0, hso, hon1, hk, hR⟩ | ⟨f, rfl, hf, hR⟩
      · by_cases hz : si.size = 0
        · right
          refine ⟨ByteArray.size_eq_zero_iff.1 hz, ?_⟩
          subst hg0
          obtain ⟨j, rfl⟩ : ∃ j, k = j + 1 := ⟨k - 1, by omega⟩
          rw [secs_end hz] at hR
          exact (out_ok (R := fun s => secsR (s.size + 1) so0 s) hR).2 ⟨rfl, hso⟩
        · exact .inl ⟨si, s0, so, k, rfl, hg0, hso, hon1, hk, hR, hz⟩
      · right
        refine ⟨rfl, ?_⟩
        rcases hR with ⟨s0, hg0, hR⟩ | hg0
        · subst hg0
          exact (out_err' (R := fun s => secsR (s.size + 1) so0 s) hR).2 rfl
        · subst hg0
          rfl
    clear hst
    rcases hsplit with ⟨si, s0, so, k, rfl, hg0, hso, hon1, hk, hR, hz⟩ | ⟨hse, ho⟩
    · replace di : wr.cell? ⟨t, 0, none⟩ = some (.string si) := di
      have HR := Lib.hid hR
      have HG0 := Lib.hid hg0
      have HSO := Lib.hid hso
      clear hR hg0 hso
      have hnn := toList_some (show 0 < si.size by omega)
      obtain ⟨⟨rr, hrr⟩, hlast⟩ := hon1.resolve_left hz
      have HLAST := Lib.hid hlast
      have HC := Lib.hid (tmSection_one B t si rr hrr xi so wr ti hxi HSO.out ht (Nat.le_trans HB.out ki.size))
      have HZ := Lib.hid hz
      clear hz ti hxi ki hon1 hrr hlast
      go_wp2_with (go_at_call 70; refine HC.out.mono ?_; rintro y w3 ⟨x3, g3, rfl, t3, k3, o3, d3⟩)
      refine ⟨⟨g3, x3, t3, d3, HK.out.trans k3, ?_⟩, ?_⟩
      · obtain ⟨j, rfl⟩ : ∃ j, k = j + 1 := ⟨k - 1, by omega⟩
        have hstep := secs_step (k := j) (so := so) HZ.out
        rcases t3.wf.cases with ⟨s3, rfl, _⟩ | ⟨f, rfl, hf⟩
        · obtain ⟨s', q, hs', hq, hP⟩ := o3.live
          injection hs' with hs'
          subst hs'
          have hlt := sectR_size hq
          refine .inl ⟨s3, s0, q, j, rfl, HG0.out, hP, .inl (HLAST.out _ hq), by replace hlt : s3.size < si.size := hlt; omega, ?_⟩
          rw [HR.out, hstep, hq]
          rfl
        · refine .inr ⟨f, rfl, hf, .inl ⟨s0, HG0.out, ?_⟩⟩
          rw [HR.out, hstep, o3.fault]
          rfl
      · rw [t3.szM, HSZ.out]
        rcases t3.wf.cases with ⟨s3, rfl, _⟩ | ⟨f, rfl, hf⟩
        · obtain ⟨s', q, hs', hq, hP⟩ := o3.live
          injection hs' with hs'
          subst hs'
          exact sectR_size hq
        · show 0 < si.size
          have := HZ.out
          omega
    · rw [hse] at di
      have HOL := Lib.hid ho
      obtain ⟨a9, l9, c9, e9⟩ := hxi.s9
      obtain ⟨a2, l2, c2, e2⟩ := hxi.s2
      obtain ⟨a10, l10, c10, e10⟩ := hxi.s10
      obtain ⟨dz, e12⟩ := hxi.s12
      have HE := Lib.hid (And.intro e9 (And.intro e2 (And.intro e10 e12)))
      have f9 := (ti.blk.cell 11).trans ((tkC_get gi xi 9).trans e9)
      have f2 := (ti.blk.cell 4).trans ((tkC_get gi xi 2).trans e2)
      have DS := Lib.hid (And.intro f9 f2)
      have HXI := Lib.hid hxi
      have HBD : Below wr.heap.size wr wr.drew := (Below.refl _ _).drew
      have ti2 := ti.below HBD
      clear hse ho hxi e9 e2 e10 e12 f9 f2
      go_wp2_with fail
      go_region_held3 (fun w' => w'.cell? ⟨t, 11, none⟩ = some (.slice a9 l9 c9) ∧ w'.cell? ⟨t, 4, none⟩ = some (.slice a2 l2 c2))
        (first | exact DS.out | exact DS3.out)
        (first
          | (go_at_call 69; refine (tmNeed_any t gi xi ((l9 : Int) == (l2 : Int)) 2 _ ti2).mono ?_; rintro y w3 ⟨rfl, t3, k3⟩
             have DS3 := Lib.hid (And.intro ((t3.blk.cell 11).trans ((tkC_get _ xi 9).trans HE.out.1)) ((t3.blk.cell 4).trans ((tkC_get _ xi 2).trans HE.out.2.1)))))
      have g14 := (t3.blk.cell 14).trans ((tkC_get _ xi 12).trans HE.out.2.2.2)
      have g12 := (t3.blk.cell 12).trans ((tkC_get _ xi 10).trans HE.out.2.2.1)
      have DS6 := Lib.hid (And.intro g14 g12)
      have HBD3 : Below w3.heap.size w3 w3.drew := (Below.refl _ _).drew
      have ti3 := t3.below HBD3
      have HKE := Lib.hid ((HK.out.trans (Kept.of_below HBD)).trans k3)
      clear g14 g12
      have HFIN : Hid (∀ b w4, TmAt w4 t (needS (needS gi ((l9 : Int) == (l2 : Int)) 2) b 2) xi → Kept (· = t) w3 w4 → (b = (decide (dz = -1) || decide (dz = (l10 : Int)))) → GivesMd B t s w (.returned (.tuple #[])) w4) := Lib.hid fun b w4 t4 k4 hb => by
        have KF := ((Kept.of_below (F := (· = t)) HBD).trans k3).trans k4
        refine ⟨xi, _, rfl, t4, HKE.out.trans k4, ?_, HXI.out⟩
        have h1 := HOL.out.need (p := e1R) (b := ((l9 : Int) == (l2 : Int))) (e := 2) (by decide) (fun so h => by
          obtain ⟨a, l, c, e, hs⟩ := h.f9
          obtain ⟨a', l', c', e', hs'⟩ := h.f2
          rw [HE.out.1] at e
          rw [HE.out.2.1] at e'
          simp only [Option.some.injEq, Value.slice.injEq] at e e'
          obtain ⟨_, rfl, _⟩ := e
          obtain ⟨_, rfl, _⟩ := e'
          have q1 := hs.now.eq
          have q2 := hs'.now.eq
          unfold e1R
          rw [← q1, ← q2]
          by_cases hq : (l9 : Int) = (l2 : Int)
          · rw [decide_eq_true hq, hq]
            simp
          · rw [decide_eq_false hq]
            simp [hq])
        have h2 := h1.need (p := e2R) (b := b) (e := 2) (by decide) (fun so h => by
          obtain ⟨a, l, c, e, hs⟩ := h.f10
          have e' := h.f12
          rw [HE.out.2.2.1] at e
          rw [HE.out.2.2.2] at e'
          simp only [Option.some.injEq, Value.slice.injEq, Value.int.injEq, true_and] at e e'
          obtain ⟨_, rfl, _⟩ := e
          subst e'
          have q1 := hs.now.eq
          unfold e2R
          rw [hb, ← q1])
        have h3 : Out g2 (fun s => needR (needR (secsR (s.size + 1) so0) e1R 2) e2R 2 s) _ _ := h2.mono fun so h => h.after KF ht
        exact HO.out.bind (fun _ _ => h3) h3.dead
      by_cases hd : dz = -1
      · have ed : (dz == -1) = true := by simpa using hd
        have HD := Lib.hid hd
        obtain ⟨g14, g12⟩ := DS6.out
        clear hd
        go_wp2_with fail
        go_quiet ((go_at_call 69; exact Calls.quiet_of_same (needTrue_any _ _ _)))
        go_wp2_with fail
        have hbq : Below w3.heap.size w3 (w3.drewN nq) := below_drewN (Below.refl _ _) _
        refine bodyPost_void rfl rfl ?_
        exact HFIN.out true _ (t3.below hbq) (Kept.of_below hbq) (by rw [decide_eq_true HD.out, Bool.true_or])
      · have ed : (dz == -1) = false := eq_no hd
        have HD := Lib.hid hd
        clear hd
        go_wp2_with fail
        go_region_held3 (fun w' => w'.cell? ⟨t, 14, none⟩ = some (.int .i64 dz) ∧ w'.cell? ⟨t, 12, none⟩ = some (.slice a10 l10 c10))
          (first | exact DS6.out | exact DS7.out)
          (first
            | (go_at_call 69; refine (tmNeed_any t _ xi (dz == (l10 : Int)) 2 _ ti3).mono ?_; rintro y w4 ⟨rfl, t4, k4⟩
               have DS7 := Lib.hid (And.intro ((t4.blk.cell 14).trans ((tkC_get _ xi 12).trans HE.out.2.2.2)) ((t4.blk.cell 12).trans ((tkC_get _ xi 10).trans HE.out.2.2.1)))))
        refine bodyPost_void rfl rfl ?_
        refine HFIN.out _ _ t4 ((Kept.of_below HBD3).trans k4) ?_
        rw [decide_eq_false HD.out, Bool.false_or]
        by_cases hq : dz = (l10 : Int)
        · rw [decide_eq_true hq, hq]
          simp
        · rw [decide_eq_false hq]
          simp [hq]
set_option maxRecDepth 100000 in
set_option maxHeartbeats 4000000 in
theorem TakeM_one (s : ByteArray) (hs : s.size ≤ maxLen) (hhd : hdOk s = true) (hon : OnlyOne so0 (s.extract 8 s.size)) (w : World) :
    Calls Tryz.prog 12 #[.string s] w fun y w' => GivesM s w y w' := by
  unfold maxLen at hs
  have hba : Below w.heap.size w (w.alloc (.cells #[.slice none 0 0, .slice none 0 0, .slice none 0 0, .slice none 0 0, .slice none 0 0, .slice none 0 0, .slice none 0 0, .int .i64 0, .slice none 0 0, .slice none 0 0, .slice none 0 0] 32)) := (Below.refl _ _).alloc (Nat.le_refl _) _
  have hs0 : (w.alloc (.cells #[.slice none 0 0, .slice none 0 0, .slice none 0 0, .slice none 0 0, .slice none 0 0, .slice none 0 0, .slice none 0 0, .int .i64 0, .slice none 0 0, .slice none 0 0, .slice none 0 0] 32)).heap.size = w.heap.size + 1 := by simp
  by_cases hl : 65536 < s.size
  · have h1 : decide ((65536 : Int) < s.size) = true := by simp; omega
    have HT : Hid (takeMd s = .error 14) := Lib.hid (if_pos hl)
    have HB := Lib.hid hba
    clear hl hba hs0 hhd hon
    go_enter Tryz.func12, Tryz.ntmps12
    go_wp2_with fail
    exact bodyPost_ret (v := .tuple #[.agg #[.slice none 0 0, .slice none 0 0, .slice none 0 0, .slice none 0 0, .slice none 0 0, .slice none 0 0, .slice none 0 0, .int .i64 0, .slice none 0 0, .slice none 0 0, .slice none 0 0], .int .i64 14]) (by simp [results, Tryz.results12, go_sem]) rfl ⟨[.slice none 0 0, .slice none 0 0, .slice none 0 0, .slice none 0 0, .slice none 0 0, .slice none 0 0, .slice none 0 0, .int .i64 0, .slice none 0 0, .slice none 0 0, .slice none 0 0], 14, rfl, HB.out, rfl, .inr ⟨HT.out, by decide, noM_vals _⟩⟩
  · have h1 : decide ((65536 : Int) < s.size) = false := by simp; omega
    have HT : Hid (takeMd s = (modR s).bind fun q => .ok q.1.m) := Lib.hid (if_neg hl)
    have hb2 : Below w.heap.size w ((w.alloc (.cells #[.slice none 0 0, .slice none 0 0, .slice none 0 0, .slice none 0 0, .slice none 0 0, .slice none 0 0, .slice none 0 0, .int .i64 0, .slice none 0 0, .slice none 0 0, .slice none 0 0] 32)).alloc (.cells #[.string s, .int .i64 0, .slice none 0 0, .slice none 0 0, .slice none 0 0, .slice none 0 0, .slice none 0 0, .slice none 0 0, .slice none 0 0, .int .i64 0, .slice none 0 0, .slice none 0 0, .slice none 0 0, .int .i64 0, .int .i64 (-1)] 65)) := hba.alloc (by simp) _
    have hs2 : ((w.alloc (.cells #[.slice none 0 0, .slice none 0 0, .slice none 0 0, .slice none 0 0, .slice none 0 0, .slice none 0 0, .slice none 0 0, .int .i64 0, .slice none 0 0, .slice none 0 0, .slice none 0 0] 32)).alloc (.cells #[.string s, .int .i64 0, .slice none 0 0, .slice none 0 0, .slice none 0 0, .slice none 0 0, .slice none 0 0, .slice none 0 0, .slice none 0 0, .int .i64 0, .slice none 0 0, .slice none 0 0, .slice none 0 0, .int .i64 0, .int .i64 (-1)] 65)).heap.size = w.heap.size + 2 := by simp
    have t0 : TmAt ((w.alloc (.cells #[.slice none 0 0, .slice none 0 0, .slice none 0 0, .slice none 0 0, .slice none 0 0, .slice none 0 0, .slice none 0 0, .int .i64 0, .slice none 0 0, .slice none 0 0, .slice none 0 0] 32)).alloc (.cells #[.string s, .int .i64 0, .slice none 0 0, .slice none 0 0, .slice none 0 0, .slice none 0 0, .slice none 0 0, .slice none 0 0, .slice none 0 0, .int .i64 0, .slice none 0 0, .slice none 0 0, .slice none 0 0, .int .i64 0, .int .i64 (-1)] 65)) (w.heap.size + 1) (.ok s) noX := by
      refine ⟨?_, ⟨fun f q => (by cases q), by show s.size ≤ 65536; omega⟩⟩
      have := BlkAt.new (w.alloc (.cells #[.slice none 0 0, .slice none 0 0, .slice none 0 0, .slice none 0 0, .slice none 0 0, .slice none 0 0, .slice none 0 0, .int .i64 0, .slice none 0 0, .slice none 0 0, .slice none 0 0] 32)) #[.string s, .int .i64 0, .slice none 0 0, .slice none 0 0, .slice none 0 0, .slice none 0 0, .slice none 0 0, .slice none 0 0, .slice none 0 0, .int .i64 0, .slice none 0 0, .slice none 0 0, .slice none 0 0, .int .i64 0, .int .i64 (-1)] 65
      rw [hs0] at this
      exact this
    have r0 : BlkAt ((w.alloc (.cells #[.slice none 0 0, .slice none 0 0, .slice none 0 0, .slice none 0 0, .slice none 0 0, .slice none 0 0, .slice none 0 0, .int .i64 0, .slice none 0 0, .slice none 0 0, .slice none 0 0] 32)).alloc (.cells #[.string s, .int .i64 0, .slice none 0 0, .slice none 0 0, .slice none 0 0, .slice none 0 0, .slice none 0 0, .slice none 0 0, .slice none 0 0, .int .i64 0, .slice none 0 0, .slice none 0 0, .slice none 0 0, .int .i64 0, .int .i64 (-1)] 65)) w.heap.size #[.slice none 0 0, .slice none 0 0, .slice none 0 0, .slice none 0 0, .slice none 0 0, .slice none 0 0, .slice none 0 0, .int .i64 0, .slice none 0 0, .slice none 0 0, .slice none 0 0] 32 := (BlkAt.new w _ _).below ((Below.refl _ _).alloc (Nat.le_refl _) _)
    have HM := Lib.hid (tmModule_one (w.heap.size + 2) (w.heap.size + 1) s noX _ t0 noX_sh (noX_so _ _) (by omega) (by omega) hhd hon)
    have HB2 := Lib.hid hb2
    have HS2 := Lib.hid hs2
    have R0 := Lib.hid r0
    clear hl hba hs0 hb2 hs2 t0 r0 hhd hon
    go_enter Tryz.func12, Tryz.ntmps12
    go_wp2_with (first
      | (go_at_call 21; refine HM.out.mono ?_; rintro y w1 ⟨x2, g1, rfl, t1, k1, o1, d1⟩; have O1 := Lib.hid o1; have K1 := Lib.hid k1; clear o1 HM
         have r1 := R0.out.kept k1 (by omega)
         obtain ⟨cr0, cr1, cr2, cr3, cr4, cr5, cr6, cr7, cr8, cr9, cr10⟩ := r1.eleven
         have fr0 := r1.frozen 0
         have fr1 := r1.frozen 1
         have fr2 := r1.frozen 2
         have fr3 := r1.frozen 3
         have fr4 := r1.frozen 4
         have fr5 := r1.frozen 5
         have fr6 := r1.frozen 6
         have fr7 := r1.frozen 7
         have fr8 := r1.frozen 8
         have fr9 := r1.frozen 9
         have fr10 := r1.frozen 10
         have hflt := t1.flt
         rcases t1.wf.cases with ⟨s1, rfl, _⟩ | ⟨f1, rfl, hf1⟩
         case' inl =>
           replace hflt : w1.cell? ⟨w.heap.size + 1, 1, none⟩ = some (.int .i64 0) := hflt
           obtain ⟨s', so, hs', hR, hso⟩ := O1.out.live
           injection hs' with hs'
           subst hs'
           obtain ⟨⟨xT, cT, xI, cI, xF, cF, xB, cB, xM, cM, xG, cG, xX, cX, xE, cE, xC, cC, xD, cD, hvs, hin⟩⟩ := hso.vals
           have hx : ∀ i, i < 11 → x2[i]? = ([.slice xT so.m.types.length cT, .slice xI so.m.imports.length cI, .slice xF so.m.funcs.length cF, .slice xB so.m.tables.length cB, .slice xM so.m.mems.length cM, .slice xG so.m.globals.length cG, .slice xX so.m.exports.length cX, .int .i64 so.m.start, .slice xE so.m.elems.length cE, .slice xC so.m.codes.length cC, .slice xD so.m.datas.length cD] : List Value)[i]? := fun i hi => by
             rw [← hvs, List.getElem?_take, if_pos hi]
           have m0 := (t1.blk.cell 2).trans ((tkC_get _ x2 0).trans (hx 0 (by decide)))
           have m1 := (t1.blk.cell 3).trans ((tkC_get _ x2 1).trans (hx 1 (by decide)))
           have m2 := (t1.blk.cell 4).trans ((tkC_get _ x2 2).trans (hx 2 (by decide)))
           have m3 := (t1.blk.cell 5).trans ((tkC_get _ x2 3).trans (hx 3 (by decide)))
           have m4 := (t1.blk.cell 6).trans ((tkC_get _ x2 4).trans (hx 4 (by decide)))
           have m5 := (t1.blk.cell 7).trans ((tkC_get _ x2 5).trans (hx 5 (by decide)))
           have m6 := (t1.blk.cell 8).trans ((tkC_get _ x2 6).trans (hx 6 (by decide)))
           have m7 := (t1.blk.cell 9).trans ((tkC_get _ x2 7).trans (hx 7 (by decide)))
           have m8 := (t1.blk.cell 10).trans ((tkC_get _ x2 8).trans (hx 8 (by decide)))
           have m9 := (t1.blk.cell 11).trans ((tkC_get _ x2 9).trans (hx 9 (by decide)))
           have m10 := (t1.blk.cell 12).trans ((tkC_get _ x2 10).trans (hx 10 (by decide)))
           have HVS := Lib.hid hvs
           have HSO := Lib.hid hso
           have HR := Lib.hid hR
           clear hx hvs hin hso hR O1
         case' inr =>
           replace hflt : w1.cell? ⟨w.heap.size + 1, 1, none⟩ = some (.int .i64 f1) := hflt
           have e1 : (f1 != 0) = true := by simpa using hf1
           have HF := Lib.hid hf1
           clear hf1))
    · go_region
      go_wp2_with fail
      have KR : Kept (fun k => k = w.heap.size) w1 (((((((((((w1.setCell ⟨w.heap.size, 0, none⟩ (.slice none 0 0)).setCell ⟨w.heap.size, 1, none⟩ (.slice none 0 0)).setCell ⟨w.heap.size, 2, none⟩ (.slice none 0 0)).setCell ⟨w.heap.size, 3, none⟩ (.slice none 0 0)).setCell ⟨w.heap.size, 4, none⟩ (.slice none 0 0)).setCell ⟨w.heap.size, 5, none⟩ (.slice none 0 0)).setCell ⟨w.heap.size, 6, none⟩ (.slice none 0 0)).setCell ⟨w.heap.size, 7, none⟩ (.int .i64 0)).setCell ⟨w.heap.size, 8, none⟩ (.slice none 0 0)).setCell ⟨w.heap.size, 9, none⟩ (.slice none 0 0)).setCell ⟨w.heap.size, 10, none⟩ (.slice none 0 0)) := ((((((((((((Kept.refl (fun k => k = w.heap.size) w1).set (p := ⟨w.heap.size, 0, none⟩) rfl (.slice none 0 0)).set (p := ⟨w.heap.size, 1, none⟩) rfl (.slice none 0 0)).set (p := ⟨w.heap.size, 2, none⟩) rfl (.slice none 0 0)).set (p := ⟨w.heap.size, 3, none⟩) rfl (.slice none 0 0)).set (p := ⟨w.heap.size, 4, none⟩) rfl (.slice none 0 0)).set (p := ⟨w.heap.size, 5, none⟩) rfl (.slice none 0 0)).set (p := ⟨w.heap.size, 6, none⟩) rfl (.slice none 0 0)).set (p := ⟨w.heap.size, 7, none⟩) rfl (.int .i64 0)).set (p := ⟨w.heap.size, 8, none⟩) rfl (.slice none 0 0)).set (p := ⟨w.heap.size, 9, none⟩) rfl (.slice none 0 0)).set (p := ⟨w.heap.size, 10, none⟩) rfl (.slice none 0 0))
      have hbf : Below w.heap.size w (((((((((((w1.setCell ⟨w.heap.size, 0, none⟩ (.slice none 0 0)).setCell ⟨w.heap.size, 1, none⟩ (.slice none 0 0)).setCell ⟨w.heap.size, 2, none⟩ (.slice none 0 0)).setCell ⟨w.heap.size, 3, none⟩ (.slice none 0 0)).setCell ⟨w.heap.size, 4, none⟩ (.slice none 0 0)).setCell ⟨w.heap.size, 5, none⟩ (.slice none 0 0)).setCell ⟨w.heap.size, 6, none⟩ (.slice none 0 0)).setCell ⟨w.heap.size, 7, none⟩ (.int .i64 0)).setCell ⟨w.heap.size, 8, none⟩ (.slice none 0 0)).setCell ⟨w.heap.size, 9, none⟩ (.slice none 0 0)).setCell ⟨w.heap.size, 10, none⟩ (.slice none 0 0)) := (HB2.out.trans (K1.out.below (by have := HS2.out; omega) (fun k q => by omega))).trans (KR.below (by have := K1.out.size; have := HS2.out; omega) (fun k q => by omega))
      refine bodyPost_ret (v := .tuple #[.agg #[.slice none 0 0, .slice none 0 0, .slice none 0 0, .slice none 0 0, .slice none 0 0, .slice none 0 0, .slice none 0 0, .int .i64 0, .slice none 0 0, .slice none 0 0, .slice none 0 0], .int .i64 f1]) (by simp [results, Tryz.results12, go_sem, cr0, cr1, cr2, cr3, cr4, cr5, cr6, cr7, cr8, cr9, cr10]) rfl ⟨[.slice none 0 0, .slice none 0 0, .slice none 0 0, .slice none 0 0, .slice none 0 0, .slice none 0 0, .slice none 0 0, .int .i64 0, .slice none 0 0, .slice none 0 0, .slice none 0 0], f1, rfl, ?_, rfl, .inr ⟨?_, HF.out, noM_vals _⟩⟩
      · exact hbf.drew
      · rw [HT.out, O1.out.fault]
        rfl
    · have KR : Kept (fun k => k = w.heap.size) w1 (((((((((((w1.setCell ⟨w.heap.size, 0, none⟩ (.slice xT so.m.types.length cT)).setCell ⟨w.heap.size, 1, none⟩ (.slice xI so.m.imports.length cI)).setCell ⟨w.heap.size, 2, none⟩ (.slice xF so.m.funcs.length cF)).setCell ⟨w.heap.size, 3, none⟩ (.slice xB so.m.tables.length cB)).setCell ⟨w.heap.size, 4, none⟩ (.slice xM so.m.mems.length cM)).setCell ⟨w.heap.size, 5, none⟩ (.slice xG so.m.globals.length cG)).setCell ⟨w.heap.size, 6, none⟩ (.slice xX so.m.exports.length cX)).setCell ⟨w.heap.size, 7, none⟩ (.int .i64 so.m.start)).setCell ⟨w.heap.size, 8, none⟩ (.slice xE so.m.elems.length cE)).setCell ⟨w.heap.size, 9, none⟩ (.slice xC so.m.codes.length cC)).setCell ⟨w.heap.size, 10, none⟩ (.slice xD so.m.datas.length cD)) := ((((((((((((Kept.refl (fun k => k = w.heap.size) w1).set (p := ⟨w.heap.size, 0, none⟩) rfl (.slice xT so.m.types.length cT)).set (p := ⟨w.heap.size, 1, none⟩) rfl (.slice xI so.m.imports.length cI)).set (p := ⟨w.heap.size, 2, none⟩) rfl (.slice xF so.m.funcs.length cF)).set (p := ⟨w.heap.size, 3, none⟩) rfl (.slice xB so.m.tables.length cB)).set (p := ⟨w.heap.size, 4, none⟩) rfl (.slice xM so.m.mems.length cM)).set (p := ⟨w.heap.size, 5, none⟩) rfl (.slice xG so.m.globals.length cG)).set (p := ⟨w.heap.size, 6, none⟩) rfl (.slice xX so.m.exports.length cX)).set (p := ⟨w.heap.size, 7, none⟩) rfl (.int .i64 so.m.start)).set (p := ⟨w.heap.size, 8, none⟩) rfl (.slice xE so.m.elems.length cE)).set (p := ⟨w.heap.size, 9, none⟩) rfl (.slice xC so.m.codes.length cC)).set (p := ⟨w.heap.size, 10, none⟩) rfl (.slice xD so.m.datas.length cD))
      have hbf : Below w.heap.size w (((((((((((w1.setCell ⟨w.heap.size, 0, none⟩ (.slice xT so.m.types.length cT)).setCell ⟨w.heap.size, 1, none⟩ (.slice xI so.m.imports.length cI)).setCell ⟨w.heap.size, 2, none⟩ (.slice xF so.m.funcs.length cF)).setCell ⟨w.heap.size, 3, none⟩ (.slice xB so.m.tables.length cB)).setCell ⟨w.heap.size, 4, none⟩ (.slice xM so.m.mems.length cM)).setCell ⟨w.heap.size, 5, none⟩ (.slice xG so.m.globals.length cG)).setCell ⟨w.heap.size, 6, none⟩ (.slice xX so.m.exports.length cX)).setCell ⟨w.heap.size, 7, none⟩ (.int .i64 so.m.start)).setCell ⟨w.heap.size, 8, none⟩ (.slice xE so.m.elems.length cE)).setCell ⟨w.heap.size, 9, none⟩ (.slice xC so.m.codes.length cC)).setCell ⟨w.heap.size, 10, none⟩ (.slice xD so.m.datas.length cD)) := (HB2.out.trans (K1.out.below (by have := HS2.out; omega) (fun k q => by omega))).trans (KR.below (by have := K1.out.size; have := HS2.out; omega) (fun k q => by omega))
      refine bodyPost_ret (v := .tuple #[.agg #[.slice xT so.m.types.length cT, .slice xI so.m.imports.length cI, .slice xF so.m.funcs.length cF, .slice xB so.m.tables.length cB, .slice xM so.m.mems.length cM, .slice xG so.m.globals.length cG, .slice xX so.m.exports.length cX, .int .i64 so.m.start, .slice xE so.m.elems.length cE, .slice xC so.m.codes.length cC, .slice xD so.m.datas.length cD], .int .i64 0]) (by simp [results, Tryz.results12, go_sem, cr0, cr1, cr2, cr3, cr4, cr5, cr6, cr7, cr8, cr9, cr10]) rfl ⟨[.slice xT so.m.types.length cT, .slice xI so.m.imports.length cI, .slice xF so.m.funcs.length cF, .slice xB so.m.tables.length cB, .slice xM so.m.mems.length cM, .slice xG so.m.globals.length cG, .slice xX so.m.exports.length cX, .int .i64 so.m.start, .slice xE so.m.elems.length cE, .slice xC so.m.codes.length cC, .slice xD so.m.datas.length cD], 0, rfl, hbf, rfl, .inl ⟨so.m, ?_, rfl, ?_⟩⟩
      · rw [HT.out, HR.out]
        rfl
      · have := (HSO.out.after KR (by omega)).vals
        rw [HVS.out] at this
        exact this
theorem ex_sect : sectR so0 ⟨#[1, 5, 1, 96, 1, 127, 0]⟩ = .ok (⟨mdA, 2, -1⟩, ⟨#[]⟩) := by kernel_rfl
theorem ex_byte : byteR ⟨#[1, 5, 1, 96, 1, 127, 0]⟩ = .ok (1, ⟨#[5, 1, 96, 1, 127, 0]⟩) := by kernel_rfl
theorem ex_cut8 : (⟨#[0, 97, 115, 109, 1, 0, 0, 0, 1, 5, 1, 96, 1, 127, 0]⟩ : ByteArray).extract 8 (⟨#[0, 97, 115, 109, 1, 0, 0, 0, 1, 5, 1, 96, 1, 127, 0]⟩ : ByteArray).size = ⟨#[1, 5, 1, 96, 1, 127, 0]⟩ := by kernel_rfl
theorem ex_only : OnlyOne so0 ((⟨#[0, 97, 115, 109, 1, 0, 0, 0, 1, 5, 1, 96, 1, 127, 0]⟩ : ByteArray).extract 8 (⟨#[0, 97, 115, 109, 1, 0, 0, 0, 1, 5, 1, 96, 1, 127, 0]⟩ : ByteArray).size) := by
  rw [ex_cut8]
  refine .inr ⟨⟨_, ex_byte⟩, fun q hq => ?_⟩
  rw [ex_sect] at hq
  injection hq with hq
  rw [← hq]
  rfl
theorem exTakeZ (w : World) : Calls Tryz.prog 12 #[.string ⟨#[0, 97, 115, 109, 1, 0, 0, 0, 1, 5, 1, 96, 1, 127, 0]⟩] w fun e w' => ExT w e w' := by
  refine (TakeM_one ⟨#[0, 97, 115, 109, 1, 0, 0, 0, 1, 5, 1, 96, 1, 127, 0]⟩ (by decide) (by kernel_rfl) ex_only w).mono ?_
  rintro e w' ⟨vs, f, he, hb, _, ⟨m, hm, rfl, hv⟩ | ⟨hm, _⟩⟩
  · rw [ex_takeM] at hm
    injection hm with hm
    subst hm
    obtain ⟨x, c, xI, cI, xF, cF, xB, cB, xM, cM, xG, cG, xX, cX, xE, cE, xC, cC, xD, cD, rfl, hin⟩ := hv.ex
    rcases hin.hT.lie with h0 | ⟨b, off, rfl, hr⟩
    · exact absurd h0 (by decide)
    · obtain ⟨xp, cp, xr, cr, ⟨h1, _⟩, hp, _⟩ := hr 0 (by decide)
      exact ⟨b, off, cp, c, xp, xI, cI, xF, cF, xB, cB, xM, cM, xG, cG, xX, cX, xE, cE, xC, cC, xD, cD, he, hb, h1, hp.view⟩
  · rw [ex_takeM] at hm
    cases hm
set_option maxRecDepth 100000 in
set_option maxHeartbeats 4000000 in
theorem awake6z_any (w : World) : Calls Tryz.prog 9 #[] w fun e w' => e = .returned (.bool true) ∧ Below w.heap.size w w' := by
  have HPN := Lib.hid exPutN
  have HPA := Lib.hid exPutA6
  have HTA := Lib.hid exTakeZ
  go_enter Tryz.func9, Tryz.ntmps9
  go_wp2_with (first
    | (go_at_call 10; refine (HPN.out _).mono ?_; rintro e w1 ⟨rfl, k1⟩; clear HPN)
    | (go_at_call 10; refine (HPA.out _).mono ?_; rintro e w2 ⟨rfl, k2⟩; have hb2 := k1.trans (k2.mono k1.size); clear HPA k1 k2)
    | (go_at_call 12; refine (HTA.out _).mono ?_; rintro e w3 ⟨b, off, cp, c, xp, xI, cI, xF, cF, xB, cB, xM, cM, xG, cG, xX, cX, xE, cE, xC, cC, xD, cD, rfl, k3, hcell, hview⟩; have hb3 := hb2.trans (k3.mono hb2.size); have bz := (Below.refl w3.heap.size w3).alloc (Nat.le_refl _) (.cells #[.slice (some ⟨b, off, none⟩) 1 c, .slice xI 0 cI, .slice xF 0 cF, .slice xB 0 cB, .slice xM 0 cM, .slice xG 0 cG, .slice xX 0 cX, .int .i64 0, .slice xE 0 cE, .slice xC 0 cC, .slice xD 0 cD] 32); have hcell' := below_cell bz hcell; have HS := Lib.hid (exSame w3 xp cp hview #[.slice (some ⟨b, off, none⟩) 1 c, .slice xI 0 cI, .slice xF 0 cF, .slice xB 0 cB, .slice xM 0 cM, .slice xG 0 cG, .slice xX 0 cX, .int .i64 0, .slice xE 0 cE, .slice xC 0 cC, .slice xD 0 cD]); have hbz := hb3.trans (bz.mono hb3.size); clear HTA k3 hb2 hcell hview hb3 bz)
    | (go_at_call 15; refine HS.out.mono ?_; rintro e w4 ⟨rfl, k4⟩; clear HS))
  go_ret
  exact ⟨rfl, hbz.trans (k4.mono hbz.size)⟩
end Go.Proofs.YtekonefnniaheaaGreat
