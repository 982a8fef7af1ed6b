/- Texts of the proof of ModuleBackUptoProof, part 27. -/
import Derived.Test.YtekonefnniaheaaGreatRows
import Derived.Test.YtekonefnniaheaaGreatModuleBackUptoProofQ15
import Derived.Test.YtekonefnniaheaaGreatModuleBackUptoProofQ23
import Derived.Test.YtekonefnniaheaaGreatModuleBackUptoProofQ25
import Derived.Test.YtekonefnniaheaaGreatModuleBackUptoProofQ26
set_option linter.unusedVariables false
namespace Go.Proofs.YtekonefnniaheaaGreat
open Go.RowKit Go.Deep

/-- Some truth value. -/
def IsB (e : Ending) : Prop := ∃ b, e = .returned (.bool b)
set_option maxRecDepth 100000 in
set_option maxHeartbeats 4000000 in
theorem Light_any (m : Mdl) (xT : Option Addr) (cT : Nat) (xI : Option Addr) (cI : Nat) (xF : Option Addr) (cF : Nat) (xB : Option Addr) (cB : Nat) (xM : Option Addr) (cM : Nat) (xG : Option Addr) (cG : Nat) (xX : Option Addr) (cX : Nat) (xE : Option Addr) (cE : Nat) (xC : Option Addr) (cC : Nat) (xD : Option Addr) (cD : Nat) (w : World) (hx : MdlIn w m xT cT xI cI xF cF xB cB xM cM xG cG xX cX xE cE xC cC xD cD) :
    Calls Tryz.prog 8 #[.agg #[.slice xT m.types.length cT, .slice xI m.imports.length cI, .slice xF m.funcs.length cF, .slice xB m.tables.length cB, .slice xM m.mems.length cM, .slice xG m.globals.length cG, .slice xX m.exports.length cX, .int .i64 m.start, .slice xE m.elems.length cE, .slice xC m.codes.length cC, .slice xD m.datas.length cD]] w fun e w' => IsB e ∧ Below w.heap.size w w' := by
  have b1 := BlkAt.new w #[.slice xT m.types.length cT, .slice xI m.imports.length cI, .slice xF m.funcs.length cF, .slice xB m.tables.length cB, .slice xM m.mems.length cM, .slice xG m.globals.length cG, .slice xX m.exports.length cX, .int .i64 m.start, .slice xE m.elems.length cE, .slice xC m.codes.length cC, .slice xD m.datas.length cD] 32
  have HB := Lib.hid ((Below.refl w.heap.size w).alloc (Nat.le_refl _) (.cells #[.slice xT m.types.length cT, .slice xI m.imports.length cI, .slice xF m.funcs.length cF, .slice xB m.tables.length cB, .slice xM m.mems.length cM, .slice xG m.globals.length cG, .slice xX m.exports.length cX, .int .i64 m.start, .slice xE m.elems.length cE, .slice xC m.codes.length cC, .slice xD m.datas.length cD] 32))
  have HC : Hid (∀ w', Below (w.alloc (.cells #[.slice xT m.types.length cT, .slice xI m.imports.length cI, .slice xF m.funcs.length cF, .slice xB m.tables.length cB, .slice xM m.mems.length cM, .slice xG m.globals.length cG, .slice xX m.exports.length cX, .int .i64 m.start, .slice xE m.elems.length cE, .slice xC m.codes.length cC, .slice xD m.datas.length cD] 32)).heap.size (w.alloc (.cells #[.slice xT m.types.length cT, .slice xI m.imports.length cI, .slice xF m.funcs.length cF, .slice xB m.tables.length cB, .slice xM m.mems.length cM, .slice xG m.globals.length cG, .slice xX m.exports.length cX, .int .i64 m.start, .slice xE m.elems.length cE, .slice xC m.codes.length cC, .slice xD m.datas.length cD] 32)) w' → w'.cell? ⟨w.heap.size, 10, none⟩ = some (.slice xD m.datas.length cD)) := Lib.hid fun w' h => (b1.below h).cell 10
  have tD := hx.hD.top
  have lD := hx.hD.le
  have HD := Lib.hid hx.hD
  clear b1 hx
  go_enter Tryz.func8, Tryz.ntmps8
  go_wp2_with fail
  go_loopw [3, 4] (fun nv iv wr => ∃ (z : Int) (i : Nat), nv = .int .i64 z ∧ 0 ≤ z ∧ z ≤ i * 70000 ∧ iv = .int .i64 i ∧ i ≤ m.datas.length ∧ i ≤ 100 ∧ Below (w.alloc (.cells #[.slice xT m.types.length cT, .slice xI m.imports.length cI, .slice xF m.funcs.length cF, .slice xB m.tables.length cB, .slice xM m.mems.length cM, .slice xG m.globals.length cG, .slice xX m.exports.length cX, .int .i64 m.start, .slice xE m.elems.length cE, .slice xC m.codes.length cC, .slice xD m.datas.length cD] 32)).heap.size (w.alloc (.cells #[.slice xT m.types.length cT, .slice xI m.imports.length cI, .slice xF m.funcs.length cF, .slice xB m.tables.length cB, .slice xM m.mems.length cM, .slice xG m.globals.length cG, .slice xX m.exports.length cX, .int .i64 m.start, .slice xE m.elems.length cE, .slice xC m.codes.length cC, .slice xD m.datas.length cD] 32)) wr) (fun _ iv _ => m.datas.length - (intOf iv).toNat)
  case atStart => exact ⟨0, 0, rfl, by decide, by decide, rfl, by omega, by omega, Below.refl _ _⟩
  case round =>
    obtain ⟨z, i, rfl, hz0, hz1, rfl, hi, hi2, hb⟩ := hrel
    have hk := HC.out _ hb
    by_cases hlt : i < m.datas.length
    · by_cases h100 : i < 100
      · obtain ⟨bx, ox, ex, xn, nc, xl, lc, xe, ec, ⟨e0, e1⟩, _, _, _, hbs, _⟩ := HD.out.at hlt
        have e1' := below_cell (HB.out.trans (hb.mono HB.out.size)) e1
        rw [ex] at hk
        unfold maxLen at hbs
        clear e0 e1 ex
        revert e1' hbs
        generalize (m.datas.getD i default).b = s
        intro e1' hbs
        by_cases hs : (70000 : Int) < (s.size : Int)
        · go_wp2_with fail
          go_ret
          exact ⟨⟨_, rfl⟩, HB.out.trans (hb.mono HB.out.size)⟩
        · go_wp2_with fail
          refine ⟨⟨z + s.size, i + 1, by go_num, by omega, by omega, by go_num, by omega, by omega, hb⟩, by simp [intOf]; omega⟩
      · have h100' : ¬ (i : Int) < 100 := by omega
        go_wp2_with fail
        go_ret
        exact ⟨⟨_, rfl⟩, HB.out.trans (hb.mono HB.out.size)⟩
    · go_wp2_with fail
      go_ret
      exact ⟨⟨_, rfl⟩, HB.out.trans (hb.mono HB.out.size)⟩
def mdA : Mdl := { noM with types := [⟨[127], []⟩] }
theorem ex_layN : layV noM = ([0, 97, 115, 109, 1, 0, 0, 0], 0) := by kernel_rfl
theorem ex_layA : layV mdA = ([0, 97, 115, 109, 1, 0, 0, 0, 1, 5, 1, 96, 1, 127, 0], 0) := by kernel_rfl
theorem ex_strN : strOfNums [0, 97, 115, 109, 1, 0, 0, 0] = ⟨#[0, 97, 115, 109, 1, 0, 0, 0]⟩ := by kernel_rfl
theorem ex_strA6 : strOfNums [0, 97, 115, 109, 1, 0, 0, 0, 1, 5, 1, 96, 1, 127, 0] = ⟨#[0, 97, 115, 109, 1, 0, 0, 0, 1, 5, 1, 96, 1, 127, 0]⟩ := by kernel_rfl
theorem ex_takeM : takeMd ⟨#[0, 97, 115, 109, 1, 0, 0, 0, 1, 5, 1, 96, 1, 127, 0]⟩ = .ok mdA := by kernel_rfl
theorem noM_in (w : World) : MdlIn w noM none 0 none 0 none 0 none 0 none 0 none 0 none 0 none 0 none 0 none 0 :=
  ⟨⟨rfl, Nat.le_refl _, by decide, .inl rfl⟩, ⟨rfl, Nat.le_refl _, by decide, .inl rfl⟩, ⟨rfl, Nat.le_refl _, by decide, .inl rfl, fun i hi => absurd hi (by simp [noM])⟩, ⟨rfl, Nat.le_refl _, by decide, .inl rfl⟩, ⟨rfl, Nat.le_refl _, by decide, .inl rfl⟩, ⟨rfl, Nat.le_refl _, by decide, .inl rfl⟩, ⟨rfl, Nat.le_refl _, by decide, .inl rfl⟩, ⟨rfl, Nat.le_refl _, by decide, .inl rfl⟩, ⟨rfl, Nat.le_refl _, by decide, .inl rfl⟩, ⟨rfl, Nat.le_refl _, by decide, .inl rfl⟩, by decide⟩
theorem exPutN (w : World) : Calls Tryz.prog 10 #[.agg #[.slice none 0 0, .slice none 0 0, .slice none 0 0, .slice none 0 0, .slice none 0 0, .slice none 0 0, .slice none 0 0, .int .i64 0, .slice none 0 0, .slice none 0 0, .slice none 0 0]] w fun e w' => e = .returned (.tuple #[.string ⟨#[0, 97, 115, 109, 1, 0, 0, 0]⟩, .int .i64 0]) ∧ Below w.heap.size w w' := by
  have := PutM_any noM none 0 none 0 none 0 none 0 none 0 none 0 none 0 none 0 none 0 none 0 w (noM_in w)
  rw [ex_layN, ex_strN] at this
  exact this
theorem two_blk (w : World) (X Y : Array Value) (S T : TypeId) : BlkAt ((w.alloc (.cells X S)).alloc (.cells Y T)) w.heap.size X S ∧ BlkAt ((w.alloc (.cells X S)).alloc (.cells Y T)) (w.heap.size + 1) Y T ∧ Below w.heap.size w ((w.alloc (.cells X S)).alloc (.cells Y T)) := by
  have hbp : Below w.heap.size w (w.alloc (.cells X S)) := (Below.refl _ _).alloc (Nat.le_refl _) _
  have hbz : Below (w.alloc (.cells X S)).heap.size (w.alloc (.cells X S)) ((w.alloc (.cells X S)).alloc (.cells Y T)) := (Below.refl _ _).alloc (Nat.le_refl _) _
  have hsz0 : (w.alloc (.cells X S)).heap.size = w.heap.size + 1 := by simp
  exact ⟨(BlkAt.new w X _).below hbz, hsz0 ▸ BlkAt.new (w.alloc (.cells X S)) Y _, hbp.trans (hbz.mono hbp.size)⟩
theorem exPutA6 (w : World) : Calls Tryz.prog 10 #[.agg #[.slice (some ⟨w.heap.size + 1, 0, none⟩) 1 1, .slice none 0 0, .slice none 0 0, .slice none 0 0, .slice none 0 0, .slice none 0 0, .slice none 0 0, .int .i64 0, .slice none 0 0, .slice none 0 0, .slice none 0 0]] ((w.alloc (.cells #[.int .i64 127] 3)).alloc (.cells #[.slice (some ⟨w.heap.size, 0, none⟩) 1 1, .slice none 0 0] 54)) fun e w' => e = .returned (.tuple #[.string ⟨#[0, 97, 115, 109, 1, 0, 0, 0, 1, 5, 1, 96, 1, 127, 0]⟩, .int .i64 0]) ∧ Below w.heap.size w w' := by
  obtain ⟨b1, b2, hb⟩ := two_blk w #[.int .i64 127] #[.slice (some ⟨w.heap.size, 0, none⟩) 1 1, .slice none 0 0] 3 54
  have hn := noM_in ((w.alloc (.cells #[.int .i64 127] 3)).alloc (.cells #[.slice (some ⟨w.heap.size, 0, none⟩) 1 1, .slice none 0 0] 54))
  have := PutM_any mdA (some ⟨w.heap.size + 1, 0, none⟩) 1 none 0 none 0 none 0 none 0 none 0 none 0 none 0 none 0 none 0 _ ⟨⟨rfl, Nat.le_refl _, by decide, .inr ⟨_, _, rfl, fun i hi => by
    have hi0 : i = 0 := by have : i < 1 := hi; omega
    subst hi0
    exact ⟨some ⟨w.heap.size, 0, none⟩, 1, none, 0, ⟨b2.cell 0, b2.cell 1⟩, ⟨rfl, Nat.le_refl _, by decide, .inr ⟨_, _, rfl, fun k hk => by
      have hk0 : k = 0 := by have : k < 1 := hk; omega
      subst hk0
      exact b1.cell 0⟩, fun k hk => by
      have hk0 : k = 0 := by have : k < 1 := hk; omega
      subst hk0
      decide⟩, ⟨rfl, Nat.le_refl _, by decide, .inl rfl, fun k hk => absurd hk (by simp [mdA])⟩⟩⟩⟩, hn.hI, hn.hF, hn.hB, hn.hM, hn.hG, hn.hX, hn.hE, hn.hC, hn.hD, hn.hS⟩
  rw [ex_layA, ex_strA6] at this
  refine this.mono ?_
  rintro e w' ⟨h1, h2⟩
  exact ⟨h1, hb.trans (h2.mono hb.size)⟩
/-- What the reading of the example gives. -/
def ExT (w : World) (e : Ending) (w' : World) : Prop := ∃ (b off cp c : Nat) (xp xI : Option Addr) (cI : Nat) (xF : Option Addr) (cF : Nat) (xB : Option Addr) (cB : Nat) (xM : Option Addr) (cM : Nat) (xG : Option Addr) (cG : Nat) (xX : Option Addr) (cX : Nat) (xE : Option Addr) (cE : Nat) (xC : Option Addr) (cC : Nat) (xD : Option Addr) (cD : Nat), e = .returned (.tuple #[.agg #[.slice (some ⟨b, off, none⟩) 1 c, .slice xI 0 cI, .slice xF 0 cF, .slice xB 0 cB, .slice xM 0 cM, .slice xG 0 cG, .slice xX 0 cX, .int .i64 0, .slice xE 0 cE, .slice xC 0 cC, .slice xD 0 cD], .int .i64 0]) ∧
  Below w.heap.size w w' ∧ w'.cell? ⟨b, off, none⟩ = some (.slice xp 1 cp) ∧ View w' xp 1 [127]
theorem exTakeA (w : World) : Calls Tryz.prog 12 #[.string ⟨#[0, 97, 115, 109, 1, 0, 0, 0, 1, 5, 1, 96, 1, 127, 0]⟩] w fun e w' => ExT w e w' := by
  refine (TakeM_any ⟨#[0, 97, 115, 109, 1, 0, 0, 0, 1, 5, 1, 96, 1, 127, 0]⟩ (by decide) w).mono ?_
  rintro e w' ⟨vs, f, he, hb, _, ⟨m, hm, rfl, hv⟩ | ⟨hm, _⟩⟩
  · rw [ex_takeM] at hm
    injection hm with hm
    subst hm
    obtain ⟨x, c, xI, cI, xF, cF, xB, cB, xM, cM, xG, cG, xX, cX, xE, cE, xC, cC, xD, cD, rfl, hin⟩ := hv.ex
    rcases hin.hT.lie with h0 | ⟨b, off, rfl, hr⟩
    · exact absurd h0 (by decide)
    · obtain ⟨xp, cp, xr, cr, ⟨h1, _⟩, hp, _⟩ := hr 0 (by decide)
      exact ⟨b, off, cp, c, xp, xI, cI, xF, cF, xB, cB, xM, cM, xG, cG, xX, cX, xE, cE, xC, cC, xD, cD, he, hb, h1, hp.view⟩
  · rw [ex_takeM] at hm
    cases hm
theorem exSame (w : World) (xp : Option Addr) (cp : Nat) (hv : View w xp 1 [127]) (X : Array Value) :
    Calls Tryz.prog 15 #[.slice xp 1 cp, .slice (some ⟨w.heap.size + 1, 0, none⟩) 1 1] ((w.alloc (.cells X 32)).alloc (.cells #[.int .i64 127] 3)) fun e w' => e = .returned (.bool true) ∧ Below (w.alloc (.cells X 32)).heap.size (w.alloc (.cells X 32)) w' := by
  obtain ⟨_, b2, hb⟩ := two_blk w X #[.int .i64 127] 32 3
  refine (Same_long xp (some ⟨w.heap.size + 1, 0, none⟩) 1 cp 1 [127] _ (by decide) (hv.below hb) (.inr ⟨_, _, rfl, fun k hk => by
    have hk0 : k = 0 := by omega
    subst hk0
    exact b2.cell 0⟩)).mono ?_
  rintro e w' ⟨rfl, k⟩
  have bz : Below (w.alloc (.cells X 32)).heap.size (w.alloc (.cells X 32)) ((w.alloc (.cells X 32)).alloc (.cells #[.int .i64 127] 3)) := (Below.refl _ _).alloc (Nat.le_refl _) _
  exact ⟨rfl, bz.trans (k.mono bz.size)⟩
set_option maxRecDepth 100000 in
set_option maxHeartbeats 4000000 in
theorem awake6_any (w : World) : Calls Tryz.prog 9 #[] w fun e w' => e = .returned (.bool true) ∧ Below w.heap.size w w' := by
  have HPN := Lib.hid exPutN
  have HPA := Lib.hid exPutA6
  have HTA := Lib.hid exTakeA
  go_enter Tryz.func9, Tryz.ntmps9
  go_wp2_with (first
    | (go_at_call 10; refine (HPN.out _).mono ?_; rintro e w1 ⟨rfl, k1⟩; clear HPN)
    | (go_at_call 10; refine (HPA.out _).mono ?_; rintro e w2 ⟨rfl, k2⟩; have hb2 := k1.trans (k2.mono k1.size); clear HPA k1 k2)
    | (go_at_call 12; refine (HTA.out _).mono ?_; rintro e w3 ⟨b, off, cp, c, xp, xI, cI, xF, cF, xB, cB, xM, cM, xG, cG, xX, cX, xE, cE, xC, cC, xD, cD, rfl, k3, hcell, hview⟩; have hb3 := hb2.trans (k3.mono hb2.size); have bz := (Below.refl w3.heap.size w3).alloc (Nat.le_refl _) (.cells #[.slice (some ⟨b, off, none⟩) 1 c, .slice xI 0 cI, .slice xF 0 cF, .slice xB 0 cB, .slice xM 0 cM, .slice xG 0 cG, .slice xX 0 cX, .int .i64 0, .slice xE 0 cE, .slice xC 0 cC, .slice xD 0 cD] 32); have hcell' := below_cell bz hcell; have HS := Lib.hid (exSame w3 xp cp hview #[.slice (some ⟨b, off, none⟩) 1 c, .slice xI 0 cI, .slice xF 0 cF, .slice xB 0 cB, .slice xM 0 cM, .slice xG 0 cG, .slice xX 0 cX, .int .i64 0, .slice xE 0 cE, .slice xC 0 cC, .slice xD 0 cD]); have hbz := hb3.trans (bz.mono hb3.size); clear HTA k3 hb2 hcell hview hb3 bz)
    | (go_at_call 15; refine HS.out.mono ?_; rintro e w4 ⟨rfl, k4⟩; clear HS))
  go_ret
  exact ⟨rfl, hbz.trans (k4.mono hbz.size)⟩
end Go.Proofs.YtekonefnniaheaaGreat
namespace Go.Proofs.YtekonefnniaheaaGreat
open Go.RowKit Go.Deep

theorem getD_in {α : Type} [Inhabited α] {ls : List α} {i : Nat} (h : i < ls.length) : ls.getD i default ∈ ls := by
  rw [List.getD_eq_getElem?_getD, List.getElem?_eq_getElem h]
  exact List.getElem_mem h
theorem at_of {α : Type} [Inhabited α] {ls : List α} {x : α} (h : x ∈ ls) : ∃ i, i < ls.length ∧ ls.getD i default = x := by
  obtain ⟨i, hi, rfl⟩ := List.getElem_of_mem h
  exact ⟨i, hi, by rw [List.getD_eq_getElem?_getD, List.getElem?_eq_getElem hi]; rfl⟩
theorem RowsIn.all {α : Type} [Inhabited α] {sz : Nat} {one : World → Nat → Nat → α → Prop} {w : World} {x : Option Addr} {len cap : Nat} {ts : List α} (h : RowsIn sz one w x len cap ts) {P : α → Prop} (hp : ∀ b o t, one w b o t → P t) : ∀ t ∈ ts, P t := by
  intro t ht
  obtain ⟨i, hi, rfl⟩ := at_of ht
  obtain ⟨b, off, _, h1⟩ := h.at (i := i) (by rw [h.eq]; exact hi)
  exact hp _ _ _ h1
theorem mdlWf_of {m : Mdl} {w : World} {xT : Option Addr} {cT : Nat} {xI : Option Addr} {cI : Nat} {xF : Option Addr} {cF : Nat} {xB : Option Addr} {cB : Nat} {xM : Option Addr} {cM : Nat} {xG : Option Addr} {cG : Nat} {xX : Option Addr} {cX : Nat} {xE : Option Addr} {cE : Nat} {xC : Option Addr} {cC : Nat} {xD : Option Addr} {cD : Nat} (h : MdlIn w m xT cT xI cI xF cF xB cB xM cM xG cG xX cX xE cE xC cC xD cD) : MdlWf m :=
  ⟨h.hG.all (P := fun x => wfI x.init) fun _ _ _ ⟨_, _, _, _, _, _, _, _, _, k⟩ => k, h.hE.all (P := fun x => wfI x.off) fun _ _ _ ⟨_, _, _, _, _, _, _, _, _, _, _, k, _⟩ => k, h.hC.all (P := fun x => wfL x.l) fun _ _ _ ⟨_, _, _, _, _, _, _, k, _⟩ => k, h.hD.all (P := fun x => wfI x.off) fun _ _ _ ⟨_, _, _, _, _, _, _, _, _, k, _⟩ => k⟩
theorem oIns_ok {ls : List Ins} (h : oIns ls = true) : ∃ d, okL d ls = true := by
  unfold oIns at h
  have h := of_decide_eq_true h
  cases hc : (cP 0 0 ls).2 with
  | true => exact ⟨0, (cP_yes hc).1⟩
  | false =>
    unfold putV at h
    rw [hc] at h
    simp at h
theorem oSect_all {α : Type} {ok : α → Bool} {ts : List α} (h : oSect ok ts = true) : ∀ t ∈ ts, ok t = true := by
  unfold oSect at h
  split at h
  · rename_i h0
    intro t ht
    rw [List.eq_nil_of_length_eq_zero h0] at ht
    cases ht
  · unfold oList at h
    exact List.all_eq_true.1 (Bool.and_eq_true_iff.1 h).2
theorem mdlOk_of {m : Mdl} (h : oMod m = true) : MdlOk m := by
  unfold oMod at h
  simp only [Bool.and_eq_true] at h
  obtain ⟨_, ⟨⟨⟨⟨_, _⟩, _⟩, _⟩, _⟩, ⟨⟨⟨⟨⟨hg, _⟩, _⟩, he⟩, hc⟩, hd⟩⟩ := h
  refine ⟨fun i hi => ?_, fun i hi => ?_, fun i hi => ?_, fun i hi => ?_⟩
  · have := oSect_all hg _ (getD_in hi)
    unfold oGlo at this
    exact oIns_ok (Bool.and_eq_true_iff.1 this).2
  · have := oSect_all he _ (getD_in hi)
    unfold oEle at this
    exact oIns_ok (Bool.and_eq_true_iff.1 (Bool.and_eq_true_iff.1 this).1).2
  · have := oSect_all hc _ (getD_in hi)
    unfold oCod at this
    exact oIns_ok (Bool.and_eq_true_iff.1 (Bool.and_eq_true_iff.1 this).2).2
  · have := oSect_all hd _ (getD_in hi)
    unfold oDat at this
    exact oIns_ok (Bool.and_eq_true_iff.1 this).2
theorem lay_ways {m : Mdl} (hw : MdlWf m) : layV m = ([], 1) ∨ layV m = ([], 14) ∨ ∃ bs, layV m = (bs, 0) ∧ bs.length ≤ 65536 ∧ takeMd (strOfNums bs) = .ok m ∧ MdlOk m := by
  rw [layV_eq]
  by_cases ho : oMod m = true
  · rw [if_pos ho]
    by_cases hl : 65536 < (bMod m).length
    · rw [if_pos hl]
      exact .inr (.inl rfl)
    · rw [if_neg hl]
      exact .inr (.inr ⟨_, rfl, by omega, take_back ho hw (by omega), mdlOk_of ho⟩)
  · rw [if_neg ho]
    exact .inl rfl
set_option maxRecDepth 100000 in
set_option maxHeartbeats 4000000 in
theorem ModuleBack_walk (m : Mdl) (xT : Option Addr) (cT : Nat) (xI : Option Addr) (cI : Nat) (xF : Option Addr) (cF : Nat) (xB : Option Addr) (cB : Nat) (xM : Option Addr) (cM : Nat) (xG : Option Addr) (cG : Nat) (xX : Option Addr) (cX : Nat) (xE : Option Addr) (cE : Nat) (xC : Option Addr) (cC : Nat) (xD : Option Addr) (cD : Nat) (w : World) (hx : MdlIn w m xT cT xI cI xF cF xB cB xM cM xG cG xX cX xE cE xC cC xD cD) :
    Calls Tryz.prog 4 #[.agg #[.slice xT m.types.length cT, .slice xI m.imports.length cI, .slice xF m.funcs.length cF, .slice xB m.tables.length cB, .slice xM m.mems.length cM, .slice xG m.globals.length cG, .slice xX m.exports.length cX, .int .i64 m.start, .slice xE m.elems.length cE, .slice xC m.codes.length cC, .slice xD m.datas.length cD]] w fun e w' => e = .returned (.bool true) ∧ Below w.heap.size w w' := by
  have b1 := BlkAt.new w #[.slice xT m.types.length cT, .slice xI m.imports.length cI, .slice xF m.funcs.length cF, .slice xB m.tables.length cB, .slice xM m.mems.length cM, .slice xG m.globals.length cG, .slice xX m.exports.length cX, .int .i64 m.start, .slice xE m.elems.length cE, .slice xC m.codes.length cC, .slice xD m.datas.length cD] 32
  have HB := Lib.hid ((Below.refl w.heap.size w).alloc (Nat.le_refl _) (.cells #[.slice xT m.types.length cT, .slice xI m.imports.length cI, .slice xF m.funcs.length cF, .slice xB m.tables.length cB, .slice xM m.mems.length cM, .slice xG m.globals.length cG, .slice xX m.exports.length cX, .int .i64 m.start, .slice xE m.elems.length cE, .slice xC m.codes.length cC, .slice xD m.datas.length cD] 32))
  have HC : Hid (∀ w', Below (w.alloc (.cells #[.slice xT m.types.length cT, .slice xI m.imports.length cI, .slice xF m.funcs.length cF, .slice xB m.tables.length cB, .slice xM m.mems.length cM, .slice xG m.globals.length cG, .slice xX m.exports.length cX, .int .i64 m.start, .slice xE m.elems.length cE, .slice xC m.codes.length cC, .slice xD m.datas.length cD] 32)).heap.size (w.alloc (.cells #[.slice xT m.types.length cT, .slice xI m.imports.length cI, .slice xF m.funcs.length cF, .slice xB m.tables.length cB, .slice xM m.mems.length cM, .slice xG m.globals.length cG, .slice xX m.exports.length cX, .int .i64 m.start, .slice xE m.elems.length cE, .slice xC m.codes.length cC, .slice xD m.datas.length cD] 32)) w' → w'.cell? ⟨w.heap.size, 0, none⟩ = some (.slice xT m.types.length cT) ∧ w'.cell? ⟨w.heap.size, 1, none⟩ = some (.slice xI m.imports.length cI) ∧ w'.cell? ⟨w.heap.size, 2, none⟩ = some (.slice xF m.funcs.length cF) ∧ w'.cell? ⟨w.heap.size, 3, none⟩ = some (.slice xB m.tables.length cB) ∧ w'.cell? ⟨w.heap.size, 4, none⟩ = some (.slice xM m.mems.length cM) ∧ w'.cell? ⟨w.heap.size, 5, none⟩ = some (.slice xG m.globals.length cG) ∧ w'.cell? ⟨w.heap.size, 6, none⟩ = some (.slice xX m.exports.length cX) ∧ w'.cell? ⟨w.heap.size, 7, none⟩ = some (.int .i64 m.start) ∧ w'.cell? ⟨w.heap.size, 8, none⟩ = some (.slice xE m.elems.length cE) ∧ w'.cell? ⟨w.heap.size, 9, none⟩ = some (.slice xC m.codes.length cC) ∧ w'.cell? ⟨w.heap.size, 10, none⟩ = some (.slice xD m.datas.length cD)) := Lib.hid fun w' h => (b1.below h).eleven
  have HA := Lib.hid awake6_any
  have HL := Lib.hid fun (w' : World) (h : Below w.heap.size w w') => Light_any m xT cT xI cI xF cF xB cB xM cM xG cG xX cX xE cE xC cC xD cD w' (hx.below h)
  have hways := lay_ways (mdlWf_of hx)
  have HPU := fun (w' : World) (h : Below w.heap.size w w') => PutM_any m xT cT xI cI xF cF xB cB xM cM xG cG xX cX xE cE xC cC xD cD w' (hx.below h)
  have hb := Below.refl (w.alloc (.cells #[.slice xT m.types.length cT, .slice xI m.imports.length cI, .slice xF m.funcs.length cF, .slice xB m.tables.length cB, .slice xM m.mems.length cM, .slice xG m.globals.length cG, .slice xX m.exports.length cX, .int .i64 m.start, .slice xE m.elems.length cE, .slice xC m.codes.length cC, .slice xD m.datas.length cD] 32)).heap.size (w.alloc (.cells #[.slice xT m.types.length cT, .slice xI m.imports.length cI, .slice xF m.funcs.length cF, .slice xB m.tables.length cB, .slice xM m.mems.length cM, .slice xG m.globals.length cG, .slice xX m.exports.length cX, .int .i64 m.start, .slice xE m.elems.length cE, .slice xC m.codes.length cC, .slice xD m.datas.length cD] 32))
  obtain ⟨g0, g1, g2, g3, g4, g5, g6, g7, g8, g9, g10⟩ := HC.out _ hb
  rcases hways with hl | hl | ⟨bs, hl, hlen, htk, hok⟩
  · rw [hl, show strOfNums [] = (⟨#[]⟩ : ByteArray) from rfl] at HPU
    have HP := Lib.hid HPU
    clear HPU hl b1 hx
    go_enter Tryz.func4, Tryz.ntmps4
    go_wp2_with (first
    | (go_at_call 8; refine (HL.out _ (HB.out.trans (hb.mono HB.out.size))).mono ?_; rintro e w1 ⟨⟨bl, rfl⟩, q1⟩; have hb1 := hb.trans (q1.mono hb.size); obtain ⟨h0, h1, h2, h3, h4, h5, h6, h7, h8, h9, h10⟩ := HC.out _ hb1; clear HL q1 hb g0 g1 g2 g3 g4 g5 g6 g7 g8 g9 g10; cases bl)
    | (go_at_call 10; refine (HP.out _ (HB.out.trans (hb1.mono HB.out.size))).mono ?_; rintro e w2 ⟨rfl, q2⟩; have hb2 := hb1.trans (q2.mono hb1.size); obtain ⟨k0, k1, k2, k3, k4, k5, k6, k7, k8, k9, k10⟩ := HC.out _ hb2; clear HP q2 hb1 h0 h1 h2 h3 h4 h5 h6 h7 h8 h9 h10)
    | (go_at_call 9; refine (HA.out _).mono ?_; rintro e w3 ⟨rfl, q3⟩; have hb3 := hb1.trans (q3.mono hb1.size); clear q3)
    | (go_at_call 9; refine (HA.out _).mono ?_; rintro e w3 ⟨rfl, q3⟩; have hb3 := hb2.trans (q3.mono hb2.size); clear q3))
    all_goals
      go_ret
      exact ⟨rfl, HB.out.trans (hb3.mono HB.out.size)⟩
  · rw [hl, show strOfNums [] = (⟨#[]⟩ : ByteArray) from rfl] at HPU
    have HP := Lib.hid HPU
    clear HPU hl b1 hx
    go_enter Tryz.func4, Tryz.ntmps4
    go_wp2_with (first
    | (go_at_call 8; refine (HL.out _ (HB.out.trans (hb.mono HB.out.size))).mono ?_; rintro e w1 ⟨⟨bl, rfl⟩, q1⟩; have hb1 := hb.trans (q1.mono hb.size); obtain ⟨h0, h1, h2, h3, h4, h5, h6, h7, h8, h9, h10⟩ := HC.out _ hb1; clear HL q1 hb g0 g1 g2 g3 g4 g5 g6 g7 g8 g9 g10; cases bl)
    | (go_at_call 10; refine (HP.out _ (HB.out.trans (hb1.mono HB.out.size))).mono ?_; rintro e w2 ⟨rfl, q2⟩; have hb2 := hb1.trans (q2.mono hb1.size); obtain ⟨k0, k1, k2, k3, k4, k5, k6, k7, k8, k9, k10⟩ := HC.out _ hb2; clear HP q2 hb1 h0 h1 h2 h3 h4 h5 h6 h7 h8 h9 h10)
    | (go_at_call 9; refine (HA.out _).mono ?_; rintro e w3 ⟨rfl, q3⟩; have hb3 := hb1.trans (q3.mono hb1.size); clear q3)
    | (go_at_call 9; refine (HA.out _).mono ?_; rintro e w3 ⟨rfl, q3⟩; have hb3 := hb2.trans (q3.mono hb2.size); clear q3))
    all_goals
      go_ret
      exact ⟨rfl, HB.out.trans (hb3.mono HB.out.size)⟩
  · rw [hl] at HPU
    have HP := Lib.hid HPU
    have HX := Lib.hid hx
    have HT : Hid (∀ w', Calls Tryz.prog 12 #[.string (strOfNums bs)] w' fun e w2 => ∃ yT dT yI dI yF dF yB dB yM dM yG dG yX dX yE dE yC dC yD dD, e = .returned (.tuple #[.agg #[.slice yT m.types.length dT, .slice yI m.imports.length dI, .slice yF m.funcs.length dF, .slice yB m.tables.length dB, .slice yM m.mems.length dM, .slice yG m.globals.length dG, .slice yX m.exports.length dX, .int .i64 m.start, .slice yE m.elems.length dE, .slice yC m.codes.length dC, .slice yD m.datas.length dD], .int .i64 0]) ∧ Below w'.heap.size w' w2 ∧ MdlIn w2 m yT dT yI dI yF dF yB dB yM dM yG dG yX dX yE dE yC dC yD dD) := Lib.hid fun w' => by
      refine (TakeM_any (strOfNums bs) (by rw [strOfNums_size]; unfold maxLen; omega) w').mono ?_
      rintro e w2 ⟨vs, f, he, hb, _, ⟨m', hm, rfl, hv⟩ | ⟨hm, _⟩⟩
      · rw [htk] at hm
        injection hm with hm
        subst hm
        obtain ⟨yT, dT, yI, dI, yF, dF, yB, dB, yM, dM, yG, dG, yX, dX, yE, dE, yC, dC, yD, dD, rfl, hin⟩ := hv.ex
        exact ⟨yT, dT, yI, dI, yF, dF, yB, dB, yM, dM, yG, dG, yX, dX, yE, dE, yC, dC, yD, dD, he, hb, hin⟩
      · rw [htk] at hm
        cases hm
    have HOK := Lib.hid hok
    clear HPU hl b1 hx htk hok hlen
    revert HT HP
    generalize strOfNums bs = S
    intro HP HT
    go_enter Tryz.func4, Tryz.ntmps4
    go_wp2_with (first
    | (go_at_call 8; refine (HL.out _ (HB.out.trans (hb.mono HB.out.size))).mono ?_; rintro e w1 ⟨⟨bl, rfl⟩, q1⟩; have hb1 := hb.trans (q1.mono hb.size); obtain ⟨h0, h1, h2, h3, h4, h5, h6, h7, h8, h9, h10⟩ := HC.out _ hb1; clear HL q1 hb g0 g1 g2 g3 g4 g5 g6 g7 g8 g9 g10; cases bl)
    | (go_at_call 10; refine (HP.out _ (HB.out.trans (hb1.mono HB.out.size))).mono ?_; rintro e w2 ⟨rfl, q2⟩; have hb2 := hb1.trans (q2.mono hb1.size); obtain ⟨k0, k1, k2, k3, k4, k5, k6, k7, k8, k9, k10⟩ := HC.out _ hb2; clear HP q2 hb1 h0 h1 h2 h3 h4 h5 h6 h7 h8 h9 h10)
    | (go_at_call 12; refine (HT.out _).mono ?_; rintro e w3 ⟨yT, dT, yI, dI, yF, dF, yB, dB, yM, dM, yG, dG, yX, dX, yE, dE, yC, dC, yD, dD, rfl, q3, hy⟩; have hb3 := hb2.trans (q3.mono hb2.size); have bz := (Below.refl w3.heap.size w3).alloc (Nat.le_refl _) (.cells #[.slice yT m.types.length dT, .slice yI m.imports.length dI, .slice yF m.funcs.length dF, .slice yB m.tables.length dB, .slice yM m.mems.length dM, .slice yG m.globals.length dG, .slice yX m.exports.length dX, .int .i64 m.start, .slice yE m.elems.length dE, .slice yC m.codes.length dC, .slice yD m.datas.length dD] 32); have hb4 := hb3.trans (bz.mono hb3.size); have HSM := Lib.hid (SameM_any m xT cT xI cI xF cF xB cB xM cM xG cG xX cX xE cE xC cC xD cD yT dT yI dI yF dF yB dB yM dM yG dG yX dX yE dE yC dC yD dD _ HOK.out (HX.out.below (HB.out.trans (hb4.mono HB.out.size))) (hy.below bz)); obtain ⟨n0, n1, n2, n3, n4, n5, n6, n7, n8, n9, n10⟩ := HC.out _ hb4; clear HT q3 hb2 hb3 bz hy k0 k1 k2 k3 k4 k5 k6 k7 k8 k9 k10)
    | (go_at_call 13; refine HSM.out.mono ?_; rintro e w5 ⟨rfl, q5⟩; have hb5 := hb4.trans (q5.mono hb4.size); clear HSM q5 hb4)
    | (go_at_call 9; refine (HA.out _).mono ?_; rintro e w6 ⟨rfl, q6⟩; have hb6 := hb1.trans (q6.mono hb1.size); clear q6)
    | (go_at_call 9; refine (HA.out _).mono ?_; rintro e w6 ⟨rfl, q6⟩; have hb6 := hb5.trans (q6.mono hb5.size); clear q6))
    all_goals
      go_ret
      exact ⟨rfl, HB.out.trans (hb6.mono HB.out.size)⟩
end Go.Proofs.YtekonefnniaheaaGreat
namespace Go.Proofs.YtekonefnniaheaaGreat
open Go.RowKit Go.Deep

theorem bulk_one {H : Type} (d : DataW H) : 1 ≤ Rows.uptoBulk d := by
  cases d with
  | lit l => cases l <;> simp [Rows.uptoBulk]
  | _ => simp [Rows.uptoBulk]
theorem bulk_part {H : Type} {d : DataW H} {l : List (DataW H)} (h : d ∈ l) : Rows.uptoBulk d ≤ Rows.uptoBulkAll l := by
  induction l with
  | nil => cases h
  | cons x r ih =>
    rw [Rows.uptoBulkAll]
    rcases List.mem_cons.1 h with rfl | e
    · exact Nat.le_add_right _ _
    · exact Nat.le_trans (ih e) (Nat.le_add_left _ _)
theorem bulk_len {H : Type} (l : List (DataW H)) : l.length ≤ Rows.uptoBulkAll l := by
  induction l with
  | nil => exact Nat.zero_le _
  | cons x r ih =>
    have := bulk_one x
    rw [Rows.uptoBulkAll, List.length_cons]
    omega
theorem meas_bulk {H : Type} : Meas (H := H) Rows.uptoBulk := by
  refine ⟨fun es sp d h => ?_, fun ps d h => ?_, fun es sp => ?_, fun b => ?_⟩
  · have := bulk_part h
    rw [Rows.uptoBulk]
    omega
  · have := bulk_part h
    rw [Rows.uptoBulk]
    omega
  · have := bulk_len es
    rw [Rows.uptoBulk]
    omega
  · rw [Rows.uptoBulk]
    omega
theorem bulk_in {H : Type} {l : List (DataW H)} {d : DataW H} (hk : Rows.uptoSmall H l = true) (h : d ∈ l) : Rows.uptoBulk d ≤ 1048576 :=
  Nat.le_trans (bulk_part h) (of_decide_eq_true hk)
end Go.Proofs.YtekonefnniaheaaGreat
