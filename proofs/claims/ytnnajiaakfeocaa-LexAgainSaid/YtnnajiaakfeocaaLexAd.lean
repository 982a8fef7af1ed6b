/- lex: LexAgain's walk, where the text is cut. -/
import Derived.Test.YtnnajiaakfeocaaLexAc
namespace Go.Proofs.Ytnnajiaakfeocaa
open Go.RowKit
open Lex

theorem wrt_snoc (b : List Int) (ts : List Tok) (i : Nat) (h : i < ts.length) : wrt b (ts.take (i + 1)) = wrt b (ts.take i) ++ (ts.getD i default).text ++ b := by
  rw [List.take_succ_eq_append_getElem h]
  unfold wrt
  rw [List.flatMap_append, List.getD_eq_getElem?_getD, List.getElem?_eq_getElem h]
  simp
def btwS (long : Bool) : ByteArray := strOfNums (32 :: btwL long)
theorem btwS_f : btwS false = ⟨#[32]⟩ := rfl
theorem btwS_t : btwS true = ⟨#[32, 47, 42, 32, 97, 32, 47, 42, 32, 98, 32, 42, 47, 32, 42, 47, 32]⟩ := rfl
theorem btwS_size (long : Bool) : (btwS long).size ≤ 17 := by cases long <;> decide
theorem lies_place {s : ByteArray} {t : Tok} (h : Lies (bl s) t) : s.extract t.at' (t.at' + (strOfNums t.text).size) = strOfNums t.text := by
  rw [strOfNums_bl, strOfNums_size, show t.at' + t.text.length - t.at' = t.text.length by omega, h.eq]

theorem cutF_len' : ∀ (f n : Nat) (l : List Int) (acc ts : List Tok), cutF f n l acc = .ok ts → ts.length ≤ acc.length + l.length
  | 0, _, _, _, _, h => by cases h
  | f + 1, n, l, acc, ts, h => by
    rw [cutF] at h
    cases hb : bla l with
    | none => rw [hb] at h; cases h
    | some m =>
      rw [hb] at h
      dsimp only at h
      by_cases h0 : (l.drop m).length = 0
      · rw [if_pos h0] at h
        injection h with h
        rw [← h]
        omega
      · rw [if_neg h0] at h
        split at h
        · have h1 := cutF_len' f _ _ _ _ h
          have hne : l.drop m ≠ [] := fun e => h0 (by rw [e]; rfl)
          have h2 := spn_pos _ hne
          rw [List.length_append, List.length_singleton, List.length_drop, List.length_drop] at h1
          rw [List.length_drop] at h0
          omega
        · cases h
theorem wrt_bytes {s : ByteArray} (long : Bool) : ∀ (ts : List Tok), (∀ t ∈ ts, Lies (bl s) t) → ∀ z ∈ wrt (32 :: btwL long) ts, 0 ≤ z ∧ z ≤ 255
  | [], _, z, hz => by cases hz
  | t :: ts, h, z, hz => by
    rw [wrt_cons] at hz
    rcases List.mem_append.1 hz with hz | hz
    · have ht := h t List.mem_cons_self
      rw [← ht.eq] at hz
      have := bl_byte256 s z (List.mem_of_mem_drop (List.mem_of_mem_take hz))
      omega
    · rcases List.mem_append.1 hz with hz | hz
      · have hb : ∀ z ∈ 32 :: btwL long, 0 ≤ z ∧ z ≤ (255 : Int) := by cases long <;> decide
        exact hb z hz
      · exact wrt_bytes long ts (fun x hx => h x (List.mem_cons_of_mem _ hx)) z hz
theorem ks_len {us ts : List Tok} (h : ksL us = ksL ts) : us.length = ts.length := by
  have := congrArg List.length h
  simpa [ksL] using this
theorem ks_get {us ts : List Tok} (h : ksL us = ksL ts) {i : Nat} (hi : i < ts.length) : (us.getD i default).kind = (ts.getD i default).kind ∧ (us.getD i default).s = (ts.getD i default).s := by
  have hu : i < us.length := by rw [ks_len h]; exact hi
  have h2 := congrArg (fun l => l[i]?) h
  simp only [ksL, List.getElem?_map] at h2
  rw [List.getElem?_eq_getElem hu, List.getElem?_eq_getElem hi] at h2
  simp only [Option.map_some, Option.some.injEq, Prod.mk.injEq] at h2
  rw [List.getD_eq_getElem?_getD, List.getD_eq_getElem?_getD, List.getElem?_eq_getElem hu, List.getElem?_eq_getElem hi]
  exact h2
theorem recut {s : ByteArray} {ts : List Tok} (h : ∀ t ∈ ts, Lies (bl s) t) (long : Bool) (hl : (strOfNums (wrt (32 :: btwL long) ts)).size ≤ 8192) :
    ∃ us, resL (bl (strOfNums (wrt (32 :: btwL long) ts))) = (us, 0, 0) ∧ ksL us = ksL ts := by
  rw [bl_str _ (wrt_bytes long ts h)]
  rw [strOfNums_size] at hl
  exact again_res (btw_ok long) (fun t ht => (h t ht).ok) hl

/-- What lies there, and the tokens' text so far. -/
def AgAt (long : Bool) (ts : List Tok) (w1 : World) (tv iv : Value) (wr' : World) : Prop :=
  ∃ (i : Nat) (T : ByteArray), iv = .int .i64 i ∧ tv = .string T ∧ i ≤ ts.length ∧ T = strOfNums (wrt (32 :: btwL long) (ts.take i)) ∧ T.size ≤ i * 8300 ∧ Below w1.heap.size w1 wr'

set_option maxRecDepth 100000 in
set_option maxHeartbeats 2000000 in
theorem LexAgain_good (s : ByteArray) (hs : s.size ≤ 8192) (long : Bool) (ts : List Tok) (h : resL (bl s) = (ts, 0, 0)) (hlies : ∀ t ∈ ts, Lies (bl s) t) (hn : ts.length ≤ 8192) (w : World) :
    Calls Try.prog 5 #[.string s, .bool long] w fun e w' => e = .returned (.bool true) ∧ Below w.heap.size w w' := by
  have h1 := fun w => Cut_any s (by unfold maxLen; omega) w
  rw [h] at h1
  have H1 := Lib.hid h1
  have HL := Lib.hid hlies
  have hb := Below.refl w.heap.size w
  clear h1 h hlies
  have HBS := Lib.hid (btwS_size long)
  cases long
  · have HBW := Lib.hid btwS_f
    go_enter Try.func5, Try.ntmps5
    go_wp2_with (first
      | (go_at_call 8; refine (H1.out _).mono ?_; rintro e w1 ⟨v1, rfl, t1, k1⟩; obtain ⟨a1, c1, hv1, V1⟩ := t1.view; dsimp only at hv1 V1; subst hv1; clear t1 H1; replace hb := hb.trans k1; clear k1))
    have HV1 := Lib.hid V1
    clear V1
    go_loopw [9, 10, 11] (fun tv iv _ wr => AgAt false ts w1 tv iv wr) (fun _ iv _ _ => ts.length - (intOf iv).toNat)
    case atStart => exact ⟨0, ⟨#[]⟩, rfl, rfl, by omega, rfl, Nat.le_refl _, Below.refl _ _⟩
    case round =>
      obtain ⟨i, T, rfl, rfl, hi, hT, hTs, hbr⟩ := hrel
      by_cases hlt : i < ts.length
      · obtain ⟨b, off, rfl, hcc⟩ := HV1.out.resolve_left (by omega)
        obtain ⟨x0, x1, x2⟩ := hcc i hlt
        have lb := World.block_lt_of_cell? w1 _ x0
        replace x0 := (hbr.cell (p := ⟨b, off + i * 3, none⟩) lb).trans x0
        replace x1 := (hbr.cell (p := ⟨b, off + i * 3 + 1, none⟩) lb).trans x1
        replace x2 := (hbr.cell (p := ⟨b, off + i * 3 + 2, none⟩) lb).trans x2
        have hlb : b < wr.heap.size := Nat.lt_of_lt_of_le lb hbr.size
        have hsn := wrt_snoc (32 :: btwL false) ts i hlt
        have hl : Lies (bl s) (ts.getD i default) := HL.out _ (by rw [List.getD_eq_getElem?_getD, List.getElem?_eq_getElem hlt]; exact List.getElem_mem _)
        clear hcc
        revert x0 x1 x2 hsn hl
        generalize ts.getD i default = t
        intro x0 x1 x2 hsn hl
        have hpl := lies_place hl
        have hat := hl.at'
        rw [bl_length] at hat
        have htl : t.s.length ≤ 8192 := by
          have : t.s.length ≤ t.text.length := by unfold Tok.text; split <;> simp
          omega
        have HX := Lib.hid (fun w => text_any t htl w)
        obtain ⟨X, hX⟩ : ∃ X, X = strOfNums t.text := ⟨_, rfl⟩
        have hXs : X.size = t.text.length := by rw [hX, strOfNums_size]
        rw [← hX] at hpl HX
        have HNT : Hid (T ++ X ++ btwS false = strOfNums (wrt (32 :: btwL false) (ts.take (i + 1)))) := Lib.hid (by
          rw [hsn, hT, hX]
          unfold btwS
          rw [strOfNums_app, strOfNums_app])
        have hfit : t.at' + X.size ≤ s.size := by omega
        have hX8 : X.size ≤ 8192 := by omega
        have hs17 := HBS.out
        rw [HBW.out] at hs17
        have HSZ : Hid ((T ++ X ++ (⟨#[32]⟩ : ByteArray)).size ≤ (i + 1) * 8300) := Lib.hid (by rw [sz_app, sz_app]; omega)
        clear hl hat htl hX hXs hsn hT
        have hp1 : ((s.extract t.at' (t.at' + X.size)).toList != X.toList) = false := by rw [hpl]; simp
        rw [HBW.out] at HNT
        go_wp2_with (first
          | (go_at_call 18; refine (HX.out _).mono ?_; rintro e w2 ⟨rfl, k2⟩; replace x0 := (k2.cell (p := ⟨b, off + i * 3, none⟩) hlb).trans x0; replace x1 := (k2.cell (p := ⟨b, off + i * 3 + 1, none⟩) hlb).trans x1; replace x2 := (k2.cell (p := ⟨b, off + i * 3 + 2, none⟩) hlb).trans x2; replace hbr := hbr.trans (k2.mono hbr.size); clear k2))
        have d1 : decide ((t.at' : Int) < 0) = false := decide_eq_false (by omega)
        have d2 : decide ((s.size : Int) - (X.size : Int) < (t.at' : Int)) = false := decide_eq_false (by omega)
        have d3 : decide (s.size < t.at' + X.size) = false := decide_eq_false (by omega)
        go_quiet (fail)
        go_wp2
        exact ⟨⟨i + 1, T ++ X ++ ⟨#[32]⟩, by go_num, rfl, by omega, HNT.out, HSZ.out, below_drewN hbr _⟩, by simp [intOf]; omega⟩
      · have hie : i = ts.length := by omega
        subst hie
        rw [List.take_of_length_le (Nat.le_refl _)] at hT
        have hb2 := hb.trans (hbr.mono hb.size)
        have V1 := HV1.out.below hbr
        by_cases hbig : 8192 < T.size
        · clear hT V1
          go_wp2_with (first
            | (go_at_call 11; refine (awake_any _).mono ?_; rintro e w3 ⟨rfl, k⟩; replace hb2 := hb2.trans (k.mono hb2.size); clear k))
          go_ret
          exact ⟨rfl, hb2⟩
        · obtain ⟨us, hu1, hu2⟩ := recut HL.out false (by rw [← hT]; omega)
          rw [← hT] at hu1
          have hul := ks_len hu2
          have h2 := fun w => Cut_any T (by unfold maxLen; omega) w
          rw [hu1] at h2
          have H2 := Lib.hid h2
          have HU := Lib.hid hu2
          clear hT hu1 hu2 h2
          go_wp2_with (first
            | (go_at_call 8; refine (H2.out _).mono ?_; rintro e w3 ⟨v2, rfl, t2, k2⟩; obtain ⟨a2, c2, hv2, V2⟩ := t2.view; dsimp only at hv2 V2; rw [hul] at hv2 V2; subst hv2; clear t2 H2; replace V1 := V1.below k2; replace hb2 := hb2.trans (k2.mono hb2.size); clear k2))
          have HA := Lib.hid V1
          have HC := Lib.hid V2
          clear V1 V2
          go_loopw [15] (fun jv wj => ∃ j : Nat, jv = .int .i64 j ∧ j ≤ ts.length ∧ Below w3.heap.size w3 wj) (fun jv _ => ts.length - (intOf jv).toNat)
          case atStart => exact ⟨0, rfl, by omega, Below.refl _ _⟩
          case round =>
            obtain ⟨j, rfl, hj, hbj⟩ := hrel
            by_cases hjl : j < ts.length
            · obtain ⟨b, off, rfl, hca⟩ := HA.out.resolve_left (by omega)
              obtain ⟨d, off2, rfl, hcc⟩ := HC.out.resolve_left (by omega)
              obtain ⟨x0, x1, _⟩ := hca j hjl
              obtain ⟨y0, y1, _⟩ := hcc j hjl
              obtain ⟨hk1, hk2⟩ := ks_get HU.out hjl
              rw [hk1] at y0
              rw [hk2] at y1
              have lb := World.block_lt_of_cell? w3 _ x0
              have ld := World.block_lt_of_cell? w3 _ y0
              replace x0 := (hbj.cell (p := ⟨b, off + j * 3, none⟩) lb).trans x0
              replace x1 := (hbj.cell (p := ⟨b, off + j * 3 + 1, none⟩) lb).trans x1
              replace y0 := (hbj.cell (p := ⟨d, off2 + j * 3, none⟩) ld).trans y0
              replace y1 := (hbj.cell (p := ⟨d, off2 + j * 3 + 1, none⟩) ld).trans y1
              clear hca hcc lb ld hk1 hk2
              revert x0 x1 y0 y1
              generalize (ts.getD j default).kind = tk
              generalize strOfNums (ts.getD j default).s = tS
              intro x0 x1 y0 y1
              go_wp2_with fail
              go_quiet (fail)
              go_wp2
              exact ⟨⟨j + 1, by go_num, by omega, below_drewN hbj _⟩, by simp [intOf]; omega⟩
            · have hje : j = ts.length := by omega
              subst hje
              have hb3 := hb2.trans (hbj.mono hb2.size)
              go_wp2_with (first
                | (go_at_call 11; refine (awake_any _).mono ?_; rintro e w4 ⟨rfl, k⟩; replace hb3 := hb3.trans (k.mono hb3.size); clear k))
              go_ret
              exact ⟨rfl, hb3⟩
  · have HBW := Lib.hid btwS_t
    go_enter Try.func5, Try.ntmps5
    go_wp2_with (first
      | (go_at_call 8; refine (H1.out _).mono ?_; rintro e w1 ⟨v1, rfl, t1, k1⟩; obtain ⟨a1, c1, hv1, V1⟩ := t1.view; dsimp only at hv1 V1; subst hv1; clear t1 H1; replace hb := hb.trans k1; clear k1))
    have HV1 := Lib.hid V1
    clear V1
    go_loopw [9, 10, 11] (fun tv iv _ wr => AgAt true ts w1 tv iv wr) (fun _ iv _ _ => ts.length - (intOf iv).toNat)
    case atStart => exact ⟨0, ⟨#[]⟩, rfl, rfl, by omega, rfl, Nat.le_refl _, Below.refl _ _⟩
    case round =>
      obtain ⟨i, T, rfl, rfl, hi, hT, hTs, hbr⟩ := hrel
      by_cases hlt : i < ts.length
      · obtain ⟨b, off, rfl, hcc⟩ := HV1.out.resolve_left (by omega)
        obtain ⟨x0, x1, x2⟩ := hcc i hlt
        have lb := World.block_lt_of_cell? w1 _ x0
        replace x0 := (hbr.cell (p := ⟨b, off + i * 3, none⟩) lb).trans x0
        replace x1 := (hbr.cell (p := ⟨b, off + i * 3 + 1, none⟩) lb).trans x1
        replace x2 := (hbr.cell (p := ⟨b, off + i * 3 + 2, none⟩) lb).trans x2
        have hlb : b < wr.heap.size := Nat.lt_of_lt_of_le lb hbr.size
        have hsn := wrt_snoc (32 :: btwL true) ts i hlt
        have hl : Lies (bl s) (ts.getD i default) := HL.out _ (by rw [List.getD_eq_getElem?_getD, List.getElem?_eq_getElem hlt]; exact List.getElem_mem _)
        clear hcc
        revert x0 x1 x2 hsn hl
        generalize ts.getD i default = t
        intro x0 x1 x2 hsn hl
        have hpl := lies_place hl
        have hat := hl.at'
        rw [bl_length] at hat
        have htl : t.s.length ≤ 8192 := by
          have : t.s.length ≤ t.text.length := by unfold Tok.text; split <;> simp
          omega
        have HX := Lib.hid (fun w => text_any t htl w)
        obtain ⟨X, hX⟩ : ∃ X, X = strOfNums t.text := ⟨_, rfl⟩
        have hXs : X.size = t.text.length := by rw [hX, strOfNums_size]
        rw [← hX] at hpl HX
        have HNT : Hid (T ++ X ++ btwS true = strOfNums (wrt (32 :: btwL true) (ts.take (i + 1)))) := Lib.hid (by
          rw [hsn, hT, hX]
          unfold btwS
          rw [strOfNums_app, strOfNums_app])
        have hfit : t.at' + X.size ≤ s.size := by omega
        have hX8 : X.size ≤ 8192 := by omega
        have hs17 := HBS.out
        rw [HBW.out] at hs17
        have HSZ : Hid ((T ++ X ++ (⟨#[32, 47, 42, 32, 97, 32, 47, 42, 32, 98, 32, 42, 47, 32, 42, 47, 32]⟩ : ByteArray)).size ≤ (i + 1) * 8300) := Lib.hid (by rw [sz_app, sz_app]; omega)
        clear hl hat htl hX hXs hsn hT
        have hp1 : ((s.extract t.at' (t.at' + X.size)).toList != X.toList) = false := by rw [hpl]; simp
        rw [HBW.out] at HNT
        go_wp2_with (first
          | (go_at_call 18; refine (HX.out _).mono ?_; rintro e w2 ⟨rfl, k2⟩; replace x0 := (k2.cell (p := ⟨b, off + i * 3, none⟩) hlb).trans x0; replace x1 := (k2.cell (p := ⟨b, off + i * 3 + 1, none⟩) hlb).trans x1; replace x2 := (k2.cell (p := ⟨b, off + i * 3 + 2, none⟩) hlb).trans x2; replace hbr := hbr.trans (k2.mono hbr.size); clear k2))
        have d1 : decide ((t.at' : Int) < 0) = false := decide_eq_false (by omega)
        have d2 : decide ((s.size : Int) - (X.size : Int) < (t.at' : Int)) = false := decide_eq_false (by omega)
        have d3 : decide (s.size < t.at' + X.size) = false := decide_eq_false (by omega)
        go_quiet (fail)
        go_wp2
        exact ⟨⟨i + 1, T ++ X ++ ⟨#[32, 47, 42, 32, 97, 32, 47, 42, 32, 98, 32, 42, 47, 32, 42, 47, 32]⟩, by go_num, rfl, by omega, HNT.out, HSZ.out, below_drewN hbr _⟩, by simp [intOf]; omega⟩
      · have hie : i = ts.length := by omega
        subst hie
        rw [List.take_of_length_le (Nat.le_refl _)] at hT
        have hb2 := hb.trans (hbr.mono hb.size)
        have V1 := HV1.out.below hbr
        by_cases hbig : 8192 < T.size
        · clear hT V1
          go_wp2_with (first
            | (go_at_call 11; refine (awake_any _).mono ?_; rintro e w3 ⟨rfl, k⟩; replace hb2 := hb2.trans (k.mono hb2.size); clear k))
          go_ret
          exact ⟨rfl, hb2⟩
        · obtain ⟨us, hu1, hu2⟩ := recut HL.out true (by rw [← hT]; omega)
          rw [← hT] at hu1
          have hul := ks_len hu2
          have h2 := fun w => Cut_any T (by unfold maxLen; omega) w
          rw [hu1] at h2
          have H2 := Lib.hid h2
          have HU := Lib.hid hu2
          clear hT hu1 hu2 h2
          go_wp2_with (first
            | (go_at_call 8; refine (H2.out _).mono ?_; rintro e w3 ⟨v2, rfl, t2, k2⟩; obtain ⟨a2, c2, hv2, V2⟩ := t2.view; dsimp only at hv2 V2; rw [hul] at hv2 V2; subst hv2; clear t2 H2; replace V1 := V1.below k2; replace hb2 := hb2.trans (k2.mono hb2.size); clear k2))
          have HA := Lib.hid V1
          have HC := Lib.hid V2
          clear V1 V2
          go_loopw [15] (fun jv wj => ∃ j : Nat, jv = .int .i64 j ∧ j ≤ ts.length ∧ Below w3.heap.size w3 wj) (fun jv _ => ts.length - (intOf jv).toNat)
          case atStart => exact ⟨0, rfl, by omega, Below.refl _ _⟩
          case round =>
            obtain ⟨j, rfl, hj, hbj⟩ := hrel
            by_cases hjl : j < ts.length
            · obtain ⟨b, off, rfl, hca⟩ := HA.out.resolve_left (by omega)
              obtain ⟨d, off2, rfl, hcc⟩ := HC.out.resolve_left (by omega)
              obtain ⟨x0, x1, _⟩ := hca j hjl
              obtain ⟨y0, y1, _⟩ := hcc j hjl
              obtain ⟨hk1, hk2⟩ := ks_get HU.out hjl
              rw [hk1] at y0
              rw [hk2] at y1
              have lb := World.block_lt_of_cell? w3 _ x0
              have ld := World.block_lt_of_cell? w3 _ y0
              replace x0 := (hbj.cell (p := ⟨b, off + j * 3, none⟩) lb).trans x0
              replace x1 := (hbj.cell (p := ⟨b, off + j * 3 + 1, none⟩) lb).trans x1
              replace y0 := (hbj.cell (p := ⟨d, off2 + j * 3, none⟩) ld).trans y0
              replace y1 := (hbj.cell (p := ⟨d, off2 + j * 3 + 1, none⟩) ld).trans y1
              clear hca hcc lb ld hk1 hk2
              revert x0 x1 y0 y1
              generalize (ts.getD j default).kind = tk
              generalize strOfNums (ts.getD j default).s = tS
              intro x0 x1 y0 y1
              go_wp2_with fail
              go_quiet (fail)
              go_wp2
              exact ⟨⟨j + 1, by go_num, by omega, below_drewN hbj _⟩, by simp [intOf]; omega⟩
            · have hje : j = ts.length := by omega
              subst hje
              have hb3 := hb2.trans (hbj.mono hb2.size)
              go_wp2_with (first
                | (go_at_call 11; refine (awake_any _).mono ?_; rintro e w4 ⟨rfl, k⟩; replace hb3 := hb3.trans (k.mono hb3.size); clear k))
              go_ret
              exact ⟨rfl, hb3⟩
theorem LexAgain_walk (s : ByteArray) (long : Bool) (hs : s.size ≤ maxLen) (w : World) :
    Calls Try.prog 5 #[.string s, .bool long] w fun e w' => e = .returned (.bool true) ∧ Below w.heap.size w w' := by
  rcases resL_cases (bl s) with ⟨ts, h, hc, hl⟩ | ⟨p, er, h, her, hp⟩
  · rw [bl_length] at hl
    have hn := cutF_len' _ _ _ _ _ hc
    rw [bl_length] at hn
    exact LexAgain_good s hl long ts h (cut_lies hc) (by simp at hn; omega) w
  · rw [bl_length] at hp
    exact LexAgain_bad s hs long p er h her hp w
end Go.Proofs.Ytnnajiaakfeocaa
