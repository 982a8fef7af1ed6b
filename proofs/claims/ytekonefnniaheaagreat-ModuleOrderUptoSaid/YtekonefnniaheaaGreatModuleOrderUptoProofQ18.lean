/- Texts of the proof of ModuleOrderUptoProof, part 18. -/
import Derived.Test.YtekonefnniaheaaGreatModuleOrderUptoProofQ17
set_option linter.unusedVariables false
set_option linter.unusedVariables false
namespace Go.Proofs.YtekonefnniaheaaGreat
open Go.RowKit Go.Deep
def GivesExp (t : Nat) (g : St) (x : List Value) (w : World) (y : Ending) (w' : World) : Prop :=
  ∃ z0 z1 z2 g', y = .returned (.agg #[.string z0, .int .i64 z1, .int .i64 z2]) ∧ TmAt w' t g' x ∧ Kept (· = t) w w' ∧ Out g expR g' (fun a => Val expE (w.heap.size ≤ ·) w' [.string z0, .int .i64 z1, .int .i64 z2] a)
set_option maxRecDepth 100000 in
set_option maxHeartbeats 4000000 in
theorem tmExport_any (t : Nat) (g : St) (x : List Value) (w : World) (h : TmAt w t g x) :
    Calls Tryz.prog 148 #[.pointer (some ⟨t, 0, none⟩)] w fun y w' => GivesExp t g x w y w' := by
  have ht := h.lt
  have hs0 : ((w.alloc (.cells #[.string ⟨#[]⟩, .int .i64 0, .int .i64 0] 95)).alloc (.cells #[.string ⟨#[]⟩, .int .i64 0, .int .i64 0] 95)).heap.size = w.heap.size + 2 := by simp
  have hba : Below w.heap.size w ((w.alloc (.cells #[.string ⟨#[]⟩, .int .i64 0, .int .i64 0] 95)).alloc (.cells #[.string ⟨#[]⟩, .int .i64 0, .int .i64 0] 95)) := ((Below.refl _ _).alloc (Nat.le_refl _) _).alloc (by simp) _
  have ts0 := h.below hba
  have rs0 : BlkAt ((w.alloc (.cells #[.string ⟨#[]⟩, .int .i64 0, .int .i64 0] 95)).alloc (.cells #[.string ⟨#[]⟩, .int .i64 0, .int .i64 0] 95)) w.heap.size #[.string ⟨#[]⟩, .int .i64 0, .int .i64 0] 95 := (BlkAt.new w #[.string ⟨#[]⟩, .int .i64 0, .int .i64 0] 95).below ((Below.refl _ _).alloc (Nat.le_refl _) _)
  have vs0 : BlkAt ((w.alloc (.cells #[.string ⟨#[]⟩, .int .i64 0, .int .i64 0] 95)).alloc (.cells #[.string ⟨#[]⟩, .int .i64 0, .int .i64 0] 95)) (w.heap.size + 1) #[.string ⟨#[]⟩, .int .i64 0, .int .i64 0] 95 := by
    have := BlkAt.new (w.alloc (.cells #[.string ⟨#[]⟩, .int .i64 0, .int .i64 0] 95)) #[.string ⟨#[]⟩, .int .i64 0, .int .i64 0] 95
    rwa [show (w.alloc (.cells #[.string ⟨#[]⟩, .int .i64 0, .int .i64 0] 95)).heap.size = w.heap.size + 1 by simp] at this
  have K0 : Hid (Kept (fun k => k = t ∨ w.heap.size ≤ k) w ((w.alloc (.cells #[.string ⟨#[]⟩, .int .i64 0, .int .i64 0] 95)).alloc (.cells #[.string ⟨#[]⟩, .int .i64 0, .int .i64 0] 95))) := Lib.hid (Kept.of_below hba)
  have HS0 := Lib.hid hs0
  clear h hba
  go_enter Tryz.func148, Tryz.ntmps148
  go_wp2_with (first
    | (go_at_call 135; refine (tmName_any t _ x _ ts0).mono ?_; rintro y w1 ⟨z0, g1, rfl, h1, t1, k1, o1⟩; have O1 := Lib.hid o1; clear o1; have hz1 := k1.size; have HH1 := Lib.hid h1; clear h1; have v1 := vs0.kept k1 (by omega); have r1 := rs0.kept k1 (by omega); obtain ⟨cv1_0, cv1_1, cv1_2⟩ := BlkAt.cells3 v1; have fv1_0 := v1.frozen 0; have ts1 := (t1).set (b := w.heap.size + 1) (by omega) 0 (.string z0); have vs1 : BlkAt (w1.setCell ⟨w.heap.size + 1, 0, none⟩ (.string z0)) (w.heap.size + 1) #[.string z0, .int .i64 0, .int .i64 0] 95 := (v1).put 0 (.string z0); have rs1 := (r1).other (b' := w.heap.size + 1) (by omega) 0 (.string z0))
    | (go_at_call 166; refine (tmKind_any t _ x _ ts1).mono ?_; rintro y w2 ⟨z1, g2, rfl, h2, t2, k2, o2⟩; have O2 := Lib.hid o2; clear o2; have hz2 := k2.size; have HH2 := Lib.hid h2; clear h2; have v2 := vs1.kept k2 (by omega); have r2 := rs1.kept k2 (by omega); obtain ⟨cv2_0, cv2_1, cv2_2⟩ := BlkAt.cells3 v2; have fv2_1 := v2.frozen 1; have ts2 := (t2).set (b := w.heap.size + 1) (by omega) 1 (.int .i64 z1); have vs2 : BlkAt (w2.setCell ⟨w.heap.size + 1, 1, none⟩ (.int .i64 z1)) (w.heap.size + 1) #[.string z0, .int .i64 z1, .int .i64 0] 95 := (v2).put 1 (.int .i64 z1); have rs2 := (r2).other (b' := w.heap.size + 1) (by omega) 1 (.int .i64 z1))
    | (go_at_call 141; refine (tmNumber_any t _ x _ ts2).mono ?_; rintro y w3 ⟨z2, g3, rfl, h3, t3, k3, o3⟩; have O3 := Lib.hid o3; clear o3; have hz3 := k3.size; have HH3 := Lib.hid h3; clear h3; have v3 := vs2.kept k3 (by omega); have r3 := rs2.kept k3 (by omega); obtain ⟨cv3_0, cv3_1, cv3_2⟩ := BlkAt.cells3 v3; have fv3_2 := v3.frozen 2; obtain ⟨cr3_0, cr3_1, cr3_2⟩ := BlkAt.cells3 r3; have fr3_0 := r3.frozen 0; have fr3_1 := r3.frozen 1; have fr3_2 := r3.frozen 2; have ts3 := (t3).set (b := w.heap.size + 1) (by omega) 2 (.int .i64 z2); have vs3 : BlkAt (w3.setCell ⟨w.heap.size + 1, 2, none⟩ (.int .i64 z2)) (w.heap.size + 1) #[.string z0, .int .i64 z1, .int .i64 z2] 95 := (v3).put 2 (.int .i64 z2); have rs3 := (r3).other (b' := w.heap.size + 1) (by omega) 2 (.int .i64 z2)))
  have TF := (((ts3).set (b := w.heap.size) (by omega) 0 (.string z0)).set (b := w.heap.size) (by omega) 1 (.int .i64 z1)).set (b := w.heap.size) (by omega) 2 (.int .i64 z2)
  have KF := (((((((((K0.out.trans (k1.mono fun _ q => .inl q)).set (p := ⟨w.heap.size + 1, 0, none⟩) (.inr (by show w.heap.size ≤ w.heap.size + 1; omega)) (.string z0)).trans (k2.mono fun _ q => .inl q)).set (p := ⟨w.heap.size + 1, 1, none⟩) (.inr (by show w.heap.size ≤ w.heap.size + 1; omega)) (.int .i64 z1)).trans (k3.mono fun _ q => .inl q)).set (p := ⟨w.heap.size + 1, 2, none⟩) (.inr (by show w.heap.size ≤ w.heap.size + 1; omega)) (.int .i64 z2)).set (p := ⟨w.heap.size, 0, none⟩) (.inr (Nat.le_refl _)) (.string z0)).set (p := ⟨w.heap.size, 1, none⟩) (.inr (Nat.le_refl _)) (.int .i64 z1)).set (p := ⟨w.heap.size, 2, none⟩) (.inr (Nat.le_refl _)) (.int .i64 z2))
  refine bodyPost_ret (v := .agg #[.string z0, .int .i64 z1, .int .i64 z2]) (by simp [results, Tryz.results148, go_sem, cr3_0, cr3_1, cr3_2]) rfl ⟨z0, z1, z2, _, rfl, TF, KF.clean, ?_⟩
  refine O1.out.then (O2.out.then (O3.out.map fun z e => ?_))
  subst e
  have H1 := HH1.out
  have H2 := HH2.out
  have H3 := HH3.out
  exact fun W _ b o hc => ⟨⟨hc 0 _ rfl, hc 1 _ rfl, hc 2 _ rfl⟩, by show z0.size ≤ _; unfold maxLen; omega, by show z1 ≤ _; omega, by show z2 ≤ _; omega⟩
def GivesImp (t : Nat) (g : St) (x : List Value) (w : World) (y : Ending) (w' : World) : Prop :=
  ∃ z0 z1 z2 z3 z4 z5 z6 g', y = .returned (.agg #[.string z0, .string z1, .int .i64 z2, .int .i64 z3, .bool z4, .int .i64 z5, .int .i64 z6]) ∧ TmAt w' t g' x ∧ Kept (· = t) w w' ∧ Out g impR g' (fun a => Val impE (w.heap.size ≤ ·) w' [.string z0, .string z1, .int .i64 z2, .int .i64 z3, .bool z4, .int .i64 z5, .int .i64 z6] a)
theorem val_imp {P : Nat → Prop} {w : World} {z0 z1 : ByteArray} {z2 z3 z5 z6 : Int} {z4 : Bool} (h0 : z0.size ≤ 65536) (h1 : z1.size ≤ 65536) (h2 : z2 ≤ 4294967295) (h3 : z3 ≤ 4294967295) (h5 : z5 ≤ 4294967295) (h6 : z6 ≤ 4294967295) :
    Val impE P w [.string z0, .string z1, .int .i64 z2, .int .i64 z3, .bool z4, .int .i64 z5, .int .i64 z6] ⟨z0, z1, z2, z3, z4, z5, z6⟩ :=
  fun W _ b o hc => ⟨⟨hc 0 _ rfl, hc 1 _ rfl, hc 2 _ rfl, hc 3 _ rfl, hc 4 _ rfl, hc 5 _ rfl, hc 6 _ rfl⟩, by show z0.size ≤ _; unfold maxLen; omega, by show z1.size ≤ _; unfold maxLen; omega, by show z2 ≤ _; omega, by show z3 ≤ _; omega, by show z5 ≤ _; omega, by show z6 ≤ _; omega⟩
set_option maxRecDepth 100000 in
set_option maxHeartbeats 4000000 in
theorem tmImported_any (t : Nat) (g : St) (x : List Value) (w : World) (h : TmAt w t g x) :
    Calls Tryz.prog 139 #[.pointer (some ⟨t, 0, none⟩)] w fun y w' => GivesImp t g x w y w' := by
  have ht := h.lt
  have hs0 : ((w.alloc (.cells #[.string ⟨#[]⟩, .string ⟨#[]⟩, .int .i64 0, .int .i64 0, .bool false, .int .i64 0, .int .i64 0] 85)).alloc (.cells #[.string ⟨#[]⟩, .string ⟨#[]⟩, .int .i64 0, .int .i64 0, .bool false, .int .i64 0, .int .i64 0] 85)).heap.size = w.heap.size + 2 := by simp
  have hba : Below w.heap.size w ((w.alloc (.cells #[.string ⟨#[]⟩, .string ⟨#[]⟩, .int .i64 0, .int .i64 0, .bool false, .int .i64 0, .int .i64 0] 85)).alloc (.cells #[.string ⟨#[]⟩, .string ⟨#[]⟩, .int .i64 0, .int .i64 0, .bool false, .int .i64 0, .int .i64 0] 85)) := ((Below.refl _ _).alloc (Nat.le_refl _) _).alloc (by simp) _
  have ts0 := h.below hba
  have rs0 : BlkAt ((w.alloc (.cells #[.string ⟨#[]⟩, .string ⟨#[]⟩, .int .i64 0, .int .i64 0, .bool false, .int .i64 0, .int .i64 0] 85)).alloc (.cells #[.string ⟨#[]⟩, .string ⟨#[]⟩, .int .i64 0, .int .i64 0, .bool false, .int .i64 0, .int .i64 0] 85)) w.heap.size #[.string ⟨#[]⟩, .string ⟨#[]⟩, .int .i64 0, .int .i64 0, .bool false, .int .i64 0, .int .i64 0] 85 := (BlkAt.new w #[.string ⟨#[]⟩, .string ⟨#[]⟩, .int .i64 0, .int .i64 0, .bool false, .int .i64 0, .int .i64 0] 85).below ((Below.refl _ _).alloc (Nat.le_refl _) _)
  have vs0 : BlkAt ((w.alloc (.cells #[.string ⟨#[]⟩, .string ⟨#[]⟩, .int .i64 0, .int .i64 0, .bool false, .int .i64 0, .int .i64 0] 85)).alloc (.cells #[.string ⟨#[]⟩, .string ⟨#[]⟩, .int .i64 0, .int .i64 0, .bool false, .int .i64 0, .int .i64 0] 85)) (w.heap.size + 1) #[.string ⟨#[]⟩, .string ⟨#[]⟩, .int .i64 0, .int .i64 0, .bool false, .int .i64 0, .int .i64 0] 85 := by
    have := BlkAt.new (w.alloc (.cells #[.string ⟨#[]⟩, .string ⟨#[]⟩, .int .i64 0, .int .i64 0, .bool false, .int .i64 0, .int .i64 0] 85)) #[.string ⟨#[]⟩, .string ⟨#[]⟩, .int .i64 0, .int .i64 0, .bool false, .int .i64 0, .int .i64 0] 85
    rwa [show (w.alloc (.cells #[.string ⟨#[]⟩, .string ⟨#[]⟩, .int .i64 0, .int .i64 0, .bool false, .int .i64 0, .int .i64 0] 85)).heap.size = w.heap.size + 1 by simp] at this
  have K0 : Hid (Kept (fun k => k = t ∨ w.heap.size ≤ k) w ((w.alloc (.cells #[.string ⟨#[]⟩, .string ⟨#[]⟩, .int .i64 0, .int .i64 0, .bool false, .int .i64 0, .int .i64 0] 85)).alloc (.cells #[.string ⟨#[]⟩, .string ⟨#[]⟩, .int .i64 0, .int .i64 0, .bool false, .int .i64 0, .int .i64 0] 85))) := Lib.hid (Kept.of_below hba)
  clear h hba
  go_enter Tryz.func139, Tryz.ntmps139
  go_wp2_with (first
    | (go_at_call 135; refine (tmName_any t _ x _ ts0).mono ?_; rintro y w1 ⟨z0, g1, rfl, h1, t1, k1, o1⟩; have O1 := Lib.hid o1; clear o1; have hz1 := k1.size; have HH1 := Lib.hid h1; clear h1; have v1 := vs0.kept k1 (by omega); have r1 := rs0.kept k1 (by omega); obtain ⟨cv1_0, cv1_1, cv1_2, cv1_3, cv1_4, cv1_5, cv1_6⟩ := BlkAt.cells7 v1; have fv1_0 := v1.frozen 0; have ts1 := (t1).set (b := w.heap.size + 1) (by omega) 0 (.string z0); have vs1 : BlkAt (w1.setCell ⟨w.heap.size + 1, 0, none⟩ (.string z0)) (w.heap.size + 1) #[.string z0, .string ⟨#[]⟩, .int .i64 0, .int .i64 0, .bool false, .int .i64 0, .int .i64 0] 85 := (v1).put 0 (.string z0); have rs1 := (r1).other (b' := w.heap.size + 1) (by omega) 0 (.string z0); clear ts0)
    | (go_at_call 135; refine (tmName_any t _ x _ ts1).mono ?_; rintro y w2 ⟨z1, g2, rfl, h2, t2, k2, o2⟩; have O2 := Lib.hid o2; clear o2; have hz2 := k2.size; have HH2 := Lib.hid h2; clear h2; have v2 := vs1.kept k2 (by omega); have r2 := rs1.kept k2 (by omega); obtain ⟨cv2_0, cv2_1, cv2_2, cv2_3, cv2_4, cv2_5, cv2_6⟩ := BlkAt.cells7 v2; have fv2_1 := v2.frozen 1; have ts2 := (t2).set (b := w.heap.size + 1) (by omega) 1 (.string z1); have vs2 : BlkAt (w2.setCell ⟨w.heap.size + 1, 1, none⟩ (.string z1)) (w.heap.size + 1) #[.string z0, .string z1, .int .i64 0, .int .i64 0, .bool false, .int .i64 0, .int .i64 0] 85 := (v2).put 1 (.string z1); have rs2 := (r2).other (b' := w.heap.size + 1) (by omega) 1 (.string z1); clear ts1)
    | (go_at_call 166; refine (tmKind_any t _ x _ ts2).mono ?_; rintro y w3 ⟨z2, g3, rfl, h3, t3, k3, o3⟩; have O3 := Lib.hid o3; clear o3; have hz3 := k3.size; have HH3 := Lib.hid h3; clear h3; have v3 := vs2.kept k3 (by omega); have r3 := rs2.kept k3 (by omega); obtain ⟨cv3_0, cv3_1, cv3_2, cv3_3, cv3_4, cv3_5, cv3_6⟩ := BlkAt.cells7 v3; have fv3_2 := v3.frozen 2; obtain ⟨cr3_0, cr3_1, cr3_2, cr3_3, cr3_4, cr3_5, cr3_6⟩ := BlkAt.cells7 r3; have fr3_0 := r3.frozen 0; have fr3_1 := r3.frozen 1; have fr3_2 := r3.frozen 2; have fr3_3 := r3.frozen 3; have fr3_4 := r3.frozen 4; have fr3_5 := r3.frozen 5; have fr3_6 := r3.frozen 6; have ts3 := (t3).set (b := w.heap.size + 1) (by omega) 2 (.int .i64 z2); have vs3 : BlkAt (w3.setCell ⟨w.heap.size + 1, 2, none⟩ (.int .i64 z2)) (w.heap.size + 1) #[.string z0, .string z1, .int .i64 z2, .int .i64 0, .bool false, .int .i64 0, .int .i64 0] 85 := (v3).put 2 (.int .i64 z2); have rs3 := (r3).other (b' := w.heap.size + 1) (by omega) 2 (.int .i64 z2); clear ts2)
    | (go_at_call 141; refine (tmNumber_any t _ x _ ts3).mono ?_; rintro y w4a ⟨z3, g4a, rfl, h4, t4a, k4a, o4a⟩; have O4a := Lib.hid o4a; clear o4a; have hz4a := k4a.size; have HH4a := Lib.hid h4; clear h4; have v4a := vs3.kept k4a (by omega); have r4a := rs3.kept k4a (by omega); obtain ⟨cv4a_0, cv4a_1, cv4a_2, cv4a_3, cv4a_4, cv4a_5, cv4a_6⟩ := BlkAt.cells7 v4a; have fv4a_3 := v4a.frozen 3; obtain ⟨cr4a_0, cr4a_1, cr4a_2, cr4a_3, cr4a_4, cr4a_5, cr4a_6⟩ := BlkAt.cells7 r4a; have fr4a_0 := r4a.frozen 0; have fr4a_1 := r4a.frozen 1; have fr4a_2 := r4a.frozen 2; have fr4a_3 := r4a.frozen 3; have fr4a_4 := r4a.frozen 4; have fr4a_5 := r4a.frozen 5; have fr4a_6 := r4a.frozen 6; have ts4a := (t4a).set (b := w.heap.size + 1) (by omega) 3 (.int .i64 z3); have vs4a : BlkAt (w4a.setCell ⟨w.heap.size + 1, 3, none⟩ (.int .i64 z3)) (w.heap.size + 1) #[.string z0, .string z1, .int .i64 z2, .int .i64 z3, .bool false, .int .i64 0, .int .i64 0] 85 := (v4a).put 3 (.int .i64 z3); have rs4a := (r4a).other (b' := w.heap.size + 1) (by omega) 3 (.int .i64 z3); clear ts3)
    | (go_at_call 143; refine (tmTable_any t _ x _ ts3).mono ?_; rintro y w4b ⟨z5, z6, g4b, rfl, h4, t4b, k4b, o4b⟩; have O4b := Lib.hid o4b; clear o4b; have hz4b := k4b.size; have HH4b := Lib.hid h4; clear h4; have v4b := vs3.kept k4b (by omega); have r4b := rs3.kept k4b (by omega); obtain ⟨cv4b_0, cv4b_1, cv4b_2, cv4b_3, cv4b_4, cv4b_5, cv4b_6⟩ := BlkAt.cells7 v4b; have fv4b_5 := v4b.frozen 5; have fv4b_6 := v4b.frozen 6; obtain ⟨cr4b_0, cr4b_1, cr4b_2, cr4b_3, cr4b_4, cr4b_5, cr4b_6⟩ := BlkAt.cells7 r4b; have fr4b_0 := r4b.frozen 0; have fr4b_1 := r4b.frozen 1; have fr4b_2 := r4b.frozen 2; have fr4b_3 := r4b.frozen 3; have fr4b_4 := r4b.frozen 4; have fr4b_5 := r4b.frozen 5; have fr4b_6 := r4b.frozen 6; have ts4b := ((t4b).set (b := w.heap.size + 1) (by omega) 5 (.int .i64 z5)).set (b := w.heap.size + 1) (by omega) 6 (.int .i64 z6); have vs4b : BlkAt ((w4b.setCell ⟨w.heap.size + 1, 5, none⟩ (.int .i64 z5)).setCell ⟨w.heap.size + 1, 6, none⟩ (.int .i64 z6)) (w.heap.size + 1) #[.string z0, .string z1, .int .i64 z2, .int .i64 0, .bool false, .int .i64 z5, .int .i64 z6] 85 := ((v4b).put 5 (.int .i64 z5)).put 6 (.int .i64 z6); have rs4b := ((r4b).other (b' := w.heap.size + 1) (by omega) 5 (.int .i64 z5)).other (b' := w.heap.size + 1) (by omega) 6 (.int .i64 z6); clear ts3)
    | (go_at_call 144; refine (tmLimits_any t _ x _ ts3).mono ?_; rintro y w4c ⟨z5, z6, g4c, rfl, h4, t4c, k4c, o4c⟩; have O4c := Lib.hid o4c; clear o4c; have hz4c := k4c.size; have HH4c := Lib.hid h4; clear h4; have v4c := vs3.kept k4c (by omega); have r4c := rs3.kept k4c (by omega); obtain ⟨cv4c_0, cv4c_1, cv4c_2, cv4c_3, cv4c_4, cv4c_5, cv4c_6⟩ := BlkAt.cells7 v4c; have fv4c_5 := v4c.frozen 5; have fv4c_6 := v4c.frozen 6; obtain ⟨cr4c_0, cr4c_1, cr4c_2, cr4c_3, cr4c_4, cr4c_5, cr4c_6⟩ := BlkAt.cells7 r4c; have fr4c_0 := r4c.frozen 0; have fr4c_1 := r4c.frozen 1; have fr4c_2 := r4c.frozen 2; have fr4c_3 := r4c.frozen 3; have fr4c_4 := r4c.frozen 4; have fr4c_5 := r4c.frozen 5; have fr4c_6 := r4c.frozen 6; have ts4c := ((t4c).set (b := w.heap.size + 1) (by omega) 5 (.int .i64 z5)).set (b := w.heap.size + 1) (by omega) 6 (.int .i64 z6); have vs4c : BlkAt ((w4c.setCell ⟨w.heap.size + 1, 5, none⟩ (.int .i64 z5)).setCell ⟨w.heap.size + 1, 6, none⟩ (.int .i64 z6)) (w.heap.size + 1) #[.string z0, .string z1, .int .i64 z2, .int .i64 0, .bool false, .int .i64 z5, .int .i64 z6] 85 := ((v4c).put 5 (.int .i64 z5)).put 6 (.int .i64 z6); have rs4c := ((r4c).other (b' := w.heap.size + 1) (by omega) 5 (.int .i64 z5)).other (b' := w.heap.size + 1) (by omega) 6 (.int .i64 z6); clear ts3)
    | (go_at_call 165; refine (tmTyp_any t _ x _ ts3).mono ?_; rintro y w4d ⟨z3, g4d, rfl, h4, t4d, k4d, o4d⟩; have O4d := Lib.hid o4d; clear o4d; have hz4d := k4d.size; have HH4d := Lib.hid h4; clear h4; have v4d := vs3.kept k4d (by omega); have r4d := rs3.kept k4d (by omega); obtain ⟨cv4d_0, cv4d_1, cv4d_2, cv4d_3, cv4d_4, cv4d_5, cv4d_6⟩ := BlkAt.cells7 v4d; have fv4d_3 := v4d.frozen 3; have ts4d := (t4d).set (b := w.heap.size + 1) (by omega) 3 (.int .i64 z3); have vs4d : BlkAt (w4d.setCell ⟨w.heap.size + 1, 3, none⟩ (.int .i64 z3)) (w.heap.size + 1) #[.string z0, .string z1, .int .i64 z2, .int .i64 z3, .bool false, .int .i64 0, .int .i64 0] 85 := (v4d).put 3 (.int .i64 z3); have rs4d := (r4d).other (b' := w.heap.size + 1) (by omega) 3 (.int .i64 z3); clear ts3)
    | (go_at_call 167; refine (tmYes_any t _ x _ ts4d).mono ?_; rintro y w5d ⟨z4, g5d, rfl, t5d, k5d, o5d⟩; have O5d := Lib.hid o5d; clear o5d; have hz5d := k5d.size; have v5d := vs4d.kept k5d (by omega); have r5d := rs4d.kept k5d (by omega); obtain ⟨cv5d_0, cv5d_1, cv5d_2, cv5d_3, cv5d_4, cv5d_5, cv5d_6⟩ := BlkAt.cells7 v5d; have fv5d_4 := v5d.frozen 4; obtain ⟨cr5d_0, cr5d_1, cr5d_2, cr5d_3, cr5d_4, cr5d_5, cr5d_6⟩ := BlkAt.cells7 r5d; have fr5d_0 := r5d.frozen 0; have fr5d_1 := r5d.frozen 1; have fr5d_2 := r5d.frozen 2; have fr5d_3 := r5d.frozen 3; have fr5d_4 := r5d.frozen 4; have fr5d_5 := r5d.frozen 5; have fr5d_6 := r5d.frozen 6; have ts5d := (t5d).set (b := w.heap.size + 1) (by omega) 4 (.bool z4); have vs5d : BlkAt (w5d.setCell ⟨w.heap.size + 1, 4, none⟩ (.bool z4)) (w.heap.size + 1) #[.string z0, .string z1, .int .i64 z2, .int .i64 z3, .bool z4, .int .i64 0, .int .i64 0] 85 := (v5d).put 4 (.bool z4); have rs5d := (r5d).other (b' := w.heap.size + 1) (by omega) 4 (.bool z4); clear ts4d))
  · have hk : z2 = 0 := by
      have h : (z2 == 0) = true := by assumption
      simpa using h
    subst hk
    have TF := (((((((ts4a).set (b := w.heap.size) (by omega) 0 (.string z0)).set (b := w.heap.size) (by omega) 1 (.string z1)).set (b := w.heap.size) (by omega) 2 (.int .i64 0)).set (b := w.heap.size) (by omega) 3 (.int .i64 z3)).set (b := w.heap.size) (by omega) 4 (.bool false)).set (b := w.heap.size) (by omega) 5 (.int .i64 0)).set (b := w.heap.size) (by omega) 6 (.int .i64 0)
    have KF := (((((((((((((((K0.out.trans (k1.mono fun _ q => .inl q)).set (p := ⟨w.heap.size + 1, 0, none⟩) (.inr (by show w.heap.size ≤ w.heap.size + 1; omega)) (.string z0)).trans (k2.mono fun _ q => .inl q)).set (p := ⟨w.heap.size + 1, 1, none⟩) (.inr (by show w.heap.size ≤ w.heap.size + 1; omega)) (.string z1)).trans (k3.mono fun _ q => .inl q)).set (p := ⟨w.heap.size + 1, 2, none⟩) (.inr (by show w.heap.size ≤ w.heap.size + 1; omega)) (.int .i64 0)).trans (k4a.mono fun _ q => .inl q)).set (p := ⟨w.heap.size + 1, 3, none⟩) (.inr (by show w.heap.size ≤ w.heap.size + 1; omega)) (.int .i64 z3)).set (p := ⟨w.heap.size, 0, none⟩) (.inr (Nat.le_refl _)) (.string z0)).set (p := ⟨w.heap.size, 1, none⟩) (.inr (Nat.le_refl _)) (.string z1)).set (p := ⟨w.heap.size, 2, none⟩) (.inr (Nat.le_refl _)) (.int .i64 0)).set (p := ⟨w.heap.size, 3, none⟩) (.inr (Nat.le_refl _)) (.int .i64 z3)).set (p := ⟨w.heap.size, 4, none⟩) (.inr (Nat.le_refl _)) (.bool false)).set (p := ⟨w.heap.size, 5, none⟩) (.inr (Nat.le_refl _)) (.int .i64 0)).set (p := ⟨w.heap.size, 6, none⟩) (.inr (Nat.le_refl _)) (.int .i64 0))
    refine bodyPost_ret (v := .agg #[.string z0, .string z1, .int .i64 0, .int .i64 z3, .bool false, .int .i64 0, .int .i64 0]) (by simp [results, Tryz.results139, go_sem, cr4a_0, cr4a_1, cr4a_2, cr4a_3, cr4a_4, cr4a_5, cr4a_6]) rfl ⟨z0, z1, 0, z3, false, 0, 0, _, rfl, TF, KF.clean, ?_⟩
    refine O1.out.then (O2.out.then (O3.out.then ?_))
    show Out g3 (impK2 z0 z1 0) _ _
    unfold impK2
    have H1 := HH1.out
    have H2 := HH2.out
    have H3 := HH3.out
    have H4 := HH4a.out
    rw [if_pos rfl]
    exact O4a.out.map fun z e => by subst e; exact val_imp H1 H2 (by omega) (by omega) (by omega) (by omega)
  · have hk : z2 = 1 := by
      have h : (z2 == 1) = true := by assumption
      simpa using h
    subst hk
    have TF := (((((((ts4b).set (b := w.heap.size) (by omega) 0 (.string z0)).set (b := w.heap.size) (by omega) 1 (.string z1)).set (b := w.heap.size) (by omega) 2 (.int .i64 1)).set (b := w.heap.size) (by omega) 3 (.int .i64 0)).set (b := w.heap.size) (by omega) 4 (.bool false)).set (b := w.heap.size) (by omega) 5 (.int .i64 z5)).set (b := w.heap.size) (by omega) 6 (.int .i64 z6)
    have KF := ((((((((((((((((K0.out.trans (k1.mono fun _ q => .inl q)).set (p := ⟨w.heap.size + 1, 0, none⟩) (.inr (by show w.heap.size ≤ w.heap.size + 1; omega)) (.string z0)).trans (k2.mono fun _ q => .inl q)).set (p := ⟨w.heap.size + 1, 1, none⟩) (.inr (by show w.heap.size ≤ w.heap.size + 1; omega)) (.string z1)).trans (k3.mono fun _ q => .inl q)).set (p := ⟨w.heap.size + 1, 2, none⟩) (.inr (by show w.heap.size ≤ w.heap.size + 1; omega)) (.int .i64 1)).trans (k4b.mono fun _ q => .inl q)).set (p := ⟨w.heap.size + 1, 5, none⟩) (.inr (by show w.heap.size ≤ w.heap.size + 1; omega)) (.int .i64 z5)).set (p := ⟨w.heap.size + 1, 6, none⟩) (.inr (by show w.heap.size ≤ w.heap.size + 1; omega)) (.int .i64 z6)).set (p := ⟨w.heap.size, 0, none⟩) (.inr (Nat.le_refl _)) (.string z0)).set (p := ⟨w.heap.size, 1, none⟩) (.inr (Nat.le_refl _)) (.string z1)).set (p := ⟨w.heap.size, 2, none⟩) (.inr (Nat.le_refl _)) (.int .i64 1)).set (p := ⟨w.heap.size, 3, none⟩) (.inr (Nat.le_refl _)) (.int .i64 0)).set (p := ⟨w.heap.size, 4, none⟩) (.inr (Nat.le_refl _)) (.bool false)).set (p := ⟨w.heap.size, 5, none⟩) (.inr (Nat.le_refl _)) (.int .i64 z5)).set (p := ⟨w.heap.size, 6, none⟩) (.inr (Nat.le_refl _)) (.int .i64 z6))
    refine bodyPost_ret (v := .agg #[.string z0, .string z1, .int .i64 1, .int .i64 0, .bool false, .int .i64 z5, .int .i64 z6]) (by simp [results, Tryz.results139, go_sem, cr4b_0, cr4b_1, cr4b_2, cr4b_3, cr4b_4, cr4b_5, cr4b_6]) rfl ⟨z0, z1, 1, 0, false, z5, z6, _, rfl, TF, KF.clean, ?_⟩
    refine O1.out.then (O2.out.then (O3.out.then ?_))
    show Out g3 (impK2 z0 z1 1) _ _
    unfold impK2
    have H1 := HH1.out
    have H2 := HH2.out
    have H3 := HH3.out
    have H4 := HH4b.out
    rw [if_neg (by decide), if_pos rfl]
    exact O4b.out.map fun z e => by subst e; exact val_imp H1 H2 (by omega) (by omega) (by omega) (by omega)
  · have hk : z2 = 2 := by
      have h : (z2 == 2) = true := by assumption
      simpa using h
    subst hk
    have TF := (((((((ts4c).set (b := w.heap.size) (by omega) 0 (.string z0)).set (b := w.heap.size) (by omega) 1 (.string z1)).set (b := w.heap.size) (by omega) 2 (.int .i64 2)).set (b := w.heap.size) (by omega) 3 (.int .i64 0)).set (b := w.heap.size) (by omega) 4 (.bool false)).set (b := w.heap.size) (by omega) 5 (.int .i64 z5)).set (b := w.heap.size) (by omega) 6 (.int .i64 z6)
    have KF := ((((((((((((((((K0.out.trans (k1.mono fun _ q => .inl q)).set (p := ⟨w.heap.size + 1, 0, none⟩) (.inr (by show w.heap.size ≤ w.heap.size + 1; omega)) (.string z0)).trans (k2.mono fun _ q => .inl q)).set (p := ⟨w.heap.size + 1, 1, none⟩) (.inr (by show w.heap.size ≤ w.heap.size + 1; omega)) (.string z1)).trans (k3.mono fun _ q => .inl q)).set (p := ⟨w.heap.size + 1, 2, none⟩) (.inr (by show w.heap.size ≤ w.heap.size + 1; omega)) (.int .i64 2)).trans (k4c.mono fun _ q => .inl q)).set (p := ⟨w.heap.size + 1, 5, none⟩) (.inr (by show w.heap.size ≤ w.heap.size + 1; omega)) (.int .i64 z5)).set (p := ⟨w.heap.size + 1, 6, none⟩) (.inr (by show w.heap.size ≤ w.heap.size + 1; omega)) (.int .i64 z6)).set (p := ⟨w.heap.size, 0, none⟩) (.inr (Nat.le_refl _)) (.string z0)).set (p := ⟨w.heap.size, 1, none⟩) (.inr (Nat.le_refl _)) (.string z1)).set (p := ⟨w.heap.size, 2, none⟩) (.inr (Nat.le_refl _)) (.int .i64 2)).set (p := ⟨w.heap.size, 3, none⟩) (.inr (Nat.le_refl _)) (.int .i64 0)).set (p := ⟨w.heap.size, 4, none⟩) (.inr (Nat.le_refl _)) (.bool false)).set (p := ⟨w.heap.size, 5, none⟩) (.inr (Nat.le_refl _)) (.int .i64 z5)).set (p := ⟨w.heap.size, 6, none⟩) (.inr (Nat.le_refl _)) (.int .i64 z6))
    refine bodyPost_ret (v := .agg #[.string z0, .string z1, .int .i64 2, .int .i64 0, .bool false, .int .i64 z5, .int .i64 z6]) (by simp [results, Tryz.results139, go_sem, cr4c_0, cr4c_1, cr4c_2, cr4c_3, cr4c_4, cr4c_5, cr4c_6]) rfl ⟨z0, z1, 2, 0, false, z5, z6, _, rfl, TF, KF.clean, ?_⟩
    refine O1.out.then (O2.out.then (O3.out.then ?_))
    show Out g3 (impK2 z0 z1 2) _ _
    unfold impK2
    have H1 := HH1.out
    have H2 := HH2.out
    have H3 := HH3.out
    have H4 := HH4c.out
    rw [if_neg (by decide), if_neg (by decide), if_pos rfl]
    exact O4c.out.map fun z e => by subst e; exact val_imp H1 H2 (by omega) (by omega) (by omega) (by omega)
  · have hk : z2 = 3 := by
      have h : (z2 == 3) = true := by assumption
      simpa using h
    subst hk
    have TF := (((((((ts5d).set (b := w.heap.size) (by omega) 0 (.string z0)).set (b := w.heap.size) (by omega) 1 (.string z1)).set (b := w.heap.size) (by omega) 2 (.int .i64 3)).set (b := w.heap.size) (by omega) 3 (.int .i64 z3)).set (b := w.heap.size) (by omega) 4 (.bool z4)).set (b := w.heap.size) (by omega) 5 (.int .i64 0)).set (b := w.heap.size) (by omega) 6 (.int .i64 0)
    have KF := (((((((((((((((((K0.out.trans (k1.mono fun _ q => .inl q)).set (p := ⟨w.heap.size + 1, 0, none⟩) (.inr (by show w.heap.size ≤ w.heap.size + 1; omega)) (.string z0)).trans (k2.mono fun _ q => .inl q)).set (p := ⟨w.heap.size + 1, 1, none⟩) (.inr (by show w.heap.size ≤ w.heap.size + 1; omega)) (.string z1)).trans (k3.mono fun _ q => .inl q)).set (p := ⟨w.heap.size + 1, 2, none⟩) (.inr (by show w.heap.size ≤ w.heap.size + 1; omega)) (.int .i64 3)).trans (k4d.mono fun _ q => .inl q)).set (p := ⟨w.heap.size + 1, 3, none⟩) (.inr (by show w.heap.size ≤ w.heap.size + 1; omega)) (.int .i64 z3)).trans (k5d.mono fun _ q => .inl q)).set (p := ⟨w.heap.size + 1, 4, none⟩) (.inr (by show w.heap.size ≤ w.heap.size + 1; omega)) (.bool z4)).set (p := ⟨w.heap.size, 0, none⟩) (.inr (Nat.le_refl _)) (.string z0)).set (p := ⟨w.heap.size, 1, none⟩) (.inr (Nat.le_refl _)) (.string z1)).set (p := ⟨w.heap.size, 2, none⟩) (.inr (Nat.le_refl _)) (.int .i64 3)).set (p := ⟨w.heap.size, 3, none⟩) (.inr (Nat.le_refl _)) (.int .i64 z3)).set (p := ⟨w.heap.size, 4, none⟩) (.inr (Nat.le_refl _)) (.bool z4)).set (p := ⟨w.heap.size, 5, none⟩) (.inr (Nat.le_refl _)) (.int .i64 0)).set (p := ⟨w.heap.size, 6, none⟩) (.inr (Nat.le_refl _)) (.int .i64 0))
    refine bodyPost_ret (v := .agg #[.string z0, .string z1, .int .i64 3, .int .i64 z3, .bool z4, .int .i64 0, .int .i64 0]) (by simp [results, Tryz.results139, go_sem, cr5d_0, cr5d_1, cr5d_2, cr5d_3, cr5d_4, cr5d_5, cr5d_6]) rfl ⟨z0, z1, 3, z3, z4, 0, 0, _, rfl, TF, KF.clean, ?_⟩
    refine O1.out.then (O2.out.then (O3.out.then ?_))
    show Out g3 (impK2 z0 z1 3) _ _
    unfold impK2
    have H1 := HH1.out
    have H2 := HH2.out
    have H3 := HH3.out
    have H4 := HH4d.out
    rw [if_neg (by decide), if_neg (by decide), if_neg (by decide), if_pos rfl]
    exact O4d.out.then (O5d.out.map fun z e => by subst e; exact val_imp H1 H2 (by omega) (by omega) (by omega) (by omega))
  · have e0 : (z2 == 0) = false := by assumption
    have e1 : (z2 == 1) = false := by assumption
    have e2 : (z2 == 2) = false := by assumption
    have e3 : (z2 == 3) = false := by assumption
    have n0 : ¬ z2 = 0 := by simpa using e0
    have n1 : ¬ z2 = 1 := by simpa using e1
    have n2 : ¬ z2 = 2 := by simpa using e2
    have n3 : ¬ z2 = 3 := by simpa using e3
    have TF := (((((((ts3).set (b := w.heap.size) (by omega) 0 (.string z0)).set (b := w.heap.size) (by omega) 1 (.string z1)).set (b := w.heap.size) (by omega) 2 (.int .i64 z2)).set (b := w.heap.size) (by omega) 3 (.int .i64 0)).set (b := w.heap.size) (by omega) 4 (.bool false)).set (b := w.heap.size) (by omega) 5 (.int .i64 0)).set (b := w.heap.size) (by omega) 6 (.int .i64 0)
    have KF := (((((((((((((K0.out.trans (k1.mono fun _ q => .inl q)).set (p := ⟨w.heap.size + 1, 0, none⟩) (.inr (by show w.heap.size ≤ w.heap.size + 1; omega)) (.string z0)).trans (k2.mono fun _ q => .inl q)).set (p := ⟨w.heap.size + 1, 1, none⟩) (.inr (by show w.heap.size ≤ w.heap.size + 1; omega)) (.string z1)).trans (k3.mono fun _ q => .inl q)).set (p := ⟨w.heap.size + 1, 2, none⟩) (.inr (by show w.heap.size ≤ w.heap.size + 1; omega)) (.int .i64 z2)).set (p := ⟨w.heap.size, 0, none⟩) (.inr (Nat.le_refl _)) (.string z0)).set (p := ⟨w.heap.size, 1, none⟩) (.inr (Nat.le_refl _)) (.string z1)).set (p := ⟨w.heap.size, 2, none⟩) (.inr (Nat.le_refl _)) (.int .i64 z2)).set (p := ⟨w.heap.size, 3, none⟩) (.inr (Nat.le_refl _)) (.int .i64 0)).set (p := ⟨w.heap.size, 4, none⟩) (.inr (Nat.le_refl _)) (.bool false)).set (p := ⟨w.heap.size, 5, none⟩) (.inr (Nat.le_refl _)) (.int .i64 0)).set (p := ⟨w.heap.size, 6, none⟩) (.inr (Nat.le_refl _)) (.int .i64 0))
    refine bodyPost_ret (v := .agg #[.string z0, .string z1, .int .i64 z2, .int .i64 0, .bool false, .int .i64 0, .int .i64 0]) (by simp [results, Tryz.results139, go_sem, cr3_0, cr3_1, cr3_2, cr3_3, cr3_4, cr3_5, cr3_6]) rfl ⟨z0, z1, z2, 0, false, 0, 0, _, rfl, TF, KF.clean, ?_⟩
    refine O1.out.then (O2.out.then (O3.out.then ?_))
    show Out g3 (impK2 z0 z1 z2) _ _
    unfold impK2
    have H1 := HH1.out
    have H2 := HH2.out
    have H3 := HH3.out
    rw [if_neg n0, if_neg n1, if_neg n2, if_neg n3]
    exact Out.pure (val_imp H1 H2 (by omega) (by omega) (by omega) (by omega))
theorem SlV.later {α : Type} [Inhabited α] {E : World → Nat → Nat → α → Prop} {m B B' : Nat} {F : Nat → Prop} {w w1 : World} {a : Option Addr} {len cap : Nat} {ls : List α} (h : SlV E m B w a len cap ls) (k : Kept F w w1) (hF : ∀ i, F i → i < B) (hB : B' ≤ B) : SlV E m B' w1 a len cap ls :=
  fun W hW => h W (hW.next (k.agree fun i hi _ q => by have := hF i q; omega) k.size fun i hi _ => Nat.le_trans hB hi)
theorem Val.later {α : Type} {E : World → Nat → Nat → α → Prop} {B B' : Nat} {F : Nat → Prop} {w w1 : World} {us : List Value} {a : α} (h : Val E (B ≤ ·) w us a) (k : Kept F w w1) (hF : ∀ i, F i → i < B) (hB : B' ≤ B) : Val E (B' ≤ ·) w1 us a :=
  h.next (k.agree fun i hi _ q => by have := hF i q; omega) k.size fun i hi _ => Nat.le_trans hB hi
theorem val_ft {B : Nat} {w : World} {a0 a1 : Option Addr} {l0 c0 l1 c1 : Nat} {p r : List Int} (h0 : SlV intE 1 B w a0 l0 c0 p) (h1 : SlV intE 1 B w a1 l1 c1 r) : Val ftE (B ≤ ·) w [.slice a0 l0 c0, .slice a1 l1 c1] ⟨p, r⟩ := by
  have e0 := h0.now.eq
  have e1 := h1.now.eq
  subst e0 e1
  exact fun W hW b o hc => ⟨a0, c0, a1, c1, ⟨hc 0 _ rfl, hc 1 _ rfl⟩, (h0 W hW).ints, (h1 W hW).ints⟩
def GivesFt (t : Nat) (g : St) (x : List Value) (w : World) (y : Ending) (w' : World) : Prop :=
  ∃ z0 z1 z2 z3 z4 z5 g', y = .returned (.agg #[.slice z0 z1 z2, .slice z3 z4 z5]) ∧ TmAt w' t g' x ∧ Kept (· = t) w w' ∧ Out g ftR g' (fun a => Val ftE (w.heap.size ≤ ·) w' [.slice z0 z1 z2, .slice z3 z4 z5] a)
set_option maxRecDepth 100000 in
set_option maxHeartbeats 4000000 in
theorem tmFuncType_any (t : Nat) (g : St) (x : List Value) (w : World) (h : TmAt w t g x) :
    Calls Tryz.prog 137 #[.pointer (some ⟨t, 0, none⟩)] w fun y w' => GivesFt t g x w y w' := by
  have ht := h.lt
  have hba : Below w.heap.size w (w.alloc (.cells #[.slice none 0 0, .slice none 0 0] 54)) := (Below.refl _ _).alloc (Nat.le_refl _) _
  have hs0 : (w.alloc (.cells #[.slice none 0 0, .slice none 0 0] 54)).heap.size = w.heap.size + 1 := by simp
  have ts0 := h.below hba
  have rs0 := BlkAt.new w #[.slice none 0 0, .slice none 0 0] 54
  have K0 : Hid (Kept (fun k => k = t ∨ w.heap.size ≤ k) w (w.alloc (.cells #[.slice none 0 0, .slice none 0 0] 54))) := Lib.hid (Kept.of_below hba)
  have HB := Lib.hid (tmOnly_any t g x 96 _ ts0)
  clear h hba
  go_enter Tryz.func137, Tryz.ntmps137
  go_wp2_with (first
    | (go_at_call 164; refine HB.out.mono ?_; rintro y w1 ⟨g1, rfl, t1, k1, o1⟩; have O1 := Lib.hid o1; clear o1 HB; have hz1 := k1.size; have r1 := rs0.kept k1 (by omega)
       have hb1 : Below w1.heap.size w1 (w1.alloc (.cells #[.slice none 0 0, .slice none 0 0] 54)) := (Below.refl _ _).alloc (Nat.le_refl _) _
       have hs1 : (w1.alloc (.cells #[.slice none 0 0, .slice none 0 0] 54)).heap.size = w1.heap.size + 1 := by simp
       have t1' := t1.below hb1
       have r1' := r1.below hb1
       have v1' := BlkAt.new w1 #[.slice none 0 0, .slice none 0 0] 54)
    | (go_at_call 140; refine (tmList_yT t _ x 32 (by decide) _ t1').mono ?_; rintro y w2 ⟨z0, z1, z2, g2, rfl, t2, k2, o2⟩; have O2 := Lib.hid o2; clear o2; have hz2 := k2.size; have r2 := r1'.kept k2 (by omega); have v2 := v1'.kept k2 (by omega); obtain ⟨cv2_0, cv2_1⟩ := BlkAt.cells2 v2; have fv2_0 := v2.frozen 0
       have ts2 := t2.set (b := w1.heap.size) (by have := t1.lt; omega) 0 (.slice z0 z1 z2)
       have vs2 : BlkAt (w2.setCell ⟨w1.heap.size, 0, none⟩ (.slice z0 z1 z2)) w1.heap.size #[.slice z0 z1 z2, .slice none 0 0] 54 := v2.put 0 (.slice z0 z1 z2)
       have rs2 := r2.other (b' := w1.heap.size) (by omega) 0 (.slice z0 z1 z2)
       clear t1')
    | (go_at_call 140; refine (tmList_yT t _ x 32 (by decide) _ ts2).mono ?_; rintro y w3 ⟨z3, z4, z5, g3, rfl, t3, k3, o3⟩; have O3 := Lib.hid o3; clear o3; have hz3 := k3.size; have r3 := rs2.kept k3 (by omega); have v3 := vs2.kept k3 (by have := t1.lt; omega); obtain ⟨cv3_0, cv3_1⟩ := BlkAt.cells2 v3; have fv3_1 := v3.frozen 1; obtain ⟨cr3_0, cr3_1⟩ := BlkAt.cells2 r3; have fr3_0 := r3.frozen 0; have fr3_1 := r3.frozen 1
       clear ts2))
  have htl := t1.lt
  have TF := ((t3.set (b := w1.heap.size) (by omega) 1 (.slice z3 z4 z5)).set (b := w.heap.size) (by omega) 0 (.slice z0 z1 z2)).set (b := w.heap.size) (by omega) 1 (.slice z3 z4 z5)
  have KL : Kept (fun k => k = t ∨ k = w1.heap.size ∨ k = w.heap.size) w3 (((w3.setCell ⟨w1.heap.size, 1, none⟩ (.slice z3 z4 z5)).setCell ⟨w.heap.size, 0, none⟩ (.slice z0 z1 z2)).setCell ⟨w.heap.size, 1, none⟩ (.slice z3 z4 z5)) := (((Kept.refl _ w3).set (p := ⟨w1.heap.size, 1, none⟩) (.inr (.inl rfl)) _).set (p := ⟨w.heap.size, 0, none⟩) (.inr (.inr rfl)) _).set (p := ⟨w.heap.size, 1, none⟩) (.inr (.inr rfl)) _
  have KM : Kept (fun k => k = t ∨ k = w1.heap.size ∨ k = w.heap.size) w2 w3 := ((Kept.refl _ w2).set (p := ⟨w1.heap.size, 0, none⟩) (.inr (.inl rfl)) _).trans (k3.mono fun _ q => .inl q)
  have KA : Kept (fun k => k = t ∨ w.heap.size ≤ k) w w2 := ((K0.out.trans (k1.mono fun _ q => .inl q)).trans (Kept.of_below hb1)).trans (k2.mono fun _ q => .inl q)
  have KF := KA.trans ((KM.trans KL).mono (by rintro k (q | q | q); exact .inl q; exact .inr (by omega); exact .inr (by omega)))
  have hzs : (w2.setCell ⟨w1.heap.size, 0, none⟩ (.slice z0 z1 z2)).heap.size = w2.heap.size := by simp [World.setCell]
  refine bodyPost_ret (v := .agg #[.slice z0 z1 z2, .slice z3 z4 z5]) (by simp [results, Tryz.results137, go_sem, cr3_0, cr3_1]) rfl ⟨z0, z1, z2, z3, z4, z5, _, rfl, TF, KF.clean, ?_⟩
  have o23 := O2.out.keep (k := FT.mk) O3.out (C := fun a => Val ftE (w.heap.size ≤ ·) (((w3.setCell ⟨w1.heap.size, 1, none⟩ (.slice z3 z4 z5)).setCell ⟨w.heap.size, 0, none⟩ (.slice z0 z1 z2)).setCell ⟨w.heap.size, 1, none⟩ (.slice z3 z4 z5)) [.slice z0 z1 z2, .slice z3 z4 z5] a)
    (fun p r hp hr => val_ft (hp.later (KM.trans KL) (by rintro i (q | q | q) <;> omega) (by omega)) (hr.later KL (by rintro i (q | q | q) <;> omega) (by omega)))
  exact O1.out.bind (fun _ _ => o23) o23.dead
end Go.Proofs.YtekonefnniaheaaGreat
