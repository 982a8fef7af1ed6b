/- The comparison of instructions that are the same. -/
import Derived.Test.YtfhifnkekegkkaaInsTk
import Derived.Test.YtfhifnkekegkkaaInsP8
import Derived.Test.YtfhifnkekegkkaaSame
import Derived.Deep.RegionHeld3
namespace Go.Proofs.Ytfhifnkekegkkaa
open Go.RowKit
open Leb (byt byt_lt byt_get)

theorem two_new (w : World) (X Y : Array Value) : BlkAt ((w.alloc (.cells X 47)).alloc (.cells Y 47)).drew w.heap.size X 47 ∧ BlkAt ((w.alloc (.cells X 47)).alloc (.cells Y 47)).drew (w.heap.size + 1) Y 47 ∧ Below w.heap.size w ((w.alloc (.cells X 47)).alloc (.cells Y 47)).drew := by
  have hbp : Below w.heap.size w (w.alloc (.cells X 47)) := (Below.refl _ _).alloc (Nat.le_refl _) _
  have hbz : Below (w.alloc (.cells X 47)).heap.size (w.alloc (.cells X 47)) ((w.alloc (.cells X 47)).alloc (.cells Y 47)) := (Below.refl _ _).alloc (Nat.le_refl _) _
  have hsz0 : (w.alloc (.cells X 47)).heap.size = w.heap.size + 1 := by simp
  exact ⟨(BlkAt.new w X _).below hbz.drew, hsz0 ▸ ((BlkAt.new (w.alloc (.cells X 47)) Y _).below (Below.refl _ _).drew), (hbp.trans (hbz.mono hbp.size)).drew⟩
set_option maxRecDepth 100000 in
set_option maxHeartbeats 4000000 in
theorem insSame_all (N : Nat) : ∀ (d : Nat) (ls : List Ins) (x y : Option Addr) (len cap cap2 : Nat) (w : World), SizeOf.sizeOf ls < N → okL d ls = true → InsIn w x len cap ls → InsIn w y len cap2 ls →
    Calls Try.prog 12 #[.slice x len cap, .slice y len cap2] w fun e w' => e = .returned (.bool true) ∧ Below w.heap.size w w' := by
  induction N with
  | zero => exact fun _ _ _ _ _ _ _ _ h => absurd h (by omega)
  | succ N ih =>
    intro d ls x y len cap cap2 w hN hok hx hy
    obtain ⟨hlen, hle, htop, hlx⟩ := hx
    obtain ⟨hlen2, hle2, htop2, hly⟩ := hy
    have HLEN := Lib.hid hlen
    have HX := Lib.hid hlx
    have HY := Lib.hid hly
    have HIH := Lib.hid ih
    have HNN := Lib.hid hN
    have HOK := Lib.hid hok
    have hne : ((len : Int) != (len : Int)) = false := by simp
    clear ih hlx hly hN hlen hlen2 hok
    go_enter Try.func12, Try.ntmps12
    go_wp2_with fail
    go_loopw [5] (fun iv wr => ∃ i : Nat, iv = .int .i64 i ∧ i ≤ len ∧ Below w.heap.size w wr) (fun iv _ => len - (intOf iv).toNat)
    case atStart => exact ⟨0, rfl, by omega, Below.refl _ _⟩
    case round =>
      obtain ⟨i, rfl, hi, hb⟩ := hrel
      by_cases hlt : i < len
      · have hil : i < ls.length := by rw [← HLEN.out]; exact hlt
        obtain ⟨bx, ox, rfl⟩ := LiesL.addr HX.out (by omega)
        obtain ⟨by', oy, rfl⟩ := LiesL.addr HY.out (by omega)
        have lx := (LiesL.at HX.out i hil).below hb
        have ly := (LiesL.at HY.out i hil).below hb
        have hoc := okL_at HOK.out hil
        have hsz : SizeOf.sizeOf (ls.getD i default) < SizeOf.sizeOf ls := by
          rw [List.getD_eq_getElem?_getD, List.getElem?_eq_getElem hil]
          exact List.sizeOf_lt_of_mem (List.getElem_mem hil)
        revert lx ly hoc hsz
        generalize ls.getD i default = c
        intro lx ly hoc hsz
        obtain ⟨xn, nc, xl, lc, xe, ec, c0, c1, c2, c3, c4, c5, c6, hvn, hnc, hncm, hl, he⟩ := lx.may
        obtain ⟨yn, md, yl, ld, ye, ed, d0, d1, d2, d3, d4, d5, d6, hvm, hmd, hmdm, hl2, he2⟩ := ly.may
        have HSL : Hid (SizeOf.sizeOf c.l < N ∧ SizeOf.sizeOf c.e < N) := Lib.hid (by
          have := HNN.out
          cases c with
          | mk op a b' m n' l' e' =>
            simp only [Ins.mk.sizeOf_spec] at hsz
            simp only [Ins.l, Ins.e]
            omega)
        have hbx : bx ≠ wr.heap.size ∧ bx ≠ wr.heap.size + 1 := by have h : bx < wr.heap.size := World.block_lt_of_cell? wr _ c0; exact ⟨by omega, by omega⟩
        have hby : by' ≠ wr.heap.size ∧ by' ≠ wr.heap.size + 1 := by have h : by' < wr.heap.size := World.block_lt_of_cell? wr _ d0; exact ⟨by omega, by omega⟩
        have hmay : mayI c = true := by
          rw [okI_eq, Bool.and_eq_true] at hoc
          exact hoc.1
        have hn3 : c.n.length ≤ 3000 := by have := (mayI_bounds hmay).2.2.1; omega
        have hsub : ∃ d', okL d' c.l = true ∧ okL d' c.e = true := by
          obtain ⟨_, m1, m2⟩ := mayI_parts hmay
          rw [okI_eq, Bool.and_eq_true] at hoc
          by_cases hbk : 2 ≤ c.op ∧ c.op ≤ 4
          · have := hoc.2
            rw [if_pos hbk, Bool.and_eq_true, Bool.and_eq_true] at this
            exact ⟨_, this.2⟩
          · rw [m1.resolve_left (fun q => hbk (shapeV_two q)), m2.resolve_left (fun q => hbk (by omega))]
            exact ⟨0, rfl, rfl⟩
        obtain ⟨d', hd1, hd2⟩ := hsub
        have HSV : Hid (∀ w', Below wr.heap.size wr w' → Calls Try.prog 21 #[.slice xn c.n.length nc, .slice yn c.n.length md] w' fun e w2 => e = .returned (.bool true) ∧ Below w'.heap.size w' w2) := Lib.hid fun w' h => Same_view xn yn c.n.length nc md c.n w' hn3 (hvn.below h) (hvm.below h)
        have HSL1 : Hid (∀ w', Below wr.heap.size wr w' → Calls Try.prog 12 #[.slice xl c.l.length lc, .slice yl c.l.length ld] w' fun e w2 => e = .returned (.bool true) ∧ Below w'.heap.size w' w2) := Lib.hid fun w' h => HIH.out d' c.l xl yl c.l.length lc ld w' HSL.out.1 hd1 (hl.below h) (hl2.below h)
        have HSE1 : Hid (∀ w', Below wr.heap.size wr w' → Calls Try.prog 12 #[.slice xe c.e.length ec, .slice ye c.e.length ed] w' fun e w2 => e = .returned (.bool true) ∧ Below w'.heap.size w' w2) := Lib.hid fun w' h => HIH.out d' c.e xe ye c.e.length ec ed w' HSL.out.2 hd2 (he.below h) (he2.below h)
        clear hmay hn3 hd1 hd2 hoc hsz hvn hvm hnc hmd hncm hmdm hl hl2 he he2 lx ly
        go_wp2_with fail
        go_region_held3 (fun w' => w'.cell? ⟨bx, ox + i * 7, none⟩ = some (.int .i64 c.op) ∧ w'.cell? ⟨bx, ox + i * 7 + 1, none⟩ = some (.int .i64 c.a) ∧ w'.cell? ⟨bx, ox + i * 7 + 2, none⟩ = some (.int .i64 c.b) ∧ w'.cell? ⟨bx, ox + i * 7 + 3, none⟩ = some (.int .i64 c.m) ∧ w'.cell? ⟨bx, ox + i * 7 + 4, none⟩ = some (.slice xn c.n.length nc) ∧ w'.cell? ⟨bx, ox + i * 7 + 5, none⟩ = some (.slice xl c.l.length lc) ∧ w'.cell? ⟨bx, ox + i * 7 + 6, none⟩ = some (.slice xe c.e.length ec) ∧ w'.cell? ⟨by', oy + i * 7, none⟩ = some (.int .i64 c.op) ∧ w'.cell? ⟨by', oy + i * 7 + 1, none⟩ = some (.int .i64 c.a) ∧ w'.cell? ⟨by', oy + i * 7 + 2, none⟩ = some (.int .i64 c.b) ∧ w'.cell? ⟨by', oy + i * 7 + 3, none⟩ = some (.int .i64 c.m) ∧ w'.cell? ⟨by', oy + i * 7 + 4, none⟩ = some (.slice yn c.n.length md) ∧ w'.cell? ⟨by', oy + i * 7 + 5, none⟩ = some (.slice yl c.l.length ld) ∧ w'.cell? ⟨by', oy + i * 7 + 6, none⟩ = some (.slice ye c.e.length ed)) (go_keep) (fail)
        · obtain ⟨B1, B2, hb2⟩ := two_new wr #[.int .i64 c.op, .int .i64 c.a, .int .i64 c.b, .int .i64 c.m, .slice xn c.n.length nc, .slice xl c.l.length lc, .slice xe c.e.length ec] #[.int .i64 c.op, .int .i64 c.a, .int .i64 c.b, .int .i64 c.m, .slice yn c.n.length md, .slice yl c.l.length ld, .slice ye c.e.length ed]
          have p0 := B1.cell 0; have p1 := B1.cell 1; have p2 := B1.cell 2; have p3 := B1.cell 3; have p4 := B1.cell 4; have p5 := B1.cell 5; have p6 := B1.cell 6; simp at p0 p1 p2 p3 p4 p5 p6; have q0 := B2.cell 0; have q1 := B2.cell 1; have q2 := B2.cell 2; have q3 := B2.cell 3; have q4 := B2.cell 4; have q5 := B2.cell 5; have q6 := B2.cell 6; simp at q0 q1 q2 q3 q4 q5 q6
          go_wp2_with (first
            | (go_at_call 21; refine (HSV.out _ hb2).mono ?_; rintro e w2 ⟨rfl, k2⟩; have B3 := B1.below k2; have B4 := B2.below k2; have hb3 := hb2.trans (k2.mono hb2.size); clear HSV; have r0 := B3.cell 0; have r1 := B3.cell 1; have r2 := B3.cell 2; have r3 := B3.cell 3; have r4 := B3.cell 4; have r5 := B3.cell 5; have r6 := B3.cell 6; simp at r0 r1 r2 r3 r4 r5 r6; have s0 := B4.cell 0; have s1 := B4.cell 1; have s2 := B4.cell 2; have s3 := B4.cell 3; have s4 := B4.cell 4; have s5 := B4.cell 5; have s6 := B4.cell 6; simp at s0 s1 s2 s3 s4 s5 s6)
            | (go_at_call 12; refine (HSL1.out _ hb3).mono ?_; rintro e w3 ⟨rfl, k3⟩; have B5 := B3.below k3; have B6 := B4.below k3; have hb4 := hb3.trans (k3.mono hb3.size); clear HSL1; have t0 := B5.cell 0; have t1 := B5.cell 1; have t2 := B5.cell 2; have t3 := B5.cell 3; have t4 := B5.cell 4; have t5 := B5.cell 5; have t6 := B5.cell 6; simp at t0 t1 t2 t3 t4 t5 t6; have u0 := B6.cell 0; have u1 := B6.cell 1; have u2 := B6.cell 2; have u3 := B6.cell 3; have u4 := B6.cell 4; have u5 := B6.cell 5; have u6 := B6.cell 6; simp at u0 u1 u2 u3 u4 u5 u6)
            | (go_at_call 12; refine (HSE1.out _ hb4).mono ?_; rintro e w4 ⟨rfl, k4⟩; have hb5 := hb4.trans (k4.mono hb4.size); clear HSE1))
          exact ⟨⟨i + 1, by go_num, by omega, hb.trans (hb5.mono hb.size)⟩, by simp [intOf]; omega⟩
        · obtain ⟨B2, B1, hb2⟩ := two_new wr #[.int .i64 c.op, .int .i64 c.a, .int .i64 c.b, .int .i64 c.m, .slice yn c.n.length md, .slice yl c.l.length ld, .slice ye c.e.length ed] #[.int .i64 c.op, .int .i64 c.a, .int .i64 c.b, .int .i64 c.m, .slice xn c.n.length nc, .slice xl c.l.length lc, .slice xe c.e.length ec]
          have p0 := B1.cell 0; have p1 := B1.cell 1; have p2 := B1.cell 2; have p3 := B1.cell 3; have p4 := B1.cell 4; have p5 := B1.cell 5; have p6 := B1.cell 6; simp at p0 p1 p2 p3 p4 p5 p6; have q0 := B2.cell 0; have q1 := B2.cell 1; have q2 := B2.cell 2; have q3 := B2.cell 3; have q4 := B2.cell 4; have q5 := B2.cell 5; have q6 := B2.cell 6; simp at q0 q1 q2 q3 q4 q5 q6
          go_wp2_with (first
            | (go_at_call 21; refine (HSV.out _ hb2).mono ?_; rintro e w2 ⟨rfl, k2⟩; have B3 := B1.below k2; have B4 := B2.below k2; have hb3 := hb2.trans (k2.mono hb2.size); clear HSV; have r0 := B3.cell 0; have r1 := B3.cell 1; have r2 := B3.cell 2; have r3 := B3.cell 3; have r4 := B3.cell 4; have r5 := B3.cell 5; have r6 := B3.cell 6; simp at r0 r1 r2 r3 r4 r5 r6; have s0 := B4.cell 0; have s1 := B4.cell 1; have s2 := B4.cell 2; have s3 := B4.cell 3; have s4 := B4.cell 4; have s5 := B4.cell 5; have s6 := B4.cell 6; simp at s0 s1 s2 s3 s4 s5 s6)
            | (go_at_call 12; refine (HSL1.out _ hb3).mono ?_; rintro e w3 ⟨rfl, k3⟩; have B5 := B3.below k3; have B6 := B4.below k3; have hb4 := hb3.trans (k3.mono hb3.size); clear HSL1; have t0 := B5.cell 0; have t1 := B5.cell 1; have t2 := B5.cell 2; have t3 := B5.cell 3; have t4 := B5.cell 4; have t5 := B5.cell 5; have t6 := B5.cell 6; simp at t0 t1 t2 t3 t4 t5 t6; have u0 := B6.cell 0; have u1 := B6.cell 1; have u2 := B6.cell 2; have u3 := B6.cell 3; have u4 := B6.cell 4; have u5 := B6.cell 5; have u6 := B6.cell 6; simp at u0 u1 u2 u3 u4 u5 u6)
            | (go_at_call 12; refine (HSE1.out _ hb4).mono ?_; rintro e w4 ⟨rfl, k4⟩; have hb5 := hb4.trans (k4.mono hb4.size); clear HSE1))
          exact ⟨⟨i + 1, by go_num, by omega, hb.trans (hb5.mono hb.size)⟩, by simp [intOf]; omega⟩
      · have hie : i = len := by omega
        subst hie
        go_wp2_with fail
        go_ret
        exact ⟨rfl, hb⟩
theorem insSame_any {d : Nat} {ls : List Ins} {x y : Option Addr} {len cap cap2 : Nat} {w : World} (hok : okL d ls = true) (hx : InsIn w x len cap ls) (hy : InsIn w y len cap2 ls) :
    Calls Try.prog 12 #[.slice x len cap, .slice y len cap2] w fun e w' => e = .returned (.bool true) ∧ Below w.heap.size w w' := insSame_all _ d ls x y len cap cap2 w (Nat.lt_succ_self _) hok hx hy
end Go.Proofs.Ytfhifnkekegkkaa
