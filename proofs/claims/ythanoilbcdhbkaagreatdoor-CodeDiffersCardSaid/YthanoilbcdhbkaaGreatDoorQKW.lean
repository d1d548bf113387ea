/-
  The walk of CodeDiffers.
-/
import Derived.Test.YthanoilbcdhbkaaGreatDoorQM
import Derived.Test.YthanoilbcdhbkaaGreatDoorQKR
import Derived.Test.YthanoilbcdhbkaaGreatDoorQEB
namespace Go.Proofs.YthanoilbcdhbkaaGreatDoor
open Go Go.RowKit Go.Lib Go.Shelf WM TM EM YM

theorem com_fits {e : Ex} {vs : List Vr} (h : comE e vs = 0) : comC e vs = ⟨(ofT e vs).1, vs, em vs 0 e⟩ ∧ vsE vs = 0 ∧ (ofT e vs).2 = 0 ∧ vE e = 0 ∧ (ty vs e).2 = 0 ∧ (ofT e vs).1 = (ty vs e).1 := by
 have h1 : vsE vs = 0 := by
  unfold comE at h
  by_cases q : vsE vs ≠ 0
  ·rw [if_pos q] at h; exact h
  ·omega
 have h2 : (ofT e vs).2 = 0 := by
  unfold comE at h
  rw [if_neg (by omega)] at h
  exact h
 have h3 : vE e = 0 := by
  unfold ofT at h2
  by_cases q : vE e = 0
  ·exact q
  ·rw [if_neg q] at h2; exact absurd h2 q
 have h4 := ofT_ok vs h3
 rw [h4] at h2
 refine ⟨by unfold comC; rw [if_pos h], h1, by rw [h4]; exact h2, h3, h2, by rw [h4]⟩
theorem com_few {e : Ex} {vs : List Vr} : (comC e vs).vs.length ≤ 1000000 ∧ (comC e vs).c.length ≤ 1000000 := by
 by_cases h : comE e vs = 0
 ·obtain ⟨hc, h1, h2, h3, _⟩ := com_fits h
  obtain ⟨p1, p2, p3⟩ := com_parts h1 h2
  have := (em_len vs e p3 0).2
  rw [hc]
  exact ⟨by show vs.length ≤ _; omega, by show (em vs 0 e).length ≤ _; omega⟩
 ·unfold comC
  rw [if_neg h]
  exact ⟨by show 0 ≤ 1000000; omega, by show 0 ≤ 1000000; omega⟩
theorem com_same {x y : Ex} {vs : List Vr} (hx : comE x vs = 0) (hy : comE y vs = 0) : same3 (comC x vs) (comC y vs) = same x y := by
 obtain ⟨cx, _, _, vx, tx, ox⟩ := com_fits hx
 obtain ⟨cy, _, _, vy, ty', oy⟩ := com_fits hy
 rw [cx, cy, same3_eq, ox, oy]
 by_cases e : x = y
 ·subst e; rw [same_yes rfl]; simp
 ·rw [same_no e, decide_eq_false_iff_not]
  intro e2
  exact e (em_inj vs ((vE_zero x).1 vx).2.2 ((vE_zero y).1 vy).2.2 tx ty' (congrArg Cd.c e2))
set_option maxRecDepth 100000 in
set_option maxHeartbeats 8000000 in
theorem codeDiffers (x y : Ex) (so so2 : Option Addr) (cap cap2 : Nat) (vs : List Vr) (vo : Option Addr) (vc : Nat) (w : World) (hG : Gk w) (hLx : Lies (x, so, cap) w) (hLy : Lies (y, so2, cap2) w) (hcap : vs.length ≤ vc) (hz : vo = none → vs.length = 0 ∧ vc = 0) (hv : VarsAt vo vs w) :
  Calls Tryz.prog 8 #[.agg #[.int .i64 x.op, .int .i64 x.n, .string (str x.s), .slice so x.args.length cap], .agg #[.int .i64 y.op, .int .i64 y.n, .string (str y.s), .slice so2 y.args.length cap2], .slice vo vs.length vc] w fun r w' => r = .returned (.bool true) ∧ Below w.heap.size w w' := by
 have LIV := Lib.hid (fun W (hW : Below w.heap.size w W) => mlive12 W (hG.keep hW))
 have SX := Lib.hid (fun W (hW : Below w.heap.size w W) => lsmall x so cap W (hLx.1.keep hW))
 have SY := Lib.hid (fun W (hW : Below w.heap.size w W) => lsmall y so2 cap2 W (hLy.1.keep hW))
 have CX := Lib.hid (fun (h1 : siz x ≤ 100000) (h2 : vs.length ≤ 100000) W (hW : Below w.heap.size w W) => mCompile x so cap vs vo vc W h1 h2 (hG.keep hW).1 hcap hz (hv.keep hW) (hLx.keep hW))
 have CY := Lib.hid (fun (h1 : siz y ≤ 100000) (h2 : vs.length ≤ 100000) W (hW : Below w.heap.size w W) => mCompile y so2 cap2 vs vo vc W h1 h2 (hG.keep hW).1 hcap hz (hv.keep hW) (hLy.keep hW))
 have SMX := Lib.hid (fun (h1 : siz x ≤ 100000) W (hW : Below w.heap.size w W) => rsame x y so so2 cap cap2 W h1 (hLx.1.keep hW) (hLy.1.keep hW))
 have PX := Lib.hid (small_siz (e := x))
 have PY := Lib.hid (small_siz (e := y))
 have EQ := Lib.hid (com_same (x := x) (y := y) (vs := vs))
 have FX := Lib.hid (com_few (e := x) (vs := vs))
 obtain ⟨fX, hfX⟩ : ∃ q, smallB x = q := ⟨_, rfl⟩
 obtain ⟨fY, hfY⟩ : ∃ q, smallB y = q := ⟨_, rfl⟩
 rw [hfX] at SX PX
 rw [hfY] at SY PY
 obtain ⟨E1, hE1⟩ : ∃ q, comE x vs = q := ⟨_, rfl⟩
 obtain ⟨E2, hE2⟩ : ∃ q, comE y vs = q := ⟨_, rfl⟩
 obtain ⟨A1, hA1⟩ : ∃ q, comC x vs = q := ⟨_, rfl⟩
 obtain ⟨A2, hA2⟩ : ∃ q, comC y vs = q := ⟨_, rfl⟩
 rw [hE1, hA1] at CX
 rw [hE2, hA2] at CY
 rw [hE1, hE2, hA1, hA2] at EQ
 rw [hA1] at FX
 obtain ⟨SS, hSS⟩ : ∃ q, same x y = q := ⟨_, rfl⟩
 rw [hSS] at SMX EQ
 obtain ⟨xo, hxo⟩ : ∃ q, x.op = q := ⟨_, rfl⟩
 obtain ⟨xn, hxn⟩ : ∃ q, x.n = q := ⟨_, rfl⟩
 obtain ⟨xs, hxs⟩ : ∃ q, str x.s = q := ⟨_, rfl⟩
 obtain ⟨xl, hxl⟩ : ∃ q, x.args.length = q := ⟨_, rfl⟩
 obtain ⟨yo, hyo⟩ : ∃ q, y.op = q := ⟨_, rfl⟩
 obtain ⟨yn, hyn⟩ : ∃ q, y.n = q := ⟨_, rfl⟩
 obtain ⟨ys, hys⟩ : ∃ q, str y.s = q := ⟨_, rfl⟩
 obtain ⟨yl, hyl⟩ : ∃ q, y.args.length = q := ⟨_, rfl⟩
 obtain ⟨vn, hvn⟩ : ∃ n, vs.length = n := ⟨_, rfl⟩
 rw [hxo, hxn, hxs, hxl] at SX CX
 rw [hyo, hyn, hys, hyl] at SY CY
 rw [hxo, hxn, hxs, hxl, hyo, hyn, hys, hyl] at SMX
 rw [hvn] at CX CY
 rw [hxo, hxn, hxs, hxl, hyo, hyn, hys, hyl, hvn]
 have HB0 := Lib.hid (show Below w.heap.size w ((w.alloc (.cells #[.int .i64 xo, .int .i64 xn, .string xs, .slice so xl cap] 24)).alloc (.cells #[.int .i64 yo, .int .i64 yn, .string ys, .slice so2 yl cap2] 24)) from bal (bal (bref w) _) _)
 clear hG hLx hLy hcap hz hv hfX hfY hE1 hE2 hA1 hA2 hSS hxo hxn hxs hxl hyo hyn hys hyl hvn
 cases fX with
 | false =>
  go_enter Tryz.func8, Tryz.ntmps8
  go_wp2_with fail
  refine (SX.out _ HB0.out).mono ?_
  rintro r u1 ⟨rfl, hb⟩
  have HBl := Lib.hid (btr HB0.out hb)
  clear hb
  go_wp2_with fail
  refine (LIV.out _ HBl.out).mono ?_
  rintro r u9 ⟨rfl, hb⟩
  have HB9 := Lib.hid (btr HBl.out hb)
  clear hb
  go_wp2_with fail
  go_ret
  exact ⟨rfl, HB9.out⟩
 | true =>
 have px := PX.out rfl
 cases fY with
 | false =>
  go_enter Tryz.func8, Tryz.ntmps8
  go_wp2_with fail
  refine (SX.out _ HB0.out).mono ?_
  rintro r u1 ⟨rfl, hb⟩
  have a0 := keepc hb (show ((w.alloc (.cells #[.int .i64 xo, .int .i64 xn, .string xs, .slice so xl cap] 24)).alloc (.cells #[.int .i64 yo, .int .i64 yn, .string ys, .slice so2 yl cap2] 24)).cell? ⟨w.heap.size, 0, none⟩ = some (.int .i64 xo) by simp [go_sem])
  have b0 := keepc hb (show ((w.alloc (.cells #[.int .i64 xo, .int .i64 xn, .string xs, .slice so xl cap] 24)).alloc (.cells #[.int .i64 yo, .int .i64 yn, .string ys, .slice so2 yl cap2] 24)).cell? ⟨w.heap.size + 1, 0, none⟩ = some (.int .i64 yo) by simp [go_sem])
  have a1 := keepc hb (show ((w.alloc (.cells #[.int .i64 xo, .int .i64 xn, .string xs, .slice so xl cap] 24)).alloc (.cells #[.int .i64 yo, .int .i64 yn, .string ys, .slice so2 yl cap2] 24)).cell? ⟨w.heap.size, 1, none⟩ = some (.int .i64 xn) by simp [go_sem])
  have b1 := keepc hb (show ((w.alloc (.cells #[.int .i64 xo, .int .i64 xn, .string xs, .slice so xl cap] 24)).alloc (.cells #[.int .i64 yo, .int .i64 yn, .string ys, .slice so2 yl cap2] 24)).cell? ⟨w.heap.size + 1, 1, none⟩ = some (.int .i64 yn) by simp [go_sem])
  have a2 := keepc hb (show ((w.alloc (.cells #[.int .i64 xo, .int .i64 xn, .string xs, .slice so xl cap] 24)).alloc (.cells #[.int .i64 yo, .int .i64 yn, .string ys, .slice so2 yl cap2] 24)).cell? ⟨w.heap.size, 2, none⟩ = some (.string xs) by simp [go_sem])
  have b2 := keepc hb (show ((w.alloc (.cells #[.int .i64 xo, .int .i64 xn, .string xs, .slice so xl cap] 24)).alloc (.cells #[.int .i64 yo, .int .i64 yn, .string ys, .slice so2 yl cap2] 24)).cell? ⟨w.heap.size + 1, 2, none⟩ = some (.string ys) by simp [go_sem])
  have a3 := keepc hb (show ((w.alloc (.cells #[.int .i64 xo, .int .i64 xn, .string xs, .slice so xl cap] 24)).alloc (.cells #[.int .i64 yo, .int .i64 yn, .string ys, .slice so2 yl cap2] 24)).cell? ⟨w.heap.size, 3, none⟩ = some (.slice so xl cap) by simp [go_sem])
  have b3 := keepc hb (show ((w.alloc (.cells #[.int .i64 xo, .int .i64 xn, .string xs, .slice so xl cap] 24)).alloc (.cells #[.int .i64 yo, .int .i64 yn, .string ys, .slice so2 yl cap2] 24)).cell? ⟨w.heap.size + 1, 3, none⟩ = some (.slice so2 yl cap2) by simp [go_sem])
  have HB1 := Lib.hid (btr HB0.out hb)
  clear hb
  go_wp2_with fail
  refine (SY.out _ HB1.out).mono ?_
  rintro r u2 ⟨rfl, hb⟩
  have HBl := Lib.hid (btr HB1.out hb)
  clear hb
  go_wp2_with fail
  refine (LIV.out _ HBl.out).mono ?_
  rintro r u9 ⟨rfl, hb⟩
  have HB9 := Lib.hid (btr HBl.out hb)
  clear hb
  go_wp2_with fail
  go_ret
  exact ⟨rfl, HB9.out⟩
 | true =>
 have py := PY.out rfl
 by_cases g2 : vn ≤ 100
 rotate_left
 ·have z2 : (100 : Int) < (vn : Int) := by omega
  clear g2
  go_enter Tryz.func8, Tryz.ntmps8
  go_wp2_with fail
  refine (SX.out _ HB0.out).mono ?_
  rintro r u1 ⟨rfl, hb⟩
  have a0 := keepc hb (show ((w.alloc (.cells #[.int .i64 xo, .int .i64 xn, .string xs, .slice so xl cap] 24)).alloc (.cells #[.int .i64 yo, .int .i64 yn, .string ys, .slice so2 yl cap2] 24)).cell? ⟨w.heap.size, 0, none⟩ = some (.int .i64 xo) by simp [go_sem])
  have b0 := keepc hb (show ((w.alloc (.cells #[.int .i64 xo, .int .i64 xn, .string xs, .slice so xl cap] 24)).alloc (.cells #[.int .i64 yo, .int .i64 yn, .string ys, .slice so2 yl cap2] 24)).cell? ⟨w.heap.size + 1, 0, none⟩ = some (.int .i64 yo) by simp [go_sem])
  have a1 := keepc hb (show ((w.alloc (.cells #[.int .i64 xo, .int .i64 xn, .string xs, .slice so xl cap] 24)).alloc (.cells #[.int .i64 yo, .int .i64 yn, .string ys, .slice so2 yl cap2] 24)).cell? ⟨w.heap.size, 1, none⟩ = some (.int .i64 xn) by simp [go_sem])
  have b1 := keepc hb (show ((w.alloc (.cells #[.int .i64 xo, .int .i64 xn, .string xs, .slice so xl cap] 24)).alloc (.cells #[.int .i64 yo, .int .i64 yn, .string ys, .slice so2 yl cap2] 24)).cell? ⟨w.heap.size + 1, 1, none⟩ = some (.int .i64 yn) by simp [go_sem])
  have a2 := keepc hb (show ((w.alloc (.cells #[.int .i64 xo, .int .i64 xn, .string xs, .slice so xl cap] 24)).alloc (.cells #[.int .i64 yo, .int .i64 yn, .string ys, .slice so2 yl cap2] 24)).cell? ⟨w.heap.size, 2, none⟩ = some (.string xs) by simp [go_sem])
  have b2 := keepc hb (show ((w.alloc (.cells #[.int .i64 xo, .int .i64 xn, .string xs, .slice so xl cap] 24)).alloc (.cells #[.int .i64 yo, .int .i64 yn, .string ys, .slice so2 yl cap2] 24)).cell? ⟨w.heap.size + 1, 2, none⟩ = some (.string ys) by simp [go_sem])
  have a3 := keepc hb (show ((w.alloc (.cells #[.int .i64 xo, .int .i64 xn, .string xs, .slice so xl cap] 24)).alloc (.cells #[.int .i64 yo, .int .i64 yn, .string ys, .slice so2 yl cap2] 24)).cell? ⟨w.heap.size, 3, none⟩ = some (.slice so xl cap) by simp [go_sem])
  have b3 := keepc hb (show ((w.alloc (.cells #[.int .i64 xo, .int .i64 xn, .string xs, .slice so xl cap] 24)).alloc (.cells #[.int .i64 yo, .int .i64 yn, .string ys, .slice so2 yl cap2] 24)).cell? ⟨w.heap.size + 1, 3, none⟩ = some (.slice so2 yl cap2) by simp [go_sem])
  have HB1 := Lib.hid (btr HB0.out hb)
  clear hb
  go_wp2_with fail
  refine (SY.out _ HB1.out).mono ?_
  rintro r u2 ⟨rfl, hb⟩
  have HBl := Lib.hid (btr HB1.out hb)
  clear hb
  go_wp2_with fail
  refine (LIV.out _ HBl.out).mono ?_
  rintro r u9 ⟨rfl, hb⟩
  have HB9 := Lib.hid (btr HBl.out hb)
  clear hb
  go_wp2_with fail
  go_ret
  exact ⟨rfl, HB9.out⟩
 have z2 : ¬ ((100 : Int) < (vn : Int)) := by omega
 replace CX := Lib.hid (CX.out (by omega) (by omega))
 replace CY := Lib.hid (CY.out (by omega) (by omega))
 replace SMX := Lib.hid (SMX.out (by omega))
 clear PX PY px py g2
 go_enter Tryz.func8, Tryz.ntmps8
 go_wp2_with fail
 refine (SX.out _ HB0.out).mono ?_
 rintro r u1 ⟨rfl, hb⟩
 have a0 := keepc hb (show ((w.alloc (.cells #[.int .i64 xo, .int .i64 xn, .string xs, .slice so xl cap] 24)).alloc (.cells #[.int .i64 yo, .int .i64 yn, .string ys, .slice so2 yl cap2] 24)).cell? ⟨w.heap.size, 0, none⟩ = some (.int .i64 xo) by simp [go_sem])
 have b0 := keepc hb (show ((w.alloc (.cells #[.int .i64 xo, .int .i64 xn, .string xs, .slice so xl cap] 24)).alloc (.cells #[.int .i64 yo, .int .i64 yn, .string ys, .slice so2 yl cap2] 24)).cell? ⟨w.heap.size + 1, 0, none⟩ = some (.int .i64 yo) by simp [go_sem])
 have a1 := keepc hb (show ((w.alloc (.cells #[.int .i64 xo, .int .i64 xn, .string xs, .slice so xl cap] 24)).alloc (.cells #[.int .i64 yo, .int .i64 yn, .string ys, .slice so2 yl cap2] 24)).cell? ⟨w.heap.size, 1, none⟩ = some (.int .i64 xn) by simp [go_sem])
 have b1 := keepc hb (show ((w.alloc (.cells #[.int .i64 xo, .int .i64 xn, .string xs, .slice so xl cap] 24)).alloc (.cells #[.int .i64 yo, .int .i64 yn, .string ys, .slice so2 yl cap2] 24)).cell? ⟨w.heap.size + 1, 1, none⟩ = some (.int .i64 yn) by simp [go_sem])
 have a2 := keepc hb (show ((w.alloc (.cells #[.int .i64 xo, .int .i64 xn, .string xs, .slice so xl cap] 24)).alloc (.cells #[.int .i64 yo, .int .i64 yn, .string ys, .slice so2 yl cap2] 24)).cell? ⟨w.heap.size, 2, none⟩ = some (.string xs) by simp [go_sem])
 have b2 := keepc hb (show ((w.alloc (.cells #[.int .i64 xo, .int .i64 xn, .string xs, .slice so xl cap] 24)).alloc (.cells #[.int .i64 yo, .int .i64 yn, .string ys, .slice so2 yl cap2] 24)).cell? ⟨w.heap.size + 1, 2, none⟩ = some (.string ys) by simp [go_sem])
 have a3 := keepc hb (show ((w.alloc (.cells #[.int .i64 xo, .int .i64 xn, .string xs, .slice so xl cap] 24)).alloc (.cells #[.int .i64 yo, .int .i64 yn, .string ys, .slice so2 yl cap2] 24)).cell? ⟨w.heap.size, 3, none⟩ = some (.slice so xl cap) by simp [go_sem])
 have b3 := keepc hb (show ((w.alloc (.cells #[.int .i64 xo, .int .i64 xn, .string xs, .slice so xl cap] 24)).alloc (.cells #[.int .i64 yo, .int .i64 yn, .string ys, .slice so2 yl cap2] 24)).cell? ⟨w.heap.size + 1, 3, none⟩ = some (.slice so2 yl cap2) by simp [go_sem])
 have HB1 := Lib.hid (btr HB0.out hb)
 clear hb
 go_wp2_with fail
 refine (SY.out _ HB1.out).mono ?_
 rintro r u2 ⟨rfl, hb⟩
 replace a0 := keepc hb a0
 replace a1 := keepc hb a1
 replace a2 := keepc hb a2
 replace a3 := keepc hb a3
 replace b0 := keepc hb b0
 replace b1 := keepc hb b1
 replace b2 := keepc hb b2
 replace b3 := keepc hb b3
 have HB2 := Lib.hid (btr HB1.out hb)
 clear hb
 go_wp2_with fail
 refine (CX.out _ HB2.out).mono ?_
 rintro r u3 ⟨⟨vo1, vc1, io1, ic1, rfl, hc1⟩, hb⟩
 have hal : Below u3.heap.size u3 (u3.alloc (.cells #[.int .i64 A1.t, .slice vo1 A1.vs.length vc1, .slice io1 A1.c.length ic1] 30)) := bal (bref u3) _
 replace a0 := keepc hb a0
 replace a1 := keepc hb a1
 replace a2 := keepc hb a2
 replace a3 := keepc hb a3
 replace b0 := keepc hb b0
 replace b1 := keepc hb b1
 replace b2 := keepc hb b2
 replace b3 := keepc hb b3
 replace a0 := keepc hal a0
 replace a1 := keepc hal a1
 replace a2 := keepc hal a2
 replace a3 := keepc hal a3
 replace b0 := keepc hal b0
 replace b1 := keepc hal b1
 replace b2 := keepc hal b2
 replace b3 := keepc hal b3
 have c0 : (u3.alloc (.cells #[.int .i64 A1.t, .slice vo1 A1.vs.length vc1, .slice io1 A1.c.length ic1] 30)).cell? ⟨u3.heap.size, 0, none⟩ = some (.int .i64 A1.t) := by simp [go_sem]
 have c1 : (u3.alloc (.cells #[.int .i64 A1.t, .slice vo1 A1.vs.length vc1, .slice io1 A1.c.length ic1] 30)).cell? ⟨u3.heap.size, 1, none⟩ = some (.slice vo1 A1.vs.length vc1) := by simp [go_sem]
 have c2 : (u3.alloc (.cells #[.int .i64 A1.t, .slice vo1 A1.vs.length vc1, .slice io1 A1.c.length ic1] 30)).cell? ⟨u3.heap.size, 2, none⟩ = some (.slice io1 A1.c.length ic1) := by simp [go_sem]
 have HC1 := Lib.hid (hc1.keep hal)
 have HB3 := Lib.hid (btr (btr HB2.out hb) hal)
 clear hb hal hc1
 go_wp2_with fail
 refine (CY.out _ HB3.out).mono ?_
 rintro r u4 ⟨⟨vo2, vc2, io2, ic2, rfl, hc2⟩, hb⟩
 have hal : Below u4.heap.size u4 (u4.alloc (.cells #[.int .i64 A2.t, .slice vo2 A2.vs.length vc2, .slice io2 A2.c.length ic2] 30)) := bal (bref u4) _
 replace a0 := keepc hb a0
 replace a1 := keepc hb a1
 replace a2 := keepc hb a2
 replace a3 := keepc hb a3
 replace b0 := keepc hb b0
 replace b1 := keepc hb b1
 replace b2 := keepc hb b2
 replace b3 := keepc hb b3
 replace c0 := keepc hb c0
 replace c1 := keepc hb c1
 replace c2 := keepc hb c2
 obtain ⟨u5, hu5⟩ : ∃ u5, u4.alloc (.cells #[.int .i64 A2.t, .slice vo2 A2.vs.length vc2, .slice io2 A2.c.length ic2] 30) = u5 := ⟨_, rfl⟩
 have d0 : u5.cell? ⟨u4.heap.size, 0, none⟩ = some (.int .i64 A2.t) := by rw [← hu5]; simp [go_sem]
 have d1 : u5.cell? ⟨u4.heap.size, 1, none⟩ = some (.slice vo2 A2.vs.length vc2) := by rw [← hu5]; simp [go_sem]
 have d2 : u5.cell? ⟨u4.heap.size, 2, none⟩ = some (.slice io2 A2.c.length ic2) := by rw [← hu5]; simp [go_sem]
 replace a0 := keepc hal a0
 replace a1 := keepc hal a1
 replace a2 := keepc hal a2
 replace a3 := keepc hal a3
 replace b0 := keepc hal b0
 replace b1 := keepc hal b1
 replace b2 := keepc hal b2
 replace b3 := keepc hal b3
 replace c0 := keepc hal c0
 replace c1 := keepc hal c1
 replace c2 := keepc hal c2
 have HC15 := Lib.hid ((HC1.out.keep hb).keep hal)
 have HC25 := Lib.hid (hc2.keep hal)
 have HB5 := Lib.hid (btr (btr HB3.out hb) hal)
 rw [hu5] at HC15 HC25 HB5 a0 a1 a2 a3 b0 b1 b2 b3 c0 c1 c2
 clear hb hal hc2
 have SMC := Lib.hid (fun W (hW : Below u5.heap.size u5 W) => mSame A1 A2 vo1 io1 vo2 io2 vc1 ic1 vc2 ic2 W FX.out.1 FX.out.2 (HC15.out.keep hW) (HC25.out.keep hW))
 by_cases g1 : E1 = 0
 rotate_left
 ·have gb : (E1 != 0) = true := bne_yes g1
  have HBl := HB5
  clear g1
  go_wp2_with fail
  (try simp only [hu5])
  clear hu5
  go_wp2_with fail
  refine (LIV.out _ HBl.out).mono ?_
  rintro r u9 ⟨rfl, hb⟩
  have HB9 := Lib.hid (btr HBl.out hb)
  clear hb
  go_wp2_with fail
  go_ret
  exact ⟨rfl, HB9.out⟩
 by_cases g2 : E2 = 0
 rotate_left
 ·have gb : (E2 != 0) = true := bne_yes g2
  have HBl := HB5
  subst g1
  clear g2
  go_wp2_with fail
  (try simp only [hu5])
  clear hu5
  go_wp2_with fail
  refine (LIV.out _ HBl.out).mono ?_
  rintro r u9 ⟨rfl, hb⟩
  have HB9 := Lib.hid (btr HBl.out hb)
  clear hb
  go_wp2_with fail
  go_ret
  exact ⟨rfl, HB9.out⟩
 subst g1 g2
 rw [EQ.out rfl rfl] at SMC
 cases SS with
 | true =>
  go_wp2_with fail
  (try simp only [hu5])
  clear hu5
  refine wp_region_held_drew (S := (fun W => Below u5.heap.size u5 W)) (by kernel_rfl) (bdr (bref _)) (fun hH0 => ?_)
  refine wpAnyH_take (i := 0) (oi := _) (v := ?_) rfl (by kernel_rfl) (by kernel_rfl) (by kernel_rfl) (fun _ _ _ h => h) (Or.inl ⟨?_, ?_⟩) hH0 ?_
  rotate_left
  ·kernel_rfl
  ·(intro W' hSw; have f0 := keepc hSw c0; have f1 := keepc hSw c1; have f2 := keepc hSw c2; have g0 := keepc hSw d0; have g1 := keepc hSw d1; have g2 := keepc hSw d2; have h0 := keepc hSw a0; have j0 := keepc hSw b0; have h1 := keepc hSw a1; have j1 := keepc hSw b1; have h2 := keepc hSw a2; have j2 := keepc hSw b2; have h3 := keepc hSw a3; have j3 := keepc hSw b3; go_simp; (try with_reducible rfl))
  (try simp only [List.getElem_toArray, List.getElem_cons_zero, Act.put, List.setIfInBounds_toArray, List.set_cons_succ, List.set_cons_zero])
  refine wpAnyH_take (i := 1) (oi := _) (v := ?_) rfl (by kernel_rfl) (by kernel_rfl) (by kernel_rfl) (fun _ _ _ h => h) (Or.inl ⟨?_, ?_⟩) hH0 ?_
  rotate_left
  ·kernel_rfl
  ·(intro W' hSw; have f0 := keepc hSw c0; have f1 := keepc hSw c1; have f2 := keepc hSw c2; have g0 := keepc hSw d0; have g1 := keepc hSw d1; have g2 := keepc hSw d2; have h0 := keepc hSw a0; have j0 := keepc hSw b0; have h1 := keepc hSw a1; have j1 := keepc hSw b1; have h2 := keepc hSw a2; have j2 := keepc hSw b2; have h3 := keepc hSw a3; have j3 := keepc hSw b3; go_simp; (try with_reducible rfl))
  (try simp only [List.getElem_toArray, List.getElem_cons_succ, List.getElem_cons_zero, Act.put, List.setIfInBounds_toArray, List.set_cons_succ, List.set_cons_zero])
  refine wpAnyH_take (i := 3) (oi := _) (v := ?_) rfl (by kernel_rfl) (by kernel_rfl) (by kernel_rfl) (fun _ _ _ h => h) (Or.inl ⟨?_, ?_⟩) hH0 ?_
  rotate_left
  ·kernel_rfl
  ·(intro W' hSw; have f0 := keepc hSw c0; have f1 := keepc hSw c1; have f2 := keepc hSw c2; have g0 := keepc hSw d0; have g1 := keepc hSw d1; have g2 := keepc hSw d2; have h0 := keepc hSw a0; have j0 := keepc hSw b0; have h1 := keepc hSw a1; have j1 := keepc hSw b1; have h2 := keepc hSw a2; have j2 := keepc hSw b2; have h3 := keepc hSw a3; have j3 := keepc hSw b3; go_simp; (try with_reducible rfl))
  (try simp only [List.getElem_toArray, List.getElem_cons_succ, List.getElem_cons_zero, Act.put, List.setIfInBounds_toArray, List.set_cons_succ, List.set_cons_zero])
  refine wpAnyH_take (i := 4) (oi := _) (v := ?_) rfl (by kernel_rfl) (by kernel_rfl) (by kernel_rfl) (fun _ _ _ h => h) (Or.inl ⟨?_, ?_⟩) hH0 ?_
  rotate_left
  ·kernel_rfl
  ·(intro W' hSw; have f0 := keepc hSw c0; have f1 := keepc hSw c1; have f2 := keepc hSw c2; have g0 := keepc hSw d0; have g1 := keepc hSw d1; have g2 := keepc hSw d2; have h0 := keepc hSw a0; have j0 := keepc hSw b0; have h1 := keepc hSw a1; have j1 := keepc hSw b1; have h2 := keepc hSw a2; have j2 := keepc hSw b2; have h3 := keepc hSw a3; have j3 := keepc hSw b3; go_simp; (try with_reducible rfl))
  (try simp only [List.getElem_toArray, List.getElem_cons_succ, List.getElem_cons_zero, Act.put, List.setIfInBounds_toArray, List.set_cons_succ, List.set_cons_zero])
  refine wpAnyH_ready (rs := [2]) (by kernel_rfl) (by simp) ?_
  refine AllReadyH.cons (o := _) rfl (fun K hK => ?_) AllReadyH.nil
  go_simp
  refine (SMC.out _ hH0).mono ?_
  rintro r v1 ⟨rfl, q1⟩
  refine hK.out _ _ (btr hH0 q1) (fun hH1 => ?_)
  clear hK K
  (try simp only [List.getElem_toArray, List.getElem_cons_succ, List.getElem_cons_zero, Act.put, List.setIfInBounds_toArray, List.set_cons_succ, List.set_cons_zero])
  refine wpAnyH_ready (rs := [5]) (by kernel_rfl) (by simp) ?_
  refine AllReadyH.cons (o := _) rfl (fun K hK => ?_) AllReadyH.nil
  go_simp
  refine (SMX.out _ (btr HB5.out hH1)).mono ?_
  rintro r v2 ⟨rfl, q2⟩
  refine hK.out _ _ (btr hH1 q2) (fun hH2 => ?_)
  clear hK K
  (try simp only [List.getElem_toArray, List.getElem_cons_succ, List.getElem_cons_zero, Act.put, List.setIfInBounds_toArray, List.set_cons_succ, List.set_cons_zero])
  refine wpAnyH_take (i := 6) (oi := _) (v := ?_) rfl (by kernel_rfl) (by kernel_rfl) (by kernel_rfl) (fun _ _ _ h => h) (Or.inl ⟨?_, ?_⟩) hH2 ?_
  rotate_left
  ·kernel_rfl
  ·(intro W' _; go_simp; (try with_reducible rfl))
  (try simp only [List.getElem_toArray, List.getElem_cons_succ, List.getElem_cons_zero, Act.put, List.setIfInBounds_toArray, List.set_cons_succ, List.set_cons_zero])
  refine wpAnyH_take (i := 7) (oi := _) (v := ?_) rfl (by kernel_rfl) (by kernel_rfl) (by kernel_rfl) (fun _ _ _ h => h) (Or.inl ⟨?_, ?_⟩) hH2 ?_
  rotate_left
  ·kernel_rfl
  ·(intro W' _; go_simp; (try with_reducible rfl))
  (try simp only [List.getElem_toArray, List.getElem_cons_succ, List.getElem_cons_zero, Act.put, List.setIfInBounds_toArray, List.set_cons_succ, List.set_cons_zero])
  refine wpAnyH_ready (rs := [8]) (by kernel_rfl) (by simp) ?_
  refine AllReadyH.cons (o := _) rfl (fun K hK => ?_) AllReadyH.nil
  go_simp
  refine (LIV.out _ (btr HB5.out hH2)).mono ?_
  rintro r v3 ⟨rfl, q3⟩
  refine hK.out _ _ (btr hH2 q3) (fun hH3 => ?_)
  clear hK K
  (try simp only [List.getElem_toArray, List.getElem_cons_succ, List.getElem_cons_zero, Act.put, List.setIfInBounds_toArray, List.set_cons_succ, List.set_cons_zero])
  refine wpAnyH_take (i := 9) (oi := _) (v := ?_) rfl (by kernel_rfl) (by kernel_rfl) (by kernel_rfl) (fun _ _ _ h => h) (Or.inl ⟨?_, ?_⟩) hH3 ?_
  rotate_left
  ·kernel_rfl
  ·(intro W' _; go_simp; (try with_reducible rfl))
  (try simp only [List.getElem_toArray, List.getElem_cons_succ, List.getElem_cons_zero, Act.put, List.setIfInBounds_toArray, List.set_cons_succ, List.set_cons_zero])
  refine wpAnyH_take (i := 10) (oi := _) (v := ?_) rfl (by kernel_rfl) (by kernel_rfl) (by kernel_rfl) (fun _ _ _ h => h) (Or.inl ⟨?_, ?_⟩) hH3 ?_
  rotate_left
  ·kernel_rfl
  ·(intro W' _; go_simp; (try with_reducible rfl))
  (try simp only [List.getElem_toArray, List.getElem_cons_succ, List.getElem_cons_zero, Act.put, List.setIfInBounds_toArray, List.set_cons_succ, List.set_cons_zero])
  refine wpAnyH_done (by kernel_rfl) ?_ _
  go_wp2_with fail
  go_ret
  exact ⟨rfl, btr HB5.out hH3⟩
 | false =>
  go_wp2_with fail
  (try simp only [hu5])
  clear hu5
  refine wp_region_held_drew (S := (fun W => Below u5.heap.size u5 W)) (by kernel_rfl) (bdr (bref _)) (fun hH0 => ?_)
  refine wpAnyH_take (i := 0) (oi := _) (v := ?_) rfl (by kernel_rfl) (by kernel_rfl) (by kernel_rfl) (fun _ _ _ h => h) (Or.inl ⟨?_, ?_⟩) hH0 ?_
  rotate_left
  ·kernel_rfl
  ·(intro W' hSw; have f0 := keepc hSw c0; have f1 := keepc hSw c1; have f2 := keepc hSw c2; have g0 := keepc hSw d0; have g1 := keepc hSw d1; have g2 := keepc hSw d2; have h0 := keepc hSw a0; have j0 := keepc hSw b0; have h1 := keepc hSw a1; have j1 := keepc hSw b1; have h2 := keepc hSw a2; have j2 := keepc hSw b2; have h3 := keepc hSw a3; have j3 := keepc hSw b3; go_simp; (try with_reducible rfl))
  (try simp only [List.getElem_toArray, List.getElem_cons_zero, Act.put, List.setIfInBounds_toArray, List.set_cons_succ, List.set_cons_zero])
  refine wpAnyH_take (i := 1) (oi := _) (v := ?_) rfl (by kernel_rfl) (by kernel_rfl) (by kernel_rfl) (fun _ _ _ h => h) (Or.inl ⟨?_, ?_⟩) hH0 ?_
  rotate_left
  ·kernel_rfl
  ·(intro W' hSw; have f0 := keepc hSw c0; have f1 := keepc hSw c1; have f2 := keepc hSw c2; have g0 := keepc hSw d0; have g1 := keepc hSw d1; have g2 := keepc hSw d2; have h0 := keepc hSw a0; have j0 := keepc hSw b0; have h1 := keepc hSw a1; have j1 := keepc hSw b1; have h2 := keepc hSw a2; have j2 := keepc hSw b2; have h3 := keepc hSw a3; have j3 := keepc hSw b3; go_simp; (try with_reducible rfl))
  (try simp only [List.getElem_toArray, List.getElem_cons_succ, List.getElem_cons_zero, Act.put, List.setIfInBounds_toArray, List.set_cons_succ, List.set_cons_zero])
  refine wpAnyH_take (i := 3) (oi := _) (v := ?_) rfl (by kernel_rfl) (by kernel_rfl) (by kernel_rfl) (fun _ _ _ h => h) (Or.inl ⟨?_, ?_⟩) hH0 ?_
  rotate_left
  ·kernel_rfl
  ·(intro W' hSw; have f0 := keepc hSw c0; have f1 := keepc hSw c1; have f2 := keepc hSw c2; have g0 := keepc hSw d0; have g1 := keepc hSw d1; have g2 := keepc hSw d2; have h0 := keepc hSw a0; have j0 := keepc hSw b0; have h1 := keepc hSw a1; have j1 := keepc hSw b1; have h2 := keepc hSw a2; have j2 := keepc hSw b2; have h3 := keepc hSw a3; have j3 := keepc hSw b3; go_simp; (try with_reducible rfl))
  (try simp only [List.getElem_toArray, List.getElem_cons_succ, List.getElem_cons_zero, Act.put, List.setIfInBounds_toArray, List.set_cons_succ, List.set_cons_zero])
  refine wpAnyH_take (i := 4) (oi := _) (v := ?_) rfl (by kernel_rfl) (by kernel_rfl) (by kernel_rfl) (fun _ _ _ h => h) (Or.inl ⟨?_, ?_⟩) hH0 ?_
  rotate_left
  ·kernel_rfl
  ·(intro W' hSw; have f0 := keepc hSw c0; have f1 := keepc hSw c1; have f2 := keepc hSw c2; have g0 := keepc hSw d0; have g1 := keepc hSw d1; have g2 := keepc hSw d2; have h0 := keepc hSw a0; have j0 := keepc hSw b0; have h1 := keepc hSw a1; have j1 := keepc hSw b1; have h2 := keepc hSw a2; have j2 := keepc hSw b2; have h3 := keepc hSw a3; have j3 := keepc hSw b3; go_simp; (try with_reducible rfl))
  (try simp only [List.getElem_toArray, List.getElem_cons_succ, List.getElem_cons_zero, Act.put, List.setIfInBounds_toArray, List.set_cons_succ, List.set_cons_zero])
  refine wpAnyH_ready (rs := [2]) (by kernel_rfl) (by simp) ?_
  refine AllReadyH.cons (o := _) rfl (fun K hK => ?_) AllReadyH.nil
  go_simp
  refine (SMC.out _ hH0).mono ?_
  rintro r v1 ⟨rfl, q1⟩
  refine hK.out _ _ (btr hH0 q1) (fun hH1 => ?_)
  clear hK K
  (try simp only [List.getElem_toArray, List.getElem_cons_succ, List.getElem_cons_zero, Act.put, List.setIfInBounds_toArray, List.set_cons_succ, List.set_cons_zero])
  refine wpAnyH_ready (rs := [5]) (by kernel_rfl) (by simp) ?_
  refine AllReadyH.cons (o := _) rfl (fun K hK => ?_) AllReadyH.nil
  go_simp
  refine (SMX.out _ (btr HB5.out hH1)).mono ?_
  rintro r v2 ⟨rfl, q2⟩
  refine hK.out _ _ (btr hH1 q2) (fun hH2 => ?_)
  clear hK K
  (try simp only [List.getElem_toArray, List.getElem_cons_succ, List.getElem_cons_zero, Act.put, List.setIfInBounds_toArray, List.set_cons_succ, List.set_cons_zero])
  refine wpAnyH_take (i := 6) (oi := _) (v := ?_) rfl (by kernel_rfl) (by kernel_rfl) (by kernel_rfl) (fun _ _ _ h => h) (Or.inl ⟨?_, ?_⟩) hH2 ?_
  rotate_left
  ·kernel_rfl
  ·(intro W' _; go_simp; (try with_reducible rfl))
  (try simp only [List.getElem_toArray, List.getElem_cons_succ, List.getElem_cons_zero, Act.put, List.setIfInBounds_toArray, List.set_cons_succ, List.set_cons_zero])
  refine wpAnyH_take (i := 7) (oi := _) (v := ?_) rfl (by kernel_rfl) (by kernel_rfl) (by kernel_rfl) (fun _ _ _ h => h) (Or.inl ⟨?_, ?_⟩) hH2 ?_
  rotate_left
  ·kernel_rfl
  ·(intro W' _; go_simp; (try with_reducible rfl))
  (try simp only [List.getElem_toArray, List.getElem_cons_succ, List.getElem_cons_zero, Act.put, List.setIfInBounds_toArray, List.set_cons_succ, List.set_cons_zero])
  refine wpAnyH_ready (rs := [8]) (by kernel_rfl) (by simp) ?_
  refine AllReadyH.cons (o := _) rfl (fun K hK => ?_) AllReadyH.nil
  go_simp
  refine (LIV.out _ (btr HB5.out hH2)).mono ?_
  rintro r v3 ⟨rfl, q3⟩
  refine hK.out _ _ (btr hH2 q3) (fun hH3 => ?_)
  clear hK K
  (try simp only [List.getElem_toArray, List.getElem_cons_succ, List.getElem_cons_zero, Act.put, List.setIfInBounds_toArray, List.set_cons_succ, List.set_cons_zero])
  refine wpAnyH_take (i := 9) (oi := _) (v := ?_) rfl (by kernel_rfl) (by kernel_rfl) (by kernel_rfl) (fun _ _ _ h => h) (Or.inl ⟨?_, ?_⟩) hH3 ?_
  rotate_left
  ·kernel_rfl
  ·(intro W' _; go_simp; (try with_reducible rfl))
  (try simp only [List.getElem_toArray, List.getElem_cons_succ, List.getElem_cons_zero, Act.put, List.setIfInBounds_toArray, List.set_cons_succ, List.set_cons_zero])
  refine wpAnyH_take (i := 10) (oi := _) (v := ?_) rfl (by kernel_rfl) (by kernel_rfl) (by kernel_rfl) (fun _ _ _ h => h) (Or.inl ⟨?_, ?_⟩) hH3 ?_
  rotate_left
  ·kernel_rfl
  ·(intro W' _; go_simp; (try with_reducible rfl))
  (try simp only [List.getElem_toArray, List.getElem_cons_succ, List.getElem_cons_zero, Act.put, List.setIfInBounds_toArray, List.set_cons_succ, List.set_cons_zero])
  refine wpAnyH_done (by kernel_rfl) ?_ _
  go_wp2_with fail
  go_ret
  exact ⟨rfl, btr HB5.out hH3⟩
end Go.Proofs.YthanoilbcdhbkaaGreatDoor
