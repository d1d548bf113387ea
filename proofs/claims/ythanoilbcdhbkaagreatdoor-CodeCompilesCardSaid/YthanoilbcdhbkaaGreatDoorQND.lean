/-
  The walk of CodeCompiles.
-/
import Derived.Test.YthanoilbcdhbkaaGreatDoorQN
import Derived.Test.YthanoilbcdhbkaaGreatDoorQKS
namespace Go.Proofs.YthanoilbcdhbkaaGreatDoor
open Go Go.RowKit Go.Lib Go.Shelf WM TM EM YM

set_option maxRecDepth 100000 in
set_option maxHeartbeats 8000000 in
theorem codeCompiles (x : Ex) (so : Option Addr) (cap : Nat) (vs : List Vr) (vo : Option Addr) (vc : Nat) (w : World) (hG : Gk w) (hLx : Lies (x, so, cap) w) (hcap : vs.length ≤ vc) (hz : vo = none → vs.length = 0 ∧ vc = 0) (hv : VarsAt vo vs w) :
  Calls Tryz.prog 3 #[.agg #[.int .i64 x.op, .int .i64 x.n, .string (str x.s), .slice so x.args.length cap], .slice vo vs.length vc] w fun r w' => r = .returned (.bool true) ∧ Below w.heap.size w w' := by
 have LIV := Lib.hid (fun W (hW : Below w.heap.size w W) => mlive12 W (hG.keep hW))
 have SX := Lib.hid (fun W (hW : Below w.heap.size w W) => lsmall x so cap W (hLx.1.keep hW))
 have CX := Lib.hid (fun (h1 : siz x ≤ 100000) (h2 : vs.length ≤ 100000) W (hW : Below w.heap.size w W) => mCompile x so cap vs vo vc W h1 h2 (hG.keep hW).1 hcap hz (hv.keep hW) (hLx.keep hW))
 have CY := Lib.hid (fun (h1 : siz x ≤ 100000) (h2 : vs.length ≤ 100000) W (hW : Below w.heap.size w W) => rCompile x so cap vs vo vc W h1 h2 hz (hv.keep hW) (hLx.keep hW))
 have PX := Lib.hid (small_siz (e := x))
 have FX := Lib.hid (com_few (e := x) (vs := vs))
 obtain ⟨fX, hfX⟩ : ∃ q, smallB x = q := ⟨_, rfl⟩
 rw [hfX] at SX PX
 obtain ⟨E1, hE1⟩ : ∃ q, comE x vs = q := ⟨_, rfl⟩
 obtain ⟨A1, hA1⟩ : ∃ q, comC x vs = q := ⟨_, rfl⟩
 rw [hE1, hA1] at CX CY
 rw [hA1] at FX
 obtain ⟨xo, hxo⟩ : ∃ q, x.op = q := ⟨_, rfl⟩
 obtain ⟨xn, hxn⟩ : ∃ q, x.n = q := ⟨_, rfl⟩
 obtain ⟨xs, hxs⟩ : ∃ q, str x.s = q := ⟨_, rfl⟩
 obtain ⟨xl, hxl⟩ : ∃ q, x.args.length = q := ⟨_, rfl⟩
 obtain ⟨vn, hvn⟩ : ∃ n, vs.length = n := ⟨_, rfl⟩
 rw [hxo, hxn, hxs, hxl] at SX CX CY
 rw [hvn] at CX CY
 rw [hxo, hxn, hxs, hxl, hvn]
 have HB0 := Lib.hid (show Below w.heap.size w (w.alloc (.cells #[.int .i64 xo, .int .i64 xn, .string xs, .slice so xl cap] 24)) from bal (bref w) _)
 clear hG hLx hcap hz hv hfX hE1 hA1 hxo hxn hxs hxl hvn
 cases fX with
 | false =>
  go_enter Tryz.func3, Tryz.ntmps3
  go_wp2_with fail
  refine (SX.out _ HB0.out).mono ?_
  rintro r u1 ⟨rfl, hb⟩
  have HBl := Lib.hid (btr HB0.out hb)
  clear hb
  go_wp2_with fail
  refine (LIV.out _ HBl.out).mono ?_
  rintro r u9 ⟨rfl, hb⟩
  have HB9 := Lib.hid (btr HBl.out hb)
  clear hb
  go_wp2_with fail
  go_ret
  exact ⟨rfl, HB9.out⟩
 | true =>
 have px := PX.out rfl
 by_cases g2 : vn ≤ 100
 rotate_left
 ·have z2 : (100 : Int) < (vn : Int) := by omega
  clear g2
  go_enter Tryz.func3, Tryz.ntmps3
  go_wp2_with fail
  refine (SX.out _ HB0.out).mono ?_
  rintro r u1 ⟨rfl, hb⟩
  have HBl := Lib.hid (btr HB0.out hb)
  clear hb
  go_wp2_with fail
  refine (LIV.out _ HBl.out).mono ?_
  rintro r u9 ⟨rfl, hb⟩
  have HB9 := Lib.hid (btr HBl.out hb)
  clear hb
  go_wp2_with fail
  go_ret
  exact ⟨rfl, HB9.out⟩
 have z2 : ¬ ((100 : Int) < (vn : Int)) := by omega
 replace CX := Lib.hid (CX.out (by omega) (by omega))
 replace CY := Lib.hid (CY.out (by omega) (by omega))
 clear PX px g2
 go_enter Tryz.func3, Tryz.ntmps3
 go_wp2_with fail
 refine (SX.out _ HB0.out).mono ?_
 rintro r u1 ⟨rfl, hb⟩
 have a0 := keepc hb (show (w.alloc (.cells #[.int .i64 xo, .int .i64 xn, .string xs, .slice so xl cap] 24)).cell? ⟨w.heap.size, 0, none⟩ = some (.int .i64 xo) by simp [go_sem])
 have a1 := keepc hb (show (w.alloc (.cells #[.int .i64 xo, .int .i64 xn, .string xs, .slice so xl cap] 24)).cell? ⟨w.heap.size, 1, none⟩ = some (.int .i64 xn) by simp [go_sem])
 have a2 := keepc hb (show (w.alloc (.cells #[.int .i64 xo, .int .i64 xn, .string xs, .slice so xl cap] 24)).cell? ⟨w.heap.size, 2, none⟩ = some (.string xs) by simp [go_sem])
 have a3 := keepc hb (show (w.alloc (.cells #[.int .i64 xo, .int .i64 xn, .string xs, .slice so xl cap] 24)).cell? ⟨w.heap.size, 3, none⟩ = some (.slice so xl cap) by simp [go_sem])
 have HB2 := Lib.hid (btr HB0.out hb)
 clear hb
 go_wp2_with fail
 refine (CX.out _ HB2.out).mono ?_
 rintro r u3 ⟨⟨vo1, vc1, io1, ic1, rfl, hc1⟩, hb⟩
 have hal : Below u3.heap.size u3 (u3.alloc (.cells #[.int .i64 A1.t, .slice vo1 A1.vs.length vc1, .slice io1 A1.c.length ic1] 30)) := bal (bref u3) _
 replace a0 := keepc hb a0
 replace a1 := keepc hb a1
 replace a2 := keepc hb a2
 replace a3 := keepc hb a3
 replace a0 := keepc hal a0
 replace a1 := keepc hal a1
 replace a2 := keepc hal a2
 replace a3 := keepc hal a3
 have c0 : (u3.alloc (.cells #[.int .i64 A1.t, .slice vo1 A1.vs.length vc1, .slice io1 A1.c.length ic1] 30)).cell? ⟨u3.heap.size, 0, none⟩ = some (.int .i64 A1.t) := by simp [go_sem]
 have c1 : (u3.alloc (.cells #[.int .i64 A1.t, .slice vo1 A1.vs.length vc1, .slice io1 A1.c.length ic1] 30)).cell? ⟨u3.heap.size, 1, none⟩ = some (.slice vo1 A1.vs.length vc1) := by simp [go_sem]
 have c2 : (u3.alloc (.cells #[.int .i64 A1.t, .slice vo1 A1.vs.length vc1, .slice io1 A1.c.length ic1] 30)).cell? ⟨u3.heap.size, 2, none⟩ = some (.slice io1 A1.c.length ic1) := by simp [go_sem]
 have HC1 := Lib.hid (hc1.keep hal)
 have HB3 := Lib.hid (btr (btr HB2.out hb) hal)
 clear hb hal hc1
 go_wp2_with fail
 refine (CY.out _ HB3.out).mono ?_
 rintro r u4 ⟨⟨vo2, vc2, io2, ic2, rfl, hc2⟩, hb⟩
 have hal : Below u4.heap.size u4 (u4.alloc (.cells #[.int .i64 A1.t, .slice vo2 A1.vs.length vc2, .slice io2 A1.c.length ic2] 30)) := bal (bref u4) _
 replace c0 := keepc hb c0
 replace c1 := keepc hb c1
 replace c2 := keepc hb c2
 obtain ⟨u5, hu5⟩ : ∃ u5, u4.alloc (.cells #[.int .i64 A1.t, .slice vo2 A1.vs.length vc2, .slice io2 A1.c.length ic2] 30) = u5 := ⟨_, rfl⟩
 have d0 : u5.cell? ⟨u4.heap.size, 0, none⟩ = some (.int .i64 A1.t) := by rw [← hu5]; simp [go_sem]
 have d1 : u5.cell? ⟨u4.heap.size, 1, none⟩ = some (.slice vo2 A1.vs.length vc2) := by rw [← hu5]; simp [go_sem]
 have d2 : u5.cell? ⟨u4.heap.size, 2, none⟩ = some (.slice io2 A1.c.length ic2) := by rw [← hu5]; simp [go_sem]
 replace c0 := keepc hal c0
 replace c1 := keepc hal c1
 replace c2 := keepc hal c2
 have HC15 := Lib.hid ((HC1.out.keep hb).keep hal)
 have HC25 := Lib.hid (hc2.keep hal)
 have HB5 := Lib.hid (btr (btr HB3.out hb) hal)
 rw [hu5] at HC15 HC25 HB5 c0 c1 c2
 clear hb hal hc2 a0 a1 a2 a3
 have SMC := Lib.hid (fun W (hW : Below u5.heap.size u5 W) => rSameC A1 A1 vo1 io1 vo2 io2 vc1 ic1 vc2 ic2 W FX.out.1 FX.out.2 (HC15.out.keep hW) (HC25.out.keep hW))
 rw [same3_self] at SMC
 have hEE : (E1 == E1) = true := by simp
 go_wp2_with fail
 (try simp only [hu5])
 clear hu5
 refine (SMC.out _ (bref _)).mono ?_
 rintro r u6 ⟨rfl, hb⟩
 have HBl := Lib.hid (btr HB5.out hb)
 clear hb
 go_wp2_with fail
 refine (LIV.out _ HBl.out).mono ?_
 rintro r u9 ⟨rfl, hb⟩
 have HB9 := Lib.hid (btr HBl.out hb)
 clear hb
 go_wp2_with fail
 go_ret
 exact ⟨rfl, HB9.out⟩
end Go.Proofs.YthanoilbcdhbkaaGreatDoor
