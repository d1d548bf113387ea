/-
  The walk of CodeBalanced.
-/
import Derived.Test.YthanoilbcdhbkaaGreatDoorQKW
import Derived.Test.YthanoilbcdhbkaaGreatDoorQZI
namespace Go.Proofs.YthanoilbcdhbkaaGreatDoor
open Go Go.RowKit Go.Lib Go.Shelf WM TM EM YM

theorem most_max (o : Int) : most o ≤ 9223372036854775807 := by unfold most; (repeat' split) <;> omega
theorem em_fits (vs : List Vr) : ∀ e, (EM.pre e).all okN = true → ∀ p, Fits (em vs p e) := by
 refine ex_ind _ fun e ih hk p => ?_
 obtain ⟨h1, h2⟩ := ok_parts hk
 have h3 := (ok_len h1).2.2.1
 have h4 := most_max e.op
 rcases op_cases e with c | c | c
 ·rw [em_num vs p c]
  intro x hx
  simp at hx
  subst hx
  exact Int.le_trans h3 h4
 ·rw [em_var vs p c]
  intro x hx
  simp at hx
  subst hx
  show (0 : Int) ≤ _
  decide
 ·by_cases h19 : e.op = 19
  ·obtain ⟨x, y, z, ha⟩ := ok_three h1 h19
   rw [em_cond vs p h19 ha]
   intro q hq
   simp only [List.mem_append, List.mem_cons] at hq
   rcases hq with hq | rfl | hq | rfl | hq
   ·exact ih x (by simp [ha]) (h2 x (by simp [ha])) _ q hq
   ·show (0 : Int) ≤ _; decide
   ·exact ih y (by simp [ha]) (h2 y (by simp [ha])) _ q hq
   ·show (0 : Int) ≤ _; decide
   ·exact ih z (by simp [ha]) (h2 z (by simp [ha])) _ q hq
  ·rw [em_opr vs p c h19]
   have key : ∀ (l : List Ex) (p : Nat), (∀ x ∈ l, ∀ p, Fits (em vs p x)) → Fits (ems vs 0 p l) := by
    intro l
    induction l with
    | nil => intro p _ x hx; rw [ems_nil] at hx; cases hx
    | cons y l ihl =>
     intro p h x hx
     rw [ems_zero] at hx
     rcases List.mem_append.1 hx with hx | hx
     ·exact h y (by simp) p x hx
     ·exact ihl _ (fun z hz => h z (by simp [hz])) x hx
   intro q hq
   rcases List.mem_append.1 hq with hq | hq
   ·exact key e.args p (fun x hx => ih x hx (h2 x hx)) q hq
   ·simp at hq
    subst hq
    show (0 : Int) ≤ _
    decide
set_option maxRecDepth 100000 in
set_option maxHeartbeats 8000000 in
theorem codeBalanced (x : Ex) (so : Option Addr) (cap : Nat) (vs : List Vr) (vo : Option Addr) (vc : Nat) (w : World) (hG : Gk w) (hLx : Lies (x, so, cap) w) (hcap : vs.length ≤ vc) (hz : vo = none → vs.length = 0 ∧ vc = 0) (hv : VarsAt vo vs w) :
  Calls Tryz.prog 7 #[.agg #[.int .i64 x.op, .int .i64 x.n, .string (str x.s), .slice so x.args.length cap], .slice vo vs.length vc] w fun r w' => r = .returned (.bool true) ∧ Below w.heap.size w w' := by
 have LIV := Lib.hid (fun W (hW : Below w.heap.size w W) => mlive12 W (hG.keep hW))
 have SX := Lib.hid (fun W (hW : Below w.heap.size w W) => lsmall x so cap W (hLx.1.keep hW))
 have CX := Lib.hid (fun (h1 : siz x ≤ 100000) (h2 : vs.length ≤ 100000) W (hW : Below w.heap.size w W) => mCompile x so cap vs vo vc W h1 h2 (hG.keep hW).1 hcap hz (hv.keep hW) (hLx.keep hW))
 have OX := Lib.hid (fun (h1 : siz x ≤ 100000) (h2 : vs.length ≤ 100000) W (hW : Below w.heap.size w W) => rOf vs vo vc h2 x so cap W h1 (hv.keep hW) (hLx.keep hW))
 have VX := Lib.hid (fun W (hW : Below w.heap.size w W) => rVars vs vo vc W (hv.keep hW))
 have NX := Lib.hid (fun (h1 : siz x ≤ 4000000000000000000) W (hW : Below w.heap.size w W) => rnodes x so cap W h1 (hLx.1.keep hW))
 have HG := Lib.hid (fun W (hW : Below w.heap.size w W) => (hG.keep hW).1)
 have PX := Lib.hid (small_siz (e := x))
 obtain ⟨fX, hfX⟩ : ∃ q, smallB x = q := ⟨_, rfl⟩
 rw [hfX] at SX PX
 obtain ⟨xo, hxo⟩ : ∃ q, x.op = q := ⟨_, rfl⟩
 obtain ⟨xn, hxn⟩ : ∃ q, x.n = q := ⟨_, rfl⟩
 obtain ⟨xs, hxs⟩ : ∃ q, str x.s = q := ⟨_, rfl⟩
 obtain ⟨xl, hxl⟩ : ∃ q, x.args.length = q := ⟨_, rfl⟩
 have HB0 := Lib.hid (show Below w.heap.size w (w.alloc (.cells #[.int .i64 x.op, .int .i64 x.n, .string (str x.s), .slice so x.args.length cap] 24)) from bal (bref w) _)
 rw [hxo, hxn, hxs, hxl] at SX CX OX HB0
 rw [hxo, hxn, hxs, hxl] at NX
 rw [hxo, hxn, hxs, hxl]
 clear hG hLx hcap hz hv hfX hxo hxn hxs hxl
 cases fX with
 | false =>
  obtain ⟨vn, hvn⟩ : ∃ n, vs.length = n := ⟨_, rfl⟩
  rw [hvn]
  clear hvn
  go_enter Tryz.func7, Tryz.ntmps7
  go_wp2_with fail
  refine (SX.out _ HB0.out).mono ?_
  rintro r u1 ⟨rfl, hb⟩
  have HBl := Lib.hid (btr HB0.out hb)
  clear hb
  go_wp2_with fail
  refine (LIV.out _ HBl.out).mono ?_
  rintro r u9 ⟨rfl, hb⟩
  have HB9 := Lib.hid (btr HBl.out hb)
  clear hb
  go_wp2_with fail
  go_ret
  exact ⟨rfl, HB9.out⟩
 | true =>
 have px := PX.out rfl
 by_cases g2 : vs.length ≤ 100
 rotate_left
 ·obtain ⟨vn, hvn⟩ : ∃ n, vs.length = n := ⟨_, rfl⟩
  rw [hvn] at g2 ⊢
  have z2 : (100 : Int) < (vn : Int) := by omega
  clear g2 hvn
  go_enter Tryz.func7, Tryz.ntmps7
  go_wp2_with fail
  refine (SX.out _ HB0.out).mono ?_
  rintro r u1 ⟨rfl, hb⟩
  have HBl := Lib.hid (btr HB0.out hb)
  clear hb
  go_wp2_with fail
  refine (LIV.out _ HBl.out).mono ?_
  rintro r u9 ⟨rfl, hb⟩
  have HB9 := Lib.hid (btr HBl.out hb)
  clear hb
  go_wp2_with fail
  go_ret
  exact ⟨rfl, HB9.out⟩
 replace CX := Lib.hid (CX.out (by omega) (by omega))
 replace OX := Lib.hid (OX.out (by omega) (by omega))
 replace NX := Lib.hid (NX.out (by omega))
 by_cases gE : comE x vs = 0
 rotate_left
 ·have hA : comC x vs = ⟨0, [], []⟩ := by unfold comC; rw [if_neg gE]
  have hE : (vsE vs != 0) = true ∨ (vsE vs = 0 ∧ comE x vs = (ofT x vs).2) := by
   by_cases q : vsE vs = 0
   ·exact Or.inr ⟨q, by unfold comE; rw [if_neg (by omega)]⟩
   ·exact Or.inl (bne_yes q)
  rw [hA] at CX
  obtain ⟨E1, hE1⟩ : ∃ q, comE x vs = q := ⟨_, rfl⟩
  obtain ⟨F1, hF1⟩ : ∃ q, (ofT x vs).2 = q := ⟨_, rfl⟩
  obtain ⟨T1, hT1⟩ : ∃ q, (ofT x vs).1 = q := ⟨_, rfl⟩
  obtain ⟨V1, hV1⟩ : ∃ q, vsE vs = q := ⟨_, rfl⟩
  rw [hE1] at CX gE hE
  rw [hF1, hT1] at OX
  rw [hF1, hV1] at hE
  rw [hV1] at VX
  obtain ⟨vn, hvn⟩ : ∃ n, vs.length = n := ⟨_, rfl⟩
  rw [hvn] at CX OX VX g2 ⊢
  have z2 : ¬ ((100 : Int) < (vn : Int)) := by omega
  have gb : (E1 != 0) = true := bne_yes gE
  have SM0 := Lib.hid (fun vo1 io1 vc1 ic1 W (hC : CodeAt ⟨0, [], []⟩ vo1 vc1 io1 ic1 W) => mSame ⟨0, [], []⟩ ⟨0, [], []⟩ vo1 io1 none none vc1 ic1 0 0 W (by decide) (by decide) hC ⟨VarsAt.nil _ _, InsAt.nil _ _, Nat.le_refl _, fun _ => ⟨rfl, rfl⟩, fun _ => ⟨rfl, rfl⟩⟩)
  simp only [show same3 (⟨0, [], []⟩ : Cd) ⟨0, [], []⟩ = true by rw [same3_eq]; exact decide_eq_true rfl] at SM0
  clear hA hE1 hF1 hT1 hV1 hvn g2 gE px PX NX
  rcases hE with hE | ⟨hE, hE2⟩
  ·have hE' := hE
   go_enter Tryz.func7, Tryz.ntmps7
   go_wp2_with fail
   refine (SX.out _ HB0.out).mono ?_
   rintro r u1 ⟨rfl, hb⟩
   have a0 := keepc hb (show (w.alloc (.cells #[.int .i64 xo, .int .i64 xn, .string xs, .slice so xl cap] 24)).cell? ⟨w.heap.size, 0, none⟩ = some (.int .i64 xo) by simp [go_sem])
   have a1 := keepc hb (show (w.alloc (.cells #[.int .i64 xo, .int .i64 xn, .string xs, .slice so xl cap] 24)).cell? ⟨w.heap.size, 1, none⟩ = some (.int .i64 xn) by simp [go_sem])
   have a2 := keepc hb (show (w.alloc (.cells #[.int .i64 xo, .int .i64 xn, .string xs, .slice so xl cap] 24)).cell? ⟨w.heap.size, 2, none⟩ = some (.string xs) by simp [go_sem])
   have a3 := keepc hb (show (w.alloc (.cells #[.int .i64 xo, .int .i64 xn, .string xs, .slice so xl cap] 24)).cell? ⟨w.heap.size, 3, none⟩ = some (.slice so xl cap) by simp [go_sem])
   have HB1 := Lib.hid (btr HB0.out hb)
   clear hb
   go_wp2_with fail
   refine (CX.out _ HB1.out).mono ?_
   rintro r u3 ⟨⟨vo1, vc1, io1, ic1, rfl, hc1⟩, hb⟩
   replace a0 := keepc hb a0
   replace a1 := keepc hb a1
   replace a2 := keepc hb a2
   replace a3 := keepc hb a3
   obtain ⟨u4, hu4⟩ : ∃ u4, u3.alloc (.cells #[.int .i64 0, .slice vo1 0 vc1, .slice io1 0 ic1] 30) = u4 := ⟨_, rfl⟩
   have hal : Below u3.heap.size u3 u4 := by rw [← hu4]; exact bal (bref u3) _
   have c0 : u4.cell? ⟨u3.heap.size, 0, none⟩ = some (.int .i64 0) := by rw [← hu4]; simp [go_sem]
   have c1 : u4.cell? ⟨u3.heap.size, 1, none⟩ = some (.slice vo1 0 vc1) := by rw [← hu4]; simp [go_sem]
   have c2 : u4.cell? ⟨u3.heap.size, 2, none⟩ = some (.slice io1 0 ic1) := by rw [← hu4]; simp [go_sem]
   replace a0 := keepc hal a0
   replace a1 := keepc hal a1
   replace a2 := keepc hal a2
   replace a3 := keepc hal a3
   have HC4 := Lib.hid (hc1.keep hal)
   have HB4 := Lib.hid (btr (btr HB1.out hb) hal)
   clear hb hal hc1
   go_wp2_with fail
   (try simp only [hu4])
   clear hu4
   refine (OX.out _ HB4.out).mono ?_
   rintro r u5 ⟨rfl, hb⟩
   replace a0 := keepc hb a0
   replace a1 := keepc hb a1
   replace a2 := keepc hb a2
   replace a3 := keepc hb a3
   replace c0 := keepc hb c0
   replace c1 := keepc hb c1
   replace c2 := keepc hb c2
   have HC5 := Lib.hid (HC4.out.keep hb)
   have HB5 := Lib.hid (btr HB4.out hb)
   clear hb
   go_wp2_with fail
   refine (SM0.out vo1 io1 vc1 ic1 _ HC5.out).mono ?_
   rintro r u6 ⟨rfl, hb⟩
   have HB6 := Lib.hid (btr HB5.out hb)
   clear hb
   go_wp2_with fail
   refine (VX.out _ HB6.out).mono ?_
   rintro r u7 ⟨rfl, hb⟩
   have HBl := Lib.hid (btr HB6.out hb)
   clear hb
   go_wp2_with fail
   refine (LIV.out _ HBl.out).mono ?_
   rintro r u9 ⟨rfl, hb⟩
   have HB9 := Lib.hid (btr HBl.out hb)
   clear hb
   go_wp2_with fail
   go_ret
   exact ⟨rfl, HB9.out⟩
  ·subst hE hE2
   go_enter Tryz.func7, Tryz.ntmps7
   go_wp2_with fail
   refine (SX.out _ HB0.out).mono ?_
   rintro r u1 ⟨rfl, hb⟩
   have a0 := keepc hb (show (w.alloc (.cells #[.int .i64 xo, .int .i64 xn, .string xs, .slice so xl cap] 24)).cell? ⟨w.heap.size, 0, none⟩ = some (.int .i64 xo) by simp [go_sem])
   have a1 := keepc hb (show (w.alloc (.cells #[.int .i64 xo, .int .i64 xn, .string xs, .slice so xl cap] 24)).cell? ⟨w.heap.size, 1, none⟩ = some (.int .i64 xn) by simp [go_sem])
   have a2 := keepc hb (show (w.alloc (.cells #[.int .i64 xo, .int .i64 xn, .string xs, .slice so xl cap] 24)).cell? ⟨w.heap.size, 2, none⟩ = some (.string xs) by simp [go_sem])
   have a3 := keepc hb (show (w.alloc (.cells #[.int .i64 xo, .int .i64 xn, .string xs, .slice so xl cap] 24)).cell? ⟨w.heap.size, 3, none⟩ = some (.slice so xl cap) by simp [go_sem])
   have HB1 := Lib.hid (btr HB0.out hb)
   clear hb
   go_wp2_with fail
   refine (CX.out _ HB1.out).mono ?_
   rintro r u3 ⟨⟨vo1, vc1, io1, ic1, rfl, hc1⟩, hb⟩
   replace a0 := keepc hb a0
   replace a1 := keepc hb a1
   replace a2 := keepc hb a2
   replace a3 := keepc hb a3
   obtain ⟨u4, hu4⟩ : ∃ u4, u3.alloc (.cells #[.int .i64 0, .slice vo1 0 vc1, .slice io1 0 ic1] 30) = u4 := ⟨_, rfl⟩
   have hal : Below u3.heap.size u3 u4 := by rw [← hu4]; exact bal (bref u3) _
   have c0 : u4.cell? ⟨u3.heap.size, 0, none⟩ = some (.int .i64 0) := by rw [← hu4]; simp [go_sem]
   have c1 : u4.cell? ⟨u3.heap.size, 1, none⟩ = some (.slice vo1 0 vc1) := by rw [← hu4]; simp [go_sem]
   have c2 : u4.cell? ⟨u3.heap.size, 2, none⟩ = some (.slice io1 0 ic1) := by rw [← hu4]; simp [go_sem]
   replace a0 := keepc hal a0
   replace a1 := keepc hal a1
   replace a2 := keepc hal a2
   replace a3 := keepc hal a3
   have HC4 := Lib.hid (hc1.keep hal)
   have HB4 := Lib.hid (btr (btr HB1.out hb) hal)
   clear hb hal hc1
   go_wp2_with fail
   (try simp only [hu4])
   clear hu4
   refine (OX.out _ HB4.out).mono ?_
   rintro r u5 ⟨rfl, hb⟩
   replace a0 := keepc hb a0
   replace a1 := keepc hb a1
   replace a2 := keepc hb a2
   replace a3 := keepc hb a3
   replace c0 := keepc hb c0
   replace c1 := keepc hb c1
   replace c2 := keepc hb c2
   have HC5 := Lib.hid (HC4.out.keep hb)
   have HB5 := Lib.hid (btr HB4.out hb)
   clear hb
   go_wp2_with fail
   refine (SM0.out vo1 io1 vc1 ic1 _ HC5.out).mono ?_
   rintro r u6 ⟨rfl, hb⟩
   have HB6 := Lib.hid (btr HB5.out hb)
   clear hb
   go_wp2_with fail
   refine (VX.out _ HB6.out).mono ?_
   rintro r u7 ⟨rfl, hb⟩
   have HBl := Lib.hid (btr HB6.out hb)
   clear hb
   go_wp2_with fail
   refine (LIV.out _ HBl.out).mono ?_
   rintro r u9 ⟨rfl, hb⟩
   have HB9 := Lib.hid (btr HBl.out hb)
   clear hb
   go_wp2_with fail
   go_ret
   exact ⟨rfl, HB9.out⟩
 obtain ⟨hA, v0, f0, e0, t0, y0⟩ := com_fits gE
 obtain ⟨d, hd, hd1, hd9⟩ := runC_em vs x v0 e0 t0
 have hok := ((vE_zero x).1 e0).2.2
 have hl := em_len vs x hok 0
 have hfit := em_fits vs x hok 0
 rw [gE, hA] at CX
 rw [f0] at OX
 have MV := Lib.hid (fun vo1 io1 vc1 ic1 W (hW : Below w.heap.size w W) (hC : CodeAt ⟨(ofT x vs).1, vs, em vs 0 x⟩ vo1 vc1 io1 ic1 W) => mValidate ⟨(ofT x vs).1, vs, em vs 0 x⟩ vo1 io1 vc1 ic1 W (HG.out W hW) hC hfit)
 have MD := Lib.hid (fun vo1 io1 vc1 ic1 W (hW : Below w.heap.size w W) (hC : CodeAt ⟨(ofT x vs).1, vs, em vs 0 x⟩ vo1 vc1 io1 ic1 W) => mDepth ⟨(ofT x vs).1, vs, em vs 0 x⟩ vo1 io1 vc1 ic1 W (HG.out W hW) hC hfit)
 simp only [y0, hd] at MV MD CX OX
 obtain ⟨tc, htc⟩ : ∃ q, (ty vs x).1 = q := ⟨_, rfl⟩
 obtain ⟨vn, hvn⟩ : ∃ n, vs.length = n := ⟨_, rfl⟩
 obtain ⟨cn, hcn⟩ : ∃ n, (em vs 0 x).length = n := ⟨_, rfl⟩
 obtain ⟨z, hzz⟩ : ∃ n, siz x = n := ⟨_, rfl⟩
 simp only [htc, hvn, hcn] at MV MD
 rw [htc] at CX
 rw [htc, hvn] at OX
 rw [hzz] at NX px
 rw [hcn, hzz] at hl
 have HVN := Lib.hid hvn
 have HCN := Lib.hid hcn
 rw [hvn] at CX g2 ⊢
 have z2 : ¬ ((100 : Int) < (vn : Int)) := by omega
 have l1 : ¬ ((cn : Int) < (z : Int)) := by omega
 have l2 : ¬ (2 * (z : Int) < (cn : Int)) := by omega
 have lw : wrap64 (2 * (z : Int)) = 2 * (z : Int) := by unfold wrap64; omega
 have d1 : (1 : Int) ≤ (d : Int) := by omega
 have d9 : (d : Int) ≤ 9 := by omega
 clear hA v0 f0 e0 t0 y0 hd hd1 hd9 hok hl hfit htc hvn hcn hzz g2 gE px PX VX HG
 go_enter Tryz.func7, Tryz.ntmps7
 go_wp2_with fail
 refine (SX.out _ HB0.out).mono ?_
 rintro r u1 ⟨rfl, hb⟩
 have a0 := keepc hb (show (w.alloc (.cells #[.int .i64 xo, .int .i64 xn, .string xs, .slice so xl cap] 24)).cell? ⟨w.heap.size, 0, none⟩ = some (.int .i64 xo) by simp [go_sem])
 have a1 := keepc hb (show (w.alloc (.cells #[.int .i64 xo, .int .i64 xn, .string xs, .slice so xl cap] 24)).cell? ⟨w.heap.size, 1, none⟩ = some (.int .i64 xn) by simp [go_sem])
 have a2 := keepc hb (show (w.alloc (.cells #[.int .i64 xo, .int .i64 xn, .string xs, .slice so xl cap] 24)).cell? ⟨w.heap.size, 2, none⟩ = some (.string xs) by simp [go_sem])
 have a3 := keepc hb (show (w.alloc (.cells #[.int .i64 xo, .int .i64 xn, .string xs, .slice so xl cap] 24)).cell? ⟨w.heap.size, 3, none⟩ = some (.slice so xl cap) by simp [go_sem])
 have HB1 := Lib.hid (btr HB0.out hb)
 clear hb
 go_wp2_with fail
 refine (CX.out _ HB1.out).mono ?_
 rintro r u3 ⟨⟨vo1, vc1, io1, ic1, rfl, hc1⟩, hb⟩
 replace a0 := keepc hb a0
 replace a1 := keepc hb a1
 replace a2 := keepc hb a2
 replace a3 := keepc hb a3
 simp only [HVN.out, HCN.out]
 obtain ⟨u4, hu4⟩ : ∃ u4, u3.alloc (.cells #[.int .i64 tc, .slice vo1 vn vc1, .slice io1 cn ic1] 30) = u4 := ⟨_, rfl⟩
 have hal : Below u3.heap.size u3 u4 := by rw [← hu4]; exact bal (bref u3) _
 have c0 : u4.cell? ⟨u3.heap.size, 0, none⟩ = some (.int .i64 tc) := by rw [← hu4]; simp [go_sem]
 have c1 : u4.cell? ⟨u3.heap.size, 1, none⟩ = some (.slice vo1 vn vc1) := by rw [← hu4]; simp [go_sem]
 have c2 : u4.cell? ⟨u3.heap.size, 2, none⟩ = some (.slice io1 cn ic1) := by rw [← hu4]; simp [go_sem]
 replace a0 := keepc hal a0
 replace a1 := keepc hal a1
 replace a2 := keepc hal a2
 replace a3 := keepc hal a3
 have HC4 := Lib.hid (hc1.keep hal)
 have HB4 := Lib.hid (btr (btr HB1.out hb) hal)
 clear hb hal hc1
 go_wp2_with fail
 (try simp only [hu4])
 clear hu4
 refine (OX.out _ HB4.out).mono ?_
 rintro r u5 ⟨rfl, hb⟩
 replace a0 := keepc hb a0
 replace a1 := keepc hb a1
 replace a2 := keepc hb a2
 replace a3 := keepc hb a3
 replace c0 := keepc hb c0
 replace c1 := keepc hb c1
 replace c2 := keepc hb c2
 have HC5 := Lib.hid (HC4.out.keep hb)
 have HB5 := Lib.hid (btr HB4.out hb)
 clear hb
 go_wp2_with fail
 refine (NX.out _ HB5.out).mono ?_
 rintro r u6 ⟨rfl, hb⟩
 replace a0 := keepc hb a0
 replace a1 := keepc hb a1
 replace a2 := keepc hb a2
 replace a3 := keepc hb a3
 replace c0 := keepc hb c0
 replace c1 := keepc hb c1
 replace c2 := keepc hb c2
 have HC6 := Lib.hid (HC5.out.keep hb)
 have HB6 := Lib.hid (btr HB5.out hb)
 clear hb
 go_wp2_with fail
 refine (MD.out vo1 io1 vc1 ic1 _ HB6.out HC6.out).mono ?_
 rintro r u7 ⟨rfl, hb⟩
 replace a0 := keepc hb a0
 replace a1 := keepc hb a1
 replace a2 := keepc hb a2
 replace a3 := keepc hb a3
 replace c0 := keepc hb c0
 replace c1 := keepc hb c1
 replace c2 := keepc hb c2
 have HC7 := Lib.hid (HC6.out.keep hb)
 have HB7 := Lib.hid (btr HB6.out hb)
 clear hb
 go_wp2_with fail
 refine (MV.out vo1 io1 vc1 ic1 _ HB7.out HC7.out).mono ?_
 rintro r u8 ⟨rfl, hb⟩
 have HBl := Lib.hid (btr HB7.out hb)
 clear hb
 go_wp2_with fail
 refine (LIV.out _ HBl.out).mono ?_
 rintro r u9 ⟨rfl, hb⟩
 have HB9 := Lib.hid (btr HBl.out hb)
 clear hb
 go_wp2_with fail
 go_ret
 exact ⟨rfl, HB9.out⟩
end Go.Proofs.YthanoilbcdhbkaaGreatDoor
