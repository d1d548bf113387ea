/-
  The walk of ExprParts.
-/
import Derived.Test.YtplkphihmfhciaaGreatDoorMJ
import Derived.Test.YtplkphihmfhciaaGreatDoorHM
namespace Go.Proofs.YtplkphihmfhciaaGreatDoor
open Go Go.RowKit Go.Lib Go.Shelf WM TM EM

set_option maxRecDepth 100000 in
set_option maxHeartbeats 8000000 in
theorem exprParts (a b : Ex) (sa sb : Option Addr) (ca cb : Nat) (w : World) (hG : Gf w) (hS : Es w) (ha : Lies (a, sa, ca) w) (hb : Lies (b, sb, cb) w) :
  Calls Tryz.prog 5 #[.agg #[.int .i64 a.op, .int .i64 a.n, .string (str a.s), .slice sa a.args.length ca], .agg #[.int .i64 b.op, .int .i64 b.n, .string (str b.s), .slice sb b.args.length cb]] w fun r w' => r = .returned (.bool true) ∧ Below w.heap.size w w' := by
 have LV := Lib.hid (fun W (hW : Below w.heap.size w W) => mlive W (hG.keep hW) (hS.keep hW))
 have GA := Lib.hid (fun W (hW : Below w.heap.size w W) => rgreat a 300 sa ca W (by decide) (ha.1.keep hW))
 have GB := Lib.hid (fun W (hW : Below w.heap.size w W) => rgreat b 300 sb cb W (by decide) (hb.1.keep hW))
 have LA0 := Lib.hid ha
 have LB0 := Lib.hid hb
 clear hG hS ha hb
 cases hga : grtB a 300 with
 | true =>
  rw [hga] at GA
  clear hga
  go_enter Tryz.func5, Tryz.ntmps5
  go_wp2_with fail
  refine (GA.out _ (bal (bal (bref w) _) _)).mono ?_
  rintro r w1 ⟨rfl, hb1⟩
  have HB1 := Lib.hid (btr (bal (bal (bref w) _) _) hb1)
  clear hb1
  go_wp2_with fail
  refine (LV.out _ (HB1.out)).mono ?_
  rintro r w9 ⟨rfl, hb9⟩
  have HB9 := Lib.hid (btr HB1.out hb9)
  clear hb9
  go_wp2_with fail
  go_ret
  exact ⟨rfl, HB9.out⟩
 | false =>
  have HSA := Lib.hid (grt_siz hga)
  rw [hga] at GA
  clear hga
  cases hgb : grtB b 300 with
  | true =>
   rw [hgb] at GB
   clear hgb
   go_enter Tryz.func5, Tryz.ntmps5
   go_wp2_with fail
   refine (GA.out _ (bal (bal (bref w) _) _)).mono ?_
   rintro r w1 ⟨rfl, hb1⟩
   have HB1 := Lib.hid (btr (bal (bal (bref w) _) _) hb1)
   have a0 := keepc hb1 (show ((w.alloc (.cells #[.int .i64 a.op, .int .i64 a.n, .string (str a.s), .slice sa a.args.length ca] 27)).alloc (.cells #[.int .i64 b.op, .int .i64 b.n, .string (str b.s), .slice sb b.args.length cb] 27)).cell? ⟨w.heap.size, 0, none⟩ = some (.int .i64 a.op) by simp [go_sem])
   have a1 := keepc hb1 (show ((w.alloc (.cells #[.int .i64 a.op, .int .i64 a.n, .string (str a.s), .slice sa a.args.length ca] 27)).alloc (.cells #[.int .i64 b.op, .int .i64 b.n, .string (str b.s), .slice sb b.args.length cb] 27)).cell? ⟨w.heap.size, 1, none⟩ = some (.int .i64 a.n) by simp [go_sem])
   have a2 := keepc hb1 (show ((w.alloc (.cells #[.int .i64 a.op, .int .i64 a.n, .string (str a.s), .slice sa a.args.length ca] 27)).alloc (.cells #[.int .i64 b.op, .int .i64 b.n, .string (str b.s), .slice sb b.args.length cb] 27)).cell? ⟨w.heap.size, 2, none⟩ = some (.string (str a.s)) by simp [go_sem])
   have a3 := keepc hb1 (show ((w.alloc (.cells #[.int .i64 a.op, .int .i64 a.n, .string (str a.s), .slice sa a.args.length ca] 27)).alloc (.cells #[.int .i64 b.op, .int .i64 b.n, .string (str b.s), .slice sb b.args.length cb] 27)).cell? ⟨w.heap.size, 3, none⟩ = some (.slice sa a.args.length ca) by simp [go_sem])
   have b0 := keepc hb1 (show ((w.alloc (.cells #[.int .i64 a.op, .int .i64 a.n, .string (str a.s), .slice sa a.args.length ca] 27)).alloc (.cells #[.int .i64 b.op, .int .i64 b.n, .string (str b.s), .slice sb b.args.length cb] 27)).cell? ⟨w.heap.size + 1, 0, none⟩ = some (.int .i64 b.op) by simp [go_sem])
   have b1 := keepc hb1 (show ((w.alloc (.cells #[.int .i64 a.op, .int .i64 a.n, .string (str a.s), .slice sa a.args.length ca] 27)).alloc (.cells #[.int .i64 b.op, .int .i64 b.n, .string (str b.s), .slice sb b.args.length cb] 27)).cell? ⟨w.heap.size + 1, 1, none⟩ = some (.int .i64 b.n) by simp [go_sem])
   have b2 := keepc hb1 (show ((w.alloc (.cells #[.int .i64 a.op, .int .i64 a.n, .string (str a.s), .slice sa a.args.length ca] 27)).alloc (.cells #[.int .i64 b.op, .int .i64 b.n, .string (str b.s), .slice sb b.args.length cb] 27)).cell? ⟨w.heap.size + 1, 2, none⟩ = some (.string (str b.s)) by simp [go_sem])
   have b3 := keepc hb1 (show ((w.alloc (.cells #[.int .i64 a.op, .int .i64 a.n, .string (str a.s), .slice sa a.args.length ca] 27)).alloc (.cells #[.int .i64 b.op, .int .i64 b.n, .string (str b.s), .slice sb b.args.length cb] 27)).cell? ⟨w.heap.size + 1, 3, none⟩ = some (.slice sb b.args.length cb) by simp [go_sem])
   clear hb1
   go_wp2_with fail
   refine (GB.out _ HB1.out).mono ?_
   rintro r u ⟨rfl, hb2⟩
   have HU := Lib.hid (btr HB1.out hb2)
   clear hb2 a0 a1 a2 a3 b0 b1 b2 b3
   go_wp2_with fail
   refine (LV.out _ (HU.out)).mono ?_
   rintro r w9 ⟨rfl, hb9⟩
   have HB9 := Lib.hid (btr HU.out hb9)
   clear hb9
   go_wp2_with fail
   go_ret
   exact ⟨rfl, HB9.out⟩
  | false =>
   rw [hgb] at GB
   clear hgb
   go_enter Tryz.func5, Tryz.ntmps5
   go_wp2_with fail
   refine (GA.out _ (bal (bal (bref w) _) _)).mono ?_
   rintro r w1 ⟨rfl, hb1⟩
   have HB1 := Lib.hid (btr (bal (bal (bref w) _) _) hb1)
   have a0 := keepc hb1 (show ((w.alloc (.cells #[.int .i64 a.op, .int .i64 a.n, .string (str a.s), .slice sa a.args.length ca] 27)).alloc (.cells #[.int .i64 b.op, .int .i64 b.n, .string (str b.s), .slice sb b.args.length cb] 27)).cell? ⟨w.heap.size, 0, none⟩ = some (.int .i64 a.op) by simp [go_sem])
   have a1 := keepc hb1 (show ((w.alloc (.cells #[.int .i64 a.op, .int .i64 a.n, .string (str a.s), .slice sa a.args.length ca] 27)).alloc (.cells #[.int .i64 b.op, .int .i64 b.n, .string (str b.s), .slice sb b.args.length cb] 27)).cell? ⟨w.heap.size, 1, none⟩ = some (.int .i64 a.n) by simp [go_sem])
   have a2 := keepc hb1 (show ((w.alloc (.cells #[.int .i64 a.op, .int .i64 a.n, .string (str a.s), .slice sa a.args.length ca] 27)).alloc (.cells #[.int .i64 b.op, .int .i64 b.n, .string (str b.s), .slice sb b.args.length cb] 27)).cell? ⟨w.heap.size, 2, none⟩ = some (.string (str a.s)) by simp [go_sem])
   have a3 := keepc hb1 (show ((w.alloc (.cells #[.int .i64 a.op, .int .i64 a.n, .string (str a.s), .slice sa a.args.length ca] 27)).alloc (.cells #[.int .i64 b.op, .int .i64 b.n, .string (str b.s), .slice sb b.args.length cb] 27)).cell? ⟨w.heap.size, 3, none⟩ = some (.slice sa a.args.length ca) by simp [go_sem])
   have b0 := keepc hb1 (show ((w.alloc (.cells #[.int .i64 a.op, .int .i64 a.n, .string (str a.s), .slice sa a.args.length ca] 27)).alloc (.cells #[.int .i64 b.op, .int .i64 b.n, .string (str b.s), .slice sb b.args.length cb] 27)).cell? ⟨w.heap.size + 1, 0, none⟩ = some (.int .i64 b.op) by simp [go_sem])
   have b1 := keepc hb1 (show ((w.alloc (.cells #[.int .i64 a.op, .int .i64 a.n, .string (str a.s), .slice sa a.args.length ca] 27)).alloc (.cells #[.int .i64 b.op, .int .i64 b.n, .string (str b.s), .slice sb b.args.length cb] 27)).cell? ⟨w.heap.size + 1, 1, none⟩ = some (.int .i64 b.n) by simp [go_sem])
   have b2 := keepc hb1 (show ((w.alloc (.cells #[.int .i64 a.op, .int .i64 a.n, .string (str a.s), .slice sa a.args.length ca] 27)).alloc (.cells #[.int .i64 b.op, .int .i64 b.n, .string (str b.s), .slice sb b.args.length cb] 27)).cell? ⟨w.heap.size + 1, 2, none⟩ = some (.string (str b.s)) by simp [go_sem])
   have b3 := keepc hb1 (show ((w.alloc (.cells #[.int .i64 a.op, .int .i64 a.n, .string (str a.s), .slice sa a.args.length ca] 27)).alloc (.cells #[.int .i64 b.op, .int .i64 b.n, .string (str b.s), .slice sb b.args.length cb] 27)).cell? ⟨w.heap.size + 1, 3, none⟩ = some (.slice sb b.args.length cb) by simp [go_sem])
   clear hb1
   go_wp2_with fail
   refine (GB.out _ HB1.out).mono ?_
   rintro r u ⟨rfl, hb2⟩
   have HU := Lib.hid (btr HB1.out hb2)
   replace a0 := keepc hb2 a0
   replace a1 := keepc hb2 a1
   replace a2 := keepc hb2 a2
   replace a3 := keepc hb2 a3
   replace b0 := keepc hb2 b0
   replace b1 := keepc hb2 b1
   replace b2 := keepc hb2 b2
   replace b3 := keepc hb2 b3
   have LA := Lib.hid (LA0.out.keep HU.out)
   have LB := Lib.hid (LB0.out.keep HU.out)
   have SAA0 := fun W (h : ExprsAt sa a.args W) => msame a a sa sa ca ca W (by have := HSA.out; omega) h h
   simp only [same_yes (rfl : a = a)] at SAA0
   have SAA := Lib.hid SAA0
   clear hb2 SAA0
   go_wp2_with fail
   refine wp_region_held_drew (S := (fun W => Below u.heap.size u W)) (by kernel_rfl) (bdr (bref _)) (fun hH0 => ?_)
   refine wpAnyH_take (i := 0) (oi := _) (v := ?_) rfl (by kernel_rfl) (by kernel_rfl) (by kernel_rfl) (fun _ _ _ h => h) (Or.inl ⟨?_, ?_⟩) hH0 ?_
   rotate_left
   ·kernel_rfl
   ·(intro W' hSw; have f0 := keepc hSw a0; have g0 := keepc hSw b0; have f1 := keepc hSw a1; have g1 := keepc hSw b1; have f2 := keepc hSw a2; have g2 := keepc hSw b2; have f3 := keepc hSw a3; have g3 := keepc hSw b3; go_simp; (try simp only [beq_self_eq_true, decide_true, if_true]); (try with_reducible rfl))
   (try simp only [List.getElem_toArray])
   (try simp only [List.getElem_cons_succ])
   (try simp only [List.getElem_cons_zero])
   (try simp only [Act.put])
   (try simp only [List.setIfInBounds_toArray])
   (try simp only [List.set_cons_succ])
   (try simp only [List.set_cons_zero])
   refine wpAnyH_take (i := 2) (oi := _) (v := ?_) rfl (by kernel_rfl) (by kernel_rfl) (by kernel_rfl) (fun _ _ _ h => h) (Or.inl ⟨?_, ?_⟩) hH0 ?_
   rotate_left
   ·kernel_rfl
   ·(intro W' hSw; have f0 := keepc hSw a0; have g0 := keepc hSw b0; have f1 := keepc hSw a1; have g1 := keepc hSw b1; have f2 := keepc hSw a2; have g2 := keepc hSw b2; have f3 := keepc hSw a3; have g3 := keepc hSw b3; go_simp; (try simp only [beq_self_eq_true, decide_true, if_true]); (try with_reducible rfl))
   (try simp only [List.getElem_toArray])
   (try simp only [List.getElem_cons_succ])
   (try simp only [List.getElem_cons_zero])
   (try simp only [Act.put])
   (try simp only [List.setIfInBounds_toArray])
   (try simp only [List.set_cons_succ])
   (try simp only [List.set_cons_zero])
   refine wpAnyH_ready (rs := [1]) (by kernel_rfl) (by simp) ?_
   refine AllReadyH.cons (o := _) rfl (fun K hK => ?_) AllReadyH.nil
   go_simp
   refine (mnodes a sa ca _ (by have := HSA.out; omega) (LA.out.keep hH0)).mono ?_
   rintro r w1 ⟨rfl, hb1⟩
   refine hK.out _ _ (hH0.trans (hb1.mono hH0.size)) (fun hH1 => ?_)
   clear hK K
   (try simp only [List.getElem_toArray])
   (try simp only [List.getElem_cons_succ])
   (try simp only [List.getElem_cons_zero])
   (try simp only [Act.put])
   (try simp only [List.setIfInBounds_toArray])
   (try simp only [List.set_cons_succ])
   (try simp only [List.set_cons_zero])
   refine wpAnyH_ready (rs := [3]) (by kernel_rfl) (by simp) ?_
   refine AllReadyH.cons (o := _) rfl (fun K hK => ?_) AllReadyH.nil
   go_simp
   refine (rnodes a sa ca _ (by have := HSA.out; omega) (LA.out.keep hH1).1).mono ?_
   rintro r w2 ⟨rfl, hb2⟩
   refine hK.out _ _ (hH1.trans (hb2.mono hH1.size)) (fun hH2 => ?_)
   clear hK K
   (try simp only [List.getElem_toArray])
   (try simp only [List.getElem_cons_succ])
   (try simp only [List.getElem_cons_zero])
   (try simp only [Act.put])
   (try simp only [List.setIfInBounds_toArray])
   (try simp only [List.set_cons_succ])
   (try simp only [List.set_cons_zero])
   refine wpAnyH_take (i := 4) (oi := _) (v := ?_) rfl (by kernel_rfl) (by kernel_rfl) (by kernel_rfl) (fun _ _ _ h => h) (Or.inl ⟨?_, ?_⟩) hH2 ?_
   rotate_left
   ·kernel_rfl
   ·(intro W' hSw; have f0 := keepc hSw a0; have g0 := keepc hSw b0; have f1 := keepc hSw a1; have g1 := keepc hSw b1; have f2 := keepc hSw a2; have g2 := keepc hSw b2; have f3 := keepc hSw a3; have g3 := keepc hSw b3; go_simp; (try simp only [beq_self_eq_true, decide_true, if_true]); (try with_reducible rfl))
   (try simp only [List.getElem_toArray])
   (try simp only [List.getElem_cons_succ])
   (try simp only [List.getElem_cons_zero])
   (try simp only [Act.put])
   (try simp only [List.setIfInBounds_toArray])
   (try simp only [List.set_cons_succ])
   (try simp only [List.set_cons_zero])
   refine wpAnyH_take (i := 5) (oi := _) (v := ?_) rfl (by kernel_rfl) (by kernel_rfl) (by kernel_rfl) (fun _ _ _ h => h) (Or.inl ⟨?_, ?_⟩) hH2 ?_
   rotate_left
   ·kernel_rfl
   ·(intro W' hSw; have f0 := keepc hSw a0; have g0 := keepc hSw b0; have f1 := keepc hSw a1; have g1 := keepc hSw b1; have f2 := keepc hSw a2; have g2 := keepc hSw b2; have f3 := keepc hSw a3; have g3 := keepc hSw b3; go_simp; (try simp only [beq_self_eq_true, decide_true, if_true]); (try with_reducible rfl))
   (try simp only [List.getElem_toArray])
   (try simp only [List.getElem_cons_succ])
   (try simp only [List.getElem_cons_zero])
   (try simp only [Act.put])
   (try simp only [List.setIfInBounds_toArray])
   (try simp only [List.set_cons_succ])
   (try simp only [List.set_cons_zero])
   refine wpAnyH_take (i := 6) (oi := _) (v := ?_) rfl (by kernel_rfl) (by kernel_rfl) (by kernel_rfl) (fun _ _ _ h => h) (Or.inl ⟨?_, ?_⟩) hH2 ?_
   rotate_left
   ·kernel_rfl
   ·(intro W' hSw; have f0 := keepc hSw a0; have g0 := keepc hSw b0; have f1 := keepc hSw a1; have g1 := keepc hSw b1; have f2 := keepc hSw a2; have g2 := keepc hSw b2; have f3 := keepc hSw a3; have g3 := keepc hSw b3; go_simp; (try simp only [beq_self_eq_true, decide_true, if_true]); (try with_reducible rfl))
   (try simp only [List.getElem_toArray])
   (try simp only [List.getElem_cons_succ])
   (try simp only [List.getElem_cons_zero])
   (try simp only [Act.put])
   (try simp only [List.setIfInBounds_toArray])
   (try simp only [List.set_cons_succ])
   (try simp only [List.set_cons_zero])
   refine wpAnyH_take (i := 8) (oi := _) (v := ?_) rfl (by kernel_rfl) (by kernel_rfl) (by kernel_rfl) (fun _ _ _ h => h) (Or.inl ⟨?_, ?_⟩) hH2 ?_
   rotate_left
   ·kernel_rfl
   ·(intro W' hSw; have f0 := keepc hSw a0; have g0 := keepc hSw b0; have f1 := keepc hSw a1; have g1 := keepc hSw b1; have f2 := keepc hSw a2; have g2 := keepc hSw b2; have f3 := keepc hSw a3; have g3 := keepc hSw b3; go_simp; (try simp only [beq_self_eq_true, decide_true, if_true]); (try with_reducible rfl))
   (try simp only [List.getElem_toArray])
   (try simp only [List.getElem_cons_succ])
   (try simp only [List.getElem_cons_zero])
   (try simp only [Act.put])
   (try simp only [List.setIfInBounds_toArray])
   (try simp only [List.set_cons_succ])
   (try simp only [List.set_cons_zero])
   refine wpAnyH_ready (rs := [7]) (by kernel_rfl) (by simp) ?_
   refine AllReadyH.cons (o := _) rfl (fun K hK => ?_) AllReadyH.nil
   go_simp
   refine (mnames a sa ca _ (by have := HSA.out; omega) (LA.out.keep hH2)).mono ?_
   rintro r w3 ⟨l1, ao1, c1, rfl, hN1, hl1, hT1, hb3⟩
   refine hK.out _ _ (hH2.trans (hb3.mono hH2.size)) (fun hH3 => ?_)
   clear hK K
   (try simp only [List.getElem_toArray])
   (try simp only [List.getElem_cons_succ])
   (try simp only [List.getElem_cons_zero])
   (try simp only [Act.put])
   (try simp only [List.setIfInBounds_toArray])
   (try simp only [List.set_cons_succ])
   (try simp only [List.set_cons_zero])
   refine wpAnyH_ready (rs := [9]) (by kernel_rfl) (by simp) ?_
   refine AllReadyH.cons (o := _) rfl (fun K hK => ?_) AllReadyH.nil
   go_simp
   refine (rnames a sa ca _ (by have := HSA.out; omega) (LA.out.keep hH3).1).mono ?_
   rintro r w4 ⟨l2, ao2, c2, rfl, hN2, hl2, hT2, hb4⟩
   have e12 := hN2.eq hN1
   subst e12
   have hT1b := hT1.keep hb4
   have hll : l2.length ≤ 1000000 := by have := HSA.out; omega
   refine hK.out _ _ (hH3.trans (hb4.mono hH3.size)) (fun hH4 => ?_)
   clear hK K
   (try simp only [List.getElem_toArray])
   (try simp only [List.getElem_cons_succ])
   (try simp only [List.getElem_cons_zero])
   (try simp only [Act.put])
   (try simp only [List.setIfInBounds_toArray])
   (try simp only [List.set_cons_succ])
   (try simp only [List.set_cons_zero])
   refine wpAnyH_ready (rs := [10]) (by kernel_rfl) (by simp) ?_
   refine AllReadyH.cons (o := _) rfl (fun K hK => ?_) AllReadyH.nil
   go_simp
   refine (rsameT ao1 ao2 l2 l2 c1 c2 hll hll _ hT1b hT2.1).mono ?_
   rintro r w5 ⟨rfl, hb5⟩
   refine hK.out _ _ (hH4.trans (hb5.mono hH4.size)) (fun hH5 => ?_)
   clear hK K
   (try simp only [List.getElem_toArray])
   (try simp only [List.getElem_cons_succ])
   (try simp only [List.getElem_cons_zero])
   (try simp only [Act.put])
   (try simp only [List.setIfInBounds_toArray])
   (try simp only [List.set_cons_succ])
   (try simp only [List.set_cons_zero])
   refine wpAnyH_take (i := 11) (oi := _) (v := ?_) rfl (by kernel_rfl) (by kernel_rfl) (by kernel_rfl) (fun _ _ _ h => h) (Or.inl ⟨?_, ?_⟩) hH5 ?_
   rotate_left
   ·kernel_rfl
   ·(intro W' hSw; have f0 := keepc hSw a0; have g0 := keepc hSw b0; have f1 := keepc hSw a1; have g1 := keepc hSw b1; have f2 := keepc hSw a2; have g2 := keepc hSw b2; have f3 := keepc hSw a3; have g3 := keepc hSw b3; go_simp; (try simp only [beq_self_eq_true, decide_true, if_true]); (try with_reducible rfl))
   (try simp only [List.getElem_toArray])
   (try simp only [List.getElem_cons_succ])
   (try simp only [List.getElem_cons_zero])
   (try simp only [Act.put])
   (try simp only [List.setIfInBounds_toArray])
   (try simp only [List.set_cons_succ])
   (try simp only [List.set_cons_zero])
   refine wpAnyH_take (i := 12) (oi := _) (v := ?_) rfl (by kernel_rfl) (by kernel_rfl) (by kernel_rfl) (fun _ _ _ h => h) (Or.inl ⟨?_, ?_⟩) hH5 ?_
   rotate_left
   ·kernel_rfl
   ·(intro W' hSw; have f0 := keepc hSw a0; have g0 := keepc hSw b0; have f1 := keepc hSw a1; have g1 := keepc hSw b1; have f2 := keepc hSw a2; have g2 := keepc hSw b2; have f3 := keepc hSw a3; have g3 := keepc hSw b3; go_simp; (try simp only [beq_self_eq_true, decide_true, if_true]); (try with_reducible rfl))
   (try simp only [List.getElem_toArray])
   (try simp only [List.getElem_cons_succ])
   (try simp only [List.getElem_cons_zero])
   (try simp only [Act.put])
   (try simp only [List.setIfInBounds_toArray])
   (try simp only [List.set_cons_succ])
   (try simp only [List.set_cons_zero])
   refine wpAnyH_take (i := 13) (oi := _) (v := ?_) rfl (by kernel_rfl) (by kernel_rfl) (by kernel_rfl) (fun _ _ _ h => h) (Or.inl ⟨?_, ?_⟩) hH5 ?_
   rotate_left
   ·kernel_rfl
   ·(intro W' hSw; have f0 := keepc hSw a0; have g0 := keepc hSw b0; have f1 := keepc hSw a1; have g1 := keepc hSw b1; have f2 := keepc hSw a2; have g2 := keepc hSw b2; have f3 := keepc hSw a3; have g3 := keepc hSw b3; go_simp; (try simp only [beq_self_eq_true, decide_true, if_true]); (try with_reducible rfl))
   (try simp only [List.getElem_toArray])
   (try simp only [List.getElem_cons_succ])
   (try simp only [List.getElem_cons_zero])
   (try simp only [Act.put])
   (try simp only [List.setIfInBounds_toArray])
   (try simp only [List.set_cons_succ])
   (try simp only [List.set_cons_zero])
   refine wpAnyH_take (i := 14) (oi := _) (v := ?_) rfl (by kernel_rfl) (by kernel_rfl) (by kernel_rfl) (fun _ _ _ h => h) (Or.inl ⟨?_, ?_⟩) hH5 ?_
   rotate_left
   ·kernel_rfl
   ·(intro W' hSw; have f0 := keepc hSw a0; have g0 := keepc hSw b0; have f1 := keepc hSw a1; have g1 := keepc hSw b1; have f2 := keepc hSw a2; have g2 := keepc hSw b2; have f3 := keepc hSw a3; have g3 := keepc hSw b3; go_simp; (try simp only [beq_self_eq_true, decide_true, if_true]); (try with_reducible rfl))
   (try simp only [List.getElem_toArray])
   (try simp only [List.getElem_cons_succ])
   (try simp only [List.getElem_cons_zero])
   (try simp only [Act.put])
   (try simp only [List.setIfInBounds_toArray])
   (try simp only [List.set_cons_succ])
   (try simp only [List.set_cons_zero])
   refine wpAnyH_take (i := 16) (oi := _) (v := ?_) rfl (by kernel_rfl) (by kernel_rfl) (by kernel_rfl) (fun _ _ _ h => h) (Or.inl ⟨?_, ?_⟩) hH5 ?_
   rotate_left
   ·kernel_rfl
   ·(intro W' hSw; have f0 := keepc hSw a0; have g0 := keepc hSw b0; have f1 := keepc hSw a1; have g1 := keepc hSw b1; have f2 := keepc hSw a2; have g2 := keepc hSw b2; have f3 := keepc hSw a3; have g3 := keepc hSw b3; go_simp; (try simp only [beq_self_eq_true, decide_true, if_true]); (try with_reducible rfl))
   (try simp only [List.getElem_toArray])
   (try simp only [List.getElem_cons_succ])
   (try simp only [List.getElem_cons_zero])
   (try simp only [Act.put])
   (try simp only [List.setIfInBounds_toArray])
   (try simp only [List.set_cons_succ])
   (try simp only [List.set_cons_zero])
   refine wpAnyH_take (i := 17) (oi := _) (v := ?_) rfl (by kernel_rfl) (by kernel_rfl) (by kernel_rfl) (fun _ _ _ h => h) (Or.inl ⟨?_, ?_⟩) hH5 ?_
   rotate_left
   ·kernel_rfl
   ·(intro W' hSw; have f0 := keepc hSw a0; have g0 := keepc hSw b0; have f1 := keepc hSw a1; have g1 := keepc hSw b1; have f2 := keepc hSw a2; have g2 := keepc hSw b2; have f3 := keepc hSw a3; have g3 := keepc hSw b3; go_simp; (try simp only [beq_self_eq_true, decide_true, if_true]); (try with_reducible rfl))
   (try simp only [List.getElem_toArray])
   (try simp only [List.getElem_cons_succ])
   (try simp only [List.getElem_cons_zero])
   (try simp only [Act.put])
   (try simp only [List.setIfInBounds_toArray])
   (try simp only [List.set_cons_succ])
   (try simp only [List.set_cons_zero])
   refine wpAnyH_ready (rs := [15]) (by kernel_rfl) (by simp) ?_
   refine AllReadyH.cons (o := _) rfl (fun K hK => ?_) AllReadyH.nil
   go_simp
   refine (msame a b sa sb ca cb _ (by have := HSA.out; omega) (LA.out.keep hH5).1 (LB.out.keep hH5).1).mono ?_
   rintro r w6 ⟨rfl, hb6⟩
   refine hK.out _ _ (hH5.trans (hb6.mono hH5.size)) (fun hH6 => ?_)
   clear hK K
   (try simp only [List.getElem_toArray])
   (try simp only [List.getElem_cons_succ])
   (try simp only [List.getElem_cons_zero])
   (try simp only [Act.put])
   (try simp only [List.setIfInBounds_toArray])
   (try simp only [List.set_cons_succ])
   (try simp only [List.set_cons_zero])
   refine wpAnyH_ready (rs := [18]) (by kernel_rfl) (by simp) ?_
   refine AllReadyH.cons (o := _) rfl (fun K hK => ?_) AllReadyH.nil
   go_simp
   refine (rsame a b sa sb ca cb _ (by have := HSA.out; omega) (LA.out.keep hH6).1 (LB.out.keep hH6).1).mono ?_
   rintro r w7 ⟨rfl, hb7⟩
   refine hK.out _ _ (hH6.trans (hb7.mono hH6.size)) (fun hH7 => ?_)
   clear hK K
   (try simp only [List.getElem_toArray])
   (try simp only [List.getElem_cons_succ])
   (try simp only [List.getElem_cons_zero])
   (try simp only [Act.put])
   (try simp only [List.setIfInBounds_toArray])
   (try simp only [List.set_cons_succ])
   (try simp only [List.set_cons_zero])
   refine wpAnyH_take (i := 19) (oi := _) (v := ?_) rfl (by kernel_rfl) (by kernel_rfl) (by kernel_rfl) (fun _ _ _ h => h) (Or.inl ⟨?_, ?_⟩) hH7 ?_
   rotate_left
   ·kernel_rfl
   ·(intro W' hSw; have f0 := keepc hSw a0; have g0 := keepc hSw b0; have f1 := keepc hSw a1; have g1 := keepc hSw b1; have f2 := keepc hSw a2; have g2 := keepc hSw b2; have f3 := keepc hSw a3; have g3 := keepc hSw b3; go_simp; (try simp only [beq_self_eq_true, decide_true, if_true]); (try with_reducible rfl))
   (try simp only [List.getElem_toArray])
   (try simp only [List.getElem_cons_succ])
   (try simp only [List.getElem_cons_zero])
   (try simp only [Act.put])
   (try simp only [List.setIfInBounds_toArray])
   (try simp only [List.set_cons_succ])
   (try simp only [List.set_cons_zero])
   refine wpAnyH_take (i := 20) (oi := _) (v := ?_) rfl (by kernel_rfl) (by kernel_rfl) (by kernel_rfl) (fun _ _ _ h => h) (Or.inl ⟨?_, ?_⟩) hH7 ?_
   rotate_left
   ·kernel_rfl
   ·(intro W' hSw; have f0 := keepc hSw a0; have g0 := keepc hSw b0; have f1 := keepc hSw a1; have g1 := keepc hSw b1; have f2 := keepc hSw a2; have g2 := keepc hSw b2; have f3 := keepc hSw a3; have g3 := keepc hSw b3; go_simp; (try simp only [beq_self_eq_true, decide_true, if_true]); (try with_reducible rfl))
   (try simp only [List.getElem_toArray])
   (try simp only [List.getElem_cons_succ])
   (try simp only [List.getElem_cons_zero])
   (try simp only [Act.put])
   (try simp only [List.setIfInBounds_toArray])
   (try simp only [List.set_cons_succ])
   (try simp only [List.set_cons_zero])
   refine wpAnyH_take (i := 21) (oi := _) (v := ?_) rfl (by kernel_rfl) (by kernel_rfl) (by kernel_rfl) (fun _ _ _ h => h) (Or.inl ⟨?_, ?_⟩) hH7 ?_
   rotate_left
   ·kernel_rfl
   ·(intro W' hSw; have f0 := keepc hSw a0; have g0 := keepc hSw b0; have f1 := keepc hSw a1; have g1 := keepc hSw b1; have f2 := keepc hSw a2; have g2 := keepc hSw b2; have f3 := keepc hSw a3; have g3 := keepc hSw b3; go_simp; (try simp only [beq_self_eq_true, decide_true, if_true]); (try with_reducible rfl))
   (try simp only [List.getElem_toArray])
   (try simp only [List.getElem_cons_succ])
   (try simp only [List.getElem_cons_zero])
   (try simp only [Act.put])
   (try simp only [List.setIfInBounds_toArray])
   (try simp only [List.set_cons_succ])
   (try simp only [List.set_cons_zero])
   refine wpAnyH_take (i := 22) (oi := _) (v := ?_) rfl (by kernel_rfl) (by kernel_rfl) (by kernel_rfl) (fun _ _ _ h => h) (Or.inl ⟨?_, ?_⟩) hH7 ?_
   rotate_left
   ·kernel_rfl
   ·(intro W' hSw; have f0 := keepc hSw a0; have g0 := keepc hSw b0; have f1 := keepc hSw a1; have g1 := keepc hSw b1; have f2 := keepc hSw a2; have g2 := keepc hSw b2; have f3 := keepc hSw a3; have g3 := keepc hSw b3; go_simp; (try simp only [beq_self_eq_true, decide_true, if_true]); (try with_reducible rfl))
   (try simp only [List.getElem_toArray])
   (try simp only [List.getElem_cons_succ])
   (try simp only [List.getElem_cons_zero])
   (try simp only [Act.put])
   (try simp only [List.setIfInBounds_toArray])
   (try simp only [List.set_cons_succ])
   (try simp only [List.set_cons_zero])
   refine wpAnyH_take (i := 23) (oi := _) (v := ?_) rfl (by kernel_rfl) (by kernel_rfl) (by kernel_rfl) (fun _ _ _ h => h) (Or.inl ⟨?_, ?_⟩) hH7 ?_
   rotate_left
   ·kernel_rfl
   ·(intro W' hSw; have f0 := keepc hSw a0; have g0 := keepc hSw b0; have f1 := keepc hSw a1; have g1 := keepc hSw b1; have f2 := keepc hSw a2; have g2 := keepc hSw b2; have f3 := keepc hSw a3; have g3 := keepc hSw b3; go_simp; (try simp only [beq_self_eq_true, decide_true, if_true]); (try with_reducible rfl))
   (try simp only [List.getElem_toArray])
   (try simp only [List.getElem_cons_succ])
   (try simp only [List.getElem_cons_zero])
   (try simp only [Act.put])
   (try simp only [List.setIfInBounds_toArray])
   (try simp only [List.set_cons_succ])
   (try simp only [List.set_cons_zero])
   refine wpAnyH_ready (rs := [24]) (by kernel_rfl) (by simp) ?_
   refine AllReadyH.cons (o := _) rfl (fun K hK => ?_) AllReadyH.nil
   go_simp
   refine (SAA.out _ (LA.out.keep hH7).1).mono ?_
   rintro r w8 ⟨rfl, hb8⟩
   refine hK.out _ _ (hH7.trans (hb8.mono hH7.size)) (fun hH8 => ?_)
   clear hK K
   (try simp only [List.getElem_toArray])
   (try simp only [List.getElem_cons_succ])
   (try simp only [List.getElem_cons_zero])
   (try simp only [Act.put])
   (try simp only [List.setIfInBounds_toArray])
   (try simp only [List.set_cons_succ])
   (try simp only [List.set_cons_zero])
   refine wpAnyH_take (i := 25) (oi := _) (v := ?_) rfl (by kernel_rfl) (by kernel_rfl) (by kernel_rfl) (fun _ _ _ h => h) (Or.inl ⟨?_, ?_⟩) hH8 ?_
   rotate_left
   ·kernel_rfl
   ·(intro W' hSw; have f0 := keepc hSw a0; have g0 := keepc hSw b0; have f1 := keepc hSw a1; have g1 := keepc hSw b1; have f2 := keepc hSw a2; have g2 := keepc hSw b2; have f3 := keepc hSw a3; have g3 := keepc hSw b3; go_simp; (try simp only [beq_self_eq_true, decide_true, if_true]); (try with_reducible rfl))
   (try simp only [List.getElem_toArray])
   (try simp only [List.getElem_cons_succ])
   (try simp only [List.getElem_cons_zero])
   (try simp only [Act.put])
   (try simp only [List.setIfInBounds_toArray])
   (try simp only [List.set_cons_succ])
   (try simp only [List.set_cons_zero])
   refine wpAnyH_take (i := 26) (oi := _) (v := ?_) rfl (by kernel_rfl) (by kernel_rfl) (by kernel_rfl) (fun _ _ _ h => h) (Or.inl ⟨?_, ?_⟩) hH8 ?_
   rotate_left
   ·kernel_rfl
   ·(intro W' hSw; have f0 := keepc hSw a0; have g0 := keepc hSw b0; have f1 := keepc hSw a1; have g1 := keepc hSw b1; have f2 := keepc hSw a2; have g2 := keepc hSw b2; have f3 := keepc hSw a3; have g3 := keepc hSw b3; go_simp; (try simp only [beq_self_eq_true, decide_true, if_true]); (try with_reducible rfl))
   (try simp only [List.getElem_toArray])
   (try simp only [List.getElem_cons_succ])
   (try simp only [List.getElem_cons_zero])
   (try simp only [Act.put])
   (try simp only [List.setIfInBounds_toArray])
   (try simp only [List.set_cons_succ])
   (try simp only [List.set_cons_zero])
   refine wpAnyH_ready (rs := [27]) (by kernel_rfl) (by simp) ?_
   refine AllReadyH.cons (o := _) rfl (fun K hK => ?_) AllReadyH.nil
   go_simp
   refine (LV.out _ (HU.out.trans (hH8.mono HU.out.size))).mono ?_
   rintro r w9 ⟨rfl, hb9⟩
   refine hK.out _ _ (hH8.trans (hb9.mono hH8.size)) (fun hH9 => ?_)
   clear hK K
   (try simp only [List.getElem_toArray])
   (try simp only [List.getElem_cons_succ])
   (try simp only [List.getElem_cons_zero])
   (try simp only [Act.put])
   (try simp only [List.setIfInBounds_toArray])
   (try simp only [List.set_cons_succ])
   (try simp only [List.set_cons_zero])
   refine wpAnyH_take (i := 28) (oi := _) (v := ?_) rfl (by kernel_rfl) (by kernel_rfl) (by kernel_rfl) (fun _ _ _ h => h) (Or.inl ⟨?_, ?_⟩) hH9 ?_
   rotate_left
   ·kernel_rfl
   ·(intro W' hSw; have f0 := keepc hSw a0; have g0 := keepc hSw b0; have f1 := keepc hSw a1; have g1 := keepc hSw b1; have f2 := keepc hSw a2; have g2 := keepc hSw b2; have f3 := keepc hSw a3; have g3 := keepc hSw b3; go_simp; (try simp only [beq_self_eq_true, decide_true, if_true]); (try with_reducible rfl))
   (try simp only [List.getElem_toArray])
   (try simp only [List.getElem_cons_succ])
   (try simp only [List.getElem_cons_zero])
   (try simp only [Act.put])
   (try simp only [List.setIfInBounds_toArray])
   (try simp only [List.set_cons_succ])
   (try simp only [List.set_cons_zero])
   refine wpAnyH_take (i := 29) (oi := _) (v := ?_) rfl (by kernel_rfl) (by kernel_rfl) (by kernel_rfl) (fun _ _ _ h => h) (Or.inl ⟨?_, ?_⟩) hH9 ?_
   rotate_left
   ·kernel_rfl
   ·(intro W' hSw; have f0 := keepc hSw a0; have g0 := keepc hSw b0; have f1 := keepc hSw a1; have g1 := keepc hSw b1; have f2 := keepc hSw a2; have g2 := keepc hSw b2; have f3 := keepc hSw a3; have g3 := keepc hSw b3; go_simp; (try simp only [beq_self_eq_true, decide_true, if_true]); (try with_reducible rfl))
   (try simp only [List.getElem_toArray])
   (try simp only [List.getElem_cons_succ])
   (try simp only [List.getElem_cons_zero])
   (try simp only [Act.put])
   (try simp only [List.setIfInBounds_toArray])
   (try simp only [List.set_cons_succ])
   (try simp only [List.set_cons_zero])
   refine wpAnyH_done (by kernel_rfl) ?_ _
   have HF := Lib.hid hH9
   go_wp2_with fail
   go_ret
   exact ⟨rfl, HU.out.trans (HF.out.mono HU.out.size)⟩
end Go.Proofs.YtplkphihmfhciaaGreatDoor
