/-
  The walk of CodeEquals.
-/
import Derived.Test.YthanoilbcdhbkaaGreatDoorQKS
namespace Go.Proofs.YthanoilbcdhbkaaGreatDoor
open Go Go.RowKit Go.Lib Go.Shelf WM TM EM YM

set_option maxRecDepth 100000 in
set_option maxHeartbeats 8000000 in
theorem codeEquals (a b : Cd) (vo io vo2 io2 : Option Addr) (vc ic vc2 ic2 : Nat) (w : World) (hG : Gk w) (h : CodeAt a vo vc io ic w) (h2 : CodeAt b vo2 vc2 io2 ic2 w) :
  Calls Tryz.prog 6 #[.agg #[.int .i64 a.t, .slice vo a.vs.length vc, .slice io a.c.length ic], .agg #[.int .i64 b.t, .slice vo2 b.vs.length vc2, .slice io2 b.c.length ic2]] w fun r w' => r = .returned (.bool true) ∧ Below w.heap.size w w' := by
 have FA := Lib.hid (fun W => lfew a vo io vc ic W)
 have FB := Lib.hid (fun W => lfew b vo2 io2 vc2 ic2 W)
 have LIV := Lib.hid (fun W (hW : Below w.heap.size w W) => mlive12 W (hG.keep hW))
 have SAB := Lib.hid (fun W (hW : Below w.heap.size w W) (h1 : a.vs.length ≤ 1000000) (h2' : a.c.length ≤ 1000000) => mSame a b vo io vo2 io2 vc ic vc2 ic2 W h1 h2' (h.keep hW) (h2.keep hW))
 have RAB := Lib.hid (fun W (hW : Below w.heap.size w W) (h1 : a.vs.length ≤ 1000000) (h2' : a.c.length ≤ 1000000) => rSameC a b vo io vo2 io2 vc ic vc2 ic2 W h1 h2' (h.keep hW) (h2.keep hW))
 have SBA := Lib.hid (fun W (hW : Below w.heap.size w W) (h1 : b.vs.length ≤ 1000000) (h2' : b.c.length ≤ 1000000) => mSame b a vo2 io2 vo io vc2 ic2 vc ic W h1 h2' (h2.keep hW) (h.keep hW))
 have SAA := Lib.hid (fun W (hW : Below w.heap.size w W) (h1 : a.vs.length ≤ 1000000) (h2' : a.c.length ≤ 1000000) => mSame a a vo io vo io vc ic vc ic W h1 h2' (h.keep hW) (h.keep hW))
 rw [same3_comm b a] at SBA
 rw [same3_self a] at SAA
 have PA := Lib.hid (few_parts (a := a))
 have PB := Lib.hid (few_parts (a := b))
 obtain ⟨R, hR⟩ : ∃ R, same3 a b = R := ⟨_, rfl⟩
 rw [hR] at SAB RAB SBA
 obtain ⟨ta, hta⟩ : ∃ t, a.t = t := ⟨_, rfl⟩
 obtain ⟨tb, htb⟩ : ∃ t, b.t = t := ⟨_, rfl⟩
 obtain ⟨va, hva⟩ : ∃ n, a.vs.length = n := ⟨_, rfl⟩
 obtain ⟨vb, hvb⟩ : ∃ n, b.vs.length = n := ⟨_, rfl⟩
 obtain ⟨ca, hca⟩ : ∃ n, a.c.length = n := ⟨_, rfl⟩
 obtain ⟨cb, hcb⟩ : ∃ n, b.c.length = n := ⟨_, rfl⟩
 obtain ⟨fA, hfA⟩ : ∃ n, fewB a = n := ⟨_, rfl⟩
 obtain ⟨fB, hfB⟩ : ∃ n, fewB b = n := ⟨_, rfl⟩
 rw [hta, hva, hca, hfA] at FA
 rw [htb, hvb, hcb, hfB] at FB
 rw [hfA, hva, hca] at PA
 rw [hfB, hvb, hcb] at PB
 rw [hta, htb, hva, hvb, hca, hcb] at SAB RAB
 rw [hta, htb, hva, hvb, hca, hcb] at SBA
 rw [hta, hva, hca] at SAA
 rw [hta, htb, hva, hvb, hca, hcb]
 have HB0 := Lib.hid (show Below w.heap.size w ((w.alloc (.cells #[.int .i64 ta, .slice vo va vc, .slice io ca ic] 30)).alloc (.cells #[.int .i64 tb, .slice vo2 vb vc2, .slice io2 cb ic2] 30)) from bal (bal (bref w) _) _)
 clear h h2 hG hR hta htb hva hvb hca hcb hfA hfB
 cases fA with
 | false =>
  go_enter Tryz.func6, Tryz.ntmps6
  go_wp2_with fail
  refine (FA.out _).mono ?_
  rintro r u1 ⟨rfl, hb⟩
  have HBl := Lib.hid (btr HB0.out hb)
  clear hb
  go_wp2_with fail
  refine (LIV.out _ HBl.out).mono ?_
  rintro r u9 ⟨rfl, hb⟩
  have HB9 := Lib.hid (btr HBl.out hb)
  clear hb
  go_wp2_with fail
  go_ret
  exact ⟨rfl, HB9.out⟩
 | true =>
 obtain ⟨pa1, pa2⟩ := PA.out rfl
 cases fB with
 | false =>
  go_enter Tryz.func6, Tryz.ntmps6
  go_wp2_with fail
  refine (FA.out _).mono ?_
  rintro r u1 ⟨rfl, hb⟩
  have a0 := keepc hb (show ((w.alloc (.cells #[.int .i64 ta, .slice vo va vc, .slice io ca ic] 30)).alloc (.cells #[.int .i64 tb, .slice vo2 vb vc2, .slice io2 cb ic2] 30)).cell? ⟨w.heap.size, 0, none⟩ = some (.int .i64 ta) by simp [go_sem])
  have b0 := keepc hb (show ((w.alloc (.cells #[.int .i64 ta, .slice vo va vc, .slice io ca ic] 30)).alloc (.cells #[.int .i64 tb, .slice vo2 vb vc2, .slice io2 cb ic2] 30)).cell? ⟨w.heap.size + 1, 0, none⟩ = some (.int .i64 tb) by simp [go_sem])
  have a1 := keepc hb (show ((w.alloc (.cells #[.int .i64 ta, .slice vo va vc, .slice io ca ic] 30)).alloc (.cells #[.int .i64 tb, .slice vo2 vb vc2, .slice io2 cb ic2] 30)).cell? ⟨w.heap.size, 1, none⟩ = some (.slice vo va vc) by simp [go_sem])
  have b1 := keepc hb (show ((w.alloc (.cells #[.int .i64 ta, .slice vo va vc, .slice io ca ic] 30)).alloc (.cells #[.int .i64 tb, .slice vo2 vb vc2, .slice io2 cb ic2] 30)).cell? ⟨w.heap.size + 1, 1, none⟩ = some (.slice vo2 vb vc2) by simp [go_sem])
  have a2 := keepc hb (show ((w.alloc (.cells #[.int .i64 ta, .slice vo va vc, .slice io ca ic] 30)).alloc (.cells #[.int .i64 tb, .slice vo2 vb vc2, .slice io2 cb ic2] 30)).cell? ⟨w.heap.size, 2, none⟩ = some (.slice io ca ic) by simp [go_sem])
  have b2 := keepc hb (show ((w.alloc (.cells #[.int .i64 ta, .slice vo va vc, .slice io ca ic] 30)).alloc (.cells #[.int .i64 tb, .slice vo2 vb vc2, .slice io2 cb ic2] 30)).cell? ⟨w.heap.size + 1, 2, none⟩ = some (.slice io2 cb ic2) by simp [go_sem])
  have HB1 := Lib.hid (btr HB0.out hb)
  clear hb
  go_wp2_with fail
  refine (FB.out _).mono ?_
  rintro r u2 ⟨rfl, hb⟩
  have HBl := Lib.hid (btr HB1.out hb)
  clear hb
  go_wp2_with fail
  refine (LIV.out _ HBl.out).mono ?_
  rintro r u9 ⟨rfl, hb⟩
  have HB9 := Lib.hid (btr HBl.out hb)
  clear hb
  go_wp2_with fail
  go_ret
  exact ⟨rfl, HB9.out⟩
 | true =>
 obtain ⟨pb1, pb2⟩ := PB.out rfl
 replace SAB := Lib.hid (fun W hW => SAB.out W hW (by omega) (by omega))
 replace RAB := Lib.hid (fun W hW => RAB.out W hW (by omega) (by omega))
 replace SBA := Lib.hid (fun W hW => SBA.out W hW (by omega) (by omega))
 replace SAA := Lib.hid (fun W hW => SAA.out W hW (by omega) (by omega))
 cases R with
 | true =>
  go_enter Tryz.func6, Tryz.ntmps6
  go_wp2_with fail
  refine (FA.out _).mono ?_
  rintro r u1 ⟨rfl, hb⟩
  have a0 := keepc hb (show ((w.alloc (.cells #[.int .i64 ta, .slice vo va vc, .slice io ca ic] 30)).alloc (.cells #[.int .i64 tb, .slice vo2 vb vc2, .slice io2 cb ic2] 30)).cell? ⟨w.heap.size, 0, none⟩ = some (.int .i64 ta) by simp [go_sem])
  have b0 := keepc hb (show ((w.alloc (.cells #[.int .i64 ta, .slice vo va vc, .slice io ca ic] 30)).alloc (.cells #[.int .i64 tb, .slice vo2 vb vc2, .slice io2 cb ic2] 30)).cell? ⟨w.heap.size + 1, 0, none⟩ = some (.int .i64 tb) by simp [go_sem])
  have a1 := keepc hb (show ((w.alloc (.cells #[.int .i64 ta, .slice vo va vc, .slice io ca ic] 30)).alloc (.cells #[.int .i64 tb, .slice vo2 vb vc2, .slice io2 cb ic2] 30)).cell? ⟨w.heap.size, 1, none⟩ = some (.slice vo va vc) by simp [go_sem])
  have b1 := keepc hb (show ((w.alloc (.cells #[.int .i64 ta, .slice vo va vc, .slice io ca ic] 30)).alloc (.cells #[.int .i64 tb, .slice vo2 vb vc2, .slice io2 cb ic2] 30)).cell? ⟨w.heap.size + 1, 1, none⟩ = some (.slice vo2 vb vc2) by simp [go_sem])
  have a2 := keepc hb (show ((w.alloc (.cells #[.int .i64 ta, .slice vo va vc, .slice io ca ic] 30)).alloc (.cells #[.int .i64 tb, .slice vo2 vb vc2, .slice io2 cb ic2] 30)).cell? ⟨w.heap.size, 2, none⟩ = some (.slice io ca ic) by simp [go_sem])
  have b2 := keepc hb (show ((w.alloc (.cells #[.int .i64 ta, .slice vo va vc, .slice io ca ic] 30)).alloc (.cells #[.int .i64 tb, .slice vo2 vb vc2, .slice io2 cb ic2] 30)).cell? ⟨w.heap.size + 1, 2, none⟩ = some (.slice io2 cb ic2) by simp [go_sem])
  have HB1 := Lib.hid (btr HB0.out hb)
  clear hb
  go_wp2_with fail
  refine (FB.out _).mono ?_
  rintro r u2 ⟨rfl, hb⟩
  replace a0 := keepc hb a0
  replace b0 := keepc hb b0
  replace a1 := keepc hb a1
  replace b1 := keepc hb b1
  replace a2 := keepc hb a2
  replace b2 := keepc hb b2
  have HB2 := Lib.hid (btr HB1.out hb)
  clear hb
  go_wp2_with fail
  refine wp_region_held_drew (S := (fun W => Below u2.heap.size u2 W)) (by kernel_rfl) (bdr (bref _)) (fun hH0 => ?_)
  refine wpAnyH_take (i := 0) (oi := _) (v := ?_) rfl (by kernel_rfl) (by kernel_rfl) (by kernel_rfl) (fun _ _ _ h => h) (Or.inl ⟨?_, ?_⟩) hH0 ?_
  rotate_left
  ·kernel_rfl
  ·(intro W' hSw; have f0 := keepc hSw a0; have g0 := keepc hSw b0; have f1 := keepc hSw a1; have g1 := keepc hSw b1; have f2 := keepc hSw a2; have g2 := keepc hSw b2; go_simp; (try with_reducible rfl))
  (try simp only [List.getElem_toArray, List.getElem_cons_zero, Act.put, List.setIfInBounds_toArray, List.set_cons_succ, List.set_cons_zero])
  refine wpAnyH_take (i := 1) (oi := _) (v := ?_) rfl (by kernel_rfl) (by kernel_rfl) (by kernel_rfl) (fun _ _ _ h => h) (Or.inl ⟨?_, ?_⟩) hH0 ?_
  rotate_left
  ·kernel_rfl
  ·(intro W' hSw; have f0 := keepc hSw a0; have g0 := keepc hSw b0; have f1 := keepc hSw a1; have g1 := keepc hSw b1; have f2 := keepc hSw a2; have g2 := keepc hSw b2; go_simp; (try with_reducible rfl))
  (try simp only [List.getElem_toArray, List.getElem_cons_succ, List.getElem_cons_zero, Act.put, List.setIfInBounds_toArray, List.set_cons_succ, List.set_cons_zero])
  refine wpAnyH_take (i := 3) (oi := _) (v := ?_) rfl (by kernel_rfl) (by kernel_rfl) (by kernel_rfl) (fun _ _ _ h => h) (Or.inl ⟨?_, ?_⟩) hH0 ?_
  rotate_left
  ·kernel_rfl
  ·(intro W' hSw; have f0 := keepc hSw a0; have g0 := keepc hSw b0; have f1 := keepc hSw a1; have g1 := keepc hSw b1; have f2 := keepc hSw a2; have g2 := keepc hSw b2; go_simp; (try with_reducible rfl))
  (try simp only [List.getElem_toArray, List.getElem_cons_succ, List.getElem_cons_zero, Act.put, List.setIfInBounds_toArray, List.set_cons_succ, List.set_cons_zero])
  refine wpAnyH_take (i := 4) (oi := _) (v := ?_) rfl (by kernel_rfl) (by kernel_rfl) (by kernel_rfl) (fun _ _ _ h => h) (Or.inl ⟨?_, ?_⟩) hH0 ?_
  rotate_left
  ·kernel_rfl
  ·(intro W' hSw; have f0 := keepc hSw a0; have g0 := keepc hSw b0; have f1 := keepc hSw a1; have g1 := keepc hSw b1; have f2 := keepc hSw a2; have g2 := keepc hSw b2; go_simp; (try with_reducible rfl))
  (try simp only [List.getElem_toArray, List.getElem_cons_succ, List.getElem_cons_zero, Act.put, List.setIfInBounds_toArray, List.set_cons_succ, List.set_cons_zero])
  refine wpAnyH_ready (rs := [2]) (by kernel_rfl) (by simp) ?_
  refine AllReadyH.cons (o := _) rfl (fun K hK => ?_) AllReadyH.nil
  go_simp
  refine (SAB.out _ (btr HB2.out hH0)).mono ?_
  rintro r v1 ⟨rfl, q1⟩
  refine hK.out _ _ (btr hH0 q1) (fun hH1 => ?_)
  clear hK K
  (try simp only [List.getElem_toArray, List.getElem_cons_succ, List.getElem_cons_zero, Act.put, List.setIfInBounds_toArray, List.set_cons_succ, List.set_cons_zero])
  refine wpAnyH_ready (rs := [5]) (by kernel_rfl) (by simp) ?_
  refine AllReadyH.cons (o := _) rfl (fun K hK => ?_) AllReadyH.nil
  go_simp
  refine (RAB.out _ (btr HB2.out hH1)).mono ?_
  rintro r v2 ⟨rfl, q2⟩
  refine hK.out _ _ (btr hH1 q2) (fun hH2 => ?_)
  clear hK K
  (try simp only [List.getElem_toArray, List.getElem_cons_succ, List.getElem_cons_zero, Act.put, List.setIfInBounds_toArray, List.set_cons_succ, List.set_cons_zero])
  refine wpAnyH_take (i := 6) (oi := _) (v := ?_) rfl (by kernel_rfl) (by kernel_rfl) (by kernel_rfl) (fun _ _ _ h => h) (Or.inl ⟨?_, ?_⟩) hH2 ?_
  rotate_left
  ·kernel_rfl
  ·(intro W' _; go_simp; (try with_reducible rfl))
  (try simp only [List.getElem_toArray, List.getElem_cons_succ, List.getElem_cons_zero, Act.put, List.setIfInBounds_toArray, List.set_cons_succ, List.set_cons_zero])
  refine wpAnyH_take (i := 7) (oi := _) (v := ?_) rfl (by kernel_rfl) (by kernel_rfl) (by kernel_rfl) (fun _ _ _ h => h) (Or.inl ⟨?_, ?_⟩) hH2 ?_
  rotate_left
  ·kernel_rfl
  ·(intro W' _; go_simp; (try with_reducible rfl))
  (try simp only [List.getElem_toArray, List.getElem_cons_succ, List.getElem_cons_zero, Act.put, List.setIfInBounds_toArray, List.set_cons_succ, List.set_cons_zero])
  refine wpAnyH_take (i := 8) (oi := _) (v := ?_) rfl (by kernel_rfl) (by kernel_rfl) (by kernel_rfl) (fun _ _ _ h => h) (Or.inl ⟨?_, ?_⟩) hH2 ?_
  rotate_left
  ·kernel_rfl
  ·(intro W' hSw; have f0 := keepc hSw a0; have g0 := keepc hSw b0; have f1 := keepc hSw a1; have g1 := keepc hSw b1; have f2 := keepc hSw a2; have g2 := keepc hSw b2; go_simp; (try with_reducible rfl))
  (try simp only [List.getElem_toArray, List.getElem_cons_succ, List.getElem_cons_zero, Act.put, List.setIfInBounds_toArray, List.set_cons_succ, List.set_cons_zero])
  refine wpAnyH_take (i := 9) (oi := _) (v := ?_) rfl (by kernel_rfl) (by kernel_rfl) (by kernel_rfl) (fun _ _ _ h => h) (Or.inl ⟨?_, ?_⟩) hH2 ?_
  rotate_left
  ·kernel_rfl
  ·(intro W' hSw; have f0 := keepc hSw a0; have g0 := keepc hSw b0; have f1 := keepc hSw a1; have g1 := keepc hSw b1; have f2 := keepc hSw a2; have g2 := keepc hSw b2; go_simp; (try with_reducible rfl))
  (try simp only [List.getElem_toArray, List.getElem_cons_succ, List.getElem_cons_zero, Act.put, List.setIfInBounds_toArray, List.set_cons_succ, List.set_cons_zero])
  refine wpAnyH_take (i := 11) (oi := _) (v := ?_) rfl (by kernel_rfl) (by kernel_rfl) (by kernel_rfl) (fun _ _ _ h => h) (Or.inl ⟨?_, ?_⟩) hH2 ?_
  rotate_left
  ·kernel_rfl
  ·(intro W' hSw; have f0 := keepc hSw a0; have g0 := keepc hSw b0; have f1 := keepc hSw a1; have g1 := keepc hSw b1; have f2 := keepc hSw a2; have g2 := keepc hSw b2; go_simp; (try with_reducible rfl))
  (try simp only [List.getElem_toArray, List.getElem_cons_succ, List.getElem_cons_zero, Act.put, List.setIfInBounds_toArray, List.set_cons_succ, List.set_cons_zero])
  refine wpAnyH_take (i := 12) (oi := _) (v := ?_) rfl (by kernel_rfl) (by kernel_rfl) (by kernel_rfl) (fun _ _ _ h => h) (Or.inl ⟨?_, ?_⟩) hH2 ?_
  rotate_left
  ·kernel_rfl
  ·(intro W' hSw; have f0 := keepc hSw a0; have g0 := keepc hSw b0; have f1 := keepc hSw a1; have g1 := keepc hSw b1; have f2 := keepc hSw a2; have g2 := keepc hSw b2; go_simp; (try with_reducible rfl))
  (try simp only [List.getElem_toArray, List.getElem_cons_succ, List.getElem_cons_zero, Act.put, List.setIfInBounds_toArray, List.set_cons_succ, List.set_cons_zero])
  refine wpAnyH_ready (rs := [10]) (by kernel_rfl) (by simp) ?_
  refine AllReadyH.cons (o := _) rfl (fun K hK => ?_) AllReadyH.nil
  go_simp
  refine (SBA.out _ (btr HB2.out hH2)).mono ?_
  rintro r v3 ⟨rfl, q3⟩
  refine hK.out _ _ (btr hH2 q3) (fun hH3 => ?_)
  clear hK K
  (try simp only [List.getElem_toArray, List.getElem_cons_succ, List.getElem_cons_zero, Act.put, List.setIfInBounds_toArray, List.set_cons_succ, List.set_cons_zero])
  refine wpAnyH_ready (rs := [13]) (by kernel_rfl) (by simp) ?_
  refine AllReadyH.cons (o := _) rfl (fun K hK => ?_) AllReadyH.nil
  go_simp
  refine (RAB.out _ (btr HB2.out hH3)).mono ?_
  rintro r v4 ⟨rfl, q4⟩
  refine hK.out _ _ (btr hH3 q4) (fun hH4 => ?_)
  clear hK K
  (try simp only [List.getElem_toArray, List.getElem_cons_succ, List.getElem_cons_zero, Act.put, List.setIfInBounds_toArray, List.set_cons_succ, List.set_cons_zero])
  refine wpAnyH_take (i := 14) (oi := _) (v := ?_) rfl (by kernel_rfl) (by kernel_rfl) (by kernel_rfl) (fun _ _ _ h => h) (Or.inl ⟨?_, ?_⟩) hH4 ?_
  rotate_left
  ·kernel_rfl
  ·(intro W' _; go_simp; (try with_reducible rfl))
  (try simp only [List.getElem_toArray, List.getElem_cons_succ, List.getElem_cons_zero, Act.put, List.setIfInBounds_toArray, List.set_cons_succ, List.set_cons_zero])
  refine wpAnyH_take (i := 15) (oi := _) (v := ?_) rfl (by kernel_rfl) (by kernel_rfl) (by kernel_rfl) (fun _ _ _ h => h) (Or.inl ⟨?_, ?_⟩) hH4 ?_
  rotate_left
  ·kernel_rfl
  ·(intro W' _; go_simp; (try with_reducible rfl))
  (try simp only [List.getElem_toArray, List.getElem_cons_succ, List.getElem_cons_zero, Act.put, List.setIfInBounds_toArray, List.set_cons_succ, List.set_cons_zero])
  refine wpAnyH_take (i := 16) (oi := _) (v := ?_) rfl (by kernel_rfl) (by kernel_rfl) (by kernel_rfl) (fun _ _ _ h => h) (Or.inl ⟨?_, ?_⟩) hH4 ?_
  rotate_left
  ·kernel_rfl
  ·(intro W' _; go_simp; (try with_reducible rfl))
  (try simp only [List.getElem_toArray, List.getElem_cons_succ, List.getElem_cons_zero, Act.put, List.setIfInBounds_toArray, List.set_cons_succ, List.set_cons_zero])
  refine wpAnyH_take (i := 17) (oi := _) (v := ?_) rfl (by kernel_rfl) (by kernel_rfl) (by kernel_rfl) (fun _ _ _ h => h) (Or.inl ⟨?_, ?_⟩) hH4 ?_
  rotate_left
  ·kernel_rfl
  ·(intro W' hSw; have f0 := keepc hSw a0; have g0 := keepc hSw b0; have f1 := keepc hSw a1; have g1 := keepc hSw b1; have f2 := keepc hSw a2; have g2 := keepc hSw b2; go_simp; (try with_reducible rfl))
  (try simp only [List.getElem_toArray, List.getElem_cons_succ, List.getElem_cons_zero, Act.put, List.setIfInBounds_toArray, List.set_cons_succ, List.set_cons_zero])
  refine wpAnyH_take (i := 18) (oi := _) (v := ?_) rfl (by kernel_rfl) (by kernel_rfl) (by kernel_rfl) (fun _ _ _ h => h) (Or.inl ⟨?_, ?_⟩) hH4 ?_
  rotate_left
  ·kernel_rfl
  ·(intro W' hSw; have f0 := keepc hSw a0; have g0 := keepc hSw b0; have f1 := keepc hSw a1; have g1 := keepc hSw b1; have f2 := keepc hSw a2; have g2 := keepc hSw b2; go_simp; (try with_reducible rfl))
  (try simp only [List.getElem_toArray, List.getElem_cons_succ, List.getElem_cons_zero, Act.put, List.setIfInBounds_toArray, List.set_cons_succ, List.set_cons_zero])
  refine wpAnyH_ready (rs := [19]) (by kernel_rfl) (by simp) ?_
  refine AllReadyH.cons (o := _) rfl (fun K hK => ?_) AllReadyH.nil
  go_simp
  refine (SAA.out _ (btr HB2.out hH4)).mono ?_
  rintro r v5 ⟨rfl, q5⟩
  refine hK.out _ _ (btr hH4 q5) (fun hH5 => ?_)
  clear hK K
  (try simp only [List.getElem_toArray, List.getElem_cons_succ, List.getElem_cons_zero, Act.put, List.setIfInBounds_toArray, List.set_cons_succ, List.set_cons_zero])
  refine wpAnyH_take (i := 20) (oi := _) (v := ?_) rfl (by kernel_rfl) (by kernel_rfl) (by kernel_rfl) (fun _ _ _ h => h) (Or.inl ⟨?_, ?_⟩) hH5 ?_
  rotate_left
  ·kernel_rfl
  ·(intro W' _; go_simp; (try with_reducible rfl))
  (try simp only [List.getElem_toArray, List.getElem_cons_succ, List.getElem_cons_zero, Act.put, List.setIfInBounds_toArray, List.set_cons_succ, List.set_cons_zero])
  refine wpAnyH_take (i := 21) (oi := _) (v := ?_) rfl (by kernel_rfl) (by kernel_rfl) (by kernel_rfl) (fun _ _ _ h => h) (Or.inl ⟨?_, ?_⟩) hH5 ?_
  rotate_left
  ·kernel_rfl
  ·(intro W' _; go_simp; (try with_reducible rfl))
  (try simp only [List.getElem_toArray, List.getElem_cons_succ, List.getElem_cons_zero, Act.put, List.setIfInBounds_toArray, List.set_cons_succ, List.set_cons_zero])
  refine wpAnyH_ready (rs := [22]) (by kernel_rfl) (by simp) ?_
  refine AllReadyH.cons (o := _) rfl (fun K hK => ?_) AllReadyH.nil
  go_simp
  refine (LIV.out _ (btr HB2.out hH5)).mono ?_
  rintro r v6 ⟨rfl, q6⟩
  refine hK.out _ _ (btr hH5 q6) (fun hH6 => ?_)
  clear hK K
  (try simp only [List.getElem_toArray, List.getElem_cons_succ, List.getElem_cons_zero, Act.put, List.setIfInBounds_toArray, List.set_cons_succ, List.set_cons_zero])
  refine wpAnyH_take (i := 23) (oi := _) (v := ?_) rfl (by kernel_rfl) (by kernel_rfl) (by kernel_rfl) (fun _ _ _ h => h) (Or.inl ⟨?_, ?_⟩) hH6 ?_
  rotate_left
  ·kernel_rfl
  ·(intro W' _; go_simp; (try with_reducible rfl))
  (try simp only [List.getElem_toArray, List.getElem_cons_succ, List.getElem_cons_zero, Act.put, List.setIfInBounds_toArray, List.set_cons_succ, List.set_cons_zero])
  refine wpAnyH_take (i := 24) (oi := _) (v := ?_) rfl (by kernel_rfl) (by kernel_rfl) (by kernel_rfl) (fun _ _ _ h => h) (Or.inl ⟨?_, ?_⟩) hH6 ?_
  rotate_left
  ·kernel_rfl
  ·(intro W' _; go_simp; (try with_reducible rfl))
  (try simp only [List.getElem_toArray, List.getElem_cons_succ, List.getElem_cons_zero, Act.put, List.setIfInBounds_toArray, List.set_cons_succ, List.set_cons_zero])
  refine wpAnyH_done (by kernel_rfl) ?_ _
  go_wp2_with fail
  go_ret
  exact ⟨rfl, btr HB2.out hH6⟩
 | false =>
  go_enter Tryz.func6, Tryz.ntmps6
  go_wp2_with fail
  refine (FA.out _).mono ?_
  rintro r u1 ⟨rfl, hb⟩
  have a0 := keepc hb (show ((w.alloc (.cells #[.int .i64 ta, .slice vo va vc, .slice io ca ic] 30)).alloc (.cells #[.int .i64 tb, .slice vo2 vb vc2, .slice io2 cb ic2] 30)).cell? ⟨w.heap.size, 0, none⟩ = some (.int .i64 ta) by simp [go_sem])
  have b0 := keepc hb (show ((w.alloc (.cells #[.int .i64 ta, .slice vo va vc, .slice io ca ic] 30)).alloc (.cells #[.int .i64 tb, .slice vo2 vb vc2, .slice io2 cb ic2] 30)).cell? ⟨w.heap.size + 1, 0, none⟩ = some (.int .i64 tb) by simp [go_sem])
  have a1 := keepc hb (show ((w.alloc (.cells #[.int .i64 ta, .slice vo va vc, .slice io ca ic] 30)).alloc (.cells #[.int .i64 tb, .slice vo2 vb vc2, .slice io2 cb ic2] 30)).cell? ⟨w.heap.size, 1, none⟩ = some (.slice vo va vc) by simp [go_sem])
  have b1 := keepc hb (show ((w.alloc (.cells #[.int .i64 ta, .slice vo va vc, .slice io ca ic] 30)).alloc (.cells #[.int .i64 tb, .slice vo2 vb vc2, .slice io2 cb ic2] 30)).cell? ⟨w.heap.size + 1, 1, none⟩ = some (.slice vo2 vb vc2) by simp [go_sem])
  have a2 := keepc hb (show ((w.alloc (.cells #[.int .i64 ta, .slice vo va vc, .slice io ca ic] 30)).alloc (.cells #[.int .i64 tb, .slice vo2 vb vc2, .slice io2 cb ic2] 30)).cell? ⟨w.heap.size, 2, none⟩ = some (.slice io ca ic) by simp [go_sem])
  have b2 := keepc hb (show ((w.alloc (.cells #[.int .i64 ta, .slice vo va vc, .slice io ca ic] 30)).alloc (.cells #[.int .i64 tb, .slice vo2 vb vc2, .slice io2 cb ic2] 30)).cell? ⟨w.heap.size + 1, 2, none⟩ = some (.slice io2 cb ic2) by simp [go_sem])
  have HB1 := Lib.hid (btr HB0.out hb)
  clear hb
  go_wp2_with fail
  refine (FB.out _).mono ?_
  rintro r u2 ⟨rfl, hb⟩
  replace a0 := keepc hb a0
  replace b0 := keepc hb b0
  replace a1 := keepc hb a1
  replace b1 := keepc hb b1
  replace a2 := keepc hb a2
  replace b2 := keepc hb b2
  have HB2 := Lib.hid (btr HB1.out hb)
  clear hb
  go_wp2_with fail
  refine wp_region_held_drew (S := (fun W => Below u2.heap.size u2 W)) (by kernel_rfl) (bdr (bref _)) (fun hH0 => ?_)
  refine wpAnyH_take (i := 0) (oi := _) (v := ?_) rfl (by kernel_rfl) (by kernel_rfl) (by kernel_rfl) (fun _ _ _ h => h) (Or.inl ⟨?_, ?_⟩) hH0 ?_
  rotate_left
  ·kernel_rfl
  ·(intro W' hSw; have f0 := keepc hSw a0; have g0 := keepc hSw b0; have f1 := keepc hSw a1; have g1 := keepc hSw b1; have f2 := keepc hSw a2; have g2 := keepc hSw b2; go_simp; (try with_reducible rfl))
  (try simp only [List.getElem_toArray, List.getElem_cons_zero, Act.put, List.setIfInBounds_toArray, List.set_cons_succ, List.set_cons_zero])
  refine wpAnyH_take (i := 1) (oi := _) (v := ?_) rfl (by kernel_rfl) (by kernel_rfl) (by kernel_rfl) (fun _ _ _ h => h) (Or.inl ⟨?_, ?_⟩) hH0 ?_
  rotate_left
  ·kernel_rfl
  ·(intro W' hSw; have f0 := keepc hSw a0; have g0 := keepc hSw b0; have f1 := keepc hSw a1; have g1 := keepc hSw b1; have f2 := keepc hSw a2; have g2 := keepc hSw b2; go_simp; (try with_reducible rfl))
  (try simp only [List.getElem_toArray, List.getElem_cons_succ, List.getElem_cons_zero, Act.put, List.setIfInBounds_toArray, List.set_cons_succ, List.set_cons_zero])
  refine wpAnyH_take (i := 3) (oi := _) (v := ?_) rfl (by kernel_rfl) (by kernel_rfl) (by kernel_rfl) (fun _ _ _ h => h) (Or.inl ⟨?_, ?_⟩) hH0 ?_
  rotate_left
  ·kernel_rfl
  ·(intro W' hSw; have f0 := keepc hSw a0; have g0 := keepc hSw b0; have f1 := keepc hSw a1; have g1 := keepc hSw b1; have f2 := keepc hSw a2; have g2 := keepc hSw b2; go_simp; (try with_reducible rfl))
  (try simp only [List.getElem_toArray, List.getElem_cons_succ, List.getElem_cons_zero, Act.put, List.setIfInBounds_toArray, List.set_cons_succ, List.set_cons_zero])
  refine wpAnyH_take (i := 4) (oi := _) (v := ?_) rfl (by kernel_rfl) (by kernel_rfl) (by kernel_rfl) (fun _ _ _ h => h) (Or.inl ⟨?_, ?_⟩) hH0 ?_
  rotate_left
  ·kernel_rfl
  ·(intro W' hSw; have f0 := keepc hSw a0; have g0 := keepc hSw b0; have f1 := keepc hSw a1; have g1 := keepc hSw b1; have f2 := keepc hSw a2; have g2 := keepc hSw b2; go_simp; (try with_reducible rfl))
  (try simp only [List.getElem_toArray, List.getElem_cons_succ, List.getElem_cons_zero, Act.put, List.setIfInBounds_toArray, List.set_cons_succ, List.set_cons_zero])
  refine wpAnyH_ready (rs := [2]) (by kernel_rfl) (by simp) ?_
  refine AllReadyH.cons (o := _) rfl (fun K hK => ?_) AllReadyH.nil
  go_simp
  refine (SAB.out _ (btr HB2.out hH0)).mono ?_
  rintro r v1 ⟨rfl, q1⟩
  refine hK.out _ _ (btr hH0 q1) (fun hH1 => ?_)
  clear hK K
  (try simp only [List.getElem_toArray, List.getElem_cons_succ, List.getElem_cons_zero, Act.put, List.setIfInBounds_toArray, List.set_cons_succ, List.set_cons_zero])
  refine wpAnyH_ready (rs := [5]) (by kernel_rfl) (by simp) ?_
  refine AllReadyH.cons (o := _) rfl (fun K hK => ?_) AllReadyH.nil
  go_simp
  refine (RAB.out _ (btr HB2.out hH1)).mono ?_
  rintro r v2 ⟨rfl, q2⟩
  refine hK.out _ _ (btr hH1 q2) (fun hH2 => ?_)
  clear hK K
  (try simp only [List.getElem_toArray, List.getElem_cons_succ, List.getElem_cons_zero, Act.put, List.setIfInBounds_toArray, List.set_cons_succ, List.set_cons_zero])
  refine wpAnyH_take (i := 6) (oi := _) (v := ?_) rfl (by kernel_rfl) (by kernel_rfl) (by kernel_rfl) (fun _ _ _ h => h) (Or.inl ⟨?_, ?_⟩) hH2 ?_
  rotate_left
  ·kernel_rfl
  ·(intro W' _; go_simp; (try with_reducible rfl))
  (try simp only [List.getElem_toArray, List.getElem_cons_succ, List.getElem_cons_zero, Act.put, List.setIfInBounds_toArray, List.set_cons_succ, List.set_cons_zero])
  refine wpAnyH_take (i := 7) (oi := _) (v := ?_) rfl (by kernel_rfl) (by kernel_rfl) (by kernel_rfl) (fun _ _ _ h => h) (Or.inl ⟨?_, ?_⟩) hH2 ?_
  rotate_left
  ·kernel_rfl
  ·(intro W' _; go_simp; (try with_reducible rfl))
  (try simp only [List.getElem_toArray, List.getElem_cons_succ, List.getElem_cons_zero, Act.put, List.setIfInBounds_toArray, List.set_cons_succ, List.set_cons_zero])
  refine wpAnyH_take (i := 8) (oi := _) (v := ?_) rfl (by kernel_rfl) (by kernel_rfl) (by kernel_rfl) (fun _ _ _ h => h) (Or.inl ⟨?_, ?_⟩) hH2 ?_
  rotate_left
  ·kernel_rfl
  ·(intro W' hSw; have f0 := keepc hSw a0; have g0 := keepc hSw b0; have f1 := keepc hSw a1; have g1 := keepc hSw b1; have f2 := keepc hSw a2; have g2 := keepc hSw b2; go_simp; (try with_reducible rfl))
  (try simp only [List.getElem_toArray, List.getElem_cons_succ, List.getElem_cons_zero, Act.put, List.setIfInBounds_toArray, List.set_cons_succ, List.set_cons_zero])
  refine wpAnyH_take (i := 9) (oi := _) (v := ?_) rfl (by kernel_rfl) (by kernel_rfl) (by kernel_rfl) (fun _ _ _ h => h) (Or.inl ⟨?_, ?_⟩) hH2 ?_
  rotate_left
  ·kernel_rfl
  ·(intro W' hSw; have f0 := keepc hSw a0; have g0 := keepc hSw b0; have f1 := keepc hSw a1; have g1 := keepc hSw b1; have f2 := keepc hSw a2; have g2 := keepc hSw b2; go_simp; (try with_reducible rfl))
  (try simp only [List.getElem_toArray, List.getElem_cons_succ, List.getElem_cons_zero, Act.put, List.setIfInBounds_toArray, List.set_cons_succ, List.set_cons_zero])
  refine wpAnyH_take (i := 11) (oi := _) (v := ?_) rfl (by kernel_rfl) (by kernel_rfl) (by kernel_rfl) (fun _ _ _ h => h) (Or.inl ⟨?_, ?_⟩) hH2 ?_
  rotate_left
  ·kernel_rfl
  ·(intro W' hSw; have f0 := keepc hSw a0; have g0 := keepc hSw b0; have f1 := keepc hSw a1; have g1 := keepc hSw b1; have f2 := keepc hSw a2; have g2 := keepc hSw b2; go_simp; (try with_reducible rfl))
  (try simp only [List.getElem_toArray, List.getElem_cons_succ, List.getElem_cons_zero, Act.put, List.setIfInBounds_toArray, List.set_cons_succ, List.set_cons_zero])
  refine wpAnyH_take (i := 12) (oi := _) (v := ?_) rfl (by kernel_rfl) (by kernel_rfl) (by kernel_rfl) (fun _ _ _ h => h) (Or.inl ⟨?_, ?_⟩) hH2 ?_
  rotate_left
  ·kernel_rfl
  ·(intro W' hSw; have f0 := keepc hSw a0; have g0 := keepc hSw b0; have f1 := keepc hSw a1; have g1 := keepc hSw b1; have f2 := keepc hSw a2; have g2 := keepc hSw b2; go_simp; (try with_reducible rfl))
  (try simp only [List.getElem_toArray, List.getElem_cons_succ, List.getElem_cons_zero, Act.put, List.setIfInBounds_toArray, List.set_cons_succ, List.set_cons_zero])
  refine wpAnyH_ready (rs := [10]) (by kernel_rfl) (by simp) ?_
  refine AllReadyH.cons (o := _) rfl (fun K hK => ?_) AllReadyH.nil
  go_simp
  refine (SBA.out _ (btr HB2.out hH2)).mono ?_
  rintro r v3 ⟨rfl, q3⟩
  refine hK.out _ _ (btr hH2 q3) (fun hH3 => ?_)
  clear hK K
  (try simp only [List.getElem_toArray, List.getElem_cons_succ, List.getElem_cons_zero, Act.put, List.setIfInBounds_toArray, List.set_cons_succ, List.set_cons_zero])
  refine wpAnyH_ready (rs := [13]) (by kernel_rfl) (by simp) ?_
  refine AllReadyH.cons (o := _) rfl (fun K hK => ?_) AllReadyH.nil
  go_simp
  refine (RAB.out _ (btr HB2.out hH3)).mono ?_
  rintro r v4 ⟨rfl, q4⟩
  refine hK.out _ _ (btr hH3 q4) (fun hH4 => ?_)
  clear hK K
  (try simp only [List.getElem_toArray, List.getElem_cons_succ, List.getElem_cons_zero, Act.put, List.setIfInBounds_toArray, List.set_cons_succ, List.set_cons_zero])
  refine wpAnyH_take (i := 14) (oi := _) (v := ?_) rfl (by kernel_rfl) (by kernel_rfl) (by kernel_rfl) (fun _ _ _ h => h) (Or.inl ⟨?_, ?_⟩) hH4 ?_
  rotate_left
  ·kernel_rfl
  ·(intro W' _; go_simp; (try with_reducible rfl))
  (try simp only [List.getElem_toArray, List.getElem_cons_succ, List.getElem_cons_zero, Act.put, List.setIfInBounds_toArray, List.set_cons_succ, List.set_cons_zero])
  refine wpAnyH_take (i := 15) (oi := _) (v := ?_) rfl (by kernel_rfl) (by kernel_rfl) (by kernel_rfl) (fun _ _ _ h => h) (Or.inl ⟨?_, ?_⟩) hH4 ?_
  rotate_left
  ·kernel_rfl
  ·(intro W' _; go_simp; (try with_reducible rfl))
  (try simp only [List.getElem_toArray, List.getElem_cons_succ, List.getElem_cons_zero, Act.put, List.setIfInBounds_toArray, List.set_cons_succ, List.set_cons_zero])
  refine wpAnyH_take (i := 16) (oi := _) (v := ?_) rfl (by kernel_rfl) (by kernel_rfl) (by kernel_rfl) (fun _ _ _ h => h) (Or.inl ⟨?_, ?_⟩) hH4 ?_
  rotate_left
  ·kernel_rfl
  ·(intro W' _; go_simp; (try with_reducible rfl))
  (try simp only [List.getElem_toArray, List.getElem_cons_succ, List.getElem_cons_zero, Act.put, List.setIfInBounds_toArray, List.set_cons_succ, List.set_cons_zero])
  refine wpAnyH_take (i := 17) (oi := _) (v := ?_) rfl (by kernel_rfl) (by kernel_rfl) (by kernel_rfl) (fun _ _ _ h => h) (Or.inl ⟨?_, ?_⟩) hH4 ?_
  rotate_left
  ·kernel_rfl
  ·(intro W' hSw; have f0 := keepc hSw a0; have g0 := keepc hSw b0; have f1 := keepc hSw a1; have g1 := keepc hSw b1; have f2 := keepc hSw a2; have g2 := keepc hSw b2; go_simp; (try with_reducible rfl))
  (try simp only [List.getElem_toArray, List.getElem_cons_succ, List.getElem_cons_zero, Act.put, List.setIfInBounds_toArray, List.set_cons_succ, List.set_cons_zero])
  refine wpAnyH_take (i := 18) (oi := _) (v := ?_) rfl (by kernel_rfl) (by kernel_rfl) (by kernel_rfl) (fun _ _ _ h => h) (Or.inl ⟨?_, ?_⟩) hH4 ?_
  rotate_left
  ·kernel_rfl
  ·(intro W' hSw; have f0 := keepc hSw a0; have g0 := keepc hSw b0; have f1 := keepc hSw a1; have g1 := keepc hSw b1; have f2 := keepc hSw a2; have g2 := keepc hSw b2; go_simp; (try with_reducible rfl))
  (try simp only [List.getElem_toArray, List.getElem_cons_succ, List.getElem_cons_zero, Act.put, List.setIfInBounds_toArray, List.set_cons_succ, List.set_cons_zero])
  refine wpAnyH_ready (rs := [19]) (by kernel_rfl) (by simp) ?_
  refine AllReadyH.cons (o := _) rfl (fun K hK => ?_) AllReadyH.nil
  go_simp
  refine (SAA.out _ (btr HB2.out hH4)).mono ?_
  rintro r v5 ⟨rfl, q5⟩
  refine hK.out _ _ (btr hH4 q5) (fun hH5 => ?_)
  clear hK K
  (try simp only [List.getElem_toArray, List.getElem_cons_succ, List.getElem_cons_zero, Act.put, List.setIfInBounds_toArray, List.set_cons_succ, List.set_cons_zero])
  refine wpAnyH_take (i := 20) (oi := _) (v := ?_) rfl (by kernel_rfl) (by kernel_rfl) (by kernel_rfl) (fun _ _ _ h => h) (Or.inl ⟨?_, ?_⟩) hH5 ?_
  rotate_left
  ·kernel_rfl
  ·(intro W' _; go_simp; (try with_reducible rfl))
  (try simp only [List.getElem_toArray, List.getElem_cons_succ, List.getElem_cons_zero, Act.put, List.setIfInBounds_toArray, List.set_cons_succ, List.set_cons_zero])
  refine wpAnyH_take (i := 21) (oi := _) (v := ?_) rfl (by kernel_rfl) (by kernel_rfl) (by kernel_rfl) (fun _ _ _ h => h) (Or.inl ⟨?_, ?_⟩) hH5 ?_
  rotate_left
  ·kernel_rfl
  ·(intro W' _; go_simp; (try with_reducible rfl))
  (try simp only [List.getElem_toArray, List.getElem_cons_succ, List.getElem_cons_zero, Act.put, List.setIfInBounds_toArray, List.set_cons_succ, List.set_cons_zero])
  refine wpAnyH_ready (rs := [22]) (by kernel_rfl) (by simp) ?_
  refine AllReadyH.cons (o := _) rfl (fun K hK => ?_) AllReadyH.nil
  go_simp
  refine (LIV.out _ (btr HB2.out hH5)).mono ?_
  rintro r v6 ⟨rfl, q6⟩
  refine hK.out _ _ (btr hH5 q6) (fun hH6 => ?_)
  clear hK K
  (try simp only [List.getElem_toArray, List.getElem_cons_succ, List.getElem_cons_zero, Act.put, List.setIfInBounds_toArray, List.set_cons_succ, List.set_cons_zero])
  refine wpAnyH_take (i := 23) (oi := _) (v := ?_) rfl (by kernel_rfl) (by kernel_rfl) (by kernel_rfl) (fun _ _ _ h => h) (Or.inl ⟨?_, ?_⟩) hH6 ?_
  rotate_left
  ·kernel_rfl
  ·(intro W' _; go_simp; (try with_reducible rfl))
  (try simp only [List.getElem_toArray, List.getElem_cons_succ, List.getElem_cons_zero, Act.put, List.setIfInBounds_toArray, List.set_cons_succ, List.set_cons_zero])
  refine wpAnyH_take (i := 24) (oi := _) (v := ?_) rfl (by kernel_rfl) (by kernel_rfl) (by kernel_rfl) (fun _ _ _ h => h) (Or.inl ⟨?_, ?_⟩) hH6 ?_
  rotate_left
  ·kernel_rfl
  ·(intro W' _; go_simp; (try with_reducible rfl))
  (try simp only [List.getElem_toArray, List.getElem_cons_succ, List.getElem_cons_zero, Act.put, List.setIfInBounds_toArray, List.set_cons_succ, List.set_cons_zero])
  refine wpAnyH_done (by kernel_rfl) ?_ _
  go_wp2_with fail
  go_ret
  exact ⟨rfl, btr HB2.out hH6⟩
end Go.Proofs.YthanoilbcdhbkaaGreatDoor
