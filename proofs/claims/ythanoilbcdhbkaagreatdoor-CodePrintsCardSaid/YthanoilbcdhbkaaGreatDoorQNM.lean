/-
  The walk of CodePrints.
-/
import Derived.Test.YthanoilbcdhbkaaGreatDoorQM
import Derived.Test.YthanoilbcdhbkaaGreatDoorQKR
import Derived.Test.YthanoilbcdhbkaaGreatDoorQNK
namespace Go.Proofs.YthanoilbcdhbkaaGreatDoor
open Go Go.RowKit Go.Lib Go.Shelf WM TM EM YM

set_option maxRecDepth 100000 in
set_option maxHeartbeats 8000000 in
theorem codePrints (cd : Cd) (vo io : Option Addr) (vc ic : Nat) (w : World) (hG : Gk w) (h : CodeAt cd vo vc io ic w) (hfit : Fits cd.c) :
  Calls Tryz.prog 5 #[.agg #[.int .i64 cd.t, .slice vo cd.vs.length vc, .slice io cd.c.length ic]] w fun r w' => r = .returned (.bool true) ∧ Below w.heap.size w w' := by
 have LIV := Lib.hid (fun W (hW : Below w.heap.size w W) => mlive12 W (hG.keep hW))
 have FW := Lib.hid (fun W => lfew cd vo io vc ic W)
 have MP := Lib.hid (fun W (hW : Below w.heap.size w W) => mPrint cd vo io vc ic W (hG.keep hW) (h.keep hW) hfit)
 have RP := Lib.hid (fun W (hW : Below w.heap.size w W) => rPrintC cd vo io vc ic W (h.keep hW) hfit)
 obtain ⟨q1, hq1⟩ : ∃ q, str (prT cd.t cd.vs cd.c) = q := ⟨_, rfl⟩
 simp only [hq1] at MP RP
 clear hq1
 obtain ⟨t, ht⟩ : ∃ t, cd.t = t := ⟨_, rfl⟩
 obtain ⟨vn, hvn⟩ : ∃ n, cd.vs.length = n := ⟨_, rfl⟩
 obtain ⟨n, hn⟩ : ∃ n, cd.c.length = n := ⟨_, rfl⟩
 obtain ⟨FB, hFB⟩ : ∃ b, fewB cd = b := ⟨_, rfl⟩
 rw [hFB, ht, hvn, hn] at FW
 simp only [ht, hvn, hn] at MP RP
 rw [ht, hvn, hn]
 have HB0 := Lib.hid (show Below w.heap.size w (w.alloc (.cells #[.int .i64 t, .slice vo vn vc, .slice io n ic] 30)) from bal (bref w) _)
 clear hG h hfit ht hvn hn hFB
 cases FB with
 | false =>
  go_enter Tryz.func5, Tryz.ntmps5
  go_wp2_with fail
  refine (FW.out _).mono ?_
  rintro r W0 ⟨rfl, hb⟩
  have HB1 := Lib.hid (btr HB0.out hb)
  clear hb
  go_wp2_with fail
  refine (LIV.out _ HB1.out).mono ?_
  rintro r u9 ⟨rfl, hb⟩
  have HB9 := Lib.hid (btr HB1.out hb)
  clear hb
  go_wp2_with fail
  go_ret
  exact ⟨rfl, HB9.out⟩
 | true =>
  go_enter Tryz.func5, Tryz.ntmps5
  go_wp2_with fail
  refine (FW.out _).mono ?_
  rintro r W0 ⟨rfl, hb⟩
  have b0 := keepc hb (show (w.alloc (.cells #[.int .i64 t, .slice vo vn vc, .slice io n ic] 30)).cell? ⟨w.heap.size, 0, none⟩ = some (.int .i64 t) by simp [go_sem])
  have b1 := keepc hb (show (w.alloc (.cells #[.int .i64 t, .slice vo vn vc, .slice io n ic] 30)).cell? ⟨w.heap.size, 1, none⟩ = some (.slice vo vn vc) by simp [go_sem])
  have b2 := keepc hb (show (w.alloc (.cells #[.int .i64 t, .slice vo vn vc, .slice io n ic] 30)).cell? ⟨w.heap.size, 2, none⟩ = some (.slice io n ic) by simp [go_sem])
  have HB1 := Lib.hid (btr HB0.out hb)
  clear hb
  go_wp2_with fail
  refine wp_region_held_drew (S := (fun W => Below W0.heap.size W0 W)) (by kernel_rfl) (bdr (bref _)) (fun hH0 => ?_)
  refine wpAnyH_take (i := 0) (oi := _) (v := ?_) rfl (by kernel_rfl) (by kernel_rfl) (by kernel_rfl) (fun _ _ _ h => h) (Or.inl ⟨?_, ?_⟩) hH0 ?_
  rotate_left
  ·kernel_rfl
  ·(intro W' hSw; have f0 := keepc hSw b0; have f1 := keepc hSw b1; have f2 := keepc hSw b2; go_simp; (try with_reducible rfl))
  (try simp only [List.getElem_toArray, List.getElem_cons_zero, Act.put, List.setIfInBounds_toArray, List.set_cons_succ, List.set_cons_zero])
  refine wpAnyH_take (i := 2) (oi := _) (v := ?_) rfl (by kernel_rfl) (by kernel_rfl) (by kernel_rfl) (fun _ _ _ h => h) (Or.inl ⟨?_, ?_⟩) hH0 ?_
  rotate_left
  ·kernel_rfl
  ·(intro W' hSw; have f0 := keepc hSw b0; have f1 := keepc hSw b1; have f2 := keepc hSw b2; go_simp; (try with_reducible rfl))
  (try simp only [List.getElem_toArray, List.getElem_cons_succ, List.getElem_cons_zero, Act.put, List.setIfInBounds_toArray, List.set_cons_succ, List.set_cons_zero])
  refine wpAnyH_ready (rs := [1]) (by kernel_rfl) (by simp) ?_
  refine AllReadyH.cons (o := _) rfl (fun K hK => ?_) AllReadyH.nil
  go_simp
  refine (MP.out _ (btr HB1.out hH0)).mono ?_
  rintro r u1 ⟨rfl, hb1⟩
  refine hK.out _ _ (btr hH0 hb1) (fun hH1 => ?_)
  clear hK K
  (try simp only [List.getElem_toArray, List.getElem_cons_succ, List.getElem_cons_zero, Act.put, List.setIfInBounds_toArray, List.set_cons_succ, List.set_cons_zero])
  refine wpAnyH_ready (rs := [3]) (by kernel_rfl) (by simp) ?_
  refine AllReadyH.cons (o := _) rfl (fun K hK => ?_) AllReadyH.nil
  go_simp
  refine (RP.out _ (btr HB1.out hH1)).mono ?_
  rintro r u2 ⟨rfl, hb2⟩
  refine hK.out _ _ (btr hH1 hb2) (fun hH2 => ?_)
  clear hK K
  (try simp only [List.getElem_toArray, List.getElem_cons_succ, List.getElem_cons_zero, Act.put, List.setIfInBounds_toArray, List.set_cons_succ, List.set_cons_zero])
  refine wpAnyH_take (i := 4) (oi := _) (v := ?_) rfl (by kernel_rfl) (by kernel_rfl) (by kernel_rfl) (fun _ _ _ h => h) (Or.inl ⟨?_, ?_⟩) hH2 ?_
  rotate_left
  ·kernel_rfl
  ·(intro W' _; go_simp; (try with_reducible rfl))
  (try simp only [List.getElem_toArray, List.getElem_cons_succ, List.getElem_cons_zero, Act.put, List.setIfInBounds_toArray, List.set_cons_succ, List.set_cons_zero])
  refine wpAnyH_take (i := 5) (oi := _) (v := ?_) rfl (by kernel_rfl) (by kernel_rfl) (by kernel_rfl) (fun _ _ _ h => h) (Or.inl ⟨?_, ?_⟩) hH2 ?_
  rotate_left
  ·kernel_rfl
  ·(intro W' _; go_simp; (try with_reducible rfl))
  (try simp only [List.getElem_toArray, List.getElem_cons_succ, List.getElem_cons_zero, Act.put, List.setIfInBounds_toArray, List.set_cons_succ, List.set_cons_zero])
  refine wpAnyH_ready (rs := [6]) (by kernel_rfl) (by simp) ?_
  refine AllReadyH.cons (o := _) rfl (fun K hK => ?_) AllReadyH.nil
  go_simp
  refine (LIV.out _ (btr HB1.out hH2)).mono ?_
  rintro r u3 ⟨rfl, hb3⟩
  refine hK.out _ _ (btr hH2 hb3) (fun hH3 => ?_)
  clear hK K
  (try simp only [List.getElem_toArray, List.getElem_cons_succ, List.getElem_cons_zero, Act.put, List.setIfInBounds_toArray, List.set_cons_succ, List.set_cons_zero])
  refine wpAnyH_take (i := 7) (oi := _) (v := ?_) rfl (by kernel_rfl) (by kernel_rfl) (by kernel_rfl) (fun _ _ _ h => h) (Or.inl ⟨?_, ?_⟩) hH3 ?_
  rotate_left
  ·kernel_rfl
  ·(intro W' _; go_simp; (try with_reducible rfl))
  (try simp only [List.getElem_toArray, List.getElem_cons_succ, List.getElem_cons_zero, Act.put, List.setIfInBounds_toArray, List.set_cons_succ, List.set_cons_zero])
  refine wpAnyH_take (i := 8) (oi := _) (v := ?_) rfl (by kernel_rfl) (by kernel_rfl) (by kernel_rfl) (fun _ _ _ h => h) (Or.inl ⟨?_, ?_⟩) hH3 ?_
  rotate_left
  ·kernel_rfl
  ·(intro W' _; go_simp; (try with_reducible rfl))
  (try simp only [List.getElem_toArray, List.getElem_cons_succ, List.getElem_cons_zero, Act.put, List.setIfInBounds_toArray, List.set_cons_succ, List.set_cons_zero])
  refine wpAnyH_done (by kernel_rfl) ?_ _
  go_wp2_with fail
  go_ret
  exact ⟨rfl, (btr HB1.out hH3)⟩
end Go.Proofs.YthanoilbcdhbkaaGreatDoor
