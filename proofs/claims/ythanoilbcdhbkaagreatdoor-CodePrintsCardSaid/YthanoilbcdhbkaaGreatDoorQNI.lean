/-
  The document's run.
-/
import Derived.Test.YthanoilbcdhbkaaGreatDoorQNH
import Derived.Test.YthanoilbcdhbkaaGreatDoorQNF
namespace Go.Proofs.YthanoilbcdhbkaaGreatDoor
open Go Go.RowKit Go.Lib Go.Shelf WM TM EM YM

theorem DSs.first {base b n : Nat} {W : World} (h : W.ownsRow base 96 3 (.slice (some ⟨b, 0, none⟩) (n + 1) (n + 1)) (n + 1) (madeCells #[.bool false, .bool false, .slice none 0 0] ((n + 1) * 3)).toList) : W.cell? ⟨b, 0, none⟩ = some (.bool false) ∧ W.cell? ⟨b, 2, none⟩ = some (.slice none 0 0) ∧ W.frozen? ⟨b, 0, none⟩ = false := by
 obtain ⟨m0, _, m2⟩ := made_at (.bool false) (.bool false) (.slice none 0 0) (n + 1) 0 (by omega)
 refine ⟨?_, ?_, ?_⟩
 ·rw [World.ownsRow.cellAt h 0 (by omega), Array.getElem?_toList]; exact m0
 ·rw [World.ownsRow.cellAt h 2 (by omega), Array.getElem?_toList]; exact m2
 ·rcases h.2 with ⟨h1, _⟩ | ⟨g, cap, cur, hv, _, hg, _⟩
  ·cases h1
  ·cases hv
   unfold World.frozen?
   rw [hg]
   rfl
theorem wrap_next (k n : Nat) (h : k < n) (hn : n ≤ 128) : wrap64 ((k : Int) + 1) = (k : Int) + 1 := by unfold wrap64; omega
set_option maxRecDepth 100000 in
set_option maxHeartbeats 16000000 in
theorem rrun (cd : Cd) (vo io : Option Addr) (vc ic : Nat) (w : World) (h : CodeAt cd vo vc io ic w) :
  Calls Tryz.prog 35 #[.agg #[.int .i64 cd.t, .slice vo cd.vs.length vc, .slice io cd.c.length ic]] w fun r w' => r = .returned (.tuple #[.int .i64 (runC cd.t cd.vs cd.c).1, .int .i64 (runC cd.t cd.vs cd.c).2]) ∧ Below w.heap.size w w' := by
 obtain ⟨i0, hi, hz0, hz1, hz2⟩ := info_parts infoSt
 obtain ⟨R, hR⟩ : ∃ R, runC cd.t cd.vs cd.c = R := ⟨_, rfl⟩
 have HR := Lib.hid hR
 rw [hR]
 have CV := Lib.hid (fun W (hW : Below w.heap.size w W) => rVars cd.vs vo vc W (h.vars.keep hW))
 have HC := Lib.hid h
 have AF := Lib.hid (fun i ao c l W (hW : Below w.heap.size w W) hi hcl hl hL => rafter cd vo io vc ic i ao c l W (h.keep hW) hi hcl hl hL)
 obtain ⟨t, ht⟩ : ∃ t, cd.t = t := ⟨_, rfl⟩
 obtain ⟨vn, hvn⟩ : ∃ n, cd.vs.length = n := ⟨_, rfl⟩
 obtain ⟨n, hn⟩ : ∃ n, cd.c.length = n := ⟨_, rfl⟩
 have HT := Lib.hid ht
 have HVN := Lib.hid hvn
 have HN := Lib.hid hn
 rw [hvn] at CV
 rw [ht, hvn, hn]
 have HB0 := Lib.hid (show Below w.heap.size w (w.alloc (.cells #[.int .i64 t, .slice vo vn vc, .slice io n ic] 30)) from bal (bref w) _)
 by_cases h128 : 128 < n
 ·have hr : R = (0, 5) := by rw [← HR.out]; unfold runC; rw [if_pos (by rw [HN.out]; exact h128)]
  subst hr
  have hz : (128 : Int) < (n : Int) := by omega
  clear h  hR ht hvn hn h128
  go_enter Tryz.func35, Tryz.ntmps35
  go_wp2_with fail
  go_ret2
  exact ⟨rfl, HB0.out⟩
 have hz : ¬ ((128 : Int) < (n : Int)) := by omega
 by_cases hve : vsE cd.vs = 0
 rotate_left
 ·have hr : R = (0, vsE cd.vs) := by rw [← HR.out]; unfold runC; rw [if_neg (by rw [HN.out]; exact h128), if_pos hve]
  subst hr
  have hvb : (vsE cd.vs != 0) = true := bne_yes hve
  obtain ⟨z, hzz⟩ : ∃ z, vsE cd.vs = z := ⟨_, rfl⟩
  rw [hzz] at CV hvb ⊢
  clear h  hR ht hvn hn h128 hve hzz
  go_enter Tryz.func35, Tryz.ntmps35
  go_wp2_with fail
  refine (CV.out _ HB0.out).mono ?_
  rintro r w1 ⟨rfl, hb1⟩
  have HB1 := Lib.hid (btr HB0.out hb1)
  clear hb1
  go_wp2_with fail
  go_ret2
  exact ⟨rfl, HB1.out⟩
 rw [hve] at CV
 have HRG : Hid (go cd.t cd.vs cd.c (n + 1) 0 S0 0 = R) := Lib.hid (by rw [← HR.out]; unfold runC; rw [if_neg (by rw [HN.out]; exact h128), if_neg (by omega), HN.out])
 have hn128 : n ≤ 128 := by omega
 clear h  hR ht hvn hn h128 hve HR
 go_enter Tryz.func35, Tryz.ntmps35
 go_wp2_with fail
 refine (CV.out _ HB0.out).mono ?_
 rintro r w1 ⟨rfl, hb1⟩
 have a0 := keepc hb1 (show (w.alloc (.cells #[.int .i64 t, .slice vo vn vc, .slice io n ic] 30)).cell? ⟨w.heap.size, 0, none⟩ = some (.int .i64 t) by simp [go_sem])
 have a1 := keepc hb1 (show (w.alloc (.cells #[.int .i64 t, .slice vo vn vc, .slice io n ic] 30)).cell? ⟨w.heap.size, 1, none⟩ = some (.slice vo vn vc) by simp [go_sem])
 have a2 := keepc hb1 (show (w.alloc (.cells #[.int .i64 t, .slice vo vn vc, .slice io n ic] 30)).cell? ⟨w.heap.size, 2, none⟩ = some (.slice io n ic) by simp [go_sem])
 have HB1 := Lib.hid (btr HB0.out hb1)
 have hMb : w.heap.size < w1.heap.size := by have := hb1.size; simp at this; omega
 clear hb1
 have hw1 : wrap64 ((n : Int) + 1) = ((n + 1 : Nat) : Int) := by unfold wrap64; omega
 go_wp2_with (at_make; refine wpList_make_full _ rfl _ _ _ rfl w1.heap.size 96 i0 (.agg #[.bool false, .bool false, .slice none 0 0]) 3 Tryz.underlying94 hi hz0 hz1 .i64 .i64 _ _ (n + 1) rfl rfl (by omega) (by omega) (by rw [hz2]; omega) (by unfold maxLen; omega) (Nat.le_refl _) ?_; intro w2 ho2 hg2; have HP2 := Lib.hid (DSs.made ho2); have hb2 := Lib.hid (show Below w1.heap.size w1 w2 from (Below.refl _ _).grown hg2 (Nat.le_refl _) (fun k h => by cases h)); obtain ⟨q0, q2, q3⟩ := DSs.first ho2; have HQ2 := Lib.hid q2; clear ho2 hg2 q2)
 have HB2 := Lib.hid (btr HB1.out hb2.out)
 replace a0 := keepc hb2.out a0
 replace a1 := keepc hb2.out a1
 replace a2 := keepc hb2.out a2
 obtain ⟨d1, d2⟩ := (HP2.out 0 (Nat.zero_le _)).begin HQ2.out
 have hL0 : Lr w.heap.size w1.heap.size n vn t cd vo io vc ic w R 0 0 (w2.setCell ⟨w1.heap.size, 0, none⟩ (.bool true)) := ⟨S0, HP2.out.put 0 (s := some (some [])) d1 d2, HRG.out, by omega, bset (a := ⟨w1.heap.size, 0, none⟩) HB2.out (by show w.heap.size ≤ w1.heap.size; omega) _, hMb, d2.sav.cell a0 (by show ¬ w.heap.size = w1.heap.size; omega), d2.sav.cell a1 (by show ¬ w.heap.size = w1.heap.size; omega), d2.sav.cell a2 (by show ¬ w.heap.size = w1.heap.size; omega)⟩
 have HL0 := Lib.hid hL0
 clear hb2 HB0 CV hi hz0 hz1 hz2 d1 d2 hL0 HP2 HB1 HB2 HRG hw1
 go_wp2_with fail
 go_loopw [7, 8] (fun x i wr => ∃ (k d : Nat), k ≤ n ∧ x = .int .i64 d ∧ i = .int .i64 k ∧ Lr w.heap.size w1.heap.size n vn t cd vo io vc ic w R k d wr) (fun _ i _ => n + 1 - (RowKit.intOf i).toNat)
 case atStart => exact ⟨0, 0, by omega, rfl, rfl, HL0.out⟩
 case round =>
  obtain ⟨k, d, hk, rfl, rfl, S, hP, hgo, hd, hB, _, b0, b1, b2⟩ := hrel
  have HP := Lib.hid hP
  have HGO := Lib.hid hgo
  have HB := Lib.hid hB
  have hkz : (k : Int) ≤ (n : Int) := by omega
  have hkz2 : (k : Int) < (n : Int) + 1 := by omega
  obtain ⟨ao, c, l, r, m, p0, p1, p2, f0, f1, f2, hLI, hxb, hSV⟩ := hP k hk
  have HLI := Lib.hid hLI
  have HXB := Lib.hid hxb
  have hl1 := Lib.hid hSV.1
  obtain ⟨hc1, hc2⟩ := hSV.cert
  have GB := Lib.hid (fun hS => go_not (t := cd.t) (vs := cd.vs) (c := cd.c) (f := n + 1 - k) (i := k) (S := S) (d := d) hS)
  rw [HGO.out] at GB
  obtain ⟨ln, hln⟩ : ∃ q, l.length = q := ⟨_, rfl⟩
  have HLN := Lib.hid hln
  rw [hln] at p2
  have a0 := b0
  have HBi := Lib.hid (show Below wr.heap.size wr (wr.alloc (.cells #[.bool r, .bool m, .slice ao ln c] 96)) from bal (bref wr) _)
  replace b0 := keepc HBi.out b0
  replace b1 := keepc HBi.out b1
  replace b2 := keepc HBi.out b2
  clear hP hgo hB HL0 hLI hxb hSV hln f0 f1 f2
  cases r with
  | false =>
   have hr := GB.out (by rw [hc1]; rfl)
   subst hr
   clear hc1 hc2 GB
   go_wp2_with fail
   go_ret2
   exact ⟨rfl, btr HB.out HBi.out⟩
  | true =>
  cases m with
  | true =>
   have hr := GB.out (by rw [hc1]; rfl)
   subst hr
   clear hc1 hc2 GB
   go_wp2_with fail
   go_ret2
   exact ⟨rfl, btr HB.out HBi.out⟩
  | false =>
   have hS := hc2 (by rw [hc1]; rfl)
   clear hc1 hc2 GB
   by_cases hkn : k = n
   ·subst hkn
    have hge : R = if decide (l = [cd.t]) = true then (((max d ln : Nat) : Int), 0) else (0, 9) := by
     have GE := go_end (t := cd.t) (vs := cd.vs) (c := cd.c) (f := 0) (d := d) hS (by rw [HN.out]; exact Nat.le_refl _)
     rw [← HGO.out, show k + 1 - k = 0 + 1 by omega, GE, HLN.out]
    rw [HT.out] at hge
    have EQ := Lib.hid (fun W (hW : Below wr.heap.size wr W) bo (hy : IntsAt bo [t] W) => rEqI ao bo l [t] c 1 W (by have := hl1.out; omega) ((HLI.out.keep hW).ints) hy)
    rw [HLN.out] at EQ
    obtain ⟨E, hE⟩ : ∃ E, decide (l = [t]) = E := ⟨_, rfl⟩
    rw [hE] at EQ hge
    clear hE hS
    cases E with
    | true =>
     rw [if_pos rfl] at hge
     subst hge
     go_wp2_with fail
     have p9 := keepc HBi.out p2
     obtain ⟨W0, hW0⟩ : ∃ W0, wr.alloc (.cells #[.bool true, .bool false, .slice ao ln c] 96) = W0 := ⟨_, rfl⟩
     rw [hW0] at HBi p9 b0
     simp only [hW0]
     clear hW0 p0 p1 p2 b1 b2 a0
     refine wp_region_held_drew (S := (fun W => Below W0.heap.size W0 W)) (by kernel_rfl) (bdr (bref _)) (fun hH0 => ?_)
     refine wpAnyH_take (i := 0) (oi := _) (v := ?_) rfl (by kernel_rfl) (by kernel_rfl) (by kernel_rfl) (fun _ _ _ h => h) (Or.inl ⟨?_, ?_⟩) hH0 ?_
     rotate_left
     ·kernel_rfl
     ·(intro W' _; go_simp; (try with_reducible rfl))
     (try simp only [List.getElem_toArray, List.getElem_cons_zero, Act.put, List.setIfInBounds_toArray, List.set_cons_succ, List.set_cons_zero])
     refine wpAnyH_take (i := 1) (oi := _) (v := ?_) rfl (by kernel_rfl) (by kernel_rfl) (by kernel_rfl) (fun _ _ _ h => h) (Or.inl ⟨?_, ?_⟩) hH0 ?_
     rotate_left
     ·kernel_rfl
     ·(intro W' _; go_simp; (try with_reducible rfl))
     (try simp only [List.getElem_toArray, List.getElem_cons_succ, List.getElem_cons_zero, Act.put, List.setIfInBounds_toArray, List.set_cons_succ, List.set_cons_zero])
     refine wpAnyH_take (i := 2) (oi := _) (v := ?_) rfl (by kernel_rfl) (by kernel_rfl) (by kernel_rfl) (fun _ _ _ h => h) (Or.inl ⟨?_, ?_⟩) hH0 ?_
     rotate_left
     ·kernel_rfl
     ·(intro W' _; go_simp; (try with_reducible rfl))
     (try simp only [List.getElem_toArray, List.getElem_cons_succ, List.getElem_cons_zero, Act.put, List.setIfInBounds_toArray, List.set_cons_succ, List.set_cons_zero])
     refine wpAnyH_take (i := 3) (oi := _) (v := ?_) rfl (by kernel_rfl) (by kernel_rfl) (by kernel_rfl) (fun _ _ _ h => h) (Or.inl ⟨?_, ?_⟩) hH0 ?_
     rotate_left
     ·kernel_rfl
     ·(intro W' _; go_simp; (try with_reducible rfl))
     (try simp only [List.getElem_toArray, List.getElem_cons_succ, List.getElem_cons_zero, Act.put, List.setIfInBounds_toArray, List.set_cons_succ, List.set_cons_zero])
     refine wpAnyH_take (i := 4) (oi := _) (v := ?_) rfl (by kernel_rfl) (by kernel_rfl) (by kernel_rfl) (fun _ _ _ h => h) (Or.inl ⟨?_, ?_⟩) hH0 ?_
     rotate_left
     ·kernel_rfl
     ·(intro W' hSw; have f0 := keepc hSw p9; have f3 := keepc hSw b0; go_simp; (try with_reducible rfl))
     (try simp only [List.getElem_toArray, List.getElem_cons_succ, List.getElem_cons_zero, Act.put, List.setIfInBounds_toArray, List.set_cons_succ, List.set_cons_zero])
     refine wpAnyH_take (i := 5) (oi := _) (v := ?_) rfl (by kernel_rfl) (by kernel_rfl) (by kernel_rfl) (fun _ _ _ h => h) (Or.inl ⟨?_, ?_⟩) hH0 ?_
     rotate_left
     ·kernel_rfl
     ·(intro W' _; go_simp; (try with_reducible rfl))
     (try simp only [List.getElem_toArray, List.getElem_cons_succ, List.getElem_cons_zero, Act.put, List.setIfInBounds_toArray, List.set_cons_succ, List.set_cons_zero])
     refine wpAnyH_take (i := 6) (oi := _) (v := ?_) rfl (by kernel_rfl) (by kernel_rfl) (by kernel_rfl) (fun _ _ _ h => h) (Or.inl ⟨?_, ?_⟩) hH0 ?_
     rotate_left
     ·kernel_rfl
     ·(intro W' hSw; have f0 := keepc hSw p9; have f3 := keepc hSw b0; go_simp; (try with_reducible rfl))
     (try simp only [List.getElem_toArray, List.getElem_cons_succ, List.getElem_cons_zero, Act.put, List.setIfInBounds_toArray, List.set_cons_succ, List.set_cons_zero])
     refine wpAnyH_ready (rs := [7]) (by kernel_rfl) (by simp) ?_
     refine AllReadyH.cons (o := _) rfl (fun K hK => ?_) AllReadyH.nil
     go_simp
     refine hK.out _ _ (bal hH0 _) (fun hH1 => ?_)
     clear hK K
     (try simp only [List.getElem_toArray, List.getElem_cons_succ, List.getElem_cons_zero, Act.put, List.setIfInBounds_toArray, List.set_cons_succ, List.set_cons_zero])
     refine wpAnyH_ready (rs := [8]) (by kernel_rfl) (by simp) ?_
     refine AllReadyH.cons (o := _) rfl (fun K hK => ?_) AllReadyH.nil
     go_simp
     refine (EQ.out _ (btr HBi.out (btr (bdr (bref _)) (bal (bref _) _))) _ (one_int _ _ _)).mono ?_
     rintro r w4 ⟨rfl, hb1⟩
     refine hK.out _ _ (btr hH1 hb1) (fun hH2 => ?_)
     clear hK K
     (try simp only [List.getElem_toArray, List.getElem_cons_succ, List.getElem_cons_zero, Act.put, List.setIfInBounds_toArray, List.set_cons_succ, List.set_cons_zero])
     refine wpAnyH_take (i := 9) (oi := _) (v := ?_) rfl (by kernel_rfl) (by kernel_rfl) (by kernel_rfl) (fun _ _ _ h => h) (Or.inl ⟨?_, ?_⟩) hH2 ?_
     rotate_left
     ·kernel_rfl
     ·(intro W' _; go_simp; (try with_reducible rfl))
     (try simp only [List.getElem_toArray, List.getElem_cons_succ, List.getElem_cons_zero, Act.put, List.setIfInBounds_toArray, List.set_cons_succ, List.set_cons_zero])
     refine wpAnyH_done (by kernel_rfl) ?_ _
     go_wp2_with fail
     go_ret2
     exact ⟨by first | rfl | (congr 1; simp; omega), btr HB.out (btr HBi.out (btr (bal (bdr (bref _)) _) hb1))⟩
    | false =>
     rw [if_neg (by decide)] at hge
     subst hge
     go_wp2_with fail
     have p9 := keepc HBi.out p2
     obtain ⟨W0, hW0⟩ : ∃ W0, wr.alloc (.cells #[.bool true, .bool false, .slice ao ln c] 96) = W0 := ⟨_, rfl⟩
     rw [hW0] at HBi p9 b0
     simp only [hW0]
     clear hW0 p0 p1 p2 b1 b2 a0
     refine wp_region_held_drew (S := (fun W => Below W0.heap.size W0 W)) (by kernel_rfl) (bdr (bref _)) (fun hH0 => ?_)
     refine wpAnyH_take (i := 0) (oi := _) (v := ?_) rfl (by kernel_rfl) (by kernel_rfl) (by kernel_rfl) (fun _ _ _ h => h) (Or.inl ⟨?_, ?_⟩) hH0 ?_
     rotate_left
     ·kernel_rfl
     ·(intro W' _; go_simp; (try with_reducible rfl))
     (try simp only [List.getElem_toArray, List.getElem_cons_zero, Act.put, List.setIfInBounds_toArray, List.set_cons_succ, List.set_cons_zero])
     refine wpAnyH_take (i := 1) (oi := _) (v := ?_) rfl (by kernel_rfl) (by kernel_rfl) (by kernel_rfl) (fun _ _ _ h => h) (Or.inl ⟨?_, ?_⟩) hH0 ?_
     rotate_left
     ·kernel_rfl
     ·(intro W' _; go_simp; (try with_reducible rfl))
     (try simp only [List.getElem_toArray, List.getElem_cons_succ, List.getElem_cons_zero, Act.put, List.setIfInBounds_toArray, List.set_cons_succ, List.set_cons_zero])
     refine wpAnyH_take (i := 2) (oi := _) (v := ?_) rfl (by kernel_rfl) (by kernel_rfl) (by kernel_rfl) (fun _ _ _ h => h) (Or.inl ⟨?_, ?_⟩) hH0 ?_
     rotate_left
     ·kernel_rfl
     ·(intro W' _; go_simp; (try with_reducible rfl))
     (try simp only [List.getElem_toArray, List.getElem_cons_succ, List.getElem_cons_zero, Act.put, List.setIfInBounds_toArray, List.set_cons_succ, List.set_cons_zero])
     refine wpAnyH_take (i := 3) (oi := _) (v := ?_) rfl (by kernel_rfl) (by kernel_rfl) (by kernel_rfl) (fun _ _ _ h => h) (Or.inl ⟨?_, ?_⟩) hH0 ?_
     rotate_left
     ·kernel_rfl
     ·(intro W' _; go_simp; (try with_reducible rfl))
     (try simp only [List.getElem_toArray, List.getElem_cons_succ, List.getElem_cons_zero, Act.put, List.setIfInBounds_toArray, List.set_cons_succ, List.set_cons_zero])
     refine wpAnyH_take (i := 4) (oi := _) (v := ?_) rfl (by kernel_rfl) (by kernel_rfl) (by kernel_rfl) (fun _ _ _ h => h) (Or.inl ⟨?_, ?_⟩) hH0 ?_
     rotate_left
     ·kernel_rfl
     ·(intro W' hSw; have f0 := keepc hSw p9; have f3 := keepc hSw b0; go_simp; (try with_reducible rfl))
     (try simp only [List.getElem_toArray, List.getElem_cons_succ, List.getElem_cons_zero, Act.put, List.setIfInBounds_toArray, List.set_cons_succ, List.set_cons_zero])
     refine wpAnyH_take (i := 5) (oi := _) (v := ?_) rfl (by kernel_rfl) (by kernel_rfl) (by kernel_rfl) (fun _ _ _ h => h) (Or.inl ⟨?_, ?_⟩) hH0 ?_
     rotate_left
     ·kernel_rfl
     ·(intro W' _; go_simp; (try with_reducible rfl))
     (try simp only [List.getElem_toArray, List.getElem_cons_succ, List.getElem_cons_zero, Act.put, List.setIfInBounds_toArray, List.set_cons_succ, List.set_cons_zero])
     refine wpAnyH_take (i := 6) (oi := _) (v := ?_) rfl (by kernel_rfl) (by kernel_rfl) (by kernel_rfl) (fun _ _ _ h => h) (Or.inl ⟨?_, ?_⟩) hH0 ?_
     rotate_left
     ·kernel_rfl
     ·(intro W' hSw; have f0 := keepc hSw p9; have f3 := keepc hSw b0; go_simp; (try with_reducible rfl))
     (try simp only [List.getElem_toArray, List.getElem_cons_succ, List.getElem_cons_zero, Act.put, List.setIfInBounds_toArray, List.set_cons_succ, List.set_cons_zero])
     refine wpAnyH_ready (rs := [7]) (by kernel_rfl) (by simp) ?_
     refine AllReadyH.cons (o := _) rfl (fun K hK => ?_) AllReadyH.nil
     go_simp
     refine hK.out _ _ (bal hH0 _) (fun hH1 => ?_)
     clear hK K
     (try simp only [List.getElem_toArray, List.getElem_cons_succ, List.getElem_cons_zero, Act.put, List.setIfInBounds_toArray, List.set_cons_succ, List.set_cons_zero])
     refine wpAnyH_ready (rs := [8]) (by kernel_rfl) (by simp) ?_
     refine AllReadyH.cons (o := _) rfl (fun K hK => ?_) AllReadyH.nil
     go_simp
     refine (EQ.out _ (btr HBi.out (btr (bdr (bref _)) (bal (bref _) _))) _ (one_int _ _ _)).mono ?_
     rintro r w4 ⟨rfl, hb1⟩
     refine hK.out _ _ (btr hH1 hb1) (fun hH2 => ?_)
     clear hK K
     (try simp only [List.getElem_toArray, List.getElem_cons_succ, List.getElem_cons_zero, Act.put, List.setIfInBounds_toArray, List.set_cons_succ, List.set_cons_zero])
     refine wpAnyH_take (i := 9) (oi := _) (v := ?_) rfl (by kernel_rfl) (by kernel_rfl) (by kernel_rfl) (fun _ _ _ h => h) (Or.inl ⟨?_, ?_⟩) hH2 ?_
     rotate_left
     ·kernel_rfl
     ·(intro W' _; go_simp; (try with_reducible rfl))
     (try simp only [List.getElem_toArray, List.getElem_cons_succ, List.getElem_cons_zero, Act.put, List.setIfInBounds_toArray, List.set_cons_succ, List.set_cons_zero])
     refine wpAnyH_done (by kernel_rfl) ?_ _
     go_wp2_with fail
     go_ret2
     exact ⟨rfl, btr HB.out (btr HBi.out (btr (bal (bdr (bref _)) _) hb1))⟩
   -- the rounds k < n
   have hlt : k < n := by omega
   have hkz3 : (k : Int) < (n : Int) := by omega
   have hkz4 : ¬ ((k : Int) = (n : Int)) := by omega
   have hkb : ((k : Int) == (n : Int)) = false := beq_no hkz4
   have hkc : k < cd.c.length := by rw [HN.out]; exact hlt
   obtain ⟨ib, off, rfl, hib, c0, c1, c2⟩ := HC.out.ins k hkc
   have hX2 : ¬ (ib = w1.heap.size) := by omega
   have hX1 : ¬ (w.heap.size = w1.heap.size) := by omega
   replace c0 := keepc HB.out c0
   replace c1 := keepc HB.out c1
   replace c2 := keepc HB.out c2
   have GS := go_on (t := cd.t) (vs := cd.vs) (c := cd.c) (f := n - k) (d := d) hS hkc
   rw [show n - k + 1 = n + 1 - k by omega, HGO.out, HN.out] at GS
   have HJP := Lib.hid (fun m => aft_jump (vs := cd.vs) (n := n) (i := k) (x := cd.c.getD k I0) (l := l) (m := m))
   have AFk : Hid (∀ W, Below wr.heap.size wr W → Calls Tryz.prog 62 #[.agg #[.int .i64 t, .slice vo vn vc, .slice (some ⟨ib, off, none⟩) n ic], .int .i64 (k : Int), .slice ao ln c] W (AGot (aft cd.vs n k (cd.c.getD k I0) l) W)) := Lib.hid (fun W hW => by
    have q := AF.out k ao c l W (btr HB.out hW) hkc (by rw [HN.out]; omega) hl1.out (HLI.out.keep hW)
    rw [HN.out, HVN.out, HT.out, HLN.out] at q
    exact q)
   obtain ⟨x, hx⟩ : ∃ x, cd.c.getD k I0 = x := ⟨_, rfl⟩
   rw [hx] at c0 c1 c2 GS HJP AFk
   obtain ⟨o, a, z⟩ := x
   simp only at c0 c1 c2
   obtain ⟨Q, hQ⟩ : ∃ Q, aft cd.vs n k (o, a, z) l = Q := ⟨_, rfl⟩
   rw [hQ] at AFk GS
   have HQ := Lib.hid hQ
   have hln : ln ≤ 1000 := by rw [← HLN.out]; exact hl1.out
   clear hx hQ hkc hS hkn
   cases Q with
   | none =>
    have hr : R = (0, 9) := GS
    subst hr
    clear GS
    go_wp2_with fail
    refine (AFk.out _ HBi.out).mono ?_
    rintro r w3 ⟨v, rfl, hlm, hb3⟩
    clear hlm
    simp only [Option.isSome_none]
    go_wp2_with fail
    go_ret2
    exact ⟨rfl, btr HB.out (btr HBi.out hb3)⟩
   | some m =>
    have hg : R = if 16 < m.length then (0, 5) else go cd.t cd.vs cd.c (n - k) (k + 1) (YM.step (o, a, z) k m S) (max d l.length) := GS
    rw [HLN.out] at hg
    have HJ := Lib.hid (HJP.out m HQ.out)
    clear GS HJP
    go_wp2_with fail
    refine (AFk.out _ HBi.out).mono ?_
    rintro r w3 ⟨v, rfl, hlm, hb3⟩
    obtain ⟨ao', c', rfl, hLm, hFr⟩ := hlm m rfl
    simp only [Option.isSome_some]
    obtain ⟨mn, hmn⟩ : ∃ q, m.length = q := ⟨_, rfl⟩
    rw [hmn] at hg ⊢
    have hb13 := btr HBi.out hb3
    have HB3 := Lib.hid (btr HB.out hb13)
    clear hlm AFk
    by_cases hm16 : 16 < mn
    ·rw [if_pos hm16] at hg
     subst hg
     have hmz : (16 : Int) < (mn : Int) := by omega
     clear hLm hFr hmn
     go_wp2_with fail
     go_ret2
     exact ⟨rfl, HB3.out⟩
    rw [if_neg hm16] at hg
    have hmz : ¬ ((16 : Int) < (mn : Int)) := by omega
    have HGN0 := Lib.hid (show go cd.t cd.vs cd.c (n + 1 - (k + 1)) (k + 1) (YM.step (o, a, z) k m S) (max d ln) = R by rw [show n + 1 - (k + 1) = n - k by omega]; exact hg.symm)
    have hsw : w1.heap.size < wr.heap.size := (HP.out 0 (Nat.zero_le _)).lt
    have HNE := Lib.hid (show ∀ a', ao' = some a' → a'.block ≠ w1.heap.size from fun a' e => by have h := hFr a' e; simp at h; omega)
    have HLM := Lib.hid hLm
    have HMN := Lib.hid hmn
    have HP3 := Lib.hid (HP.out.keep hb13)
    replace b0 := keepc hb3 b0
    replace b1 := keepc hb3 b1
    replace b2 := keepc hb3 b2
    have i0 := keepc hb13 c0
    have i1 := keepc hb13 c1
    have hk1 : (k : Int) + 1 < (n : Int) + 1 := Int.add_lt_add_right hkz3 1
    have hk2 : ¬ ((k : Int) + 1 < 0) := Int.not_lt.2 (Int.add_nonneg (Int.natCast_nonneg k) (by decide))
    have hwk : wrap64 ((k : Int) + 1) = (k : Int) + 1 := wrap_next k n hlt hn128
    clear hb3 hb13 hLm hFr hmn hg hm16 c0 c1 c2 p0 p1 p2 a0
    by_cases h4 : o = 4
    ·subst h4
     obtain ⟨q, rfl, hq1, hq2⟩ := HJ.out (Or.inl rfl)
     have hqn : (q : Int) < (n : Int) + 1 := by omega
     have hqz : ¬ ((q : Int) < 0) := by omega
     have HGN := Lib.hid (show go cd.t cd.vs cd.c (n + 1 - (k + 1)) (k + 1) (upd S q (meet (S q) m)) (max d ln) = R from by
      have h := HGN0.out
      unfold YM.step at h
      rw [if_pos rfl, Int.toNat_natCast] at h
      exact h)
     obtain ⟨ao2, c2', l2, r2, m2, e0, e1, e2, g0, g1, g2, hL2, hx2, hv2⟩ := HP3.out q hq2
     have HL2 := Lib.hid hL2
     have HX2 := Lib.hid hx2
     have HV2 := Lib.hid hv2
     obtain ⟨n2, hn2⟩ : ∃ q, l2.length = q := ⟨_, rfl⟩
     have HN2 := Lib.hid hn2
     rw [hn2] at e2
     have MT : Hid (∀ W, Below w3.heap.size w3 W → Calls Tryz.prog 63 #[.agg #[.bool r2, .bool m2, .slice ao2 n2 c2'], .slice ao' mn c'] W (fun e w' => ∃ r' m' ao' c' l', e = .returned (.agg #[.bool r', .bool m', .slice ao' l'.length c']) ∧ SVal (meet (S q) m) r' m' l' ∧ LI ao' c' l' w' ∧ From W ao2 ao' ∧ Below W.heap.size W w')) := Lib.hid (fun W hW => by
      have q := rmeet (S q) r2 m2 l2 ao2 c2' m ao' c' W HV2.out (HL2.out.keep hW) (by rw [HMN.out]; omega) (HLM.out.keep hW)
      rw [HN2.out, HMN.out] at q
      exact q)
     have hbl : w1.heap.size < w3.heap.size := World.block_lt_of_cell? _ _ e0
     clear hL2 hx2 hv2 hn2
     have f0q := hqz
     go_wp2_with fail
     refine wp_region_held_drew (S := (fun W => Sav (fun k => k = w1.heap.size) w3 W)) (by kernel_rfl) ((Sav.refl _ w3).next (bdr (bref _))) (fun hH0 => ?_)
     refine wpAnyH_take (i := 0) (oi := _) (v := ?_) rfl (by kernel_rfl) (by kernel_rfl) (by kernel_rfl) (fun _ _ _ h => h) (Or.inl ⟨?_, ?_⟩) hH0 ?_
     rotate_left
     ·kernel_rfl
     ·(intro W' _; go_simp; (try with_reducible rfl))
     (try simp only [List.getElem_toArray, List.getElem_cons_zero, Act.put, List.setIfInBounds_toArray, List.set_cons_succ, List.set_cons_zero])
     refine wpAnyH_take (i := 1) (oi := _) (v := ?_) rfl (by kernel_rfl) (by kernel_rfl) (by kernel_rfl) (fun _ _ _ h => h) (Or.inl ⟨?_, ?_⟩) hH0 ?_
     rotate_left
     ·kernel_rfl
     ·(intro W' _; go_simp; (try with_reducible rfl))
     (try simp only [List.getElem_toArray, List.getElem_cons_succ, List.getElem_cons_zero, Act.put, List.setIfInBounds_toArray, List.set_cons_succ, List.set_cons_zero])
     refine wpAnyH_take (i := 2) (oi := _) (v := ?_) rfl (by kernel_rfl) (by kernel_rfl) (by kernel_rfl) (fun _ _ _ h => h) (Or.inl ⟨?_, ?_⟩) hH0 ?_
     rotate_left
     ·kernel_rfl
     ·(intro W' hSw; have f0 := hSw.cell b2 hX1; have f1 := hSw.cell i1 hX2; go_simp; (try with_reducible rfl))
     (try simp only [List.getElem_toArray, List.getElem_cons_succ, List.getElem_cons_zero, Act.put, List.setIfInBounds_toArray, List.set_cons_succ, List.set_cons_zero])
     refine wpAnyH_take (i := 3) (oi := _) (v := ?_) rfl (by kernel_rfl) (by kernel_rfl) (by kernel_rfl) (fun _ _ _ h => h) (Or.inl ⟨?_, ?_⟩) hH0 ?_
     rotate_left
     ·kernel_rfl
     ·(intro W' _; go_simp; (try with_reducible rfl))
     (try simp only [List.getElem_toArray, List.getElem_cons_succ, List.getElem_cons_zero, Act.put, List.setIfInBounds_toArray, List.set_cons_succ, List.set_cons_zero])
     refine wpAnyH_take (i := 4) (oi := _) (v := ?_) rfl (by kernel_rfl) (by kernel_rfl) (by kernel_rfl) (fun _ _ _ h => h) (Or.inl ⟨?_, ?_⟩) hH0 ?_
     rotate_left
     ·kernel_rfl
     ·(intro W' _; go_simp; (try with_reducible rfl))
     (try simp only [List.getElem_toArray, List.getElem_cons_succ, List.getElem_cons_zero, Act.put, List.setIfInBounds_toArray, List.set_cons_succ, List.set_cons_zero])
     refine wpAnyH_take (i := 5) (oi := _) (v := ?_) rfl (by kernel_rfl) (by kernel_rfl) (by kernel_rfl) (fun _ _ _ h => h) (Or.inl ⟨?_, ?_⟩) hH0 ?_
     rotate_left
     ·kernel_rfl
     ·(intro W' _; go_simp; (try with_reducible rfl))
     (try simp only [List.getElem_toArray, List.getElem_cons_succ, List.getElem_cons_zero, Act.put, List.setIfInBounds_toArray, List.set_cons_succ, List.set_cons_zero])
     refine wpAnyH_take (i := 6) (oi := _) (v := ?_) rfl (by kernel_rfl) (by kernel_rfl) (by kernel_rfl) (fun _ _ _ h => h) (Or.inl ⟨?_, ?_⟩) hH0 ?_
     rotate_left
     ·kernel_rfl
     ·(intro W' hSw; have f0 := hSw.cell b2 hX1; have f1 := hSw.cell i1 hX2; go_simp; (try with_reducible rfl))
     (try simp only [List.getElem_toArray, List.getElem_cons_succ, List.getElem_cons_zero, Act.put, List.setIfInBounds_toArray, List.set_cons_succ, List.set_cons_zero])
     refine wpAnyH_take (i := 7) (oi := _) (v := ?_) rfl (by kernel_rfl) (by kernel_rfl) (by kernel_rfl) (fun _ _ _ h => h) (Or.inl ⟨?_, ?_⟩) hH0 ?_
     rotate_left
     ·kernel_rfl
     ·(intro W' _; go_simp; (try with_reducible rfl))
     (try simp only [List.getElem_toArray, List.getElem_cons_succ, List.getElem_cons_zero, Act.put, List.setIfInBounds_toArray, List.set_cons_succ, List.set_cons_zero])
     refine wpAnyH_take (i := 8) (oi := _) (v := ?_) rfl (by kernel_rfl) (by kernel_rfl) (by kernel_rfl) (fun _ _ _ h => h) (Or.inl ⟨?_, ?_⟩) hH0 ?_
     rotate_left
     ·kernel_rfl
     ·(intro W' _; go_simp; (try with_reducible rfl))
     (try simp only [List.getElem_toArray, List.getElem_cons_succ, List.getElem_cons_zero, Act.put, List.setIfInBounds_toArray, List.set_cons_succ, List.set_cons_zero])
     refine wpAnyH_take (i := 9) (oi := _) (v := ?_) rfl (by kernel_rfl) (by kernel_rfl) (by kernel_rfl) (fun _ _ _ h => h) (Or.inl ⟨?_, ?_⟩) hH0 ?_
     rotate_left
     ·kernel_rfl
     ·(intro W' hSw; have f0 := hSw.cell b2 hX1; have f1 := hSw.cell i1 hX2; go_simp; (try with_reducible rfl))
     (try simp only [List.getElem_toArray, List.getElem_cons_succ, List.getElem_cons_zero, Act.put, List.setIfInBounds_toArray, List.set_cons_succ, List.set_cons_zero])
     refine wpAnyH_take (i := 10) (oi := _) (v := ?_) rfl (by kernel_rfl) (by kernel_rfl) (by kernel_rfl) (fun _ _ _ h => h) (Or.inl ⟨?_, ?_⟩) hH0 ?_
     rotate_left
     ·kernel_rfl
     ·(intro W' _; go_simp; (try with_reducible rfl))
     (try simp only [List.getElem_toArray, List.getElem_cons_succ, List.getElem_cons_zero, Act.put, List.setIfInBounds_toArray, List.set_cons_succ, List.set_cons_zero])
     refine wpAnyH_take (i := 11) (oi := _) (v := ?_) rfl (by kernel_rfl) (by kernel_rfl) (by kernel_rfl) (fun _ _ _ h => h) (Or.inl ⟨?_, ?_⟩) hH0 ?_
     rotate_left
     ·kernel_rfl
     ·(intro W' _; go_simp; (try with_reducible rfl))
     (try simp only [List.getElem_toArray, List.getElem_cons_succ, List.getElem_cons_zero, Act.put, List.setIfInBounds_toArray, List.set_cons_succ, List.set_cons_zero])
     refine wpAnyH_take (i := 12) (oi := _) (v := ?_) rfl (by kernel_rfl) (by kernel_rfl) (by kernel_rfl) (fun _ _ _ h => h) (Or.inl ⟨?_, ?_⟩) hH0 ?_
     rotate_left
     ·kernel_rfl
     ·(intro W' _; go_simp; (try with_reducible rfl))
     (try simp only [List.getElem_toArray, List.getElem_cons_succ, List.getElem_cons_zero, Act.put, List.setIfInBounds_toArray, List.set_cons_succ, List.set_cons_zero])
     refine wpAnyH_take (i := 13) (oi := _) (v := ?_) rfl (by kernel_rfl) (by kernel_rfl) (by kernel_rfl) (fun _ _ _ h => h) (Or.inl ⟨?_, ?_⟩) hH0 ?_
     rotate_left
     ·kernel_rfl
     ·(intro W' hSw; have f0 := hSw.cell b2 hX1; have f1 := hSw.cell i1 hX2; go_simp; (try with_reducible rfl))
     (try simp only [List.getElem_toArray, List.getElem_cons_succ, List.getElem_cons_zero, Act.put, List.setIfInBounds_toArray, List.set_cons_succ, List.set_cons_zero])
     refine wpAnyH_take (i := 14) (oi := _) (v := ?_) rfl (by kernel_rfl) (by kernel_rfl) (by kernel_rfl) (fun _ _ _ h => h) (Or.inl ⟨?_, ?_⟩) hH0 ?_
     rotate_left
     ·kernel_rfl
     ·(intro W' _; go_simp; (try with_reducible rfl))
     (try simp only [List.getElem_toArray, List.getElem_cons_succ, List.getElem_cons_zero, Act.put, List.setIfInBounds_toArray, List.set_cons_succ, List.set_cons_zero])
     refine wpAnyH_take (i := 16) (oi := _) (v := ?_) rfl (by kernel_rfl) (by kernel_rfl) (by kernel_rfl) (fun _ _ _ h => h) (Or.inl ⟨?_, ?_⟩) hH0 ?_
     rotate_left
     ·kernel_rfl
     ·(intro W' _; go_simp; (try with_reducible rfl))
     (try simp only [List.getElem_toArray, List.getElem_cons_succ, List.getElem_cons_zero, Act.put, List.setIfInBounds_toArray, List.set_cons_succ, List.set_cons_zero])
     refine wpAnyH_ready (rs := [15]) (by kernel_rfl) (by simp) ?_
     refine AllReadyH.cons (o := _) rfl (fun K hK => ?_) AllReadyH.nil
     go_simp
     refine hK.out _ _ hH0 (fun hH1 => ?_)
     clear hK K
     (try simp only [List.getElem_toArray, List.getElem_cons_succ, List.getElem_cons_zero, Act.put, List.setIfInBounds_toArray, List.set_cons_succ, List.set_cons_zero])
     refine wpAnyH_ready (rs := [17]) (by kernel_rfl) (by simp) ?_
     refine AllReadyH.cons (o := _) rfl (fun K hK => ?_) AllReadyH.nil
     go_simp
     refine (MT.out _ (bdr (bref _))).mono ?_
     rintro r w4 ⟨r', m', ao6, c6, l6, rfl, hv6, hl6, hf6, hb6⟩
     refine hK.out _ _ (hH1.next hb6) (fun hH2 => ?_)
     clear hK K
     (try simp only [List.getElem_toArray, List.getElem_cons_succ, List.getElem_cons_zero, Act.put, List.setIfInBounds_toArray, List.set_cons_succ, List.set_cons_zero])
     refine wpAnyH_take (i := 18) (oi := _) (v := ?_) rfl (by kernel_rfl) (by kernel_rfl) (by kernel_rfl) (fun _ _ _ h => h) (Or.inl ⟨?_, ?_⟩) hH2 ?_
     rotate_left
     ·kernel_rfl
     ·(intro W' _; go_simp; (try with_reducible rfl))
     (try simp only [List.getElem_toArray, List.getElem_cons_succ, List.getElem_cons_zero, Act.put, List.setIfInBounds_toArray, List.set_cons_succ, List.set_cons_zero])
     refine wpAnyH_ready (rs := [19]) (by kernel_rfl) (by simp) ?_
     refine AllReadyH.cons (o := _) rfl (fun K hK => ?_) AllReadyH.nil
     have hb34 : Below w3.heap.size w3 w4 := btr (bdr (bref w3)) hb6
     have s0 := keepc hb34 e0
     have s1 := keepc hb34 e1
     have s2 := keepc hb34 e2
     have t0 := keepf hb34 e0 g0
     have t1 := keepf hb34 e1 g1
     have t2 := keepf hb34 e2 g2
     go_simp
     refine hK.out _ _ (((hH2.put ⟨w1.heap.size, q * 3, none⟩ (.bool r') rfl).put ⟨w1.heap.size, q * 3 + 1, none⟩ (.bool m') rfl).put ⟨w1.heap.size, q * 3 + 2, none⟩ (.slice ao6 l6.length c6) rfl) (fun hH3 => ?_)
     clear hK K
     (try simp only [List.getElem_toArray, List.getElem_cons_succ, List.getElem_cons_zero, Act.put, List.setIfInBounds_toArray, List.set_cons_succ, List.set_cons_zero])
     refine wpAnyH_done (by kernel_rfl) ?_ _
     clear s0 s1 s2 t0 t1 t2 MT e0 e1 e2 g0 g1 g2
     obtain ⟨w5, hw5⟩ : ∃ X, ((w4.setCell ⟨w1.heap.size, q * 3, none⟩ (.bool r')).setCell ⟨w1.heap.size, q * 3 + 1, none⟩ (.bool m')).setCell ⟨w1.heap.size, q * 3 + 2, none⟩ (.slice ao6 l6.length c6) = X := ⟨_, rfl⟩
     obtain ⟨d5, r5⟩ := ((HP3.out q hq2).keep hb34).store hv6 hl6 (fun a e => by
      rcases hf6 a e with h | ⟨a0, h1, h2⟩
      ·have h3 := hbl; have h4 : w3.heap.size ≤ a.block := by simpa using h
       omega
      ·rw [← h2]; exact HX2.out a0 h1)
     rw [hw5] at d5 r5
     have HP5 := Lib.hid ((HP3.out.keep hb34).put q d5 r5)
     (try simp only [hw5])
     replace b0 := r5.sav.cell (keepc hb34 b0) hX1
     replace b1 := r5.sav.cell (keepc hb34 b1) hX1
     replace b2 := r5.sav.cell (keepc hb34 b2) hX1
     have HLM5 := Lib.hid ((HLM.out.keep hb34).sav r5.sav (fun a ha e => HNE.out a ha e))
     have hB5 : Below w.heap.size w w5 := by
      have hb4 := btr HB3.out hb34
      exact hb4.trans (r5.sav.below (fun k e => by have e' : k = w1.heap.size := e; omega) (by have := hb4.size; omega))
     have HB5 := Lib.hid hB5
     clear d5 r5 hb6 hb34 hB5 hv6 hl6 hf6 hw5 HL2 HX2 HV2 HN2 hbl i1 hH0 hH1 hH2 hH3
     have hL6 := Lib.hid (show Lr w.heap.size w1.heap.size n vn t cd vo (some ⟨ib, off, none⟩) vc ic w R (k + 1) (max d ln) w5 from ⟨_, HP5.out, HGN.out, by omega, HB5.out, hMb, b0, b1, b2⟩)
     clear b0 b1 b2
     go_wp2_with fail
     go_roundw
     case rel => exact ⟨k + 1, max d ln, by omega, by first | rfl | (congr 1; omega) | go_num, by first | rfl | go_num, hL6.out⟩
     case measure => simp [RowKit.intOf]; omega
    have h4b : (o == 4) = false := beq_no h4
    have h4n : (o != 4) = true := bne_yes h4
    by_cases h5 : o = 5
    ·subst h5
     obtain ⟨q, rfl, hq1, hq2⟩ := HJ.out (Or.inr rfl)
     have hqn : (q : Int) < (n : Int) + 1 := by omega
     have hqz : ¬ ((q : Int) < 0) := by omega
     have HGN1 := Lib.hid (show go cd.t cd.vs cd.c (n + 1 - (k + 1)) (k + 1) (upd (upd S q (meet (S q) m)) (k + 1) (meet ((upd S q (meet (S q) m)) (k + 1)) m)) (max d ln) = R from by
      have h := HGN0.out
      unfold YM.step at h
      rw [if_neg (by show ¬ ((5 : Int) = 4); decide), if_pos rfl, Int.toNat_natCast] at h
      exact h)
     obtain ⟨ao2, c2', l2, r2, m2, e0, e1, e2, g0, g1, g2, hL2, hx2, hv2⟩ := HP3.out q hq2
     have HL2 := Lib.hid hL2
     have HX2 := Lib.hid hx2
     have HV2 := Lib.hid hv2
     obtain ⟨n2, hn2⟩ : ∃ q, l2.length = q := ⟨_, rfl⟩
     have HN2 := Lib.hid hn2
     rw [hn2] at e2
     have MT : Hid (∀ W, Below w3.heap.size w3 W → Calls Tryz.prog 63 #[.agg #[.bool r2, .bool m2, .slice ao2 n2 c2'], .slice ao' mn c'] W (fun e w' => ∃ r' m' ao' c' l', e = .returned (.agg #[.bool r', .bool m', .slice ao' l'.length c']) ∧ SVal (meet (S q) m) r' m' l' ∧ LI ao' c' l' w' ∧ From W ao2 ao' ∧ Below W.heap.size W w')) := Lib.hid (fun W hW => by
      have q := rmeet (S q) r2 m2 l2 ao2 c2' m ao' c' W HV2.out (HL2.out.keep hW) (by rw [HMN.out]; omega) (HLM.out.keep hW)
      rw [HN2.out, HMN.out] at q
      exact q)
     have hbl : w1.heap.size < w3.heap.size := World.block_lt_of_cell? _ _ e0
     clear hL2 hx2 hv2 hn2
     have f0q := hqz
     go_wp2_with fail
     refine wp_region_held_drew (S := (fun W => Sav (fun k => k = w1.heap.size) w3 W)) (by kernel_rfl) ((Sav.refl _ w3).next (bdr (bref _))) (fun hH0 => ?_)
     refine wpAnyH_take (i := 0) (oi := _) (v := ?_) rfl (by kernel_rfl) (by kernel_rfl) (by kernel_rfl) (fun _ _ _ h => h) (Or.inl ⟨?_, ?_⟩) hH0 ?_
     rotate_left
     ·kernel_rfl
     ·(intro W' _; go_simp; (try with_reducible rfl))
     (try simp only [List.getElem_toArray, List.getElem_cons_zero, Act.put, List.setIfInBounds_toArray, List.set_cons_succ, List.set_cons_zero])
     refine wpAnyH_take (i := 1) (oi := _) (v := ?_) rfl (by kernel_rfl) (by kernel_rfl) (by kernel_rfl) (fun _ _ _ h => h) (Or.inl ⟨?_, ?_⟩) hH0 ?_
     rotate_left
     ·kernel_rfl
     ·(intro W' _; go_simp; (try with_reducible rfl))
     (try simp only [List.getElem_toArray, List.getElem_cons_succ, List.getElem_cons_zero, Act.put, List.setIfInBounds_toArray, List.set_cons_succ, List.set_cons_zero])
     refine wpAnyH_take (i := 2) (oi := _) (v := ?_) rfl (by kernel_rfl) (by kernel_rfl) (by kernel_rfl) (fun _ _ _ h => h) (Or.inl ⟨?_, ?_⟩) hH0 ?_
     rotate_left
     ·kernel_rfl
     ·(intro W' hSw; have f0 := hSw.cell b2 hX1; have f1 := hSw.cell i1 hX2; go_simp; (try with_reducible rfl))
     (try simp only [List.getElem_toArray, List.getElem_cons_succ, List.getElem_cons_zero, Act.put, List.setIfInBounds_toArray, List.set_cons_succ, List.set_cons_zero])
     refine wpAnyH_take (i := 3) (oi := _) (v := ?_) rfl (by kernel_rfl) (by kernel_rfl) (by kernel_rfl) (fun _ _ _ h => h) (Or.inl ⟨?_, ?_⟩) hH0 ?_
     rotate_left
     ·kernel_rfl
     ·(intro W' _; go_simp; (try with_reducible rfl))
     (try simp only [List.getElem_toArray, List.getElem_cons_succ, List.getElem_cons_zero, Act.put, List.setIfInBounds_toArray, List.set_cons_succ, List.set_cons_zero])
     refine wpAnyH_take (i := 4) (oi := _) (v := ?_) rfl (by kernel_rfl) (by kernel_rfl) (by kernel_rfl) (fun _ _ _ h => h) (Or.inl ⟨?_, ?_⟩) hH0 ?_
     rotate_left
     ·kernel_rfl
     ·(intro W' _; go_simp; (try with_reducible rfl))
     (try simp only [List.getElem_toArray, List.getElem_cons_succ, List.getElem_cons_zero, Act.put, List.setIfInBounds_toArray, List.set_cons_succ, List.set_cons_zero])
     refine wpAnyH_take (i := 5) (oi := _) (v := ?_) rfl (by kernel_rfl) (by kernel_rfl) (by kernel_rfl) (fun _ _ _ h => h) (Or.inl ⟨?_, ?_⟩) hH0 ?_
     rotate_left
     ·kernel_rfl
     ·(intro W' _; go_simp; (try with_reducible rfl))
     (try simp only [List.getElem_toArray, List.getElem_cons_succ, List.getElem_cons_zero, Act.put, List.setIfInBounds_toArray, List.set_cons_succ, List.set_cons_zero])
     refine wpAnyH_take (i := 6) (oi := _) (v := ?_) rfl (by kernel_rfl) (by kernel_rfl) (by kernel_rfl) (fun _ _ _ h => h) (Or.inl ⟨?_, ?_⟩) hH0 ?_
     rotate_left
     ·kernel_rfl
     ·(intro W' hSw; have f0 := hSw.cell b2 hX1; have f1 := hSw.cell i1 hX2; go_simp; (try with_reducible rfl))
     (try simp only [List.getElem_toArray, List.getElem_cons_succ, List.getElem_cons_zero, Act.put, List.setIfInBounds_toArray, List.set_cons_succ, List.set_cons_zero])
     refine wpAnyH_take (i := 7) (oi := _) (v := ?_) rfl (by kernel_rfl) (by kernel_rfl) (by kernel_rfl) (fun _ _ _ h => h) (Or.inl ⟨?_, ?_⟩) hH0 ?_
     rotate_left
     ·kernel_rfl
     ·(intro W' _; go_simp; (try with_reducible rfl))
     (try simp only [List.getElem_toArray, List.getElem_cons_succ, List.getElem_cons_zero, Act.put, List.setIfInBounds_toArray, List.set_cons_succ, List.set_cons_zero])
     refine wpAnyH_take (i := 8) (oi := _) (v := ?_) rfl (by kernel_rfl) (by kernel_rfl) (by kernel_rfl) (fun _ _ _ h => h) (Or.inl ⟨?_, ?_⟩) hH0 ?_
     rotate_left
     ·kernel_rfl
     ·(intro W' _; go_simp; (try with_reducible rfl))
     (try simp only [List.getElem_toArray, List.getElem_cons_succ, List.getElem_cons_zero, Act.put, List.setIfInBounds_toArray, List.set_cons_succ, List.set_cons_zero])
     refine wpAnyH_take (i := 9) (oi := _) (v := ?_) rfl (by kernel_rfl) (by kernel_rfl) (by kernel_rfl) (fun _ _ _ h => h) (Or.inl ⟨?_, ?_⟩) hH0 ?_
     rotate_left
     ·kernel_rfl
     ·(intro W' hSw; have f0 := hSw.cell b2 hX1; have f1 := hSw.cell i1 hX2; go_simp; (try with_reducible rfl))
     (try simp only [List.getElem_toArray, List.getElem_cons_succ, List.getElem_cons_zero, Act.put, List.setIfInBounds_toArray, List.set_cons_succ, List.set_cons_zero])
     refine wpAnyH_take (i := 10) (oi := _) (v := ?_) rfl (by kernel_rfl) (by kernel_rfl) (by kernel_rfl) (fun _ _ _ h => h) (Or.inl ⟨?_, ?_⟩) hH0 ?_
     rotate_left
     ·kernel_rfl
     ·(intro W' _; go_simp; (try with_reducible rfl))
     (try simp only [List.getElem_toArray, List.getElem_cons_succ, List.getElem_cons_zero, Act.put, List.setIfInBounds_toArray, List.set_cons_succ, List.set_cons_zero])
     refine wpAnyH_take (i := 11) (oi := _) (v := ?_) rfl (by kernel_rfl) (by kernel_rfl) (by kernel_rfl) (fun _ _ _ h => h) (Or.inl ⟨?_, ?_⟩) hH0 ?_
     rotate_left
     ·kernel_rfl
     ·(intro W' _; go_simp; (try with_reducible rfl))
     (try simp only [List.getElem_toArray, List.getElem_cons_succ, List.getElem_cons_zero, Act.put, List.setIfInBounds_toArray, List.set_cons_succ, List.set_cons_zero])
     refine wpAnyH_take (i := 12) (oi := _) (v := ?_) rfl (by kernel_rfl) (by kernel_rfl) (by kernel_rfl) (fun _ _ _ h => h) (Or.inl ⟨?_, ?_⟩) hH0 ?_
     rotate_left
     ·kernel_rfl
     ·(intro W' _; go_simp; (try with_reducible rfl))
     (try simp only [List.getElem_toArray, List.getElem_cons_succ, List.getElem_cons_zero, Act.put, List.setIfInBounds_toArray, List.set_cons_succ, List.set_cons_zero])
     refine wpAnyH_take (i := 13) (oi := _) (v := ?_) rfl (by kernel_rfl) (by kernel_rfl) (by kernel_rfl) (fun _ _ _ h => h) (Or.inl ⟨?_, ?_⟩) hH0 ?_
     rotate_left
     ·kernel_rfl
     ·(intro W' hSw; have f0 := hSw.cell b2 hX1; have f1 := hSw.cell i1 hX2; go_simp; (try with_reducible rfl))
     (try simp only [List.getElem_toArray, List.getElem_cons_succ, List.getElem_cons_zero, Act.put, List.setIfInBounds_toArray, List.set_cons_succ, List.set_cons_zero])
     refine wpAnyH_take (i := 14) (oi := _) (v := ?_) rfl (by kernel_rfl) (by kernel_rfl) (by kernel_rfl) (fun _ _ _ h => h) (Or.inl ⟨?_, ?_⟩) hH0 ?_
     rotate_left
     ·kernel_rfl
     ·(intro W' _; go_simp; (try with_reducible rfl))
     (try simp only [List.getElem_toArray, List.getElem_cons_succ, List.getElem_cons_zero, Act.put, List.setIfInBounds_toArray, List.set_cons_succ, List.set_cons_zero])
     refine wpAnyH_take (i := 16) (oi := _) (v := ?_) rfl (by kernel_rfl) (by kernel_rfl) (by kernel_rfl) (fun _ _ _ h => h) (Or.inl ⟨?_, ?_⟩) hH0 ?_
     rotate_left
     ·kernel_rfl
     ·(intro W' _; go_simp; (try with_reducible rfl))
     (try simp only [List.getElem_toArray, List.getElem_cons_succ, List.getElem_cons_zero, Act.put, List.setIfInBounds_toArray, List.set_cons_succ, List.set_cons_zero])
     refine wpAnyH_ready (rs := [15]) (by kernel_rfl) (by simp) ?_
     refine AllReadyH.cons (o := _) rfl (fun K hK => ?_) AllReadyH.nil
     go_simp
     refine hK.out _ _ hH0 (fun hH1 => ?_)
     clear hK K
     (try simp only [List.getElem_toArray, List.getElem_cons_succ, List.getElem_cons_zero, Act.put, List.setIfInBounds_toArray, List.set_cons_succ, List.set_cons_zero])
     refine wpAnyH_ready (rs := [17]) (by kernel_rfl) (by simp) ?_
     refine AllReadyH.cons (o := _) rfl (fun K hK => ?_) AllReadyH.nil
     go_simp
     refine (MT.out _ (bdr (bref _))).mono ?_
     rintro r w4 ⟨r', m', ao6, c6, l6, rfl, hv6, hl6, hf6, hb6⟩
     refine hK.out _ _ (hH1.next hb6) (fun hH2 => ?_)
     clear hK K
     (try simp only [List.getElem_toArray, List.getElem_cons_succ, List.getElem_cons_zero, Act.put, List.setIfInBounds_toArray, List.set_cons_succ, List.set_cons_zero])
     refine wpAnyH_take (i := 18) (oi := _) (v := ?_) rfl (by kernel_rfl) (by kernel_rfl) (by kernel_rfl) (fun _ _ _ h => h) (Or.inl ⟨?_, ?_⟩) hH2 ?_
     rotate_left
     ·kernel_rfl
     ·(intro W' _; go_simp; (try with_reducible rfl))
     (try simp only [List.getElem_toArray, List.getElem_cons_succ, List.getElem_cons_zero, Act.put, List.setIfInBounds_toArray, List.set_cons_succ, List.set_cons_zero])
     refine wpAnyH_ready (rs := [19]) (by kernel_rfl) (by simp) ?_
     refine AllReadyH.cons (o := _) rfl (fun K hK => ?_) AllReadyH.nil
     have hb34 : Below w3.heap.size w3 w4 := btr (bdr (bref w3)) hb6
     have s0 := keepc hb34 e0
     have s1 := keepc hb34 e1
     have s2 := keepc hb34 e2
     have t0 := keepf hb34 e0 g0
     have t1 := keepf hb34 e1 g1
     have t2 := keepf hb34 e2 g2
     go_simp
     refine hK.out _ _ (((hH2.put ⟨w1.heap.size, q * 3, none⟩ (.bool r') rfl).put ⟨w1.heap.size, q * 3 + 1, none⟩ (.bool m') rfl).put ⟨w1.heap.size, q * 3 + 2, none⟩ (.slice ao6 l6.length c6) rfl) (fun hH3 => ?_)
     clear hK K
     (try simp only [List.getElem_toArray, List.getElem_cons_succ, List.getElem_cons_zero, Act.put, List.setIfInBounds_toArray, List.set_cons_succ, List.set_cons_zero])
     refine wpAnyH_done (by kernel_rfl) ?_ _
     clear s0 s1 s2 t0 t1 t2 MT e0 e1 e2 g0 g1 g2
     obtain ⟨w5, hw5⟩ : ∃ X, ((w4.setCell ⟨w1.heap.size, q * 3, none⟩ (.bool r')).setCell ⟨w1.heap.size, q * 3 + 1, none⟩ (.bool m')).setCell ⟨w1.heap.size, q * 3 + 2, none⟩ (.slice ao6 l6.length c6) = X := ⟨_, rfl⟩
     obtain ⟨d5, r5⟩ := ((HP3.out q hq2).keep hb34).store hv6 hl6 (fun a e => by
      rcases hf6 a e with h | ⟨a0, h1, h2⟩
      ·have h3 := hbl; have h4 : w3.heap.size ≤ a.block := by simpa using h
       omega
      ·rw [← h2]; exact HX2.out a0 h1)
     rw [hw5] at d5 r5
     have HP5 := Lib.hid ((HP3.out.keep hb34).put q d5 r5)
     (try simp only [hw5])
     replace b0 := r5.sav.cell (keepc hb34 b0) hX1
     replace b1 := r5.sav.cell (keepc hb34 b1) hX1
     replace b2 := r5.sav.cell (keepc hb34 b2) hX1
     have HLM5 := Lib.hid ((HLM.out.keep hb34).sav r5.sav (fun a ha e => HNE.out a ha e))
     have hB5 : Below w.heap.size w w5 := by
      have hb4 := btr HB3.out hb34
      exact hb4.trans (r5.sav.below (fun k e => by have e' : k = w1.heap.size := e; omega) (by have := hb4.size; omega))
     have HB5 := Lib.hid hB5
     clear d5 r5 hb6 hb34 hB5 hv6 hl6 hf6 hw5 HL2 HX2 HV2 HN2 hbl i1 hH0 hH1 hH2 hH3
     obtain ⟨S1, hS1⟩ : ∃ S1, upd S q (meet (S q) m) = S1 := ⟨_, rfl⟩
     rw [hS1] at HP5
     have HGN := Lib.hid (show go cd.t cd.vs cd.c (n + 1 - (k + 1)) (k + 1) (upd S1 (k + 1) (meet (S1 (k + 1)) m)) (max d ln) = R by rw [← hS1]; exact HGN1.out)
     clear HGN1 hS1
     have hj27 : k + 1 ≤ n := by omega
     obtain ⟨ao2, c2', l2, r2, m2, e0, e1, e2, g0, g1, g2, hL2, hx2, hv2⟩ := HP5.out (k + 1) hj27
     have HL2 := Lib.hid hL2
     have HX2 := Lib.hid hx2
     have HV2 := Lib.hid hv2
     obtain ⟨n2, hn2⟩ : ∃ q, l2.length = q := ⟨_, rfl⟩
     have HN2 := Lib.hid hn2
     rw [hn2] at e2
     have MT : Hid (∀ W, Below w5.heap.size w5 W → Calls Tryz.prog 63 #[.agg #[.bool r2, .bool m2, .slice ao2 n2 c2'], .slice ao' mn c'] W (fun e w' => ∃ r' m' ao' c' l', e = .returned (.agg #[.bool r', .bool m', .slice ao' l'.length c']) ∧ SVal (meet (S1 (k + 1)) m) r' m' l' ∧ LI ao' c' l' w' ∧ From W ao2 ao' ∧ Below W.heap.size W w')) := Lib.hid (fun W hW => by
      have q := rmeet (S1 (k + 1)) r2 m2 l2 ao2 c2' m ao' c' W HV2.out (HL2.out.keep hW) (by rw [HMN.out]; omega) (HLM5.out.keep hW)
      rw [HN2.out, HMN.out] at q
      exact q)
     have hbl : w1.heap.size < w5.heap.size := World.block_lt_of_cell? _ _ e0
     clear hL2 hx2 hv2 hn2
     go_wp2_with fail
     refine (MT.out _ (bref _)).mono ?_
     rintro r w6 ⟨r', m', ao6, c6, l6, rfl, hv6, hl6, hf6, hb6⟩
     have s0 := keepc hb6 e0
     have s1 := keepc hb6 e1
     have s2 := keepc hb6 e2
     have t0 := keepf hb6 e0 g0
     have t1 := keepf hb6 e1 g1
     have t2 := keepf hb6 e2 g2
     have hb34 := hb6
     obtain ⟨w7, hw5⟩ : ∃ X, ((w6.setCell ⟨w1.heap.size, (k + 1) * 3, none⟩ (.bool r')).setCell ⟨w1.heap.size, (k + 1) * 3 + 1, none⟩ (.bool m')).setCell ⟨w1.heap.size, (k + 1) * 3 + 2, none⟩ (.slice ao6 l6.length c6) = X := ⟨_, rfl⟩
     obtain ⟨d5, r5⟩ := ((HP5.out (k + 1) hj27).keep hb34).store hv6 hl6 (fun a e => by
      rcases hf6 a e with h | ⟨a0, h1, h2⟩
      ·have h3 := hbl; have h4 : w5.heap.size ≤ a.block := by simpa using h
       omega
      ·rw [← h2]; exact HX2.out a0 h1)
     rw [hw5] at d5 r5
     have HP7 := Lib.hid ((HP5.out.keep hb34).put (k + 1) d5 r5)
     have hL6 := Lib.hid (show Lr w.heap.size w1.heap.size n vn t cd vo (some ⟨ib, off, none⟩) vc ic w R (k + 1) (max d ln) w7 from ⟨_, HP7.out, HGN.out, by omega, (by
      have hb4 := btr HB5.out hb34
      exact hb4.trans (r5.sav.below (fun k e => by have e' : k = w1.heap.size := e; omega) (by have := hb4.size; omega))), hMb, r5.sav.cell (keepc hb34 b0) hX1, r5.sav.cell (keepc hb34 b1) hX1, r5.sav.cell (keepc hb34 b2) hX1⟩)
     rw [← hw5] at hL6
     clear d5 r5 hb6 hb34 hv6 hl6 hf6 hw5 HL2 HX2 HV2 HN2 hbl MT e0 e1 e2 g0 g1 g2 b0 b1 b2
     go_wp2_with fail
     go_roundw
     case rel => exact ⟨k + 1, max d ln, by omega, by first | rfl | (congr 1; omega) | go_num, by first | rfl | go_num, hL6.out⟩
     case measure => simp [RowKit.intOf]; omega
    ·have h5b : (o == 5) = false := beq_no h5
     have HGN := Lib.hid (show go cd.t cd.vs cd.c (n + 1 - (k + 1)) (k + 1) (upd S (k + 1) (meet (S (k + 1)) m)) (max d ln) = R from by
      have h := HGN0.out
      unfold YM.step at h
      rw [if_neg h4, if_neg h5] at h
      exact h)
     clear i1
     have hj27 : k + 1 ≤ n := by omega
     obtain ⟨ao2, c2', l2, r2, m2, e0, e1, e2, g0, g1, g2, hL2, hx2, hv2⟩ := HP3.out (k + 1) hj27
     have HL2 := Lib.hid hL2
     have HX2 := Lib.hid hx2
     have HV2 := Lib.hid hv2
     obtain ⟨n2, hn2⟩ : ∃ q, l2.length = q := ⟨_, rfl⟩
     have HN2 := Lib.hid hn2
     rw [hn2] at e2
     have MT : Hid (∀ W, Below w3.heap.size w3 W → Calls Tryz.prog 63 #[.agg #[.bool r2, .bool m2, .slice ao2 n2 c2'], .slice ao' mn c'] W (fun e w' => ∃ r' m' ao' c' l', e = .returned (.agg #[.bool r', .bool m', .slice ao' l'.length c']) ∧ SVal (meet (S (k + 1)) m) r' m' l' ∧ LI ao' c' l' w' ∧ From W ao2 ao' ∧ Below W.heap.size W w')) := Lib.hid (fun W hW => by
      have q := rmeet (S (k + 1)) r2 m2 l2 ao2 c2' m ao' c' W HV2.out (HL2.out.keep hW) (by rw [HMN.out]; omega) (HLM.out.keep hW)
      rw [HN2.out, HMN.out] at q
      exact q)
     have hbl : w1.heap.size < w3.heap.size := World.block_lt_of_cell? _ _ e0
     clear hL2 hx2 hv2 hn2
     go_wp2_with fail
     refine (MT.out _ (bref _)).mono ?_
     rintro r w6 ⟨r', m', ao6, c6, l6, rfl, hv6, hl6, hf6, hb6⟩
     have s0 := keepc hb6 e0
     have s1 := keepc hb6 e1
     have s2 := keepc hb6 e2
     have t0 := keepf hb6 e0 g0
     have t1 := keepf hb6 e1 g1
     have t2 := keepf hb6 e2 g2
     have hb34 := hb6
     obtain ⟨w7, hw5⟩ : ∃ X, ((w6.setCell ⟨w1.heap.size, (k + 1) * 3, none⟩ (.bool r')).setCell ⟨w1.heap.size, (k + 1) * 3 + 1, none⟩ (.bool m')).setCell ⟨w1.heap.size, (k + 1) * 3 + 2, none⟩ (.slice ao6 l6.length c6) = X := ⟨_, rfl⟩
     obtain ⟨d5, r5⟩ := ((HP3.out (k + 1) hj27).keep hb34).store hv6 hl6 (fun a e => by
      rcases hf6 a e with h | ⟨a0, h1, h2⟩
      ·have h3 := hbl; have h4 : w3.heap.size ≤ a.block := by simpa using h
       omega
      ·rw [← h2]; exact HX2.out a0 h1)
     rw [hw5] at d5 r5
     have HP7 := Lib.hid ((HP3.out.keep hb34).put (k + 1) d5 r5)
     have hL6 := Lib.hid (show Lr w.heap.size w1.heap.size n vn t cd vo (some ⟨ib, off, none⟩) vc ic w R (k + 1) (max d ln) w7 from ⟨_, HP7.out, HGN.out, by omega, (by
      have hb4 := btr HB3.out hb34
      exact hb4.trans (r5.sav.below (fun k e => by have e' : k = w1.heap.size := e; omega) (by have := hb4.size; omega))), hMb, r5.sav.cell (keepc hb34 b0) hX1, r5.sav.cell (keepc hb34 b1) hX1, r5.sav.cell (keepc hb34 b2) hX1⟩)
     rw [← hw5] at hL6
     clear d5 r5 hb6 hb34 hv6 hl6 hf6 hw5 HL2 HX2 HV2 HN2 hbl MT e0 e1 e2 g0 g1 g2 b0 b1 b2
     go_wp2_with fail
     go_roundw
     case rel => exact ⟨k + 1, max d ln, by omega, by first | rfl | (congr 1; omega) | go_num, by first | rfl | go_num, hL6.out⟩
     case measure => simp [RowKit.intOf]; omega
end Go.Proofs.YthanoilbcdhbkaaGreatDoor
