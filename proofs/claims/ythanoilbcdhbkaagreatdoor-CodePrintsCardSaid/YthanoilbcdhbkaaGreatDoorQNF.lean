/-
  The document's after: the types that an instruction leaves.
-/
import Derived.Test.YthanoilbcdhbkaaGreatDoorQNE
namespace Go.Proofs.YthanoilbcdhbkaaGreatDoor
open Go Go.RowKit Go.Lib Go.Shelf WM TM EM YM

theorem OL.pos {base : Nat} {v : Value} {l : List Int} {W : World} (h : OL base v l W) (hl : 0 < l.length) : ∃ g c, v = .slice (some ⟨g, 0, none⟩) l.length c ∧ l.length ≤ c := by
 rcases h.2 with ⟨rfl, h2⟩ | ⟨g, cap, cur, rfl, hb, hg, hnc, _, hcs, htake⟩
 ·omega
 ·exact ⟨g, cap, rfl, hnc⟩
def AGot (R : Option (List Int)) (w : World) (r : Ending) (w' : World) : Prop :=
 ∃ v, r = .returned (.tuple #[v, .bool R.isSome]) ∧ (∀ m, R = some m → ∃ ao' c', v = .slice ao' m.length c' ∧ LI ao' c' m w' ∧ ∀ a, ao' = some a → w.heap.size ≤ a.block) ∧ Below w.heap.size w w'
set_option maxRecDepth 100000 in
set_option maxHeartbeats 16000000 in
theorem rafter (cd : Cd) (vo io : Option Addr) (vc ic i : Nat) (ao : Option Addr) (c : Nat) (l : List Int) (w : World) (h : CodeAt cd vo vc io ic w) (hi : i < cd.c.length) (hcl : cd.c.length ≤ 1000) (hl : l.length ≤ 1000) (hL : LI ao c l w) :
  Calls Tryz.prog 62 #[.agg #[.int .i64 cd.t, .slice vo cd.vs.length vc, .slice io cd.c.length ic], .int .i64 i, .slice ao l.length c] w (AGot (aft cd.vs cd.c.length i (cd.c.getD i I0) l) w) := by
 obtain ⟨ib, off, rfl, hb, k0, k1, k2⟩ := h.ins i hi
 have HV := Lib.hid h.vars
 obtain ⟨t, vs, cs⟩ := cd
 simp only at hi k0 k1 k2 hcl HV ⊢
 obtain ⟨x, hx⟩ : ∃ x, cs.getD i I0 = x := ⟨_, rfl⟩
 rw [hx] at k0 k1 k2 ⊢
 obtain ⟨o, a, z⟩ := x
 simp only at k0 k1 k2
 obtain ⟨vn, hvn⟩ : ∃ n, vs.length = n := ⟨_, rfl⟩
 obtain ⟨cn, hcn⟩ : ∃ n, cs.length = n := ⟨_, rfl⟩
 obtain ⟨n, hn⟩ : ∃ n, l.length = n := ⟨_, rfl⟩
 have HVN := Lib.hid hvn
 have HN := Lib.hid hn
 rw [hvn, hcn, hn]
 rw [hcn] at hi hcl
 have hNL := hL.nil
 rw [hn] at hl hNL
 have HNL := Lib.hid hNL
 have hiz : (i : Int) < (cn : Int) := by omega
 have HB3 := Lib.hid (show Below w.heap.size w (((w.alloc (.cells #[.int .i64 t, .slice vo vn vc, .slice (some ⟨ib, off, none⟩) cn ic] 30)).alloc (.cells #[.int .i64 o, .int .i64 a, .int .i64 z] 47)).alloc (.cells #[] 3)) from bal (bal (bal (bref w) _) _) _)
 have HO := Lib.hid (show OL (w.heap.size + 2) (.slice (some ⟨w.heap.size + 2, 0, none⟩) 0 0) [] (((w.alloc (.cells #[.int .i64 t, .slice vo vn vc, .slice (some ⟨ib, off, none⟩) cn ic] 30)).alloc (.cells #[.int .i64 o, .int .i64 a, .int .i64 z] 47)).alloc (.cells #[] 3)) from by
  have := OL.lit ((w.alloc (.cells #[.int .i64 t, .slice vo vn vc, .slice (some ⟨ib, off, none⟩) cn ic] 30)).alloc (.cells #[.int .i64 o, .int .i64 a, .int .i64 z] 47))
  simpa using this)
 have HT := Lib.hid (show IntsAt ao l (((w.alloc (.cells #[.int .i64 t, .slice vo vn vc, .slice (some ⟨ib, off, none⟩) cn ic] 30)).alloc (.cells #[.int .i64 o, .int .i64 a, .int .i64 z] 47)).alloc (.cells #[] 3)) from (hL.keep HB3.out).ints)
 have FX := Lib.hid (show ∀ v1 w1, OL (w.heap.size + 2) v1 ([] ++ l) w1 → Below (w.heap.size + 2) (((w.alloc (.cells #[.int .i64 t, .slice vo vn vc, .slice (some ⟨ib, off, none⟩) cn ic] 30)).alloc (.cells #[.int .i64 o, .int .i64 a, .int .i64 z] 47)).alloc (.cells #[] 3)) w1 → ∃ ao1 c1, v1 = .slice ao1 n c1 ∧ LI ao1 c1 ([] ++ l) w1 ∧ (∀ a, ao1 = some a → w.heap.size + 2 ≤ a.block) ∧ Below w.heap.size w w1 ∧
   w1.cell? ⟨w.heap.size + 1, 0, none⟩ = some (.int .i64 o) ∧ w1.cell? ⟨w.heap.size + 1, 1, none⟩ = some (.int .i64 a) ∧ w1.cell? ⟨w.heap.size + 1, 2, none⟩ = some (.int .i64 z) ∧ w1.cell? ⟨w.heap.size, 1, none⟩ = some (.slice vo vn vc) ∧ w1.cell? ⟨w.heap.size, 2, none⟩ = some (.slice (some ⟨ib, off, none⟩) cn ic) ∧ w.heap.size + 2 < w1.heap.size from by
  intro v1 w1 o1 b1
  obtain ⟨ao1, c1, rfl, hl1, hb1⟩ := o1.shape
  refine ⟨ao1, c1, by rw [List.nil_append, HN.out], hl1, hb1, HB3.out.trans (b1.mono (by omega)), ?_, ?_, ?_, ?_, ?_, by have := b1.size; simp at this; omega⟩
  ·refine (b1.cell (p := ⟨w.heap.size + 1, 0, none⟩) (by simp)).trans ?_; simp [go_sem]
  ·refine (b1.cell (p := ⟨w.heap.size + 1, 1, none⟩) (by simp)).trans ?_; simp [go_sem]
  ·refine (b1.cell (p := ⟨w.heap.size + 1, 2, none⟩) (by simp)).trans ?_; simp [go_sem]
  ·refine (b1.cell (p := ⟨w.heap.size, 1, none⟩) (by simp)).trans ?_; simp [go_sem]
  ·refine (b1.cell (p := ⟨w.heap.size, 2, none⟩) (by simp)).trans ?_; simp [go_sem])
 clear h hx hcn hL hNL hn hvn
 by_cases h1 : o = 1
 ·subst h1
  obtain ⟨PB, hPB⟩ : ∃ PB, pushB a z = PB := ⟨_, rfl⟩
  have hA : aft vs cn i (1, a, z) l = if PB then some (l ++ [a]) else none := by unfold aft; rw [if_pos rfl, hPB]
  have PU := Lib.hid (fun W => rpush 1 a z W)
  rw [hPB] at PU
  obtain ⟨R, hR⟩ : ∃ R, aft vs cn i (1, a, z) l = R := ⟨_, rfl⟩
  rw [hR] at hA ⊢
  have HA := Lib.hid hA
  clear hA hPB hR
  go_enter Tryz.func62, Tryz.ntmps62
  go_wp2_with (at_builtin; refine wpList_app_ints rfl (.tmp 19) (.tmp 20) rfl rfl (w.heap.size + 2) _ [] rfl HO.out ao n c l rfl HN.out HT.out HNL.out (by have := HN.out; simp; omega) (by simp) ?_; intro v1 w1 o1 b1; obtain ⟨ao1, c1, rfl, hl1, hb1, HBw, x0, x1, x2, m1, m2, hsz⟩ := FX.out v1 w1 o1 b1; have HO1 := Lib.hid o1; have HL1 := Lib.hid hl1; have HX1 := Lib.hid hb1; have HB1 := Lib.hid HBw; rw [List.nil_append] at HO1 HL1; clear o1 b1 hl1 hb1 HBw; refine Hid.out ?_)
  refine Lib.hid ?_
  go_wp2_with fail
  refine wp_region_held_drew (S := (fun W => W.cell? ⟨w.heap.size + 1, 0, none⟩ = some (.int .i64 1) ∧ W.cell? ⟨w.heap.size + 1, 1, none⟩ = some (.int .i64 a) ∧ W.cell? ⟨w.heap.size + 1, 2, none⟩ = some (.int .i64 z))) (by kernel_rfl) ⟨keepc (bdr (bref _)) x0, keepc (bdr (bref _)) x1, keepc (bdr (bref _)) x2⟩ (fun hH0 => ?_)
  refine wpAnyH_take (i := 0) (oi := _) (v := ?_) rfl (by kernel_rfl) (by kernel_rfl) (by kernel_rfl) (fun _ _ _ h => h) (Or.inl ⟨?_, ?_⟩) hH0 ?_
  rotate_left
  ·kernel_rfl
  ·(intro W' _; go_simp; (try with_reducible rfl))
  (try simp only [List.getElem_toArray, List.getElem_cons_zero, Act.put, List.setIfInBounds_toArray, List.set_cons_succ, List.set_cons_zero])
  refine wpAnyH_take (i := 1) (oi := _) (v := ?_) rfl (by kernel_rfl) (by kernel_rfl) (by kernel_rfl) (fun _ _ _ h => h) (Or.inl ⟨?_, ?_⟩) hH0 ?_
  rotate_left
  ·kernel_rfl
  ·(intro W' _; go_simp; (try with_reducible rfl))
  (try simp only [List.getElem_toArray, List.getElem_cons_succ, List.getElem_cons_zero, Act.put, List.setIfInBounds_toArray, List.set_cons_succ, List.set_cons_zero])
  refine wpAnyH_take (i := 2) (oi := _) (v := ?_) rfl (by kernel_rfl) (by kernel_rfl) (by kernel_rfl) (fun _ _ _ h => h) (Or.inl ⟨?_, ?_⟩) hH0 ?_
  rotate_left
  ·kernel_rfl
  ·(intro W' hSw; obtain ⟨f0, f1, f2⟩ := hSw; go_simp; (try with_reducible rfl))
  (try simp only [List.getElem_toArray, List.getElem_cons_succ, List.getElem_cons_zero, Act.put, List.setIfInBounds_toArray, List.set_cons_succ, List.set_cons_zero])
  refine wpAnyH_take (i := 5) (oi := _) (v := ?_) rfl (by kernel_rfl) (by kernel_rfl) (by kernel_rfl) (fun _ _ _ h => h) (Or.inl ⟨?_, ?_⟩) hH0 ?_
  rotate_left
  ·kernel_rfl
  ·(intro W' hSw; obtain ⟨f0, f1, f2⟩ := hSw; go_simp; (try with_reducible rfl))
  (try simp only [List.getElem_toArray, List.getElem_cons_succ, List.getElem_cons_zero, Act.put, List.setIfInBounds_toArray, List.set_cons_succ, List.set_cons_zero])
  refine wpAnyH_ready (rs := [3]) (by kernel_rfl) (by simp) ?_
  refine AllReadyH.cons (o := _) rfl (fun K hK => ?_) AllReadyH.nil
  go_simp
  refine hK.out _ _ ⟨keepc (bal (bref _) _) hH0.1, keepc (bal (bref _) _) hH0.2.1, keepc (bal (bref _) _) hH0.2.2⟩ (fun hH1 => ?_)
  clear hK K
  (try simp only [List.getElem_toArray, List.getElem_cons_succ, List.getElem_cons_zero, Act.put, List.setIfInBounds_toArray, List.set_cons_succ, List.set_cons_zero])
  obtain ⟨v2, w2, hr, o2, b2⟩ := app_ints_run (w.heap.size + 2) _ l (HO1.out.keep (show Below w1.heap.size w1 ((w1.alloc (.cells #[.int .i64 a] 3)).drew) from bdr (bal (bref _) _))) (some ⟨w1.heap.size, 0, none⟩) 1 1 [a] rfl ((one_int w1 a _).keep (bdr (bref _))) (fun e => by cases e) (by simp; rw [HN.out]; omega) (by simp; omega)
  have HRUN := Lib.hid hr
  have hb12 : Below w.heap.size w w2 := HB1.out.trans (((bdr (bal (bref w1) _)).mono (by omega)).trans (b2.mono (by omega)))
  obtain ⟨ao2, c2, rfl, hl2, hx2⟩ := o2.shape
  refine wpAnyH_ready (rs := [4]) (by kernel_rfl) (by simp) ?_
  refine AllReadyH.cons (o := _) rfl (fun K hK => ?_) AllReadyH.nil
  rw [if_pos (by kernel_rfl)]
  unfold Oper.wp execOp
  simp only [List.getElem_toArray, List.getElem_cons_succ, List.getElem_cons_zero, resolve, invoke, builtin, Sem.run_bind, Sem.run_pure, Result.andThen_ok, List.map_toArray, List.map_cons, List.map_nil, Act.eval, Array.getD_eq_getD_getElem?, List.getElem?_toArray, List.getElem?_cons_succ, List.getElem?_cons_zero, Option.getD_some]
  rw [HRUN.out]
  refine hK.out _ _ ⟨(b2.cell (p := ⟨w.heap.size + 1, 0, none⟩) (by simp)).trans hH1.1, (b2.cell (p := ⟨w.heap.size + 1, 1, none⟩) (by simp)).trans hH1.2.1, (b2.cell (p := ⟨w.heap.size + 1, 2, none⟩) (by simp)).trans hH1.2.2⟩ (fun hH2 => ?_)
  clear hK K
  (try simp only [Act.put, List.setIfInBounds_toArray, List.set_cons_succ, List.set_cons_zero])
  refine wpAnyH_ready (rs := [6]) (by kernel_rfl) (by simp) ?_
  refine AllReadyH.cons (o := _) rfl (fun K hK => ?_) AllReadyH.nil
  go_simp
  refine (PU.out _).mono ?_
  rintro r w3 ⟨rfl, hb3⟩
  refine hK.out _ _ ⟨keepc hb3 hH2.1, keepc hb3 hH2.2.1, keepc hb3 hH2.2.2⟩ (fun hH3 => ?_)
  clear hK K
  (try simp only [List.getElem_toArray, List.getElem_cons_succ, List.getElem_cons_zero, Act.put, List.setIfInBounds_toArray, List.set_cons_succ, List.set_cons_zero])
  refine wpAnyH_take (i := 7) (oi := _) (v := ?_) rfl (by kernel_rfl) (by kernel_rfl) (by kernel_rfl) (fun _ _ _ h => h) (Or.inl ⟨?_, ?_⟩) hH3 ?_
  rotate_left
  ·kernel_rfl
  ·(intro W' _; go_simp; (try with_reducible rfl))
  (try simp only [List.getElem_toArray, List.getElem_cons_succ, List.getElem_cons_zero, Act.put, List.setIfInBounds_toArray, List.set_cons_succ, List.set_cons_zero])
  refine wpAnyH_take (i := 8) (oi := _) (v := ?_) rfl (by kernel_rfl) (by kernel_rfl) (by kernel_rfl) (fun _ _ _ h => h) (Or.inl ⟨?_, ?_⟩) hH3 ?_
  rotate_left
  ·kernel_rfl
  ·(intro W' _; go_simp; (try with_reducible rfl))
  (try simp only [List.getElem_toArray, List.getElem_cons_succ, List.getElem_cons_zero, Act.put, List.setIfInBounds_toArray, List.set_cons_succ, List.set_cons_zero])
  refine wpAnyH_done (by kernel_rfl) ?_ _
  go_wp2_with fail
  go_ret2
  rw [HA.out]
  have HBB := btr hb12 hb3
  have HLL := hl2.keep hb3
  cases PB with
  | true => exact ⟨_, rfl, (fun m hm => by cases hm; exact ⟨ao2, c2, by first | rfl | simp, HLL, fun q hq => by have := hx2 q hq; omega⟩), HBB⟩
  | false => exact ⟨_, rfl, (fun m hm => by cases hm), HBB⟩
 have e1 : (o == 1) = false := beq_no h1
 by_cases hz : z = 0
 rotate_left
 ·have ez : (z != 0) = true := bne_yes hz
  have hA : aft vs cn i (o, a, z) l = none := by unfold aft; rw [if_neg h1, if_pos hz]
  rw [hA]
  clear hA hz h1
  go_enter Tryz.func62, Tryz.ntmps62
  go_wp2_with (at_builtin; refine wpList_app_ints rfl (.tmp 19) (.tmp 20) rfl rfl (w.heap.size + 2) _ [] rfl HO.out ao n c l rfl HN.out HT.out HNL.out (by have := HN.out; simp; omega) (by simp) ?_; intro v1 w1 o1 b1; obtain ⟨ao1, c1, rfl, hl1, hb1, HBw, x0, x1, x2, m1, m2, hsz⟩ := FX.out v1 w1 o1 b1; have HO1 := Lib.hid o1; have HL1 := Lib.hid hl1; have HX1 := Lib.hid hb1; have HB1 := Lib.hid HBw; rw [List.nil_append] at HO1 HL1; clear o1 b1 hl1 hb1 HBw; refine Hid.out ?_)
  refine Lib.hid ?_
  go_wp2_with fail
  go_ret2
  exact ⟨_, rfl, (fun m hm => by cases hm), HB1.out⟩
 subst hz
 by_cases h2 : o = 2
 ·subst h2
  by_cases ha : a < 0
  ·have hA : aft vs cn i (2, a, 0) l = none := by unfold aft; rw [if_neg (by show ¬ (2 : Int) = 1; decide), if_neg (by show ¬ (0 : Int) ≠ 0; decide), if_pos rfl, if_neg (by show ¬ (0 ≤ a ∧ a < (vs.length : Int)); omega)]
   rw [hA]
   clear hA
   go_enter Tryz.func62, Tryz.ntmps62
   go_wp2_with (at_builtin; refine wpList_app_ints rfl (.tmp 19) (.tmp 20) rfl rfl (w.heap.size + 2) _ [] rfl HO.out ao n c l rfl HN.out HT.out HNL.out (by have := HN.out; simp; omega) (by simp) ?_; intro v1 w1 o1 b1; obtain ⟨ao1, c1, rfl, hl1, hb1, HBw, x0, x1, x2, m1, m2, hsz⟩ := FX.out v1 w1 o1 b1; have HO1 := Lib.hid o1; have HL1 := Lib.hid hl1; have HX1 := Lib.hid hb1; have HB1 := Lib.hid HBw; rw [List.nil_append] at HO1 HL1; clear o1 b1 hl1 hb1 HBw; refine Hid.out ?_)
   refine Lib.hid ?_
   go_wp2_with fail
   go_ret2
   exact ⟨_, rfl, (fun m hm => by cases hm), HB1.out⟩
  by_cases hb2 : (vn : Int) ≤ a
  ·have hA : aft vs cn i (2, a, 0) l = none := by unfold aft; rw [if_neg (by show ¬ (2 : Int) = 1; decide), if_neg (by show ¬ (0 : Int) ≠ 0; decide), if_pos rfl, if_neg (by show ¬ (0 ≤ a ∧ a < (vs.length : Int)); rw [HVN.out]; omega)]
   rw [hA]
   clear hA
   go_enter Tryz.func62, Tryz.ntmps62
   go_wp2_with (at_builtin; refine wpList_app_ints rfl (.tmp 19) (.tmp 20) rfl rfl (w.heap.size + 2) _ [] rfl HO.out ao n c l rfl HN.out HT.out HNL.out (by have := HN.out; simp; omega) (by simp) ?_; intro v1 w1 o1 b1; obtain ⟨ao1, c1, rfl, hl1, hb1, HBw, x0, x1, x2, m1, m2, hsz⟩ := FX.out v1 w1 o1 b1; have HO1 := Lib.hid o1; have HL1 := Lib.hid hl1; have HX1 := Lib.hid hb1; have HB1 := Lib.hid HBw; rw [List.nil_append] at HO1 HL1; clear o1 b1 hl1 hb1 HBw; refine Hid.out ?_)
   refine Lib.hid ?_
   go_wp2_with fail
   go_ret2
   exact ⟨_, rfl, (fun m hm => by cases hm), HB1.out⟩
  obtain ⟨k, rfl⟩ : ∃ k : Nat, a = k := ⟨a.toNat, by omega⟩
  have hkv : k < vn := by omega
  obtain ⟨vb, voff, rfl, hvb, d0, d1⟩ := HV.out k (by rw [HVN.out]; exact hkv)
  have hA : aft vs cn i (2, (k : Int), 0) l = some (l ++ [(vs.getD k V0).2]) := by unfold aft; rw [if_neg (by show ¬ (2 : Int) = 1; decide), if_neg (by show ¬ (0 : Int) ≠ 0; decide), if_pos rfl, if_pos (by show (0 : Int) ≤ (k : Int) ∧ (k : Int) < (vs.length : Int); rw [HVN.out]; omega)]; rfl
  rw [hA]
  obtain ⟨y, hy⟩ : ∃ y, (vs.getD k V0).2 = y := ⟨_, rfl⟩
  rw [hy] at d1 ⊢
  have hkz : (k : Int) < (vn : Int) := by omega
  clear hA hy d0 hb2 ha HV
  go_enter Tryz.func62, Tryz.ntmps62
  go_wp2_with (at_builtin; refine wpList_app_ints rfl (.tmp 19) (.tmp 20) rfl rfl (w.heap.size + 2) _ [] rfl HO.out ao n c l rfl HN.out HT.out HNL.out (by have := HN.out; simp; omega) (by simp) ?_; intro v1 w1 o1 b1; obtain ⟨ao1, c1, rfl, hl1, hb1, HBw, x0, x1, x2, m1, m2, hsz⟩ := FX.out v1 w1 o1 b1; have HO1 := Lib.hid o1; have HL1 := Lib.hid hl1; have HX1 := Lib.hid hb1; have HB1 := Lib.hid HBw; rw [List.nil_append] at HO1 HL1; clear o1 b1 hl1 hb1 HBw; refine Hid.out ?_)
  have d2 := keepc HB1.out d1
  have HY := Lib.hid (show OL (w.heap.size + 2) (.slice ao1 n c1) l (w1.alloc (.cells #[.int .i64 y] 3)) from HO1.out.keep (bal (bref _) _))
  refine Lib.hid ?_
  go_wp2_with (at_builtin; refine wpList_app_ints rfl (.tmp 52) (.tmp 60) rfl rfl (w.heap.size + 2) _ l rfl HY.out (some ⟨w1.heap.size, 0, none⟩) 1 1 [y] rfl rfl (one_int w1 y _) (fun e => by cases e) (by simp; rw [HN.out]; omega) (by simp; omega) ?_; intro v2 w2 o2 b2; obtain ⟨ao2, c2, rfl, hl2, hx2⟩ := o2.shape; have HL2 := Lib.hid hl2; have HX2 := Lib.hid hx2; have HBB := Lib.hid (HB1.out.trans (((bal (bref w1) (.cells #[.int .i64 y] 3)).mono (by omega)).trans (b2.mono (by omega)))); clear o2 b2 hl2 hx2)
  go_ret2
  exact ⟨_, rfl, (fun m hm => by cases hm; exact ⟨ao2, c2, by first | rfl | simp, HL2.out, fun q hq => by have := HX2.out q hq; omega⟩), HBB.out⟩
 have e2 : (o == 2) = false := beq_no h2
 by_cases h3 : o = 3
 ·subst h3
  by_cases ha : a < 5
  ·have hA : aft vs cn i (3, a, 0) l = none := by unfold aft; rw [if_neg (by show ¬ (3 : Int) = 1; decide), if_neg (by show ¬ (0 : Int) ≠ 0; decide), if_neg (by show ¬ (3 : Int) = 2; decide), if_pos rfl, if_pos (by show a < 5 ∨ 18 < a; omega)]
   rw [hA]
   clear hA
   go_enter Tryz.func62, Tryz.ntmps62
   go_wp2_with (at_builtin; refine wpList_app_ints rfl (.tmp 19) (.tmp 20) rfl rfl (w.heap.size + 2) _ [] rfl HO.out ao n c l rfl HN.out HT.out HNL.out (by have := HN.out; simp; omega) (by simp) ?_; intro v1 w1 o1 b1; obtain ⟨ao1, c1, rfl, hl1, hb1, HBw, x0, x1, x2, m1, m2, hsz⟩ := FX.out v1 w1 o1 b1; have HO1 := Lib.hid o1; have HL1 := Lib.hid hl1; have HX1 := Lib.hid hb1; have HB1 := Lib.hid HBw; rw [List.nil_append] at HO1 HL1; clear o1 b1 hl1 hb1 HBw; refine Hid.out ?_)
   refine Lib.hid ?_
   go_wp2_with fail
   go_ret2
   exact ⟨_, rfl, (fun m hm => by cases hm), HB1.out⟩
  by_cases hb2 : 18 < a
  ·have hA : aft vs cn i (3, a, 0) l = none := by unfold aft; rw [if_neg (by show ¬ (3 : Int) = 1; decide), if_neg (by show ¬ (0 : Int) ≠ 0; decide), if_neg (by show ¬ (3 : Int) = 2; decide), if_pos rfl, if_pos (by show a < 5 ∨ 18 < a; omega)]
   rw [hA]
   clear hA
   go_enter Tryz.func62, Tryz.ntmps62
   go_wp2_with (at_builtin; refine wpList_app_ints rfl (.tmp 19) (.tmp 20) rfl rfl (w.heap.size + 2) _ [] rfl HO.out ao n c l rfl HN.out HT.out HNL.out (by have := HN.out; simp; omega) (by simp) ?_; intro v1 w1 o1 b1; obtain ⟨ao1, c1, rfl, hl1, hb1, HBw, x0, x1, x2, m1, m2, hsz⟩ := FX.out v1 w1 o1 b1; have HO1 := Lib.hid o1; have HL1 := Lib.hid hl1; have HX1 := Lib.hid hb1; have HB1 := Lib.hid HBw; rw [List.nil_append] at HO1 HL1; clear o1 b1 hl1 hb1 HBw; refine Hid.out ?_)
   refine Lib.hid ?_
   go_wp2_with fail
   go_ret2
   exact ⟨_, rfl, (fun m hm => by cases hm), HB1.out⟩
  by_cases a9 : a = 9
  ·subst a9
   by_cases hq : n < 1
   ·have hA : aft vs cn i (3, (9 : Int), 0) l = none := by unfold aft; rw [if_neg (by show ¬ (3 : Int) = 1; decide), if_neg (by show ¬ (0 : Int) ≠ 0; decide), if_neg (by show ¬ (3 : Int) = 2; decide), if_pos rfl, if_neg (by show ¬ ((9 : Int) < 5 ∨ 18 < (9 : Int)); omega), if_pos (by show l.length < (if (9 : Int) = 9 ∨ (9 : Int) = 16 then 1 else 2); rw [HN.out]; rw [if_pos (show (9 : Int) = 9 ∨ (9 : Int) = 16 from Or.inl rfl)]; exact hq)]
    rw [hA]
    have hqz : (n : Int) < 1 := by omega
    clear hA hq
    go_enter Tryz.func62, Tryz.ntmps62
    go_wp2_with (at_builtin; refine wpList_app_ints rfl (.tmp 19) (.tmp 20) rfl rfl (w.heap.size + 2) _ [] rfl HO.out ao n c l rfl HN.out HT.out HNL.out (by have := HN.out; simp; omega) (by simp) ?_; intro v1 w1 o1 b1; obtain ⟨ao1, c1, rfl, hl1, hb1, HBw, x0, x1, x2, m1, m2, hsz⟩ := FX.out v1 w1 o1 b1; have HO1 := Lib.hid o1; have HL1 := Lib.hid hl1; have HX1 := Lib.hid hb1; have HB1 := Lib.hid HBw; rw [List.nil_append] at HO1 HL1; clear o1 b1 hl1 hb1 HBw; refine Hid.out ?_)
    refine Lib.hid ?_
    go_wp2_with fail
    go_ret2
    exact ⟨_, rfl, (fun m hm => by cases hm), HB1.out⟩
   obtain ⟨k, hk⟩ : ∃ k, n = k + 1 := ⟨n - 1, by omega⟩
   have hkl : k ≤ l.length := by rw [HN.out]; omega
   have hA : aft vs cn i (3, (9 : Int), 0) l = (resO (9 : Int) (l.drop k)).map fun t => l.take k ++ [t] := by
    unfold aft
    rw [if_neg (by show ¬ (3 : Int) = 1; decide), if_neg (by show ¬ (0 : Int) ≠ 0; decide), if_neg (by show ¬ (3 : Int) = 2; decide), if_pos rfl, if_neg (by show ¬ ((9 : Int) < 5 ∨ 18 < (9 : Int)); omega), if_neg (by show ¬ l.length < (if (9 : Int) = 9 ∨ (9 : Int) = 16 then 1 else 2); rw [HN.out]; rw [if_pos (show (9 : Int) = 9 ∨ (9 : Int) = 16 from Or.inl rfl)]; exact hq)]
    show (resO (9 : Int) (l.drop (l.length - (if (9 : Int) = 9 ∨ (9 : Int) = 16 then 1 else 2)))).map (fun t => l.take (l.length - (if (9 : Int) = 9 ∨ (9 : Int) = 16 then 1 else 2)) ++ [t]) = _
    rw [HN.out]
    rw [if_pos (show (9 : Int) = 9 ∨ (9 : Int) = 16 from Or.inl rfl)]
    rw [show n - 1 = k by omega]
   have hdl : (l.drop k).length = n - k := by rw [List.length_drop, HN.out]
   rw [hA]
   obtain ⟨Q, hQ⟩ : ∃ Q, resO (9 : Int) (l.drop k) = Q := ⟨_, rfl⟩
   have HQ := Lib.hid hQ
   have HD := Lib.hid hdl
   have HKL := Lib.hid hkl
   rw [hQ]
   have hw : wrap64 ((n : Int) - 1) = (k : Int) := by unfold wrap64; omega
   have hw2 : IntKind.i64.wrap ((n : Int) - 1) = (k : Int) := by rw [IntKind.wrap_i64]; omega
   have hkn : (k : Int) ≤ (n : Int) := by omega
   have hnq : ¬ ((n : Int) < 1) := by omega
   have g0 : ¬ ((k : Int) < 0) := by omega
   have HNK := Lib.hid hk
   clear hA hQ hdl hkl hq hk
   go_enter Tryz.func62, Tryz.ntmps62
   go_wp2_with (at_builtin; refine wpList_app_ints rfl (.tmp 19) (.tmp 20) rfl rfl (w.heap.size + 2) _ [] rfl HO.out ao n c l rfl HN.out HT.out HNL.out (by have := HN.out; simp; omega) (by simp) ?_; intro v1 w1 o1 b1; obtain ⟨ao1, c1, rfl, hl1, hb1, HBw, x0, x1, x2, m1, m2, hsz⟩ := FX.out v1 w1 o1 b1; have HO1 := Lib.hid o1; have HL1 := Lib.hid hl1; have HX1 := Lib.hid hb1; have HB1 := Lib.hid HBw; rw [List.nil_append] at HO1 HL1; clear o1 b1 hl1 hb1 HBw; refine Hid.out ?_)
   obtain ⟨g1, cc, eg, hcap⟩ := HO1.out.pos (by rw [HN.out]; omega)
   rw [HN.out] at eg hcap
   cases eg
   have hk := HNK.out
   have hnc : (n : Int) ≤ (c1 : Int) := by omega
   have hkc : (k : Int) ≤ (c1 : Int) := by omega
   have g1' : ¬ (c1 = k) := by omega
   have g2 : ¬ (k = c1) := by omega
   have g3 : ¬ (c1 - k = 0) := by omega
   have g4 : ¬ ((k : Int) = (c1 : Int)) := by omega
   have g5 : ¬ ((c1 : Int) = (k : Int)) := by omega
   have hd1 := HL1.out.drop k HKL.out
   rw [Nat.zero_add] at hd1
   have RR := Lib.hid (fun W (hW : Below w1.heap.size w1 W) => rResult (9 : Int) (l.drop k) (some ⟨g1, k, none⟩) (c1 - k) W (hd1.keep hW))
   rw [HD.out, HQ.out] at RR
   clear hk hd1
   refine Lib.hid ?_
   go_wp2_with fail
   refine wp_region_held_drew (S := (fun W => Below w1.heap.size w1 W)) (by kernel_rfl) (bdr (bref _)) (fun hH0 => ?_)
   refine wpAnyH_take (i := 0) (oi := _) (v := ?_) rfl (by kernel_rfl) (by kernel_rfl) (by kernel_rfl) (fun _ _ _ h => h) (Or.inl ⟨?_, ?_⟩) hH0 ?_
   rotate_left
   ·kernel_rfl
   ·(intro W' _; go_simp; (try with_reducible rfl))
   (try simp only [List.getElem_toArray, List.getElem_cons_zero, Act.put, List.setIfInBounds_toArray, List.set_cons_succ, List.set_cons_zero])
   refine wpAnyH_take (i := 1) (oi := _) (v := ?_) rfl (by kernel_rfl) (by kernel_rfl) (by kernel_rfl) (fun _ _ _ h => h) (Or.inl ⟨?_, ?_⟩) hH0 ?_
   rotate_left
   ·kernel_rfl
   ·(intro W' hSw; have f1 := keepc hSw x1; go_simp; (try with_reducible rfl))
   (try simp only [List.getElem_toArray, List.getElem_cons_succ, List.getElem_cons_zero, Act.put, List.setIfInBounds_toArray, List.set_cons_succ, List.set_cons_zero])
   refine wpAnyH_take (i := 2) (oi := _) (v := ?_) rfl (by kernel_rfl) (by kernel_rfl) (by kernel_rfl) (fun _ _ _ h => h) (Or.inl ⟨?_, ?_⟩) hH0 ?_
   rotate_left
   ·kernel_rfl
   ·(intro W' _; go_simp; (try with_reducible rfl))
   (try simp only [List.getElem_toArray, List.getElem_cons_succ, List.getElem_cons_zero, Act.put, List.setIfInBounds_toArray, List.set_cons_succ, List.set_cons_zero])
   refine wpAnyH_take (i := 3) (oi := _) (v := ?_) rfl (by kernel_rfl) (by kernel_rfl) (by kernel_rfl) (fun _ _ _ h => h) (Or.inl ⟨?_, ?_⟩) hH0 ?_
   rotate_left
   ·kernel_rfl
   ·(intro W' _; go_simp; (try with_reducible rfl))
   (try simp only [List.getElem_toArray, List.getElem_cons_succ, List.getElem_cons_zero, Act.put, List.setIfInBounds_toArray, List.set_cons_succ, List.set_cons_zero])
   refine wpAnyH_take (i := 4) (oi := _) (v := ?_) rfl (by kernel_rfl) (by kernel_rfl) (by kernel_rfl) (fun _ _ _ h => h) (Or.inl ⟨?_, ?_⟩) hH0 ?_
   rotate_left
   ·kernel_rfl
   ·(intro W' _; go_simp; (try with_reducible rfl))
   (try simp only [List.getElem_toArray, List.getElem_cons_succ, List.getElem_cons_zero, Act.put, List.setIfInBounds_toArray, List.set_cons_succ, List.set_cons_zero])
   refine wpAnyH_take (i := 5) (oi := _) (v := ?_) rfl (by kernel_rfl) (by kernel_rfl) (by kernel_rfl) (fun _ _ _ h => h) (Or.inl ⟨?_, ?_⟩) hH0 ?_
   rotate_left
   ·kernel_rfl
   ·(intro W' _; go_simp; (try simp only [hw2]); (try with_reducible rfl))
   (try simp only [List.getElem_toArray, List.getElem_cons_succ, List.getElem_cons_zero, Act.put, List.setIfInBounds_toArray, List.set_cons_succ, List.set_cons_zero])
   refine wpAnyH_take (i := 6) (oi := _) (v := ?_) rfl (by kernel_rfl) (by kernel_rfl) (by kernel_rfl) (fun _ _ _ h => h) (Or.inl ⟨?_, ?_⟩) hH0 ?_
   rotate_left
   ·kernel_rfl
   ·(intro W' _; go_simp; (try simp only [hw2]); (try go_simp); (try with_reducible rfl))
   (try simp only [List.getElem_toArray, List.getElem_cons_succ, List.getElem_cons_zero, Act.put, List.setIfInBounds_toArray, List.set_cons_succ, List.set_cons_zero])
   refine wpAnyH_ready (rs := [7]) (by kernel_rfl) (by simp) ?_
   refine AllReadyH.cons (o := _) rfl (fun K hK => ?_) AllReadyH.nil
   go_simp
   refine (RR.out _ hH0).mono ?_
   rintro r w2 ⟨rfl, hb2⟩
   refine hK.out _ _ (btr hH0 hb2) (fun hH1 => ?_)
   clear hK K
   (try simp only [List.getElem_toArray, List.getElem_cons_succ, List.getElem_cons_zero, Act.put, List.setIfInBounds_toArray, List.set_cons_succ, List.set_cons_zero])
   refine wpAnyH_take (i := 8) (oi := _) (v := ?_) rfl (by kernel_rfl) (by kernel_rfl) (by kernel_rfl) (fun _ _ _ h => h) (Or.inl ⟨?_, ?_⟩) hH1 ?_
   rotate_left
   ·kernel_rfl
   ·(intro W' _; go_simp; (try with_reducible rfl))
   (try simp only [List.getElem_toArray, List.getElem_cons_succ, List.getElem_cons_zero, Act.put, List.setIfInBounds_toArray, List.set_cons_succ, List.set_cons_zero])
   refine wpAnyH_take (i := 9) (oi := _) (v := ?_) rfl (by kernel_rfl) (by kernel_rfl) (by kernel_rfl) (fun _ _ _ h => h) (Or.inl ⟨?_, ?_⟩) hH1 ?_
   rotate_left
   ·kernel_rfl
   ·(intro W' _; go_simp; (try with_reducible rfl))
   (try simp only [List.getElem_toArray, List.getElem_cons_succ, List.getElem_cons_zero, Act.put, List.setIfInBounds_toArray, List.set_cons_succ, List.set_cons_zero])
   refine wpAnyH_take (i := 10) (oi := _) (v := ?_) rfl (by kernel_rfl) (by kernel_rfl) (by kernel_rfl) (fun _ _ _ h => h) (Or.inl ⟨?_, ?_⟩) hH1 ?_
   rotate_left
   ·kernel_rfl
   ·(intro W' _; go_simp; (try with_reducible rfl))
   (try simp only [List.getElem_toArray, List.getElem_cons_succ, List.getElem_cons_zero, Act.put, List.setIfInBounds_toArray, List.set_cons_succ, List.set_cons_zero])
   refine wpAnyH_take (i := 11) (oi := _) (v := ?_) rfl (by kernel_rfl) (by kernel_rfl) (by kernel_rfl) (fun _ _ _ h => h) (Or.inl ⟨?_, ?_⟩) hH1 ?_
   rotate_left
   ·kernel_rfl
   ·(intro W' _; go_simp; (try with_reducible rfl))
   (try simp only [List.getElem_toArray, List.getElem_cons_succ, List.getElem_cons_zero, Act.put, List.setIfInBounds_toArray, List.set_cons_succ, List.set_cons_zero])
   refine wpAnyH_take (i := 12) (oi := _) (v := ?_) rfl (by kernel_rfl) (by kernel_rfl) (by kernel_rfl) (fun _ _ _ h => h) (Or.inl ⟨?_, ?_⟩) hH1 ?_
   rotate_left
   ·kernel_rfl
   ·(intro W' _; go_simp; (try with_reducible rfl))
   (try simp only [List.getElem_toArray, List.getElem_cons_succ, List.getElem_cons_zero, Act.put, List.setIfInBounds_toArray, List.set_cons_succ, List.set_cons_zero])
   refine wpAnyH_done (by kernel_rfl) ?_ _
   have hbR := btr HB1.out (btr (bdr (bref w1)) hb2)
   have HB2 := Lib.hid (show Below w1.heap.size w1 w2 from btr (bdr (bref w1)) hb2)
   have HY := Lib.hid (show OL (w.heap.size + 2) (.slice (some ⟨g1, 0, none⟩) k c1) (l.take k) (w2.alloc (.cells #[.int .i64 (Q.getD 0)] 3)) from (HO1.out.keep (btr HB2.out (bal (bref w2) _))).cut k HKL.out)
   have hz2 : w.heap.size + 2 < w2.heap.size := Nat.lt_of_lt_of_le hsz HB2.out.size
   go_wp2_with (at_builtin; refine wpList_app_ints rfl (.tmp 98) (.tmp 100) rfl rfl (w.heap.size + 2) _ (l.take k) rfl HY.out (some ⟨w2.heap.size, 0, none⟩) 1 1 [Q.getD 0] rfl rfl (one_int w2 _ _) (fun e => by cases e) (by have := HKL.out; rw [HN.out] at this; rw [List.length_take]; simp; omega) (by simp; omega) ?_; intro v2 w3 o2 b2; obtain ⟨ao2, c2, rfl, hl2, hx2⟩ := o2.shape; have HL2 := Lib.hid hl2; have HX2 := Lib.hid hx2; have HBB := Lib.hid (hbR.trans (((bal (bref w2) (.cells #[.int .i64 (Q.getD 0)] 3)).mono (by omega)).trans (b2.mono (by omega)))); clear o2 b2 hl2 hx2)
   go_ret2
   cases Q with
   | none => exact ⟨_, rfl, (fun m hm => by cases hm), HBB.out⟩
   | some y => exact ⟨_, rfl, (fun m hm => by cases hm; exact ⟨ao2, c2, by first | rfl | simp, HL2.out, fun q hq => by have := HX2.out q hq; omega⟩), HBB.out⟩
  by_cases a16 : a = 16
  ·subst a16
   by_cases hq : n < 1
   ·have hA : aft vs cn i (3, (16 : Int), 0) l = none := by unfold aft; rw [if_neg (by show ¬ (3 : Int) = 1; decide), if_neg (by show ¬ (0 : Int) ≠ 0; decide), if_neg (by show ¬ (3 : Int) = 2; decide), if_pos rfl, if_neg (by show ¬ ((16 : Int) < 5 ∨ 18 < (16 : Int)); omega), if_pos (by show l.length < (if (16 : Int) = 9 ∨ (16 : Int) = 16 then 1 else 2); rw [HN.out]; rw [if_pos (show (16 : Int) = 9 ∨ (16 : Int) = 16 from Or.inr rfl)]; exact hq)]
    rw [hA]
    have hqz : (n : Int) < 1 := by omega
    clear hA hq
    go_enter Tryz.func62, Tryz.ntmps62
    go_wp2_with (at_builtin; refine wpList_app_ints rfl (.tmp 19) (.tmp 20) rfl rfl (w.heap.size + 2) _ [] rfl HO.out ao n c l rfl HN.out HT.out HNL.out (by have := HN.out; simp; omega) (by simp) ?_; intro v1 w1 o1 b1; obtain ⟨ao1, c1, rfl, hl1, hb1, HBw, x0, x1, x2, m1, m2, hsz⟩ := FX.out v1 w1 o1 b1; have HO1 := Lib.hid o1; have HL1 := Lib.hid hl1; have HX1 := Lib.hid hb1; have HB1 := Lib.hid HBw; rw [List.nil_append] at HO1 HL1; clear o1 b1 hl1 hb1 HBw; refine Hid.out ?_)
    refine Lib.hid ?_
    go_wp2_with fail
    go_ret2
    exact ⟨_, rfl, (fun m hm => by cases hm), HB1.out⟩
   obtain ⟨k, hk⟩ : ∃ k, n = k + 1 := ⟨n - 1, by omega⟩
   have hkl : k ≤ l.length := by rw [HN.out]; omega
   have hA : aft vs cn i (3, (16 : Int), 0) l = (resO (16 : Int) (l.drop k)).map fun t => l.take k ++ [t] := by
    unfold aft
    rw [if_neg (by show ¬ (3 : Int) = 1; decide), if_neg (by show ¬ (0 : Int) ≠ 0; decide), if_neg (by show ¬ (3 : Int) = 2; decide), if_pos rfl, if_neg (by show ¬ ((16 : Int) < 5 ∨ 18 < (16 : Int)); omega), if_neg (by show ¬ l.length < (if (16 : Int) = 9 ∨ (16 : Int) = 16 then 1 else 2); rw [HN.out]; rw [if_pos (show (16 : Int) = 9 ∨ (16 : Int) = 16 from Or.inr rfl)]; exact hq)]
    show (resO (16 : Int) (l.drop (l.length - (if (16 : Int) = 9 ∨ (16 : Int) = 16 then 1 else 2)))).map (fun t => l.take (l.length - (if (16 : Int) = 9 ∨ (16 : Int) = 16 then 1 else 2)) ++ [t]) = _
    rw [HN.out]
    rw [if_pos (show (16 : Int) = 9 ∨ (16 : Int) = 16 from Or.inr rfl)]
    rw [show n - 1 = k by omega]
   have hdl : (l.drop k).length = n - k := by rw [List.length_drop, HN.out]
   rw [hA]
   obtain ⟨Q, hQ⟩ : ∃ Q, resO (16 : Int) (l.drop k) = Q := ⟨_, rfl⟩
   have HQ := Lib.hid hQ
   have HD := Lib.hid hdl
   have HKL := Lib.hid hkl
   rw [hQ]
   have hw : wrap64 ((n : Int) - 1) = (k : Int) := by unfold wrap64; omega
   have hw2 : IntKind.i64.wrap ((n : Int) - 1) = (k : Int) := by rw [IntKind.wrap_i64]; omega
   have hkn : (k : Int) ≤ (n : Int) := by omega
   have hnq : ¬ ((n : Int) < 1) := by omega
   have g0 : ¬ ((k : Int) < 0) := by omega
   have HNK := Lib.hid hk
   clear hA hQ hdl hkl hq hk
   go_enter Tryz.func62, Tryz.ntmps62
   go_wp2_with (at_builtin; refine wpList_app_ints rfl (.tmp 19) (.tmp 20) rfl rfl (w.heap.size + 2) _ [] rfl HO.out ao n c l rfl HN.out HT.out HNL.out (by have := HN.out; simp; omega) (by simp) ?_; intro v1 w1 o1 b1; obtain ⟨ao1, c1, rfl, hl1, hb1, HBw, x0, x1, x2, m1, m2, hsz⟩ := FX.out v1 w1 o1 b1; have HO1 := Lib.hid o1; have HL1 := Lib.hid hl1; have HX1 := Lib.hid hb1; have HB1 := Lib.hid HBw; rw [List.nil_append] at HO1 HL1; clear o1 b1 hl1 hb1 HBw; refine Hid.out ?_)
   obtain ⟨g1, cc, eg, hcap⟩ := HO1.out.pos (by rw [HN.out]; omega)
   rw [HN.out] at eg hcap
   cases eg
   have hk := HNK.out
   have hnc : (n : Int) ≤ (c1 : Int) := by omega
   have hkc : (k : Int) ≤ (c1 : Int) := by omega
   have g1' : ¬ (c1 = k) := by omega
   have g2 : ¬ (k = c1) := by omega
   have g3 : ¬ (c1 - k = 0) := by omega
   have g4 : ¬ ((k : Int) = (c1 : Int)) := by omega
   have g5 : ¬ ((c1 : Int) = (k : Int)) := by omega
   have hd1 := HL1.out.drop k HKL.out
   rw [Nat.zero_add] at hd1
   have RR := Lib.hid (fun W (hW : Below w1.heap.size w1 W) => rResult (16 : Int) (l.drop k) (some ⟨g1, k, none⟩) (c1 - k) W (hd1.keep hW))
   rw [HD.out, HQ.out] at RR
   clear hk hd1
   refine Lib.hid ?_
   go_wp2_with fail
   refine wp_region_held_drew (S := (fun W => Below w1.heap.size w1 W)) (by kernel_rfl) (bdr (bref _)) (fun hH0 => ?_)
   refine wpAnyH_take (i := 0) (oi := _) (v := ?_) rfl (by kernel_rfl) (by kernel_rfl) (by kernel_rfl) (fun _ _ _ h => h) (Or.inl ⟨?_, ?_⟩) hH0 ?_
   rotate_left
   ·kernel_rfl
   ·(intro W' _; go_simp; (try with_reducible rfl))
   (try simp only [List.getElem_toArray, List.getElem_cons_zero, Act.put, List.setIfInBounds_toArray, List.set_cons_succ, List.set_cons_zero])
   refine wpAnyH_take (i := 1) (oi := _) (v := ?_) rfl (by kernel_rfl) (by kernel_rfl) (by kernel_rfl) (fun _ _ _ h => h) (Or.inl ⟨?_, ?_⟩) hH0 ?_
   rotate_left
   ·kernel_rfl
   ·(intro W' hSw; have f1 := keepc hSw x1; go_simp; (try with_reducible rfl))
   (try simp only [List.getElem_toArray, List.getElem_cons_succ, List.getElem_cons_zero, Act.put, List.setIfInBounds_toArray, List.set_cons_succ, List.set_cons_zero])
   refine wpAnyH_take (i := 2) (oi := _) (v := ?_) rfl (by kernel_rfl) (by kernel_rfl) (by kernel_rfl) (fun _ _ _ h => h) (Or.inl ⟨?_, ?_⟩) hH0 ?_
   rotate_left
   ·kernel_rfl
   ·(intro W' _; go_simp; (try with_reducible rfl))
   (try simp only [List.getElem_toArray, List.getElem_cons_succ, List.getElem_cons_zero, Act.put, List.setIfInBounds_toArray, List.set_cons_succ, List.set_cons_zero])
   refine wpAnyH_take (i := 3) (oi := _) (v := ?_) rfl (by kernel_rfl) (by kernel_rfl) (by kernel_rfl) (fun _ _ _ h => h) (Or.inl ⟨?_, ?_⟩) hH0 ?_
   rotate_left
   ·kernel_rfl
   ·(intro W' _; go_simp; (try with_reducible rfl))
   (try simp only [List.getElem_toArray, List.getElem_cons_succ, List.getElem_cons_zero, Act.put, List.setIfInBounds_toArray, List.set_cons_succ, List.set_cons_zero])
   refine wpAnyH_take (i := 4) (oi := _) (v := ?_) rfl (by kernel_rfl) (by kernel_rfl) (by kernel_rfl) (fun _ _ _ h => h) (Or.inl ⟨?_, ?_⟩) hH0 ?_
   rotate_left
   ·kernel_rfl
   ·(intro W' _; go_simp; (try with_reducible rfl))
   (try simp only [List.getElem_toArray, List.getElem_cons_succ, List.getElem_cons_zero, Act.put, List.setIfInBounds_toArray, List.set_cons_succ, List.set_cons_zero])
   refine wpAnyH_take (i := 5) (oi := _) (v := ?_) rfl (by kernel_rfl) (by kernel_rfl) (by kernel_rfl) (fun _ _ _ h => h) (Or.inl ⟨?_, ?_⟩) hH0 ?_
   rotate_left
   ·kernel_rfl
   ·(intro W' _; go_simp; (try simp only [hw2]); (try with_reducible rfl))
   (try simp only [List.getElem_toArray, List.getElem_cons_succ, List.getElem_cons_zero, Act.put, List.setIfInBounds_toArray, List.set_cons_succ, List.set_cons_zero])
   refine wpAnyH_take (i := 6) (oi := _) (v := ?_) rfl (by kernel_rfl) (by kernel_rfl) (by kernel_rfl) (fun _ _ _ h => h) (Or.inl ⟨?_, ?_⟩) hH0 ?_
   rotate_left
   ·kernel_rfl
   ·(intro W' _; go_simp; (try simp only [hw2]); (try go_simp); (try with_reducible rfl))
   (try simp only [List.getElem_toArray, List.getElem_cons_succ, List.getElem_cons_zero, Act.put, List.setIfInBounds_toArray, List.set_cons_succ, List.set_cons_zero])
   refine wpAnyH_ready (rs := [7]) (by kernel_rfl) (by simp) ?_
   refine AllReadyH.cons (o := _) rfl (fun K hK => ?_) AllReadyH.nil
   go_simp
   refine (RR.out _ hH0).mono ?_
   rintro r w2 ⟨rfl, hb2⟩
   refine hK.out _ _ (btr hH0 hb2) (fun hH1 => ?_)
   clear hK K
   (try simp only [List.getElem_toArray, List.getElem_cons_succ, List.getElem_cons_zero, Act.put, List.setIfInBounds_toArray, List.set_cons_succ, List.set_cons_zero])
   refine wpAnyH_take (i := 8) (oi := _) (v := ?_) rfl (by kernel_rfl) (by kernel_rfl) (by kernel_rfl) (fun _ _ _ h => h) (Or.inl ⟨?_, ?_⟩) hH1 ?_
   rotate_left
   ·kernel_rfl
   ·(intro W' _; go_simp; (try with_reducible rfl))
   (try simp only [List.getElem_toArray, List.getElem_cons_succ, List.getElem_cons_zero, Act.put, List.setIfInBounds_toArray, List.set_cons_succ, List.set_cons_zero])
   refine wpAnyH_take (i := 9) (oi := _) (v := ?_) rfl (by kernel_rfl) (by kernel_rfl) (by kernel_rfl) (fun _ _ _ h => h) (Or.inl ⟨?_, ?_⟩) hH1 ?_
   rotate_left
   ·kernel_rfl
   ·(intro W' _; go_simp; (try with_reducible rfl))
   (try simp only [List.getElem_toArray, List.getElem_cons_succ, List.getElem_cons_zero, Act.put, List.setIfInBounds_toArray, List.set_cons_succ, List.set_cons_zero])
   refine wpAnyH_take (i := 10) (oi := _) (v := ?_) rfl (by kernel_rfl) (by kernel_rfl) (by kernel_rfl) (fun _ _ _ h => h) (Or.inl ⟨?_, ?_⟩) hH1 ?_
   rotate_left
   ·kernel_rfl
   ·(intro W' _; go_simp; (try with_reducible rfl))
   (try simp only [List.getElem_toArray, List.getElem_cons_succ, List.getElem_cons_zero, Act.put, List.setIfInBounds_toArray, List.set_cons_succ, List.set_cons_zero])
   refine wpAnyH_take (i := 11) (oi := _) (v := ?_) rfl (by kernel_rfl) (by kernel_rfl) (by kernel_rfl) (fun _ _ _ h => h) (Or.inl ⟨?_, ?_⟩) hH1 ?_
   rotate_left
   ·kernel_rfl
   ·(intro W' _; go_simp; (try with_reducible rfl))
   (try simp only [List.getElem_toArray, List.getElem_cons_succ, List.getElem_cons_zero, Act.put, List.setIfInBounds_toArray, List.set_cons_succ, List.set_cons_zero])
   refine wpAnyH_take (i := 12) (oi := _) (v := ?_) rfl (by kernel_rfl) (by kernel_rfl) (by kernel_rfl) (fun _ _ _ h => h) (Or.inl ⟨?_, ?_⟩) hH1 ?_
   rotate_left
   ·kernel_rfl
   ·(intro W' _; go_simp; (try with_reducible rfl))
   (try simp only [List.getElem_toArray, List.getElem_cons_succ, List.getElem_cons_zero, Act.put, List.setIfInBounds_toArray, List.set_cons_succ, List.set_cons_zero])
   refine wpAnyH_done (by kernel_rfl) ?_ _
   have hbR := btr HB1.out (btr (bdr (bref w1)) hb2)
   have HB2 := Lib.hid (show Below w1.heap.size w1 w2 from btr (bdr (bref w1)) hb2)
   have HY := Lib.hid (show OL (w.heap.size + 2) (.slice (some ⟨g1, 0, none⟩) k c1) (l.take k) (w2.alloc (.cells #[.int .i64 (Q.getD 0)] 3)) from (HO1.out.keep (btr HB2.out (bal (bref w2) _))).cut k HKL.out)
   have hz2 : w.heap.size + 2 < w2.heap.size := Nat.lt_of_lt_of_le hsz HB2.out.size
   go_wp2_with (at_builtin; refine wpList_app_ints rfl (.tmp 98) (.tmp 100) rfl rfl (w.heap.size + 2) _ (l.take k) rfl HY.out (some ⟨w2.heap.size, 0, none⟩) 1 1 [Q.getD 0] rfl rfl (one_int w2 _ _) (fun e => by cases e) (by have := HKL.out; rw [HN.out] at this; rw [List.length_take]; simp; omega) (by simp; omega) ?_; intro v2 w3 o2 b2; obtain ⟨ao2, c2, rfl, hl2, hx2⟩ := o2.shape; have HL2 := Lib.hid hl2; have HX2 := Lib.hid hx2; have HBB := Lib.hid (hbR.trans (((bal (bref w2) (.cells #[.int .i64 (Q.getD 0)] 3)).mono (by omega)).trans (b2.mono (by omega)))); clear o2 b2 hl2 hx2)
   go_ret2
   cases Q with
   | none => exact ⟨_, rfl, (fun m hm => by cases hm), HBB.out⟩
   | some y => exact ⟨_, rfl, (fun m hm => by cases hm; exact ⟨ao2, c2, by first | rfl | simp, HL2.out, fun q hq => by have := HX2.out q hq; omega⟩), HBB.out⟩
  have hno : ¬ (a = 9 ∨ a = 16) := by omega
  have b9 : (a == 9) = false := beq_no a9
  have b16 : (a == 16) = false := beq_no a16
  by_cases hq : n < 2
  ·have hA : aft vs cn i (3, a, 0) l = none := by unfold aft; rw [if_neg (by show ¬ (3 : Int) = 1; decide), if_neg (by show ¬ (0 : Int) ≠ 0; decide), if_neg (by show ¬ (3 : Int) = 2; decide), if_pos rfl, if_neg (by show ¬ (a < 5 ∨ 18 < a); omega), if_pos (by show l.length < (if a = 9 ∨ a = 16 then 1 else 2); rw [HN.out]; rw [if_neg hno]; exact hq)]
   rw [hA]
   have hqz : (n : Int) < 2 := by omega
   clear hA hq
   go_enter Tryz.func62, Tryz.ntmps62
   go_wp2_with (at_builtin; refine wpList_app_ints rfl (.tmp 19) (.tmp 20) rfl rfl (w.heap.size + 2) _ [] rfl HO.out ao n c l rfl HN.out HT.out HNL.out (by have := HN.out; simp; omega) (by simp) ?_; intro v1 w1 o1 b1; obtain ⟨ao1, c1, rfl, hl1, hb1, HBw, x0, x1, x2, m1, m2, hsz⟩ := FX.out v1 w1 o1 b1; have HO1 := Lib.hid o1; have HL1 := Lib.hid hl1; have HX1 := Lib.hid hb1; have HB1 := Lib.hid HBw; rw [List.nil_append] at HO1 HL1; clear o1 b1 hl1 hb1 HBw; refine Hid.out ?_)
   refine Lib.hid ?_
   go_wp2_with fail
   go_ret2
   exact ⟨_, rfl, (fun m hm => by cases hm), HB1.out⟩
  obtain ⟨k, hk⟩ : ∃ k, n = k + 2 := ⟨n - 2, by omega⟩
  have hkl : k ≤ l.length := by rw [HN.out]; omega
  have hA : aft vs cn i (3, a, 0) l = (resO a (l.drop k)).map fun t => l.take k ++ [t] := by
   unfold aft
   rw [if_neg (by show ¬ (3 : Int) = 1; decide), if_neg (by show ¬ (0 : Int) ≠ 0; decide), if_neg (by show ¬ (3 : Int) = 2; decide), if_pos rfl, if_neg (by show ¬ (a < 5 ∨ 18 < a); omega), if_neg (by show ¬ l.length < (if a = 9 ∨ a = 16 then 1 else 2); rw [HN.out]; rw [if_neg hno]; exact hq)]
   show (resO a (l.drop (l.length - (if a = 9 ∨ a = 16 then 1 else 2)))).map (fun t => l.take (l.length - (if a = 9 ∨ a = 16 then 1 else 2)) ++ [t]) = _
   rw [HN.out]
   rw [if_neg hno]
   rw [show n - 2 = k by omega]
  have hdl : (l.drop k).length = n - k := by rw [List.length_drop, HN.out]
  rw [hA]
  obtain ⟨Q, hQ⟩ : ∃ Q, resO a (l.drop k) = Q := ⟨_, rfl⟩
  have HQ := Lib.hid hQ
  have HD := Lib.hid hdl
  have HKL := Lib.hid hkl
  rw [hQ]
  have hw : wrap64 ((n : Int) - 2) = (k : Int) := by unfold wrap64; omega
  have hw2 : IntKind.i64.wrap ((n : Int) - 2) = (k : Int) := by rw [IntKind.wrap_i64]; omega
  have hkn : (k : Int) ≤ (n : Int) := by omega
  have hnq : ¬ ((n : Int) < 2) := by omega
  have g0 : ¬ ((k : Int) < 0) := by omega
  have HNK := Lib.hid hk
  clear hA hQ hdl hkl hq hk
  go_enter Tryz.func62, Tryz.ntmps62
  go_wp2_with (at_builtin; refine wpList_app_ints rfl (.tmp 19) (.tmp 20) rfl rfl (w.heap.size + 2) _ [] rfl HO.out ao n c l rfl HN.out HT.out HNL.out (by have := HN.out; simp; omega) (by simp) ?_; intro v1 w1 o1 b1; obtain ⟨ao1, c1, rfl, hl1, hb1, HBw, x0, x1, x2, m1, m2, hsz⟩ := FX.out v1 w1 o1 b1; have HO1 := Lib.hid o1; have HL1 := Lib.hid hl1; have HX1 := Lib.hid hb1; have HB1 := Lib.hid HBw; rw [List.nil_append] at HO1 HL1; clear o1 b1 hl1 hb1 HBw; refine Hid.out ?_)
  obtain ⟨g1, cc, eg, hcap⟩ := HO1.out.pos (by rw [HN.out]; omega)
  rw [HN.out] at eg hcap
  cases eg
  have hk := HNK.out
  have hnc : (n : Int) ≤ (c1 : Int) := by omega
  have hkc : (k : Int) ≤ (c1 : Int) := by omega
  have g1' : ¬ (c1 = k) := by omega
  have g2 : ¬ (k = c1) := by omega
  have g3 : ¬ (c1 - k = 0) := by omega
  have g4 : ¬ ((k : Int) = (c1 : Int)) := by omega
  have g5 : ¬ ((c1 : Int) = (k : Int)) := by omega
  have hd1 := HL1.out.drop k HKL.out
  rw [Nat.zero_add] at hd1
  have RR := Lib.hid (fun W (hW : Below w1.heap.size w1 W) => rResult a (l.drop k) (some ⟨g1, k, none⟩) (c1 - k) W (hd1.keep hW))
  rw [HD.out, HQ.out] at RR
  clear hk hd1
  refine Lib.hid ?_
  go_wp2_with fail
  refine wp_region_held_drew (S := (fun W => Below w1.heap.size w1 W)) (by kernel_rfl) (bdr (bref _)) (fun hH0 => ?_)
  refine wpAnyH_take (i := 0) (oi := _) (v := ?_) rfl (by kernel_rfl) (by kernel_rfl) (by kernel_rfl) (fun _ _ _ h => h) (Or.inl ⟨?_, ?_⟩) hH0 ?_
  rotate_left
  ·kernel_rfl
  ·(intro W' _; go_simp; (try with_reducible rfl))
  (try simp only [List.getElem_toArray, List.getElem_cons_zero, Act.put, List.setIfInBounds_toArray, List.set_cons_succ, List.set_cons_zero])
  refine wpAnyH_take (i := 1) (oi := _) (v := ?_) rfl (by kernel_rfl) (by kernel_rfl) (by kernel_rfl) (fun _ _ _ h => h) (Or.inl ⟨?_, ?_⟩) hH0 ?_
  rotate_left
  ·kernel_rfl
  ·(intro W' hSw; have f1 := keepc hSw x1; go_simp; (try with_reducible rfl))
  (try simp only [List.getElem_toArray, List.getElem_cons_succ, List.getElem_cons_zero, Act.put, List.setIfInBounds_toArray, List.set_cons_succ, List.set_cons_zero])
  refine wpAnyH_take (i := 2) (oi := _) (v := ?_) rfl (by kernel_rfl) (by kernel_rfl) (by kernel_rfl) (fun _ _ _ h => h) (Or.inl ⟨?_, ?_⟩) hH0 ?_
  rotate_left
  ·kernel_rfl
  ·(intro W' _; go_simp; (try with_reducible rfl))
  (try simp only [List.getElem_toArray, List.getElem_cons_succ, List.getElem_cons_zero, Act.put, List.setIfInBounds_toArray, List.set_cons_succ, List.set_cons_zero])
  refine wpAnyH_take (i := 3) (oi := _) (v := ?_) rfl (by kernel_rfl) (by kernel_rfl) (by kernel_rfl) (fun _ _ _ h => h) (Or.inl ⟨?_, ?_⟩) hH0 ?_
  rotate_left
  ·kernel_rfl
  ·(intro W' _; go_simp; (try with_reducible rfl))
  (try simp only [List.getElem_toArray, List.getElem_cons_succ, List.getElem_cons_zero, Act.put, List.setIfInBounds_toArray, List.set_cons_succ, List.set_cons_zero])
  refine wpAnyH_take (i := 4) (oi := _) (v := ?_) rfl (by kernel_rfl) (by kernel_rfl) (by kernel_rfl) (fun _ _ _ h => h) (Or.inl ⟨?_, ?_⟩) hH0 ?_
  rotate_left
  ·kernel_rfl
  ·(intro W' _; go_simp; (try with_reducible rfl))
  (try simp only [List.getElem_toArray, List.getElem_cons_succ, List.getElem_cons_zero, Act.put, List.setIfInBounds_toArray, List.set_cons_succ, List.set_cons_zero])
  refine wpAnyH_take (i := 5) (oi := _) (v := ?_) rfl (by kernel_rfl) (by kernel_rfl) (by kernel_rfl) (fun _ _ _ h => h) (Or.inl ⟨?_, ?_⟩) hH0 ?_
  rotate_left
  ·kernel_rfl
  ·(intro W' _; go_simp; (try simp only [hw2]); (try with_reducible rfl))
  (try simp only [List.getElem_toArray, List.getElem_cons_succ, List.getElem_cons_zero, Act.put, List.setIfInBounds_toArray, List.set_cons_succ, List.set_cons_zero])
  refine wpAnyH_take (i := 6) (oi := _) (v := ?_) rfl (by kernel_rfl) (by kernel_rfl) (by kernel_rfl) (fun _ _ _ h => h) (Or.inl ⟨?_, ?_⟩) hH0 ?_
  rotate_left
  ·kernel_rfl
  ·(intro W' _; go_simp; (try simp only [hw2]); (try go_simp); (try with_reducible rfl))
  (try simp only [List.getElem_toArray, List.getElem_cons_succ, List.getElem_cons_zero, Act.put, List.setIfInBounds_toArray, List.set_cons_succ, List.set_cons_zero])
  refine wpAnyH_ready (rs := [7]) (by kernel_rfl) (by simp) ?_
  refine AllReadyH.cons (o := _) rfl (fun K hK => ?_) AllReadyH.nil
  go_simp
  refine (RR.out _ hH0).mono ?_
  rintro r w2 ⟨rfl, hb2⟩
  refine hK.out _ _ (btr hH0 hb2) (fun hH1 => ?_)
  clear hK K
  (try simp only [List.getElem_toArray, List.getElem_cons_succ, List.getElem_cons_zero, Act.put, List.setIfInBounds_toArray, List.set_cons_succ, List.set_cons_zero])
  refine wpAnyH_take (i := 8) (oi := _) (v := ?_) rfl (by kernel_rfl) (by kernel_rfl) (by kernel_rfl) (fun _ _ _ h => h) (Or.inl ⟨?_, ?_⟩) hH1 ?_
  rotate_left
  ·kernel_rfl
  ·(intro W' _; go_simp; (try with_reducible rfl))
  (try simp only [List.getElem_toArray, List.getElem_cons_succ, List.getElem_cons_zero, Act.put, List.setIfInBounds_toArray, List.set_cons_succ, List.set_cons_zero])
  refine wpAnyH_take (i := 9) (oi := _) (v := ?_) rfl (by kernel_rfl) (by kernel_rfl) (by kernel_rfl) (fun _ _ _ h => h) (Or.inl ⟨?_, ?_⟩) hH1 ?_
  rotate_left
  ·kernel_rfl
  ·(intro W' _; go_simp; (try with_reducible rfl))
  (try simp only [List.getElem_toArray, List.getElem_cons_succ, List.getElem_cons_zero, Act.put, List.setIfInBounds_toArray, List.set_cons_succ, List.set_cons_zero])
  refine wpAnyH_take (i := 10) (oi := _) (v := ?_) rfl (by kernel_rfl) (by kernel_rfl) (by kernel_rfl) (fun _ _ _ h => h) (Or.inl ⟨?_, ?_⟩) hH1 ?_
  rotate_left
  ·kernel_rfl
  ·(intro W' _; go_simp; (try with_reducible rfl))
  (try simp only [List.getElem_toArray, List.getElem_cons_succ, List.getElem_cons_zero, Act.put, List.setIfInBounds_toArray, List.set_cons_succ, List.set_cons_zero])
  refine wpAnyH_take (i := 11) (oi := _) (v := ?_) rfl (by kernel_rfl) (by kernel_rfl) (by kernel_rfl) (fun _ _ _ h => h) (Or.inl ⟨?_, ?_⟩) hH1 ?_
  rotate_left
  ·kernel_rfl
  ·(intro W' _; go_simp; (try with_reducible rfl))
  (try simp only [List.getElem_toArray, List.getElem_cons_succ, List.getElem_cons_zero, Act.put, List.setIfInBounds_toArray, List.set_cons_succ, List.set_cons_zero])
  refine wpAnyH_take (i := 12) (oi := _) (v := ?_) rfl (by kernel_rfl) (by kernel_rfl) (by kernel_rfl) (fun _ _ _ h => h) (Or.inl ⟨?_, ?_⟩) hH1 ?_
  rotate_left
  ·kernel_rfl
  ·(intro W' _; go_simp; (try with_reducible rfl))
  (try simp only [List.getElem_toArray, List.getElem_cons_succ, List.getElem_cons_zero, Act.put, List.setIfInBounds_toArray, List.set_cons_succ, List.set_cons_zero])
  refine wpAnyH_done (by kernel_rfl) ?_ _
  have hbR := btr HB1.out (btr (bdr (bref w1)) hb2)
  have HB2 := Lib.hid (show Below w1.heap.size w1 w2 from btr (bdr (bref w1)) hb2)
  have HY := Lib.hid (show OL (w.heap.size + 2) (.slice (some ⟨g1, 0, none⟩) k c1) (l.take k) (w2.alloc (.cells #[.int .i64 (Q.getD 0)] 3)) from (HO1.out.keep (btr HB2.out (bal (bref w2) _))).cut k HKL.out)
  have hz2 : w.heap.size + 2 < w2.heap.size := Nat.lt_of_lt_of_le hsz HB2.out.size
  go_wp2_with (at_builtin; refine wpList_app_ints rfl (.tmp 98) (.tmp 100) rfl rfl (w.heap.size + 2) _ (l.take k) rfl HY.out (some ⟨w2.heap.size, 0, none⟩) 1 1 [Q.getD 0] rfl rfl (one_int w2 _ _) (fun e => by cases e) (by have := HKL.out; rw [HN.out] at this; rw [List.length_take]; simp; omega) (by simp; omega) ?_; intro v2 w3 o2 b2; obtain ⟨ao2, c2, rfl, hl2, hx2⟩ := o2.shape; have HL2 := Lib.hid hl2; have HX2 := Lib.hid hx2; have HBB := Lib.hid (hbR.trans (((bal (bref w2) (.cells #[.int .i64 (Q.getD 0)] 3)).mono (by omega)).trans (b2.mono (by omega)))); clear o2 b2 hl2 hx2)
  go_ret2
  cases Q with
  | none => exact ⟨_, rfl, (fun m hm => by cases hm), HBB.out⟩
  | some y => exact ⟨_, rfl, (fun m hm => by cases hm; exact ⟨ao2, c2, by first | rfl | simp, HL2.out, fun q hq => by have := HX2.out q hq; omega⟩), HBB.out⟩
 have e3 : (o == 3) = false := beq_no h3
 by_cases h4 : o = 4
 ·subst h4
  by_cases ha : (i : Int) < a
  ·have dd1 : decide ((i : Int) < a) = true := decide_eq_true ha
   by_cases hb2 : a ≤ (cn : Int)
   ·have dd2 : decide (a ≤ (cn : Int)) = true := decide_eq_true hb2
    have hA : aft vs cn i (4, a, 0) l = some l := by unfold aft; rw [if_neg (by show ¬ (4 : Int) = 1; decide), if_neg (by show ¬ (0 : Int) ≠ 0; decide), if_neg (by show ¬ (4 : Int) = 2; decide), if_neg (by show ¬ (4 : Int) = 3; decide), if_pos rfl, if_pos (by show (i : Int) < a ∧ a ≤ (cn : Int); omega)]
    rw [hA]
    clear hA
    go_enter Tryz.func62, Tryz.ntmps62
    go_wp2_with (at_builtin; refine wpList_app_ints rfl (.tmp 19) (.tmp 20) rfl rfl (w.heap.size + 2) _ [] rfl HO.out ao n c l rfl HN.out HT.out HNL.out (by have := HN.out; simp; omega) (by simp) ?_; intro v1 w1 o1 b1; obtain ⟨ao1, c1, rfl, hl1, hb1, HBw, x0, x1, x2, m1, m2, hsz⟩ := FX.out v1 w1 o1 b1; have HO1 := Lib.hid o1; have HL1 := Lib.hid hl1; have HX1 := Lib.hid hb1; have HB1 := Lib.hid HBw; rw [List.nil_append] at HO1 HL1; clear o1 b1 hl1 hb1 HBw; refine Hid.out ?_)
    refine Lib.hid ?_
    go_wp2_with fail
    refine wp_region_held_drew (S := (fun W => Below w1.heap.size w1 W)) (by kernel_rfl) (bdr (bref _)) (fun hH0 => ?_)
    refine wpAnyH_take (i := 0) (oi := _) (v := ?_) rfl (by kernel_rfl) (by kernel_rfl) (by kernel_rfl) (fun _ _ _ h => h) (Or.inl ⟨?_, ?_⟩) hH0 ?_
    rotate_left
    ·kernel_rfl
    ·(intro W' _; go_simp; (try with_reducible rfl))
    (try simp only [List.getElem_toArray, List.getElem_cons_zero, Act.put, List.setIfInBounds_toArray, List.set_cons_succ, List.set_cons_zero])
    refine wpAnyH_take (i := 1) (oi := _) (v := ?_) rfl (by kernel_rfl) (by kernel_rfl) (by kernel_rfl) (fun _ _ _ h => h) (Or.inl ⟨?_, ?_⟩) hH0 ?_
    rotate_left
    ·kernel_rfl
    ·(intro W' _; go_simp; (try with_reducible rfl))
    (try simp only [List.getElem_toArray, List.getElem_cons_succ, List.getElem_cons_zero, Act.put, List.setIfInBounds_toArray, List.set_cons_succ, List.set_cons_zero])
    refine wpAnyH_take (i := 2) (oi := _) (v := ?_) rfl (by kernel_rfl) (by kernel_rfl) (by kernel_rfl) (fun _ _ _ h => h) (Or.inl ⟨?_, ?_⟩) hH0 ?_
    rotate_left
    ·kernel_rfl
    ·(intro W' hSw; have f1 := keepc hSw x1; have f2 := keepc hSw m2; go_simp; (try with_reducible rfl))
    (try simp only [List.getElem_toArray, List.getElem_cons_succ, List.getElem_cons_zero, Act.put, List.setIfInBounds_toArray, List.set_cons_succ, List.set_cons_zero])
    refine wpAnyH_take (i := 3) (oi := _) (v := ?_) rfl (by kernel_rfl) (by kernel_rfl) (by kernel_rfl) (fun _ _ _ h => h) (Or.inl ⟨?_, ?_⟩) hH0 ?_
    rotate_left
    ·kernel_rfl
    ·(intro W' _; go_simp; (try with_reducible rfl))
    (try simp only [List.getElem_toArray, List.getElem_cons_succ, List.getElem_cons_zero, Act.put, List.setIfInBounds_toArray, List.set_cons_succ, List.set_cons_zero])
    refine wpAnyH_take (i := 4) (oi := _) (v := ?_) rfl (by kernel_rfl) (by kernel_rfl) (by kernel_rfl) (fun _ _ _ h => h) (Or.inl ⟨?_, ?_⟩) hH0 ?_
    rotate_left
    ·kernel_rfl
    ·(intro W' _; go_simp; (try simp only [dd1, dd2]); (try with_reducible rfl))
    (try simp only [List.getElem_toArray, List.getElem_cons_succ, List.getElem_cons_zero, Act.put, List.setIfInBounds_toArray, List.set_cons_succ, List.set_cons_zero])
    refine wpAnyH_take (i := 5) (oi := _) (v := ?_) rfl (by kernel_rfl) (by kernel_rfl) (by kernel_rfl) (fun _ _ _ h => h) (Or.inl ⟨?_, ?_⟩) hH0 ?_
    rotate_left
    ·kernel_rfl
    ·(intro W' _; go_simp; (try with_reducible rfl))
    (try simp only [List.getElem_toArray, List.getElem_cons_succ, List.getElem_cons_zero, Act.put, List.setIfInBounds_toArray, List.set_cons_succ, List.set_cons_zero])
    refine wpAnyH_take (i := 6) (oi := _) (v := ?_) rfl (by kernel_rfl) (by kernel_rfl) (by kernel_rfl) (fun _ _ _ h => h) (Or.inl ⟨?_, ?_⟩) hH0 ?_
    rotate_left
    ·kernel_rfl
    ·(intro W' _; go_simp; (try with_reducible rfl))
    (try simp only [List.getElem_toArray, List.getElem_cons_succ, List.getElem_cons_zero, Act.put, List.setIfInBounds_toArray, List.set_cons_succ, List.set_cons_zero])
    refine wpAnyH_take (i := 7) (oi := _) (v := ?_) rfl (by kernel_rfl) (by kernel_rfl) (by kernel_rfl) (fun _ _ _ h => h) (Or.inl ⟨?_, ?_⟩) hH0 ?_
    rotate_left
    ·kernel_rfl
    ·(intro W' hSw; have f1 := keepc hSw x1; have f2 := keepc hSw m2; go_simp; (try with_reducible rfl))
    (try simp only [List.getElem_toArray, List.getElem_cons_succ, List.getElem_cons_zero, Act.put, List.setIfInBounds_toArray, List.set_cons_succ, List.set_cons_zero])
    refine wpAnyH_take (i := 8) (oi := _) (v := ?_) rfl (by kernel_rfl) (by kernel_rfl) (by kernel_rfl) (fun _ _ _ h => h) (Or.inl ⟨?_, ?_⟩) hH0 ?_
    rotate_left
    ·kernel_rfl
    ·(intro W' _; go_simp; (try with_reducible rfl))
    (try simp only [List.getElem_toArray, List.getElem_cons_succ, List.getElem_cons_zero, Act.put, List.setIfInBounds_toArray, List.set_cons_succ, List.set_cons_zero])
    refine wpAnyH_take (i := 9) (oi := _) (v := ?_) rfl (by kernel_rfl) (by kernel_rfl) (by kernel_rfl) (fun _ _ _ h => h) (Or.inl ⟨?_, ?_⟩) hH0 ?_
    rotate_left
    ·kernel_rfl
    ·(intro W' hSw; have f1 := keepc hSw x1; have f2 := keepc hSw m2; go_simp; (try with_reducible rfl))
    (try simp only [List.getElem_toArray, List.getElem_cons_succ, List.getElem_cons_zero, Act.put, List.setIfInBounds_toArray, List.set_cons_succ, List.set_cons_zero])
    refine wpAnyH_take (i := 10) (oi := _) (v := ?_) rfl (by kernel_rfl) (by kernel_rfl) (by kernel_rfl) (fun _ _ _ h => h) (Or.inl ⟨?_, ?_⟩) hH0 ?_
    rotate_left
    ·kernel_rfl
    ·(intro W' _; go_simp; (try simp only [dd1, dd2]); (try with_reducible rfl))
    (try simp only [List.getElem_toArray, List.getElem_cons_succ, List.getElem_cons_zero, Act.put, List.setIfInBounds_toArray, List.set_cons_succ, List.set_cons_zero])
    refine wpAnyH_take (i := 11) (oi := _) (v := ?_) rfl (by kernel_rfl) (by kernel_rfl) (by kernel_rfl) (fun _ _ _ h => h) (Or.inl ⟨?_, ?_⟩) hH0 ?_
    rotate_left
    ·kernel_rfl
    ·(intro W' _; go_simp; (try simp only [dd1, dd2]); (try with_reducible rfl))
    (try simp only [List.getElem_toArray, List.getElem_cons_succ, List.getElem_cons_zero, Act.put, List.setIfInBounds_toArray, List.set_cons_succ, List.set_cons_zero])
    refine wpAnyH_take (i := 12) (oi := _) (v := ?_) rfl (by kernel_rfl) (by kernel_rfl) (by kernel_rfl) (fun _ _ _ h => h) (Or.inl ⟨?_, ?_⟩) hH0 ?_
    rotate_left
    ·kernel_rfl
    ·(intro W' _; go_simp; (try simp only [dd1, dd2]); (try with_reducible rfl))
    (try simp only [List.getElem_toArray, List.getElem_cons_succ, List.getElem_cons_zero, Act.put, List.setIfInBounds_toArray, List.set_cons_succ, List.set_cons_zero])
    refine wpAnyH_take (i := 13) (oi := _) (v := ?_) rfl (by kernel_rfl) (by kernel_rfl) (by kernel_rfl) (fun _ _ _ h => h) (Or.inl ⟨?_, ?_⟩) hH0 ?_
    rotate_left
    ·kernel_rfl
    ·(intro W' _; go_simp; (try with_reducible rfl))
    (try simp only [List.getElem_toArray, List.getElem_cons_succ, List.getElem_cons_zero, Act.put, List.setIfInBounds_toArray, List.set_cons_succ, List.set_cons_zero])
    refine wpAnyH_take (i := 14) (oi := _) (v := ?_) rfl (by kernel_rfl) (by kernel_rfl) (by kernel_rfl) (fun _ _ _ h => h) (Or.inl ⟨?_, ?_⟩) hH0 ?_
    rotate_left
    ·kernel_rfl
    ·(intro W' _; go_simp; (try with_reducible rfl))
    (try simp only [List.getElem_toArray, List.getElem_cons_succ, List.getElem_cons_zero, Act.put, List.setIfInBounds_toArray, List.set_cons_succ, List.set_cons_zero])
    refine wpAnyH_done (by kernel_rfl) ?_ _
    go_wp2_with fail
    go_ret2
    have HBB := btr HB1.out (bdr (bref w1))
    exact ⟨_, rfl, (fun m hm => by cases hm; exact ⟨ao1, c1, by rw [HN.out]; first | rfl | simp, HL1.out.keep (bdr (bref _)), fun q hq => by have := HX1.out q hq; omega⟩), HBB⟩
   ·have dd2 : decide (a ≤ (cn : Int)) = false := decide_eq_false hb2
    have hA : aft vs cn i (4, a, 0) l = none := by unfold aft; rw [if_neg (by show ¬ (4 : Int) = 1; decide), if_neg (by show ¬ (0 : Int) ≠ 0; decide), if_neg (by show ¬ (4 : Int) = 2; decide), if_neg (by show ¬ (4 : Int) = 3; decide), if_pos rfl, if_neg (by show ¬ ((i : Int) < a ∧ a ≤ (cn : Int)); omega)]
    rw [hA]
    clear hA
    go_enter Tryz.func62, Tryz.ntmps62
    go_wp2_with (at_builtin; refine wpList_app_ints rfl (.tmp 19) (.tmp 20) rfl rfl (w.heap.size + 2) _ [] rfl HO.out ao n c l rfl HN.out HT.out HNL.out (by have := HN.out; simp; omega) (by simp) ?_; intro v1 w1 o1 b1; obtain ⟨ao1, c1, rfl, hl1, hb1, HBw, x0, x1, x2, m1, m2, hsz⟩ := FX.out v1 w1 o1 b1; have HO1 := Lib.hid o1; have HL1 := Lib.hid hl1; have HX1 := Lib.hid hb1; have HB1 := Lib.hid HBw; rw [List.nil_append] at HO1 HL1; clear o1 b1 hl1 hb1 HBw; refine Hid.out ?_)
    refine Lib.hid ?_
    go_wp2_with fail
    refine wp_region_held_drew (S := (fun W => Below w1.heap.size w1 W)) (by kernel_rfl) (bdr (bref _)) (fun hH0 => ?_)
    refine wpAnyH_take (i := 0) (oi := _) (v := ?_) rfl (by kernel_rfl) (by kernel_rfl) (by kernel_rfl) (fun _ _ _ h => h) (Or.inl ⟨?_, ?_⟩) hH0 ?_
    rotate_left
    ·kernel_rfl
    ·(intro W' _; go_simp; (try with_reducible rfl))
    (try simp only [List.getElem_toArray, List.getElem_cons_zero, Act.put, List.setIfInBounds_toArray, List.set_cons_succ, List.set_cons_zero])
    refine wpAnyH_take (i := 1) (oi := _) (v := ?_) rfl (by kernel_rfl) (by kernel_rfl) (by kernel_rfl) (fun _ _ _ h => h) (Or.inl ⟨?_, ?_⟩) hH0 ?_
    rotate_left
    ·kernel_rfl
    ·(intro W' _; go_simp; (try with_reducible rfl))
    (try simp only [List.getElem_toArray, List.getElem_cons_succ, List.getElem_cons_zero, Act.put, List.setIfInBounds_toArray, List.set_cons_succ, List.set_cons_zero])
    refine wpAnyH_take (i := 2) (oi := _) (v := ?_) rfl (by kernel_rfl) (by kernel_rfl) (by kernel_rfl) (fun _ _ _ h => h) (Or.inl ⟨?_, ?_⟩) hH0 ?_
    rotate_left
    ·kernel_rfl
    ·(intro W' hSw; have f1 := keepc hSw x1; have f2 := keepc hSw m2; go_simp; (try with_reducible rfl))
    (try simp only [List.getElem_toArray, List.getElem_cons_succ, List.getElem_cons_zero, Act.put, List.setIfInBounds_toArray, List.set_cons_succ, List.set_cons_zero])
    refine wpAnyH_take (i := 3) (oi := _) (v := ?_) rfl (by kernel_rfl) (by kernel_rfl) (by kernel_rfl) (fun _ _ _ h => h) (Or.inl ⟨?_, ?_⟩) hH0 ?_
    rotate_left
    ·kernel_rfl
    ·(intro W' _; go_simp; (try with_reducible rfl))
    (try simp only [List.getElem_toArray, List.getElem_cons_succ, List.getElem_cons_zero, Act.put, List.setIfInBounds_toArray, List.set_cons_succ, List.set_cons_zero])
    refine wpAnyH_take (i := 4) (oi := _) (v := ?_) rfl (by kernel_rfl) (by kernel_rfl) (by kernel_rfl) (fun _ _ _ h => h) (Or.inl ⟨?_, ?_⟩) hH0 ?_
    rotate_left
    ·kernel_rfl
    ·(intro W' _; go_simp; (try simp only [dd1, dd2]); (try with_reducible rfl))
    (try simp only [List.getElem_toArray, List.getElem_cons_succ, List.getElem_cons_zero, Act.put, List.setIfInBounds_toArray, List.set_cons_succ, List.set_cons_zero])
    refine wpAnyH_take (i := 5) (oi := _) (v := ?_) rfl (by kernel_rfl) (by kernel_rfl) (by kernel_rfl) (fun _ _ _ h => h) (Or.inl ⟨?_, ?_⟩) hH0 ?_
    rotate_left
    ·kernel_rfl
    ·(intro W' _; go_simp; (try with_reducible rfl))
    (try simp only [List.getElem_toArray, List.getElem_cons_succ, List.getElem_cons_zero, Act.put, List.setIfInBounds_toArray, List.set_cons_succ, List.set_cons_zero])
    refine wpAnyH_take (i := 6) (oi := _) (v := ?_) rfl (by kernel_rfl) (by kernel_rfl) (by kernel_rfl) (fun _ _ _ h => h) (Or.inl ⟨?_, ?_⟩) hH0 ?_
    rotate_left
    ·kernel_rfl
    ·(intro W' _; go_simp; (try with_reducible rfl))
    (try simp only [List.getElem_toArray, List.getElem_cons_succ, List.getElem_cons_zero, Act.put, List.setIfInBounds_toArray, List.set_cons_succ, List.set_cons_zero])
    refine wpAnyH_take (i := 7) (oi := _) (v := ?_) rfl (by kernel_rfl) (by kernel_rfl) (by kernel_rfl) (fun _ _ _ h => h) (Or.inl ⟨?_, ?_⟩) hH0 ?_
    rotate_left
    ·kernel_rfl
    ·(intro W' hSw; have f1 := keepc hSw x1; have f2 := keepc hSw m2; go_simp; (try with_reducible rfl))
    (try simp only [List.getElem_toArray, List.getElem_cons_succ, List.getElem_cons_zero, Act.put, List.setIfInBounds_toArray, List.set_cons_succ, List.set_cons_zero])
    refine wpAnyH_take (i := 8) (oi := _) (v := ?_) rfl (by kernel_rfl) (by kernel_rfl) (by kernel_rfl) (fun _ _ _ h => h) (Or.inl ⟨?_, ?_⟩) hH0 ?_
    rotate_left
    ·kernel_rfl
    ·(intro W' _; go_simp; (try with_reducible rfl))
    (try simp only [List.getElem_toArray, List.getElem_cons_succ, List.getElem_cons_zero, Act.put, List.setIfInBounds_toArray, List.set_cons_succ, List.set_cons_zero])
    refine wpAnyH_take (i := 9) (oi := _) (v := ?_) rfl (by kernel_rfl) (by kernel_rfl) (by kernel_rfl) (fun _ _ _ h => h) (Or.inl ⟨?_, ?_⟩) hH0 ?_
    rotate_left
    ·kernel_rfl
    ·(intro W' hSw; have f1 := keepc hSw x1; have f2 := keepc hSw m2; go_simp; (try with_reducible rfl))
    (try simp only [List.getElem_toArray, List.getElem_cons_succ, List.getElem_cons_zero, Act.put, List.setIfInBounds_toArray, List.set_cons_succ, List.set_cons_zero])
    refine wpAnyH_take (i := 10) (oi := _) (v := ?_) rfl (by kernel_rfl) (by kernel_rfl) (by kernel_rfl) (fun _ _ _ h => h) (Or.inl ⟨?_, ?_⟩) hH0 ?_
    rotate_left
    ·kernel_rfl
    ·(intro W' _; go_simp; (try simp only [dd1, dd2]); (try with_reducible rfl))
    (try simp only [List.getElem_toArray, List.getElem_cons_succ, List.getElem_cons_zero, Act.put, List.setIfInBounds_toArray, List.set_cons_succ, List.set_cons_zero])
    refine wpAnyH_take (i := 11) (oi := _) (v := ?_) rfl (by kernel_rfl) (by kernel_rfl) (by kernel_rfl) (fun _ _ _ h => h) (Or.inl ⟨?_, ?_⟩) hH0 ?_
    rotate_left
    ·kernel_rfl
    ·(intro W' _; go_simp; (try simp only [dd1, dd2]); (try with_reducible rfl))
    (try simp only [List.getElem_toArray, List.getElem_cons_succ, List.getElem_cons_zero, Act.put, List.setIfInBounds_toArray, List.set_cons_succ, List.set_cons_zero])
    refine wpAnyH_take (i := 12) (oi := _) (v := ?_) rfl (by kernel_rfl) (by kernel_rfl) (by kernel_rfl) (fun _ _ _ h => h) (Or.inl ⟨?_, ?_⟩) hH0 ?_
    rotate_left
    ·kernel_rfl
    ·(intro W' _; go_simp; (try simp only [dd1, dd2]); (try with_reducible rfl))
    (try simp only [List.getElem_toArray, List.getElem_cons_succ, List.getElem_cons_zero, Act.put, List.setIfInBounds_toArray, List.set_cons_succ, List.set_cons_zero])
    refine wpAnyH_take (i := 13) (oi := _) (v := ?_) rfl (by kernel_rfl) (by kernel_rfl) (by kernel_rfl) (fun _ _ _ h => h) (Or.inl ⟨?_, ?_⟩) hH0 ?_
    rotate_left
    ·kernel_rfl
    ·(intro W' _; go_simp; (try with_reducible rfl))
    (try simp only [List.getElem_toArray, List.getElem_cons_succ, List.getElem_cons_zero, Act.put, List.setIfInBounds_toArray, List.set_cons_succ, List.set_cons_zero])
    refine wpAnyH_take (i := 14) (oi := _) (v := ?_) rfl (by kernel_rfl) (by kernel_rfl) (by kernel_rfl) (fun _ _ _ h => h) (Or.inl ⟨?_, ?_⟩) hH0 ?_
    rotate_left
    ·kernel_rfl
    ·(intro W' _; go_simp; (try with_reducible rfl))
    (try simp only [List.getElem_toArray, List.getElem_cons_succ, List.getElem_cons_zero, Act.put, List.setIfInBounds_toArray, List.set_cons_succ, List.set_cons_zero])
    refine wpAnyH_done (by kernel_rfl) ?_ _
    go_wp2_with fail
    go_ret2
    have HBB := btr HB1.out (bdr (bref w1))
    exact ⟨_, rfl, (fun m hm => by cases hm), HBB⟩
  ·have dd1 : decide ((i : Int) < a) = false := decide_eq_false ha
   have hA : aft vs cn i (4, a, 0) l = none := by unfold aft; rw [if_neg (by show ¬ (4 : Int) = 1; decide), if_neg (by show ¬ (0 : Int) ≠ 0; decide), if_neg (by show ¬ (4 : Int) = 2; decide), if_neg (by show ¬ (4 : Int) = 3; decide), if_pos rfl, if_neg (by show ¬ ((i : Int) < a ∧ a ≤ (cn : Int)); omega)]
   rw [hA]
   clear hA
   go_enter Tryz.func62, Tryz.ntmps62
   go_wp2_with (at_builtin; refine wpList_app_ints rfl (.tmp 19) (.tmp 20) rfl rfl (w.heap.size + 2) _ [] rfl HO.out ao n c l rfl HN.out HT.out HNL.out (by have := HN.out; simp; omega) (by simp) ?_; intro v1 w1 o1 b1; obtain ⟨ao1, c1, rfl, hl1, hb1, HBw, x0, x1, x2, m1, m2, hsz⟩ := FX.out v1 w1 o1 b1; have HO1 := Lib.hid o1; have HL1 := Lib.hid hl1; have HX1 := Lib.hid hb1; have HB1 := Lib.hid HBw; rw [List.nil_append] at HO1 HL1; clear o1 b1 hl1 hb1 HBw; refine Hid.out ?_)
   refine Lib.hid ?_
   go_wp2_with fail
   refine wp_region_held_drew (S := (fun W => Below w1.heap.size w1 W)) (by kernel_rfl) (bdr (bref _)) (fun hH0 => ?_)
   refine wpAnyH_take (i := 0) (oi := _) (v := ?_) rfl (by kernel_rfl) (by kernel_rfl) (by kernel_rfl) (fun _ _ _ h => h) (Or.inl ⟨?_, ?_⟩) hH0 ?_
   rotate_left
   ·kernel_rfl
   ·(intro W' _; go_simp; (try with_reducible rfl))
   (try simp only [List.getElem_toArray, List.getElem_cons_zero, Act.put, List.setIfInBounds_toArray, List.set_cons_succ, List.set_cons_zero])
   refine wpAnyH_take (i := 1) (oi := _) (v := ?_) rfl (by kernel_rfl) (by kernel_rfl) (by kernel_rfl) (fun _ _ _ h => h) (Or.inl ⟨?_, ?_⟩) hH0 ?_
   rotate_left
   ·kernel_rfl
   ·(intro W' _; go_simp; (try with_reducible rfl))
   (try simp only [List.getElem_toArray, List.getElem_cons_succ, List.getElem_cons_zero, Act.put, List.setIfInBounds_toArray, List.set_cons_succ, List.set_cons_zero])
   refine wpAnyH_take (i := 2) (oi := _) (v := ?_) rfl (by kernel_rfl) (by kernel_rfl) (by kernel_rfl) (fun _ _ _ h => h) (Or.inl ⟨?_, ?_⟩) hH0 ?_
   rotate_left
   ·kernel_rfl
   ·(intro W' hSw; have f1 := keepc hSw x1; have f2 := keepc hSw m2; go_simp; (try with_reducible rfl))
   (try simp only [List.getElem_toArray, List.getElem_cons_succ, List.getElem_cons_zero, Act.put, List.setIfInBounds_toArray, List.set_cons_succ, List.set_cons_zero])
   refine wpAnyH_take (i := 3) (oi := _) (v := ?_) rfl (by kernel_rfl) (by kernel_rfl) (by kernel_rfl) (fun _ _ _ h => h) (Or.inl ⟨?_, ?_⟩) hH0 ?_
   rotate_left
   ·kernel_rfl
   ·(intro W' _; go_simp; (try with_reducible rfl))
   (try simp only [List.getElem_toArray, List.getElem_cons_succ, List.getElem_cons_zero, Act.put, List.setIfInBounds_toArray, List.set_cons_succ, List.set_cons_zero])
   refine wpAnyH_take (i := 4) (oi := _) (v := ?_) rfl (by kernel_rfl) (by kernel_rfl) (by kernel_rfl) (fun _ _ _ h => h) (Or.inl ⟨?_, ?_⟩) hH0 ?_
   rotate_left
   ·kernel_rfl
   ·(intro W' _; go_simp; (try simp only [dd1, dd2]); (try with_reducible rfl))
   (try simp only [List.getElem_toArray, List.getElem_cons_succ, List.getElem_cons_zero, Act.put, List.setIfInBounds_toArray, List.set_cons_succ, List.set_cons_zero])
   refine wpAnyH_take (i := 5) (oi := _) (v := ?_) rfl (by kernel_rfl) (by kernel_rfl) (by kernel_rfl) (fun _ _ _ h => h) (Or.inl ⟨?_, ?_⟩) hH0 ?_
   rotate_left
   ·kernel_rfl
   ·(intro W' _; go_simp; (try with_reducible rfl))
   (try simp only [List.getElem_toArray, List.getElem_cons_succ, List.getElem_cons_zero, Act.put, List.setIfInBounds_toArray, List.set_cons_succ, List.set_cons_zero])
   refine wpAnyH_take (i := 6) (oi := _) (v := undef) rfl (by kernel_rfl) (by kernel_rfl) (by kernel_rfl) (fun _ _ _ h => h) (Or.inr ⟨?_, rfl⟩) hH0 ?_
   ·kernel_rfl
   (try simp only [List.getElem_toArray, List.getElem_cons_succ, List.getElem_cons_zero, Act.put, List.setIfInBounds_toArray, List.set_cons_succ, List.set_cons_zero])
   refine wpAnyH_take (i := 7) (oi := _) (v := undef) rfl (by kernel_rfl) (by kernel_rfl) (by kernel_rfl) (fun _ _ _ h => h) (Or.inr ⟨?_, rfl⟩) hH0 ?_
   ·kernel_rfl
   (try simp only [List.getElem_toArray, List.getElem_cons_succ, List.getElem_cons_zero, Act.put, List.setIfInBounds_toArray, List.set_cons_succ, List.set_cons_zero])
   refine wpAnyH_take (i := 8) (oi := _) (v := undef) rfl (by kernel_rfl) (by kernel_rfl) (by kernel_rfl) (fun _ _ _ h => h) (Or.inr ⟨?_, rfl⟩) hH0 ?_
   ·kernel_rfl
   (try simp only [List.getElem_toArray, List.getElem_cons_succ, List.getElem_cons_zero, Act.put, List.setIfInBounds_toArray, List.set_cons_succ, List.set_cons_zero])
   refine wpAnyH_take (i := 9) (oi := _) (v := undef) rfl (by kernel_rfl) (by kernel_rfl) (by kernel_rfl) (fun _ _ _ h => h) (Or.inr ⟨?_, rfl⟩) hH0 ?_
   ·kernel_rfl
   (try simp only [List.getElem_toArray, List.getElem_cons_succ, List.getElem_cons_zero, Act.put, List.setIfInBounds_toArray, List.set_cons_succ, List.set_cons_zero])
   refine wpAnyH_take (i := 10) (oi := _) (v := undef) rfl (by kernel_rfl) (by kernel_rfl) (by kernel_rfl) (fun _ _ _ h => h) (Or.inr ⟨?_, rfl⟩) hH0 ?_
   ·kernel_rfl
   (try simp only [List.getElem_toArray, List.getElem_cons_succ, List.getElem_cons_zero, Act.put, List.setIfInBounds_toArray, List.set_cons_succ, List.set_cons_zero])
   refine wpAnyH_take (i := 11) (oi := _) (v := undef) rfl (by kernel_rfl) (by kernel_rfl) (by kernel_rfl) (fun _ _ _ h => h) (Or.inr ⟨?_, rfl⟩) hH0 ?_
   ·kernel_rfl
   (try simp only [List.getElem_toArray, List.getElem_cons_succ, List.getElem_cons_zero, Act.put, List.setIfInBounds_toArray, List.set_cons_succ, List.set_cons_zero])
   refine wpAnyH_take (i := 12) (oi := _) (v := ?_) rfl (by kernel_rfl) (by kernel_rfl) (by kernel_rfl) (fun _ _ _ h => h) (Or.inl ⟨?_, ?_⟩) hH0 ?_
   rotate_left
   ·kernel_rfl
   ·(intro W' _; go_simp; (try simp only [dd1, dd2]); (try with_reducible rfl))
   (try simp only [List.getElem_toArray, List.getElem_cons_succ, List.getElem_cons_zero, Act.put, List.setIfInBounds_toArray, List.set_cons_succ, List.set_cons_zero])
   refine wpAnyH_take (i := 13) (oi := _) (v := ?_) rfl (by kernel_rfl) (by kernel_rfl) (by kernel_rfl) (fun _ _ _ h => h) (Or.inl ⟨?_, ?_⟩) hH0 ?_
   rotate_left
   ·kernel_rfl
   ·(intro W' _; go_simp; (try with_reducible rfl))
   (try simp only [List.getElem_toArray, List.getElem_cons_succ, List.getElem_cons_zero, Act.put, List.setIfInBounds_toArray, List.set_cons_succ, List.set_cons_zero])
   refine wpAnyH_take (i := 14) (oi := _) (v := ?_) rfl (by kernel_rfl) (by kernel_rfl) (by kernel_rfl) (fun _ _ _ h => h) (Or.inl ⟨?_, ?_⟩) hH0 ?_
   rotate_left
   ·kernel_rfl
   ·(intro W' _; go_simp; (try with_reducible rfl))
   (try simp only [List.getElem_toArray, List.getElem_cons_succ, List.getElem_cons_zero, Act.put, List.setIfInBounds_toArray, List.set_cons_succ, List.set_cons_zero])
   refine wpAnyH_done (by kernel_rfl) ?_ _
   go_wp2_with fail
   go_ret2
   have HBB := btr HB1.out (bdr (bref w1))
   exact ⟨_, rfl, (fun m hm => by cases hm), HBB⟩
 have e4 : (o == 4) = false := beq_no h4
 by_cases h5 : o = 5
 rotate_left
 ·have e5 : (o == 5) = false := beq_no h5
  have hA : aft vs cn i (o, a, 0) l = none := by unfold aft; rw [if_neg h1, if_neg (by show ¬ (0 : Int) ≠ 0; decide), if_neg h2, if_neg h3, if_neg h4, if_neg h5]
  rw [hA]
  clear hA h1 h2 h3 h4 h5
  go_enter Tryz.func62, Tryz.ntmps62
  go_wp2_with (at_builtin; refine wpList_app_ints rfl (.tmp 19) (.tmp 20) rfl rfl (w.heap.size + 2) _ [] rfl HO.out ao n c l rfl HN.out HT.out HNL.out (by have := HN.out; simp; omega) (by simp) ?_; intro v1 w1 o1 b1; obtain ⟨ao1, c1, rfl, hl1, hb1, HBw, x0, x1, x2, m1, m2, hsz⟩ := FX.out v1 w1 o1 b1; have HO1 := Lib.hid o1; have HL1 := Lib.hid hl1; have HX1 := Lib.hid hb1; have HB1 := Lib.hid HBw; rw [List.nil_append] at HO1 HL1; clear o1 b1 hl1 hb1 HBw; refine Hid.out ?_)
  refine Lib.hid ?_
  go_wp2_with fail
  go_ret2
  exact ⟨_, rfl, (fun m hm => by cases hm), HB1.out⟩
 subst h5
 by_cases hn0 : n = 0
 ·have en : ((n : Int) == 0) = true := by simp [hn0]
  have hA : aft vs cn i (5, a, 0) l = none := by
   have hln : l = [] := List.eq_nil_of_length_eq_zero (HN.out.trans hn0)
   unfold aft; rw [if_neg (by show ¬ (5 : Int) = 1; decide), if_neg (by show ¬ (0 : Int) ≠ 0; decide), if_neg (by show ¬ (5 : Int) = 2; decide), if_neg (by show ¬ (5 : Int) = 3; decide), if_neg (by show ¬ (5 : Int) = 4; decide), if_pos rfl, if_neg (by rw [hln]; simp)]
  rw [hA]
  clear hA hn0
  go_enter Tryz.func62, Tryz.ntmps62
  go_wp2_with (at_builtin; refine wpList_app_ints rfl (.tmp 19) (.tmp 20) rfl rfl (w.heap.size + 2) _ [] rfl HO.out ao n c l rfl HN.out HT.out HNL.out (by have := HN.out; simp; omega) (by simp) ?_; intro v1 w1 o1 b1; obtain ⟨ao1, c1, rfl, hl1, hb1, HBw, x0, x1, x2, m1, m2, hsz⟩ := FX.out v1 w1 o1 b1; have HO1 := Lib.hid o1; have HL1 := Lib.hid hl1; have HX1 := Lib.hid hb1; have HB1 := Lib.hid HBw; rw [List.nil_append] at HO1 HL1; clear o1 b1 hl1 hb1 HBw; refine Hid.out ?_)
  refine Lib.hid ?_
  go_wp2_with fail
  go_ret2
  exact ⟨_, rfl, (fun m hm => by cases hm), HB1.out⟩
 obtain ⟨k, hk⟩ : ∃ k, n = k + 1 := ⟨n - 1, by omega⟩
 obtain ⟨q1, q2⟩ := last_atI l k (by rw [HN.out, hk])
 obtain ⟨y, hy⟩ : ∃ y, l.getD k 0 = y := ⟨_, rfl⟩
 rw [hy] at q1
 have HY := Lib.hid hy
 have hw : wrap64 ((n : Int) - 1) = (k : Int) := by unfold wrap64; omega
 have hw2 : IntKind.i64.wrap ((n : Int) - 1) = (k : Int) := by rw [IntKind.wrap_i64]; omega
 have hkn : (k : Int) < (n : Int) := by omega
 have hkn2 : (k : Int) ≤ (n : Int) := by omega
 have g0 : ¬ ((k : Int) < 0) := by omega
 have en : ((n : Int) == 0) = false := beq_no (by omega)
 have en2 : ¬ ((n : Int) = 0) := by omega
 have HNK := Lib.hid hk
 clear hk hy
 by_cases hy5 : y = 5
 rotate_left
 ·have ey : (y != 5) = true := bne_yes hy5
  have hA : aft vs cn i (5, a, 0) l = none := by unfold aft; rw [if_neg (by show ¬ (5 : Int) = 1; decide), if_neg (by show ¬ (0 : Int) ≠ 0; decide), if_neg (by show ¬ (5 : Int) = 2; decide), if_neg (by show ¬ (5 : Int) = 3; decide), if_neg (by show ¬ (5 : Int) = 4; decide), if_pos rfl, if_neg (by rw [q1]; intro e; exact hy5 (Option.some.inj e.1))]
  rw [hA]
  clear hA q1 q2 hy5
  go_enter Tryz.func62, Tryz.ntmps62
  go_wp2_with (at_builtin; refine wpList_app_ints rfl (.tmp 19) (.tmp 20) rfl rfl (w.heap.size + 2) _ [] rfl HO.out ao n c l rfl HN.out HT.out HNL.out (by have := HN.out; simp; omega) (by simp) ?_; intro v1 w1 o1 b1; obtain ⟨ao1, c1, rfl, hl1, hb1, HBw, x0, x1, x2, m1, m2, hsz⟩ := FX.out v1 w1 o1 b1; have HO1 := Lib.hid o1; have HL1 := Lib.hid hl1; have HX1 := Lib.hid hb1; have HB1 := Lib.hid HBw; rw [List.nil_append] at HO1 HL1; clear o1 b1 hl1 hb1 HBw; refine Hid.out ?_)
  obtain ⟨g1, cc, eg, hcap⟩ := HO1.out.pos (by rw [HN.out]; have := HNK.out; omega)
  rw [HN.out] at eg hcap
  cases eg
  obtain ⟨b9, o9, e9, _, y0⟩ := HL1.out.ints k (by rw [HN.out]; have := HNK.out; omega)
  cases e9
  rw [HY.out, Nat.zero_add] at y0
  have hk := HNK.out
  have hnc : (n : Int) ≤ (c1 : Int) := by omega
  have hkc : (k : Int) ≤ (c1 : Int) := by omega
  clear hk
  refine Lib.hid ?_
  go_wp2_with fail
  go_ret2
  exact ⟨_, rfl, (fun m hm => by cases hm), HB1.out⟩
 subst hy5
 by_cases ha : (i : Int) < a
 ·have dd1 : decide ((i : Int) < a) = true := decide_eq_true ha
  by_cases hb2 : a ≤ (cn : Int)
  ·have dd2 : decide (a ≤ (cn : Int)) = true := decide_eq_true hb2
   have hA : aft vs cn i (5, a, 0) l = some (l.take k) := by unfold aft; rw [if_neg (by show ¬ (5 : Int) = 1; decide), if_neg (by show ¬ (0 : Int) ≠ 0; decide), if_neg (by show ¬ (5 : Int) = 2; decide), if_neg (by show ¬ (5 : Int) = 3; decide), if_neg (by show ¬ (5 : Int) = 4; decide), if_pos rfl, if_pos (by refine ⟨q1, ?_⟩; show (i : Int) < a ∧ a ≤ (cn : Int); omega), q2]
   rw [hA]
   clear hA
   go_enter Tryz.func62, Tryz.ntmps62
   go_wp2_with (at_builtin; refine wpList_app_ints rfl (.tmp 19) (.tmp 20) rfl rfl (w.heap.size + 2) _ [] rfl HO.out ao n c l rfl HN.out HT.out HNL.out (by have := HN.out; simp; omega) (by simp) ?_; intro v1 w1 o1 b1; obtain ⟨ao1, c1, rfl, hl1, hb1, HBw, x0, x1, x2, m1, m2, hsz⟩ := FX.out v1 w1 o1 b1; have HO1 := Lib.hid o1; have HL1 := Lib.hid hl1; have HX1 := Lib.hid hb1; have HB1 := Lib.hid HBw; rw [List.nil_append] at HO1 HL1; clear o1 b1 hl1 hb1 HBw; refine Hid.out ?_)
   obtain ⟨g1, cc, eg, hcap⟩ := HO1.out.pos (by rw [HN.out]; have := HNK.out; omega)
   rw [HN.out] at eg hcap
   cases eg
   obtain ⟨b9, o9, e9, _, y0⟩ := HL1.out.ints k (by rw [HN.out]; have := HNK.out; omega)
   cases e9
   rw [HY.out, Nat.zero_add] at y0
   have hk := HNK.out
   have hnc : (n : Int) ≤ (c1 : Int) := by omega
   have hkc : (k : Int) ≤ (c1 : Int) := by omega
   clear hk
   refine Lib.hid ?_
   go_wp2_with fail
   refine wp_region_held_drew (S := (fun W => Below w1.heap.size w1 W)) (by kernel_rfl) (bdr (bref _)) (fun hH0 => ?_)
   refine wpAnyH_take (i := 0) (oi := _) (v := ?_) rfl (by kernel_rfl) (by kernel_rfl) (by kernel_rfl) (fun _ _ _ h => h) (Or.inl ⟨?_, ?_⟩) hH0 ?_
   rotate_left
   ·kernel_rfl
   ·(intro W' _; go_simp; (try with_reducible rfl))
   (try simp only [List.getElem_toArray, List.getElem_cons_zero, Act.put, List.setIfInBounds_toArray, List.set_cons_succ, List.set_cons_zero])
   refine wpAnyH_take (i := 1) (oi := _) (v := ?_) rfl (by kernel_rfl) (by kernel_rfl) (by kernel_rfl) (fun _ _ _ h => h) (Or.inl ⟨?_, ?_⟩) hH0 ?_
   rotate_left
   ·kernel_rfl
   ·(intro W' _; go_simp; (try with_reducible rfl))
   (try simp only [List.getElem_toArray, List.getElem_cons_succ, List.getElem_cons_zero, Act.put, List.setIfInBounds_toArray, List.set_cons_succ, List.set_cons_zero])
   refine wpAnyH_take (i := 2) (oi := _) (v := ?_) rfl (by kernel_rfl) (by kernel_rfl) (by kernel_rfl) (fun _ _ _ h => h) (Or.inl ⟨?_, ?_⟩) hH0 ?_
   rotate_left
   ·kernel_rfl
   ·(intro W' _; go_simp; (try simp only [dd1, dd2]); (try with_reducible rfl))
   (try simp only [List.getElem_toArray, List.getElem_cons_succ, List.getElem_cons_zero, Act.put, List.setIfInBounds_toArray, List.set_cons_succ, List.set_cons_zero])
   refine wpAnyH_take (i := 3) (oi := _) (v := ?_) rfl (by kernel_rfl) (by kernel_rfl) (by kernel_rfl) (fun _ _ _ h => h) (Or.inl ⟨?_, ?_⟩) hH0 ?_
   rotate_left
   ·kernel_rfl
   ·(intro W' _; go_simp; (try with_reducible rfl))
   (try simp only [List.getElem_toArray, List.getElem_cons_succ, List.getElem_cons_zero, Act.put, List.setIfInBounds_toArray, List.set_cons_succ, List.set_cons_zero])
   refine wpAnyH_take (i := 4) (oi := _) (v := ?_) rfl (by kernel_rfl) (by kernel_rfl) (by kernel_rfl) (fun _ _ _ h => h) (Or.inl ⟨?_, ?_⟩) hH0 ?_
   rotate_left
   ·kernel_rfl
   ·(intro W' _; go_simp; (try with_reducible rfl))
   (try simp only [List.getElem_toArray, List.getElem_cons_succ, List.getElem_cons_zero, Act.put, List.setIfInBounds_toArray, List.set_cons_succ, List.set_cons_zero])
   refine wpAnyH_take (i := 5) (oi := _) (v := ?_) rfl (by kernel_rfl) (by kernel_rfl) (by kernel_rfl) (fun _ _ _ h => h) (Or.inl ⟨?_, ?_⟩) hH0 ?_
   rotate_left
   ·kernel_rfl
   ·(intro W' hSw; have f1 := keepc hSw x1; have f2 := keepc hSw m2; go_simp; (try with_reducible rfl))
   (try simp only [List.getElem_toArray, List.getElem_cons_succ, List.getElem_cons_zero, Act.put, List.setIfInBounds_toArray, List.set_cons_succ, List.set_cons_zero])
   refine wpAnyH_take (i := 6) (oi := _) (v := ?_) rfl (by kernel_rfl) (by kernel_rfl) (by kernel_rfl) (fun _ _ _ h => h) (Or.inl ⟨?_, ?_⟩) hH0 ?_
   rotate_left
   ·kernel_rfl
   ·(intro W' _; go_simp; (try with_reducible rfl))
   (try simp only [List.getElem_toArray, List.getElem_cons_succ, List.getElem_cons_zero, Act.put, List.setIfInBounds_toArray, List.set_cons_succ, List.set_cons_zero])
   refine wpAnyH_take (i := 7) (oi := _) (v := ?_) rfl (by kernel_rfl) (by kernel_rfl) (by kernel_rfl) (fun _ _ _ h => h) (Or.inl ⟨?_, ?_⟩) hH0 ?_
   rotate_left
   ·kernel_rfl
   ·(intro W' _; go_simp; (try simp only [dd1, dd2]); (try with_reducible rfl))
   (try simp only [List.getElem_toArray, List.getElem_cons_succ, List.getElem_cons_zero, Act.put, List.setIfInBounds_toArray, List.set_cons_succ, List.set_cons_zero])
   refine wpAnyH_take (i := 8) (oi := _) (v := ?_) rfl (by kernel_rfl) (by kernel_rfl) (by kernel_rfl) (fun _ _ _ h => h) (Or.inl ⟨?_, ?_⟩) hH0 ?_
   rotate_left
   ·kernel_rfl
   ·(intro W' _; go_simp; (try with_reducible rfl))
   (try simp only [List.getElem_toArray, List.getElem_cons_succ, List.getElem_cons_zero, Act.put, List.setIfInBounds_toArray, List.set_cons_succ, List.set_cons_zero])
   refine wpAnyH_take (i := 9) (oi := _) (v := ?_) rfl (by kernel_rfl) (by kernel_rfl) (by kernel_rfl) (fun _ _ _ h => h) (Or.inl ⟨?_, ?_⟩) hH0 ?_
   rotate_left
   ·kernel_rfl
   ·(intro W' _; go_simp; (try with_reducible rfl))
   (try simp only [List.getElem_toArray, List.getElem_cons_succ, List.getElem_cons_zero, Act.put, List.setIfInBounds_toArray, List.set_cons_succ, List.set_cons_zero])
   refine wpAnyH_take (i := 10) (oi := _) (v := ?_) rfl (by kernel_rfl) (by kernel_rfl) (by kernel_rfl) (fun _ _ _ h => h) (Or.inl ⟨?_, ?_⟩) hH0 ?_
   rotate_left
   ·kernel_rfl
   ·(intro W' hSw; have f1 := keepc hSw x1; have f2 := keepc hSw m2; go_simp; (try with_reducible rfl))
   (try simp only [List.getElem_toArray, List.getElem_cons_succ, List.getElem_cons_zero, Act.put, List.setIfInBounds_toArray, List.set_cons_succ, List.set_cons_zero])
   refine wpAnyH_take (i := 11) (oi := _) (v := ?_) rfl (by kernel_rfl) (by kernel_rfl) (by kernel_rfl) (fun _ _ _ h => h) (Or.inl ⟨?_, ?_⟩) hH0 ?_
   rotate_left
   ·kernel_rfl
   ·(intro W' _; go_simp; (try with_reducible rfl))
   (try simp only [List.getElem_toArray, List.getElem_cons_succ, List.getElem_cons_zero, Act.put, List.setIfInBounds_toArray, List.set_cons_succ, List.set_cons_zero])
   refine wpAnyH_take (i := 12) (oi := _) (v := ?_) rfl (by kernel_rfl) (by kernel_rfl) (by kernel_rfl) (fun _ _ _ h => h) (Or.inl ⟨?_, ?_⟩) hH0 ?_
   rotate_left
   ·kernel_rfl
   ·(intro W' hSw; have f1 := keepc hSw x1; have f2 := keepc hSw m2; go_simp; (try with_reducible rfl))
   (try simp only [List.getElem_toArray, List.getElem_cons_succ, List.getElem_cons_zero, Act.put, List.setIfInBounds_toArray, List.set_cons_succ, List.set_cons_zero])
   refine wpAnyH_take (i := 13) (oi := _) (v := ?_) rfl (by kernel_rfl) (by kernel_rfl) (by kernel_rfl) (fun _ _ _ h => h) (Or.inl ⟨?_, ?_⟩) hH0 ?_
   rotate_left
   ·kernel_rfl
   ·(intro W' _; go_simp; (try simp only [dd1, dd2]); (try with_reducible rfl))
   (try simp only [List.getElem_toArray, List.getElem_cons_succ, List.getElem_cons_zero, Act.put, List.setIfInBounds_toArray, List.set_cons_succ, List.set_cons_zero])
   refine wpAnyH_take (i := 14) (oi := _) (v := ?_) rfl (by kernel_rfl) (by kernel_rfl) (by kernel_rfl) (fun _ _ _ h => h) (Or.inl ⟨?_, ?_⟩) hH0 ?_
   rotate_left
   ·kernel_rfl
   ·(intro W' _; go_simp; (try simp only [dd1, dd2]); (try with_reducible rfl))
   (try simp only [List.getElem_toArray, List.getElem_cons_succ, List.getElem_cons_zero, Act.put, List.setIfInBounds_toArray, List.set_cons_succ, List.set_cons_zero])
   refine wpAnyH_take (i := 15) (oi := _) (v := ?_) rfl (by kernel_rfl) (by kernel_rfl) (by kernel_rfl) (fun _ _ _ h => h) (Or.inl ⟨?_, ?_⟩) hH0 ?_
   rotate_left
   ·kernel_rfl
   ·(intro W' _; go_simp; (try simp only [dd1, dd2]); (try with_reducible rfl))
   (try simp only [List.getElem_toArray, List.getElem_cons_succ, List.getElem_cons_zero, Act.put, List.setIfInBounds_toArray, List.set_cons_succ, List.set_cons_zero])
   refine wpAnyH_take (i := 16) (oi := _) (v := ?_) rfl (by kernel_rfl) (by kernel_rfl) (by kernel_rfl) (fun _ _ _ h => h) (Or.inl ⟨?_, ?_⟩) hH0 ?_
   rotate_left
   ·kernel_rfl
   ·(intro W' _; go_simp; (try with_reducible rfl))
   (try simp only [List.getElem_toArray, List.getElem_cons_succ, List.getElem_cons_zero, Act.put, List.setIfInBounds_toArray, List.set_cons_succ, List.set_cons_zero])
   refine wpAnyH_take (i := 17) (oi := _) (v := ?_) rfl (by kernel_rfl) (by kernel_rfl) (by kernel_rfl) (fun _ _ _ h => h) (Or.inl ⟨?_, ?_⟩) hH0 ?_
   rotate_left
   ·kernel_rfl
   ·(intro W' _; go_simp; (try with_reducible rfl))
   (try simp only [List.getElem_toArray, List.getElem_cons_succ, List.getElem_cons_zero, Act.put, List.setIfInBounds_toArray, List.set_cons_succ, List.set_cons_zero])
   refine wpAnyH_done (by kernel_rfl) ?_ _
   go_wp2_with fail
   go_ret2
   have HBB := btr HB1.out (bdr (bref w1))
   exact ⟨_, rfl, (fun m hm => by cases hm; exact ⟨some ⟨g1, 0, none⟩, c1, by rw [List.length_take, HN.out, Nat.min_eq_left (by have := HNK.out; omega)]; first | rfl | simp, (HL1.out.keep (bdr (bref _))).take k (by rw [HN.out]; have := HNK.out; omega), fun q hq => by have := HX1.out q hq; omega⟩), HBB⟩
  ·have dd2 : decide (a ≤ (cn : Int)) = false := decide_eq_false hb2
   have hA : aft vs cn i (5, a, 0) l = none := by unfold aft; rw [if_neg (by show ¬ (5 : Int) = 1; decide), if_neg (by show ¬ (0 : Int) ≠ 0; decide), if_neg (by show ¬ (5 : Int) = 2; decide), if_neg (by show ¬ (5 : Int) = 3; decide), if_neg (by show ¬ (5 : Int) = 4; decide), if_pos rfl, if_neg (by rintro ⟨_, e⟩; have e9 : (i : Int) < a ∧ a ≤ (cn : Int) := e; omega)]
   rw [hA]
   clear hA
   go_enter Tryz.func62, Tryz.ntmps62
   go_wp2_with (at_builtin; refine wpList_app_ints rfl (.tmp 19) (.tmp 20) rfl rfl (w.heap.size + 2) _ [] rfl HO.out ao n c l rfl HN.out HT.out HNL.out (by have := HN.out; simp; omega) (by simp) ?_; intro v1 w1 o1 b1; obtain ⟨ao1, c1, rfl, hl1, hb1, HBw, x0, x1, x2, m1, m2, hsz⟩ := FX.out v1 w1 o1 b1; have HO1 := Lib.hid o1; have HL1 := Lib.hid hl1; have HX1 := Lib.hid hb1; have HB1 := Lib.hid HBw; rw [List.nil_append] at HO1 HL1; clear o1 b1 hl1 hb1 HBw; refine Hid.out ?_)
   obtain ⟨g1, cc, eg, hcap⟩ := HO1.out.pos (by rw [HN.out]; have := HNK.out; omega)
   rw [HN.out] at eg hcap
   cases eg
   obtain ⟨b9, o9, e9, _, y0⟩ := HL1.out.ints k (by rw [HN.out]; have := HNK.out; omega)
   cases e9
   rw [HY.out, Nat.zero_add] at y0
   have hk := HNK.out
   have hnc : (n : Int) ≤ (c1 : Int) := by omega
   have hkc : (k : Int) ≤ (c1 : Int) := by omega
   clear hk
   refine Lib.hid ?_
   go_wp2_with fail
   refine wp_region_held_drew (S := (fun W => Below w1.heap.size w1 W)) (by kernel_rfl) (bdr (bref _)) (fun hH0 => ?_)
   refine wpAnyH_take (i := 0) (oi := _) (v := ?_) rfl (by kernel_rfl) (by kernel_rfl) (by kernel_rfl) (fun _ _ _ h => h) (Or.inl ⟨?_, ?_⟩) hH0 ?_
   rotate_left
   ·kernel_rfl
   ·(intro W' _; go_simp; (try with_reducible rfl))
   (try simp only [List.getElem_toArray, List.getElem_cons_zero, Act.put, List.setIfInBounds_toArray, List.set_cons_succ, List.set_cons_zero])
   refine wpAnyH_take (i := 1) (oi := _) (v := ?_) rfl (by kernel_rfl) (by kernel_rfl) (by kernel_rfl) (fun _ _ _ h => h) (Or.inl ⟨?_, ?_⟩) hH0 ?_
   rotate_left
   ·kernel_rfl
   ·(intro W' _; go_simp; (try with_reducible rfl))
   (try simp only [List.getElem_toArray, List.getElem_cons_succ, List.getElem_cons_zero, Act.put, List.setIfInBounds_toArray, List.set_cons_succ, List.set_cons_zero])
   refine wpAnyH_take (i := 2) (oi := _) (v := ?_) rfl (by kernel_rfl) (by kernel_rfl) (by kernel_rfl) (fun _ _ _ h => h) (Or.inl ⟨?_, ?_⟩) hH0 ?_
   rotate_left
   ·kernel_rfl
   ·(intro W' _; go_simp; (try simp only [dd1, dd2]); (try with_reducible rfl))
   (try simp only [List.getElem_toArray, List.getElem_cons_succ, List.getElem_cons_zero, Act.put, List.setIfInBounds_toArray, List.set_cons_succ, List.set_cons_zero])
   refine wpAnyH_take (i := 3) (oi := _) (v := ?_) rfl (by kernel_rfl) (by kernel_rfl) (by kernel_rfl) (fun _ _ _ h => h) (Or.inl ⟨?_, ?_⟩) hH0 ?_
   rotate_left
   ·kernel_rfl
   ·(intro W' _; go_simp; (try with_reducible rfl))
   (try simp only [List.getElem_toArray, List.getElem_cons_succ, List.getElem_cons_zero, Act.put, List.setIfInBounds_toArray, List.set_cons_succ, List.set_cons_zero])
   refine wpAnyH_take (i := 4) (oi := _) (v := ?_) rfl (by kernel_rfl) (by kernel_rfl) (by kernel_rfl) (fun _ _ _ h => h) (Or.inl ⟨?_, ?_⟩) hH0 ?_
   rotate_left
   ·kernel_rfl
   ·(intro W' _; go_simp; (try with_reducible rfl))
   (try simp only [List.getElem_toArray, List.getElem_cons_succ, List.getElem_cons_zero, Act.put, List.setIfInBounds_toArray, List.set_cons_succ, List.set_cons_zero])
   refine wpAnyH_take (i := 5) (oi := _) (v := ?_) rfl (by kernel_rfl) (by kernel_rfl) (by kernel_rfl) (fun _ _ _ h => h) (Or.inl ⟨?_, ?_⟩) hH0 ?_
   rotate_left
   ·kernel_rfl
   ·(intro W' hSw; have f1 := keepc hSw x1; have f2 := keepc hSw m2; go_simp; (try with_reducible rfl))
   (try simp only [List.getElem_toArray, List.getElem_cons_succ, List.getElem_cons_zero, Act.put, List.setIfInBounds_toArray, List.set_cons_succ, List.set_cons_zero])
   refine wpAnyH_take (i := 6) (oi := _) (v := ?_) rfl (by kernel_rfl) (by kernel_rfl) (by kernel_rfl) (fun _ _ _ h => h) (Or.inl ⟨?_, ?_⟩) hH0 ?_
   rotate_left
   ·kernel_rfl
   ·(intro W' _; go_simp; (try with_reducible rfl))
   (try simp only [List.getElem_toArray, List.getElem_cons_succ, List.getElem_cons_zero, Act.put, List.setIfInBounds_toArray, List.set_cons_succ, List.set_cons_zero])
   refine wpAnyH_take (i := 7) (oi := _) (v := ?_) rfl (by kernel_rfl) (by kernel_rfl) (by kernel_rfl) (fun _ _ _ h => h) (Or.inl ⟨?_, ?_⟩) hH0 ?_
   rotate_left
   ·kernel_rfl
   ·(intro W' _; go_simp; (try simp only [dd1, dd2]); (try with_reducible rfl))
   (try simp only [List.getElem_toArray, List.getElem_cons_succ, List.getElem_cons_zero, Act.put, List.setIfInBounds_toArray, List.set_cons_succ, List.set_cons_zero])
   refine wpAnyH_take (i := 8) (oi := _) (v := ?_) rfl (by kernel_rfl) (by kernel_rfl) (by kernel_rfl) (fun _ _ _ h => h) (Or.inl ⟨?_, ?_⟩) hH0 ?_
   rotate_left
   ·kernel_rfl
   ·(intro W' _; go_simp; (try with_reducible rfl))
   (try simp only [List.getElem_toArray, List.getElem_cons_succ, List.getElem_cons_zero, Act.put, List.setIfInBounds_toArray, List.set_cons_succ, List.set_cons_zero])
   refine wpAnyH_take (i := 9) (oi := _) (v := ?_) rfl (by kernel_rfl) (by kernel_rfl) (by kernel_rfl) (fun _ _ _ h => h) (Or.inl ⟨?_, ?_⟩) hH0 ?_
   rotate_left
   ·kernel_rfl
   ·(intro W' _; go_simp; (try with_reducible rfl))
   (try simp only [List.getElem_toArray, List.getElem_cons_succ, List.getElem_cons_zero, Act.put, List.setIfInBounds_toArray, List.set_cons_succ, List.set_cons_zero])
   refine wpAnyH_take (i := 10) (oi := _) (v := ?_) rfl (by kernel_rfl) (by kernel_rfl) (by kernel_rfl) (fun _ _ _ h => h) (Or.inl ⟨?_, ?_⟩) hH0 ?_
   rotate_left
   ·kernel_rfl
   ·(intro W' hSw; have f1 := keepc hSw x1; have f2 := keepc hSw m2; go_simp; (try with_reducible rfl))
   (try simp only [List.getElem_toArray, List.getElem_cons_succ, List.getElem_cons_zero, Act.put, List.setIfInBounds_toArray, List.set_cons_succ, List.set_cons_zero])
   refine wpAnyH_take (i := 11) (oi := _) (v := ?_) rfl (by kernel_rfl) (by kernel_rfl) (by kernel_rfl) (fun _ _ _ h => h) (Or.inl ⟨?_, ?_⟩) hH0 ?_
   rotate_left
   ·kernel_rfl
   ·(intro W' _; go_simp; (try with_reducible rfl))
   (try simp only [List.getElem_toArray, List.getElem_cons_succ, List.getElem_cons_zero, Act.put, List.setIfInBounds_toArray, List.set_cons_succ, List.set_cons_zero])
   refine wpAnyH_take (i := 12) (oi := _) (v := ?_) rfl (by kernel_rfl) (by kernel_rfl) (by kernel_rfl) (fun _ _ _ h => h) (Or.inl ⟨?_, ?_⟩) hH0 ?_
   rotate_left
   ·kernel_rfl
   ·(intro W' hSw; have f1 := keepc hSw x1; have f2 := keepc hSw m2; go_simp; (try with_reducible rfl))
   (try simp only [List.getElem_toArray, List.getElem_cons_succ, List.getElem_cons_zero, Act.put, List.setIfInBounds_toArray, List.set_cons_succ, List.set_cons_zero])
   refine wpAnyH_take (i := 13) (oi := _) (v := ?_) rfl (by kernel_rfl) (by kernel_rfl) (by kernel_rfl) (fun _ _ _ h => h) (Or.inl ⟨?_, ?_⟩) hH0 ?_
   rotate_left
   ·kernel_rfl
   ·(intro W' _; go_simp; (try simp only [dd1, dd2]); (try with_reducible rfl))
   (try simp only [List.getElem_toArray, List.getElem_cons_succ, List.getElem_cons_zero, Act.put, List.setIfInBounds_toArray, List.set_cons_succ, List.set_cons_zero])
   refine wpAnyH_take (i := 14) (oi := _) (v := ?_) rfl (by kernel_rfl) (by kernel_rfl) (by kernel_rfl) (fun _ _ _ h => h) (Or.inl ⟨?_, ?_⟩) hH0 ?_
   rotate_left
   ·kernel_rfl
   ·(intro W' _; go_simp; (try simp only [dd1, dd2]); (try with_reducible rfl))
   (try simp only [List.getElem_toArray, List.getElem_cons_succ, List.getElem_cons_zero, Act.put, List.setIfInBounds_toArray, List.set_cons_succ, List.set_cons_zero])
   refine wpAnyH_take (i := 15) (oi := _) (v := ?_) rfl (by kernel_rfl) (by kernel_rfl) (by kernel_rfl) (fun _ _ _ h => h) (Or.inl ⟨?_, ?_⟩) hH0 ?_
   rotate_left
   ·kernel_rfl
   ·(intro W' _; go_simp; (try simp only [dd1, dd2]); (try with_reducible rfl))
   (try simp only [List.getElem_toArray, List.getElem_cons_succ, List.getElem_cons_zero, Act.put, List.setIfInBounds_toArray, List.set_cons_succ, List.set_cons_zero])
   refine wpAnyH_take (i := 16) (oi := _) (v := ?_) rfl (by kernel_rfl) (by kernel_rfl) (by kernel_rfl) (fun _ _ _ h => h) (Or.inl ⟨?_, ?_⟩) hH0 ?_
   rotate_left
   ·kernel_rfl
   ·(intro W' _; go_simp; (try with_reducible rfl))
   (try simp only [List.getElem_toArray, List.getElem_cons_succ, List.getElem_cons_zero, Act.put, List.setIfInBounds_toArray, List.set_cons_succ, List.set_cons_zero])
   refine wpAnyH_take (i := 17) (oi := _) (v := ?_) rfl (by kernel_rfl) (by kernel_rfl) (by kernel_rfl) (fun _ _ _ h => h) (Or.inl ⟨?_, ?_⟩) hH0 ?_
   rotate_left
   ·kernel_rfl
   ·(intro W' _; go_simp; (try with_reducible rfl))
   (try simp only [List.getElem_toArray, List.getElem_cons_succ, List.getElem_cons_zero, Act.put, List.setIfInBounds_toArray, List.set_cons_succ, List.set_cons_zero])
   refine wpAnyH_done (by kernel_rfl) ?_ _
   go_wp2_with fail
   go_ret2
   have HBB := btr HB1.out (bdr (bref w1))
   exact ⟨_, rfl, (fun m hm => by cases hm), HBB⟩
 ·have dd1 : decide ((i : Int) < a) = false := decide_eq_false ha
  have hA : aft vs cn i (5, a, 0) l = none := by unfold aft; rw [if_neg (by show ¬ (5 : Int) = 1; decide), if_neg (by show ¬ (0 : Int) ≠ 0; decide), if_neg (by show ¬ (5 : Int) = 2; decide), if_neg (by show ¬ (5 : Int) = 3; decide), if_neg (by show ¬ (5 : Int) = 4; decide), if_pos rfl, if_neg (by rintro ⟨_, e⟩; have e9 : (i : Int) < a ∧ a ≤ (cn : Int) := e; omega)]
  rw [hA]
  clear hA
  go_enter Tryz.func62, Tryz.ntmps62
  go_wp2_with (at_builtin; refine wpList_app_ints rfl (.tmp 19) (.tmp 20) rfl rfl (w.heap.size + 2) _ [] rfl HO.out ao n c l rfl HN.out HT.out HNL.out (by have := HN.out; simp; omega) (by simp) ?_; intro v1 w1 o1 b1; obtain ⟨ao1, c1, rfl, hl1, hb1, HBw, x0, x1, x2, m1, m2, hsz⟩ := FX.out v1 w1 o1 b1; have HO1 := Lib.hid o1; have HL1 := Lib.hid hl1; have HX1 := Lib.hid hb1; have HB1 := Lib.hid HBw; rw [List.nil_append] at HO1 HL1; clear o1 b1 hl1 hb1 HBw; refine Hid.out ?_)
  obtain ⟨g1, cc, eg, hcap⟩ := HO1.out.pos (by rw [HN.out]; have := HNK.out; omega)
  rw [HN.out] at eg hcap
  cases eg
  obtain ⟨b9, o9, e9, _, y0⟩ := HL1.out.ints k (by rw [HN.out]; have := HNK.out; omega)
  cases e9
  rw [HY.out, Nat.zero_add] at y0
  have hk := HNK.out
  have hnc : (n : Int) ≤ (c1 : Int) := by omega
  have hkc : (k : Int) ≤ (c1 : Int) := by omega
  clear hk
  refine Lib.hid ?_
  go_wp2_with fail
  refine wp_region_held_drew (S := (fun W => Below w1.heap.size w1 W)) (by kernel_rfl) (bdr (bref _)) (fun hH0 => ?_)
  refine wpAnyH_take (i := 0) (oi := _) (v := ?_) rfl (by kernel_rfl) (by kernel_rfl) (by kernel_rfl) (fun _ _ _ h => h) (Or.inl ⟨?_, ?_⟩) hH0 ?_
  rotate_left
  ·kernel_rfl
  ·(intro W' _; go_simp; (try with_reducible rfl))
  (try simp only [List.getElem_toArray, List.getElem_cons_zero, Act.put, List.setIfInBounds_toArray, List.set_cons_succ, List.set_cons_zero])
  refine wpAnyH_take (i := 1) (oi := _) (v := ?_) rfl (by kernel_rfl) (by kernel_rfl) (by kernel_rfl) (fun _ _ _ h => h) (Or.inl ⟨?_, ?_⟩) hH0 ?_
  rotate_left
  ·kernel_rfl
  ·(intro W' _; go_simp; (try with_reducible rfl))
  (try simp only [List.getElem_toArray, List.getElem_cons_succ, List.getElem_cons_zero, Act.put, List.setIfInBounds_toArray, List.set_cons_succ, List.set_cons_zero])
  refine wpAnyH_take (i := 2) (oi := _) (v := ?_) rfl (by kernel_rfl) (by kernel_rfl) (by kernel_rfl) (fun _ _ _ h => h) (Or.inl ⟨?_, ?_⟩) hH0 ?_
  rotate_left
  ·kernel_rfl
  ·(intro W' _; go_simp; (try simp only [dd1, dd2]); (try with_reducible rfl))
  (try simp only [List.getElem_toArray, List.getElem_cons_succ, List.getElem_cons_zero, Act.put, List.setIfInBounds_toArray, List.set_cons_succ, List.set_cons_zero])
  refine wpAnyH_take (i := 3) (oi := _) (v := ?_) rfl (by kernel_rfl) (by kernel_rfl) (by kernel_rfl) (fun _ _ _ h => h) (Or.inl ⟨?_, ?_⟩) hH0 ?_
  rotate_left
  ·kernel_rfl
  ·(intro W' _; go_simp; (try with_reducible rfl))
  (try simp only [List.getElem_toArray, List.getElem_cons_succ, List.getElem_cons_zero, Act.put, List.setIfInBounds_toArray, List.set_cons_succ, List.set_cons_zero])
  refine wpAnyH_take (i := 4) (oi := _) (v := ?_) rfl (by kernel_rfl) (by kernel_rfl) (by kernel_rfl) (fun _ _ _ h => h) (Or.inl ⟨?_, ?_⟩) hH0 ?_
  rotate_left
  ·kernel_rfl
  ·(intro W' _; go_simp; (try with_reducible rfl))
  (try simp only [List.getElem_toArray, List.getElem_cons_succ, List.getElem_cons_zero, Act.put, List.setIfInBounds_toArray, List.set_cons_succ, List.set_cons_zero])
  refine wpAnyH_take (i := 5) (oi := _) (v := ?_) rfl (by kernel_rfl) (by kernel_rfl) (by kernel_rfl) (fun _ _ _ h => h) (Or.inl ⟨?_, ?_⟩) hH0 ?_
  rotate_left
  ·kernel_rfl
  ·(intro W' hSw; have f1 := keepc hSw x1; have f2 := keepc hSw m2; go_simp; (try with_reducible rfl))
  (try simp only [List.getElem_toArray, List.getElem_cons_succ, List.getElem_cons_zero, Act.put, List.setIfInBounds_toArray, List.set_cons_succ, List.set_cons_zero])
  refine wpAnyH_take (i := 6) (oi := _) (v := ?_) rfl (by kernel_rfl) (by kernel_rfl) (by kernel_rfl) (fun _ _ _ h => h) (Or.inl ⟨?_, ?_⟩) hH0 ?_
  rotate_left
  ·kernel_rfl
  ·(intro W' _; go_simp; (try with_reducible rfl))
  (try simp only [List.getElem_toArray, List.getElem_cons_succ, List.getElem_cons_zero, Act.put, List.setIfInBounds_toArray, List.set_cons_succ, List.set_cons_zero])
  refine wpAnyH_take (i := 7) (oi := _) (v := ?_) rfl (by kernel_rfl) (by kernel_rfl) (by kernel_rfl) (fun _ _ _ h => h) (Or.inl ⟨?_, ?_⟩) hH0 ?_
  rotate_left
  ·kernel_rfl
  ·(intro W' _; go_simp; (try simp only [dd1, dd2]); (try with_reducible rfl))
  (try simp only [List.getElem_toArray, List.getElem_cons_succ, List.getElem_cons_zero, Act.put, List.setIfInBounds_toArray, List.set_cons_succ, List.set_cons_zero])
  refine wpAnyH_take (i := 8) (oi := _) (v := ?_) rfl (by kernel_rfl) (by kernel_rfl) (by kernel_rfl) (fun _ _ _ h => h) (Or.inl ⟨?_, ?_⟩) hH0 ?_
  rotate_left
  ·kernel_rfl
  ·(intro W' _; go_simp; (try with_reducible rfl))
  (try simp only [List.getElem_toArray, List.getElem_cons_succ, List.getElem_cons_zero, Act.put, List.setIfInBounds_toArray, List.set_cons_succ, List.set_cons_zero])
  refine wpAnyH_take (i := 9) (oi := _) (v := undef) rfl (by kernel_rfl) (by kernel_rfl) (by kernel_rfl) (fun _ _ _ h => h) (Or.inr ⟨?_, rfl⟩) hH0 ?_
  ·kernel_rfl
  (try simp only [List.getElem_toArray, List.getElem_cons_succ, List.getElem_cons_zero, Act.put, List.setIfInBounds_toArray, List.set_cons_succ, List.set_cons_zero])
  refine wpAnyH_take (i := 10) (oi := _) (v := undef) rfl (by kernel_rfl) (by kernel_rfl) (by kernel_rfl) (fun _ _ _ h => h) (Or.inr ⟨?_, rfl⟩) hH0 ?_
  ·kernel_rfl
  (try simp only [List.getElem_toArray, List.getElem_cons_succ, List.getElem_cons_zero, Act.put, List.setIfInBounds_toArray, List.set_cons_succ, List.set_cons_zero])
  refine wpAnyH_take (i := 11) (oi := _) (v := undef) rfl (by kernel_rfl) (by kernel_rfl) (by kernel_rfl) (fun _ _ _ h => h) (Or.inr ⟨?_, rfl⟩) hH0 ?_
  ·kernel_rfl
  (try simp only [List.getElem_toArray, List.getElem_cons_succ, List.getElem_cons_zero, Act.put, List.setIfInBounds_toArray, List.set_cons_succ, List.set_cons_zero])
  refine wpAnyH_take (i := 12) (oi := _) (v := undef) rfl (by kernel_rfl) (by kernel_rfl) (by kernel_rfl) (fun _ _ _ h => h) (Or.inr ⟨?_, rfl⟩) hH0 ?_
  ·kernel_rfl
  (try simp only [List.getElem_toArray, List.getElem_cons_succ, List.getElem_cons_zero, Act.put, List.setIfInBounds_toArray, List.set_cons_succ, List.set_cons_zero])
  refine wpAnyH_take (i := 13) (oi := _) (v := undef) rfl (by kernel_rfl) (by kernel_rfl) (by kernel_rfl) (fun _ _ _ h => h) (Or.inr ⟨?_, rfl⟩) hH0 ?_
  ·kernel_rfl
  (try simp only [List.getElem_toArray, List.getElem_cons_succ, List.getElem_cons_zero, Act.put, List.setIfInBounds_toArray, List.set_cons_succ, List.set_cons_zero])
  refine wpAnyH_take (i := 14) (oi := _) (v := undef) rfl (by kernel_rfl) (by kernel_rfl) (by kernel_rfl) (fun _ _ _ h => h) (Or.inr ⟨?_, rfl⟩) hH0 ?_
  ·kernel_rfl
  (try simp only [List.getElem_toArray, List.getElem_cons_succ, List.getElem_cons_zero, Act.put, List.setIfInBounds_toArray, List.set_cons_succ, List.set_cons_zero])
  refine wpAnyH_take (i := 15) (oi := _) (v := ?_) rfl (by kernel_rfl) (by kernel_rfl) (by kernel_rfl) (fun _ _ _ h => h) (Or.inl ⟨?_, ?_⟩) hH0 ?_
  rotate_left
  ·kernel_rfl
  ·(intro W' _; go_simp; (try simp only [dd1, dd2]); (try with_reducible rfl))
  (try simp only [List.getElem_toArray, List.getElem_cons_succ, List.getElem_cons_zero, Act.put, List.setIfInBounds_toArray, List.set_cons_succ, List.set_cons_zero])
  refine wpAnyH_take (i := 16) (oi := _) (v := ?_) rfl (by kernel_rfl) (by kernel_rfl) (by kernel_rfl) (fun _ _ _ h => h) (Or.inl ⟨?_, ?_⟩) hH0 ?_
  rotate_left
  ·kernel_rfl
  ·(intro W' _; go_simp; (try with_reducible rfl))
  (try simp only [List.getElem_toArray, List.getElem_cons_succ, List.getElem_cons_zero, Act.put, List.setIfInBounds_toArray, List.set_cons_succ, List.set_cons_zero])
  refine wpAnyH_take (i := 17) (oi := _) (v := ?_) rfl (by kernel_rfl) (by kernel_rfl) (by kernel_rfl) (fun _ _ _ h => h) (Or.inl ⟨?_, ?_⟩) hH0 ?_
  rotate_left
  ·kernel_rfl
  ·(intro W' _; go_simp; (try with_reducible rfl))
  (try simp only [List.getElem_toArray, List.getElem_cons_succ, List.getElem_cons_zero, Act.put, List.setIfInBounds_toArray, List.set_cons_succ, List.set_cons_zero])
  refine wpAnyH_done (by kernel_rfl) ?_ _
  go_wp2_with fail
  go_ret2
  have HBB := btr HB1.out (bdr (bref w1))
  exact ⟨_, rfl, (fun m hm => by cases hm), HBB⟩
end Go.Proofs.YthanoilbcdhbkaaGreatDoor
