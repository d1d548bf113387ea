/-
  The examples that every statement about day counts asks: they hold (gen_fl.py writes this text).
-/
import Derived.Test.YtnhealjngkhinaaDoorFC
import Derived.Deep.RegionHeld3
import Derived.StillTactics
namespace Go.Proofs.YtnhealjngkhinaaDoor
open Go Go.RowKit Go.Lib WM

theorem Ln.al {w : World} (h : Ln w) (o : Obj) : Ln (w.alloc o) := h.keep (bal (bref w) o)
/-- A box, and nothing below has changed. -/
def Kg (b : Nat) (x y : Value) (w : World) (W : World) : Prop := Own W b x y ∧ Below w.heap.size w W
theorem Kg.keep {b : Nat} {x y : Value} {w W W1 : World} (h : Kg b x y w W) (hk : Below W.heap.size W W1) : Kg b x y w W1 := ⟨h.1.keep hk, btr h.2 hk⟩
theorem ex1 : wH (inV 100000 15000 2 0 1) = 0 ∧ wL (inV 100000 15000 2 0 1) = 6588000000000 ∧ inE 100000 15000 2 0 1 = 0 := by decide +kernel
theorem ex2 : thI 30 59 = 29 ∧ thI 59 60 = 2 := by decide +kernel
theorem ex3 : wtI 3 0 = 4380 ∧ wtI 3 366 = 4392 := by decide +kernel
theorem ex4 : smI 1 3 5 = 8906 := by decide +kernel
theorem ex5 : wH 6588000000000 = 0 ∧ wL 6588000000000 = 6588000000000 := by decide +kernel
theorem ex6 : bsB 4 = true := by decide +kernel
theorem l1 (w : World) (hL : Ln w) : Calls Tryd.prog 28 #[.int .i64 100000, .int .i64 15000, .int .i64 2, .int .i64 0, .int .i64 1] w fun e w' => e = .returned (.tuple #[.agg #[.int .i64 0, .int .u64 6588000000000], .int .i64 0]) ∧ Below w.heap.size w w' :=
  (minterest 100000 15000 2 0 1 w hL).mono fun e w' ⟨he, hb⟩ => ⟨by rw [ex1.1, ex1.2.1, ex1.2.2] at he; exact he, hb⟩
theorem l2 (w : World) (hL : Ln w) : Calls Tryd.prog 22 #[.int .i64 30, .int .i64 59] w fun e w' => e = .returned (.int .i64 29) ∧ w = w' :=
  (mthirty 30 59 w hL).mono fun e w' ⟨he, hb⟩ => ⟨by rw [ex2.1] at he; exact he, hb⟩
theorem l3 (w : World) (hL : Ln w) : Calls Tryd.prog 22 #[.int .i64 59, .int .i64 60] w fun e w' => e = .returned (.int .i64 2) ∧ w = w' :=
  (mthirty 59 60 w hL).mono fun e w' ⟨he, hb⟩ => ⟨by rw [ex2.2] at he; exact he, hb⟩
theorem l4 (w : World) (hL : Ln w) : Calls Tryd.prog 19 #[.int .i64 3, .int .i64 0] w fun e w' => e = .returned (.int .i64 4380) ∧ w = w' :=
  (mweight 3 0 w hL).mono fun e w' ⟨he, hb⟩ => ⟨by rw [ex3.1] at he; exact he, hb⟩
theorem l5 (w : World) (hL : Ln w) : Calls Tryd.prog 19 #[.int .i64 3, .int .i64 366] w fun e w' => e = .returned (.int .i64 4392) ∧ w = w' :=
  (mweight 3 366 w hL).mono fun e w' ⟨he, hb⟩ => ⟨by rw [ex3.2] at he; exact he, hb⟩
theorem l6 (w : World) (hL : Ln w) : Calls Tryd.prog 25 #[.int .i64 1, .int .i64 3, .int .i64 5] w fun e w' => e = .returned (.int .i64 8906) ∧ w = w' :=
  (msum 1 3 5 w hL).mono fun e w' ⟨he, hb⟩ => ⟨by rw [ex4] at he; exact he, hb⟩
theorem l7 (w : World) : Calls Tryd.prog 48 #[.int .i64 6588000000000] w fun e w' => e = .returned (.agg #[.int .i64 0, .int .u64 6588000000000]) ∧ Below w.heap.size w w' :=
  (rof_any 6588000000000 (by unfold I64; omega) w).mono fun e w' ⟨he, hb⟩ => ⟨by rw [ex5.1, ex5.2] at he; exact he, hb⟩
theorem l8 (w : World) : Calls Tryd.prog 17 #[.int .i64 4] w fun e w' => e = .returned (.bool true) ∧ w = w' :=
  (mbasis 4 w).mono fun e w' ⟨he, hb⟩ => ⟨by rw [ex6] at he; exact he, hb⟩

set_option maxRecDepth 100000 in
set_option maxHeartbeats 4000000 in
theorem live_any (w : World) (hL : Ln w) : Calls Tryd.prog 21 #[] w fun e w' => e = .returned (.bool true) ∧ Below w.heap.size w w' := by
  go_enter Tryd.func21, Tryd.ntmps21
  go_wp2_with fail
  refine (l1 _ hL).mono ?_
  rintro e w1 ⟨rfl, q1⟩
  have h1 := hL.keep q1
  go_wp2_with fail

  have X1 := Own.new w1 (.int .i64 0) (.int .u64 6588000000000) 24
  refine wp_region_held_drew (S := (Kg w1.heap.size (.int .i64 0) (.int .u64 6588000000000) w)) (by kernel_rfl) ⟨Own.dr X1, bdr (bal q1 _)⟩ (fun hH0 => ?_)
  refine wpAnyH_ready (rs := [0]) (by kernel_rfl) (by simp) ?_
  refine AllReadyH.cons (o := _) rfl (fun K hK => ?_) AllReadyH.nil
  go_simp
  refine (l2 _ (hL.keep hH0.2)).mono ?_
  rintro e _ ⟨rfl, rfl⟩
  refine hK.out _ _ (hH0.keep (bref _)) (fun hH1 => ?_)
  clear hK K
  (try simp only [List.getElem_toArray])
  (try simp only [List.getElem_cons_succ])
  (try simp only [List.getElem_cons_zero])
  (try simp only [Act.put])
  (try simp only [List.setIfInBounds_toArray])
  (try simp only [List.set_cons_succ])
  (try simp only [List.set_cons_zero])
  refine wpAnyH_take (i := 1) (oi := _) (v := ?_) rfl (by kernel_rfl) (by kernel_rfl) (by kernel_rfl) (fun _ _ _ h => h) (Or.inl ⟨?_, ?_⟩) hH1 ?_
  rotate_left
  · kernel_rfl
  · (intro W' hSw; obtain ⟨⟨s0, s1, s2, s3⟩, s5⟩ := hSw; go_simp; (try with_reducible rfl))
  (try simp only [List.getElem_toArray])
  (try simp only [List.getElem_cons_succ])
  (try simp only [List.getElem_cons_zero])
  (try simp only [Act.put])
  (try simp only [List.setIfInBounds_toArray])
  (try simp only [List.set_cons_succ])
  (try simp only [List.set_cons_zero])
  refine wpAnyH_take (i := 2) (oi := _) (v := ?_) rfl (by kernel_rfl) (by kernel_rfl) (by kernel_rfl) (fun _ _ _ h => h) (Or.inl ⟨?_, ?_⟩) hH1 ?_
  rotate_left
  · kernel_rfl
  · (intro W' hSw; obtain ⟨⟨s0, s1, s2, s3⟩, s5⟩ := hSw; go_simp; (try with_reducible rfl))
  (try simp only [List.getElem_toArray])
  (try simp only [List.getElem_cons_succ])
  (try simp only [List.getElem_cons_zero])
  (try simp only [Act.put])
  (try simp only [List.setIfInBounds_toArray])
  (try simp only [List.set_cons_succ])
  (try simp only [List.set_cons_zero])
  refine wpAnyH_ready (rs := [3]) (by kernel_rfl) (by simp) ?_
  refine AllReadyH.cons (o := _) rfl (fun K hK => ?_) AllReadyH.nil
  go_simp
  refine (l3 _ (hL.keep hH1.2)).mono ?_
  rintro e _ ⟨rfl, rfl⟩
  refine hK.out _ _ (hH1.keep (bref _)) (fun hH2 => ?_)
  clear hK K
  (try simp only [List.getElem_toArray])
  (try simp only [List.getElem_cons_succ])
  (try simp only [List.getElem_cons_zero])
  (try simp only [Act.put])
  (try simp only [List.setIfInBounds_toArray])
  (try simp only [List.set_cons_succ])
  (try simp only [List.set_cons_zero])
  refine wpAnyH_take (i := 4) (oi := _) (v := ?_) rfl (by kernel_rfl) (by kernel_rfl) (by kernel_rfl) (fun _ _ _ h => h) (Or.inl ⟨?_, ?_⟩) hH2 ?_
  rotate_left
  · kernel_rfl
  · (intro W' hSw; obtain ⟨⟨s0, s1, s2, s3⟩, s5⟩ := hSw; go_simp; (try with_reducible rfl))
  (try simp only [List.getElem_toArray])
  (try simp only [List.getElem_cons_succ])
  (try simp only [List.getElem_cons_zero])
  (try simp only [Act.put])
  (try simp only [List.setIfInBounds_toArray])
  (try simp only [List.set_cons_succ])
  (try simp only [List.set_cons_zero])
  refine wpAnyH_take (i := 5) (oi := _) (v := ?_) rfl (by kernel_rfl) (by kernel_rfl) (by kernel_rfl) (fun _ _ _ h => h) (Or.inl ⟨?_, ?_⟩) hH2 ?_
  rotate_left
  · kernel_rfl
  · (intro W' hSw; obtain ⟨⟨s0, s1, s2, s3⟩, s5⟩ := hSw; go_simp; (try with_reducible rfl))
  (try simp only [List.getElem_toArray])
  (try simp only [List.getElem_cons_succ])
  (try simp only [List.getElem_cons_zero])
  (try simp only [Act.put])
  (try simp only [List.setIfInBounds_toArray])
  (try simp only [List.set_cons_succ])
  (try simp only [List.set_cons_zero])
  refine wpAnyH_take (i := 6) (oi := _) (v := ?_) rfl (by kernel_rfl) (by kernel_rfl) (by kernel_rfl) (fun _ _ _ h => h) (Or.inl ⟨?_, ?_⟩) hH2 ?_
  rotate_left
  · kernel_rfl
  · (intro W' hSw; obtain ⟨⟨s0, s1, s2, s3⟩, s5⟩ := hSw; go_simp; (try with_reducible rfl))
  (try simp only [List.getElem_toArray])
  (try simp only [List.getElem_cons_succ])
  (try simp only [List.getElem_cons_zero])
  (try simp only [Act.put])
  (try simp only [List.setIfInBounds_toArray])
  (try simp only [List.set_cons_succ])
  (try simp only [List.set_cons_zero])
  refine wpAnyH_ready (rs := [7]) (by kernel_rfl) (by simp) ?_
  refine AllReadyH.cons (o := _) rfl (fun K hK => ?_) AllReadyH.nil
  go_simp
  refine (l4 _ (hL.keep hH2.2)).mono ?_
  rintro e _ ⟨rfl, rfl⟩
  refine hK.out _ _ (hH2.keep (bref _)) (fun hH3 => ?_)
  clear hK K
  (try simp only [List.getElem_toArray])
  (try simp only [List.getElem_cons_succ])
  (try simp only [List.getElem_cons_zero])
  (try simp only [Act.put])
  (try simp only [List.setIfInBounds_toArray])
  (try simp only [List.set_cons_succ])
  (try simp only [List.set_cons_zero])
  refine wpAnyH_take (i := 8) (oi := _) (v := ?_) rfl (by kernel_rfl) (by kernel_rfl) (by kernel_rfl) (fun _ _ _ h => h) (Or.inl ⟨?_, ?_⟩) hH3 ?_
  rotate_left
  · kernel_rfl
  · (intro W' hSw; obtain ⟨⟨s0, s1, s2, s3⟩, s5⟩ := hSw; go_simp; (try with_reducible rfl))
  (try simp only [List.getElem_toArray])
  (try simp only [List.getElem_cons_succ])
  (try simp only [List.getElem_cons_zero])
  (try simp only [Act.put])
  (try simp only [List.setIfInBounds_toArray])
  (try simp only [List.set_cons_succ])
  (try simp only [List.set_cons_zero])
  refine wpAnyH_take (i := 9) (oi := _) (v := ?_) rfl (by kernel_rfl) (by kernel_rfl) (by kernel_rfl) (fun _ _ _ h => h) (Or.inl ⟨?_, ?_⟩) hH3 ?_
  rotate_left
  · kernel_rfl
  · (intro W' hSw; obtain ⟨⟨s0, s1, s2, s3⟩, s5⟩ := hSw; go_simp; (try with_reducible rfl))
  (try simp only [List.getElem_toArray])
  (try simp only [List.getElem_cons_succ])
  (try simp only [List.getElem_cons_zero])
  (try simp only [Act.put])
  (try simp only [List.setIfInBounds_toArray])
  (try simp only [List.set_cons_succ])
  (try simp only [List.set_cons_zero])
  refine wpAnyH_take (i := 10) (oi := _) (v := ?_) rfl (by kernel_rfl) (by kernel_rfl) (by kernel_rfl) (fun _ _ _ h => h) (Or.inl ⟨?_, ?_⟩) hH3 ?_
  rotate_left
  · kernel_rfl
  · (intro W' hSw; obtain ⟨⟨s0, s1, s2, s3⟩, s5⟩ := hSw; go_simp; (try with_reducible rfl))
  (try simp only [List.getElem_toArray])
  (try simp only [List.getElem_cons_succ])
  (try simp only [List.getElem_cons_zero])
  (try simp only [Act.put])
  (try simp only [List.setIfInBounds_toArray])
  (try simp only [List.set_cons_succ])
  (try simp only [List.set_cons_zero])
  refine wpAnyH_ready (rs := [11]) (by kernel_rfl) (by simp) ?_
  refine AllReadyH.cons (o := _) rfl (fun K hK => ?_) AllReadyH.nil
  go_simp
  refine (l5 _ (hL.keep hH3.2)).mono ?_
  rintro e _ ⟨rfl, rfl⟩
  refine hK.out _ _ (hH3.keep (bref _)) (fun hH4 => ?_)
  clear hK K
  (try simp only [List.getElem_toArray])
  (try simp only [List.getElem_cons_succ])
  (try simp only [List.getElem_cons_zero])
  (try simp only [Act.put])
  (try simp only [List.setIfInBounds_toArray])
  (try simp only [List.set_cons_succ])
  (try simp only [List.set_cons_zero])
  refine wpAnyH_take (i := 12) (oi := _) (v := ?_) rfl (by kernel_rfl) (by kernel_rfl) (by kernel_rfl) (fun _ _ _ h => h) (Or.inl ⟨?_, ?_⟩) hH4 ?_
  rotate_left
  · kernel_rfl
  · (intro W' hSw; obtain ⟨⟨s0, s1, s2, s3⟩, s5⟩ := hSw; go_simp; (try with_reducible rfl))
  (try simp only [List.getElem_toArray])
  (try simp only [List.getElem_cons_succ])
  (try simp only [List.getElem_cons_zero])
  (try simp only [Act.put])
  (try simp only [List.setIfInBounds_toArray])
  (try simp only [List.set_cons_succ])
  (try simp only [List.set_cons_zero])
  refine wpAnyH_take (i := 13) (oi := _) (v := ?_) rfl (by kernel_rfl) (by kernel_rfl) (by kernel_rfl) (fun _ _ _ h => h) (Or.inl ⟨?_, ?_⟩) hH4 ?_
  rotate_left
  · kernel_rfl
  · (intro W' hSw; obtain ⟨⟨s0, s1, s2, s3⟩, s5⟩ := hSw; go_simp; (try with_reducible rfl))
  (try simp only [List.getElem_toArray])
  (try simp only [List.getElem_cons_succ])
  (try simp only [List.getElem_cons_zero])
  (try simp only [Act.put])
  (try simp only [List.setIfInBounds_toArray])
  (try simp only [List.set_cons_succ])
  (try simp only [List.set_cons_zero])
  refine wpAnyH_take (i := 14) (oi := _) (v := ?_) rfl (by kernel_rfl) (by kernel_rfl) (by kernel_rfl) (fun _ _ _ h => h) (Or.inl ⟨?_, ?_⟩) hH4 ?_
  rotate_left
  · kernel_rfl
  · (intro W' hSw; obtain ⟨⟨s0, s1, s2, s3⟩, s5⟩ := hSw; go_simp; (try with_reducible rfl))
  (try simp only [List.getElem_toArray])
  (try simp only [List.getElem_cons_succ])
  (try simp only [List.getElem_cons_zero])
  (try simp only [Act.put])
  (try simp only [List.setIfInBounds_toArray])
  (try simp only [List.set_cons_succ])
  (try simp only [List.set_cons_zero])
  refine wpAnyH_ready (rs := [15]) (by kernel_rfl) (by simp) ?_
  refine AllReadyH.cons (o := _) rfl (fun K hK => ?_) AllReadyH.nil
  go_simp
  refine (l6 _ (hL.keep hH4.2)).mono ?_
  rintro e _ ⟨rfl, rfl⟩
  refine hK.out _ _ (hH4.keep (bref _)) (fun hH5 => ?_)
  clear hK K
  (try simp only [List.getElem_toArray])
  (try simp only [List.getElem_cons_succ])
  (try simp only [List.getElem_cons_zero])
  (try simp only [Act.put])
  (try simp only [List.setIfInBounds_toArray])
  (try simp only [List.set_cons_succ])
  (try simp only [List.set_cons_zero])
  refine wpAnyH_take (i := 16) (oi := _) (v := ?_) rfl (by kernel_rfl) (by kernel_rfl) (by kernel_rfl) (fun _ _ _ h => h) (Or.inl ⟨?_, ?_⟩) hH5 ?_
  rotate_left
  · kernel_rfl
  · (intro W' hSw; obtain ⟨⟨s0, s1, s2, s3⟩, s5⟩ := hSw; go_simp; (try with_reducible rfl))
  (try simp only [List.getElem_toArray])
  (try simp only [List.getElem_cons_succ])
  (try simp only [List.getElem_cons_zero])
  (try simp only [Act.put])
  (try simp only [List.setIfInBounds_toArray])
  (try simp only [List.set_cons_succ])
  (try simp only [List.set_cons_zero])
  refine wpAnyH_take (i := 17) (oi := _) (v := ?_) rfl (by kernel_rfl) (by kernel_rfl) (by kernel_rfl) (fun _ _ _ h => h) (Or.inl ⟨?_, ?_⟩) hH5 ?_
  rotate_left
  · kernel_rfl
  · (intro W' hSw; obtain ⟨⟨s0, s1, s2, s3⟩, s5⟩ := hSw; go_simp; (try with_reducible rfl))
  (try simp only [List.getElem_toArray])
  (try simp only [List.getElem_cons_succ])
  (try simp only [List.getElem_cons_zero])
  (try simp only [Act.put])
  (try simp only [List.setIfInBounds_toArray])
  (try simp only [List.set_cons_succ])
  (try simp only [List.set_cons_zero])
  refine wpAnyH_take (i := 18) (oi := _) (v := ?_) rfl (by kernel_rfl) (by kernel_rfl) (by kernel_rfl) (fun _ _ _ h => h) (Or.inl ⟨?_, ?_⟩) hH5 ?_
  rotate_left
  · kernel_rfl
  · (intro W' hSw; obtain ⟨⟨s0, s1, s2, s3⟩, s5⟩ := hSw; go_simp; (try with_reducible rfl))
  (try simp only [List.getElem_toArray])
  (try simp only [List.getElem_cons_succ])
  (try simp only [List.getElem_cons_zero])
  (try simp only [Act.put])
  (try simp only [List.setIfInBounds_toArray])
  (try simp only [List.set_cons_succ])
  (try simp only [List.set_cons_zero])
  refine wpAnyH_take (i := 19) (oi := _) (v := ?_) rfl (by kernel_rfl) (by kernel_rfl) (by kernel_rfl) (fun _ _ _ h => h) (Or.inl ⟨?_, ?_⟩) hH5 ?_
  rotate_left
  · kernel_rfl
  · (intro W' hSw; obtain ⟨⟨s0, s1, s2, s3⟩, s5⟩ := hSw; go_simp; (try with_reducible rfl))
  (try simp only [List.getElem_toArray])
  (try simp only [List.getElem_cons_succ])
  (try simp only [List.getElem_cons_zero])
  (try simp only [Act.put])
  (try simp only [List.setIfInBounds_toArray])
  (try simp only [List.set_cons_succ])
  (try simp only [List.set_cons_zero])
  refine wpAnyH_ready (rs := [20]) (by kernel_rfl) (by simp) ?_
  refine AllReadyH.cons (o := _) rfl (fun K hK => ?_) AllReadyH.nil
  go_simp
  refine (l7 _).mono ?_
  rintro e W20 ⟨rfl, hk⟩
  refine hK.out _ _ (hH5.keep hk) (fun hH6 => ?_)
  clear hK K
  (try simp only [List.getElem_toArray])
  (try simp only [List.getElem_cons_succ])
  (try simp only [List.getElem_cons_zero])
  (try simp only [Act.put])
  (try simp only [List.setIfInBounds_toArray])
  (try simp only [List.set_cons_succ])
  (try simp only [List.set_cons_zero])
  refine wpAnyH_take (i := 21) (oi := _) (v := ?_) rfl (by kernel_rfl) (by kernel_rfl) (by kernel_rfl) (fun _ _ _ h => h) (Or.inl ⟨?_, ?_⟩) hH6 ?_
  rotate_left
  · kernel_rfl
  · (intro W' hSw; obtain ⟨⟨s0, s1, s2, s3⟩, s5⟩ := hSw; go_simp; (try with_reducible rfl))
  (try simp only [List.getElem_toArray])
  (try simp only [List.getElem_cons_succ])
  (try simp only [List.getElem_cons_zero])
  (try simp only [Act.put])
  (try simp only [List.setIfInBounds_toArray])
  (try simp only [List.set_cons_succ])
  (try simp only [List.set_cons_zero])
  refine wpAnyH_take (i := 22) (oi := _) (v := ?_) rfl (by kernel_rfl) (by kernel_rfl) (by kernel_rfl) (fun _ _ _ h => h) (Or.inl ⟨?_, ?_⟩) hH6 ?_
  rotate_left
  · kernel_rfl
  · (intro W' hSw; obtain ⟨⟨s0, s1, s2, s3⟩, s5⟩ := hSw; go_simp; (try with_reducible rfl))
  (try simp only [List.getElem_toArray])
  (try simp only [List.getElem_cons_succ])
  (try simp only [List.getElem_cons_zero])
  (try simp only [Act.put])
  (try simp only [List.setIfInBounds_toArray])
  (try simp only [List.set_cons_succ])
  (try simp only [List.set_cons_zero])
  refine wpAnyH_take (i := 23) (oi := _) (v := ?_) rfl (by kernel_rfl) (by kernel_rfl) (by kernel_rfl) (fun _ _ _ h => h) (Or.inl ⟨?_, ?_⟩) hH6 ?_
  rotate_left
  · kernel_rfl
  · (intro W' hSw; obtain ⟨⟨s0, s1, s2, s3⟩, s5⟩ := hSw; go_simp; (try with_reducible rfl))
  (try simp only [List.getElem_toArray])
  (try simp only [List.getElem_cons_succ])
  (try simp only [List.getElem_cons_zero])
  (try simp only [Act.put])
  (try simp only [List.setIfInBounds_toArray])
  (try simp only [List.set_cons_succ])
  (try simp only [List.set_cons_zero])
  refine wpAnyH_take (i := 24) (oi := _) (v := ?_) rfl (by kernel_rfl) (by kernel_rfl) (by kernel_rfl) (fun _ _ _ h => h) (Or.inl ⟨?_, ?_⟩) hH6 ?_
  rotate_left
  · kernel_rfl
  · (intro W' hSw; obtain ⟨⟨s0, s1, s2, s3⟩, s5⟩ := hSw; go_simp; (try with_reducible rfl))
  (try simp only [List.getElem_toArray])
  (try simp only [List.getElem_cons_succ])
  (try simp only [List.getElem_cons_zero])
  (try simp only [Act.put])
  (try simp only [List.setIfInBounds_toArray])
  (try simp only [List.set_cons_succ])
  (try simp only [List.set_cons_zero])
  refine wpAnyH_take (i := 25) (oi := _) (v := ?_) rfl (by kernel_rfl) (by kernel_rfl) (by kernel_rfl) (fun _ _ _ h => h) (Or.inl ⟨?_, ?_⟩) hH6 ?_
  rotate_left
  · kernel_rfl
  · (intro W' hSw; obtain ⟨⟨s0, s1, s2, s3⟩, s5⟩ := hSw; go_simp; (try with_reducible rfl))
  (try simp only [List.getElem_toArray])
  (try simp only [List.getElem_cons_succ])
  (try simp only [List.getElem_cons_zero])
  (try simp only [Act.put])
  (try simp only [List.setIfInBounds_toArray])
  (try simp only [List.set_cons_succ])
  (try simp only [List.set_cons_zero])
  refine wpAnyH_take (i := 26) (oi := _) (v := ?_) rfl (by kernel_rfl) (by kernel_rfl) (by kernel_rfl) (fun _ _ _ h => h) (Or.inl ⟨?_, ?_⟩) hH6 ?_
  rotate_left
  · kernel_rfl
  · (intro W' hSw; obtain ⟨⟨s0, s1, s2, s3⟩, s5⟩ := hSw; go_simp; (try with_reducible rfl))
  (try simp only [List.getElem_toArray])
  (try simp only [List.getElem_cons_succ])
  (try simp only [List.getElem_cons_zero])
  (try simp only [Act.put])
  (try simp only [List.setIfInBounds_toArray])
  (try simp only [List.set_cons_succ])
  (try simp only [List.set_cons_zero])
  refine wpAnyH_take (i := 27) (oi := _) (v := ?_) rfl (by kernel_rfl) (by kernel_rfl) (by kernel_rfl) (fun _ _ _ h => h) (Or.inl ⟨?_, ?_⟩) hH6 ?_
  rotate_left
  · kernel_rfl
  · (intro W' hSw; obtain ⟨⟨s0, s1, s2, s3⟩, s5⟩ := hSw; go_simp; (try with_reducible rfl))
  (try simp only [List.getElem_toArray])
  (try simp only [List.getElem_cons_succ])
  (try simp only [List.getElem_cons_zero])
  (try simp only [Act.put])
  (try simp only [List.setIfInBounds_toArray])
  (try simp only [List.set_cons_succ])
  (try simp only [List.set_cons_zero])
  refine wpAnyH_ready (rs := [28]) (by kernel_rfl) (by simp) ?_
  refine AllReadyH.cons (o := _) rfl (fun K hK => ?_) AllReadyH.nil
  go_simp
  refine (l8 _).mono ?_
  rintro e _ ⟨rfl, rfl⟩
  refine hK.out _ _ (hH6.keep (bref _)) (fun hH7 => ?_)
  clear hK K
  (try simp only [List.getElem_toArray])
  (try simp only [List.getElem_cons_succ])
  (try simp only [List.getElem_cons_zero])
  (try simp only [Act.put])
  (try simp only [List.setIfInBounds_toArray])
  (try simp only [List.set_cons_succ])
  (try simp only [List.set_cons_zero])
  refine wpAnyH_take (i := 29) (oi := _) (v := ?_) rfl (by kernel_rfl) (by kernel_rfl) (by kernel_rfl) (fun _ _ _ h => h) (Or.inl ⟨?_, ?_⟩) hH7 ?_
  rotate_left
  · kernel_rfl
  · (intro W' hSw; obtain ⟨⟨s0, s1, s2, s3⟩, s5⟩ := hSw; go_simp; (try with_reducible rfl))
  (try simp only [List.getElem_toArray])
  (try simp only [List.getElem_cons_succ])
  (try simp only [List.getElem_cons_zero])
  (try simp only [Act.put])
  (try simp only [List.setIfInBounds_toArray])
  (try simp only [List.set_cons_succ])
  (try simp only [List.set_cons_zero])
  refine wpAnyH_take (i := 30) (oi := _) (v := ?_) rfl (by kernel_rfl) (by kernel_rfl) (by kernel_rfl) (fun _ _ _ h => h) (Or.inl ⟨?_, ?_⟩) hH7 ?_
  rotate_left
  · kernel_rfl
  · (intro W' hSw; obtain ⟨⟨s0, s1, s2, s3⟩, s5⟩ := hSw; go_simp; (try with_reducible rfl))
  (try simp only [List.getElem_toArray])
  (try simp only [List.getElem_cons_succ])
  (try simp only [List.getElem_cons_zero])
  (try simp only [Act.put])
  (try simp only [List.setIfInBounds_toArray])
  (try simp only [List.set_cons_succ])
  (try simp only [List.set_cons_zero])
  refine wpAnyH_done (by kernel_rfl) ?_ _
  have ZZ := hH7.2
  go_wp2_with fail
  go_ret
  exact ⟨rfl, ZZ⟩

end Go.Proofs.YtnhealjngkhinaaDoor
