/-
  The calls that every law of package calendar asks for.
-/
import Derived.Test.YtgljaopnehdgdaaDoorCQ
namespace Go.Proofs.YtgljaopnehdgdaaDoor
open Go Go.RowKit Go.Lib WM

theorem lv_next : nxV [5, 6] [] 0 = 2 ∧ nxE [5, 6] [] 0 = 0 := by
  have h : up (dOpen [5, 6] []) 0 = some 2 := by
    rw [← up_miss _ _ (by decide) (by decide), ← up_miss _ _ (by decide) (by decide)]
    exact up_hit _ _ (by decide) (by decide)
  unfold nxV nxE
  rw [vd_yes 0 (by decide) (by decide), h]; exact ⟨rfl, rfl⟩
theorem lv_prev : pvV [5, 6] [] 0 = 0 ∧ pvE [5, 6] [] 0 = 11 := by
  have h : dn (dOpen [5, 6] []) 0 = none := by
    rw [← dn_miss _ _ (by decide) (by decide)]
    exact dn_end _ _ (by decide)
  unfold pvV pvE
  rw [vd_yes 0 (by decide) (by decide), h]; exact ⟨rfl, rfl⟩
theorem lv_add : adV [5, 6] [] 0 5 = 6 ∧ adE [5, 6] [] 0 5 = 0 := by
  have h : ad (dOpen [5, 6] []) (0 + 1) 5 = some 6 := by
    rw [← ad_miss _ _ _ (by decide) (by decide) (by decide), ← ad_step _ _ _ (by decide) (by decide) (by decide), ← ad_step _ _ _ (by decide) (by decide) (by decide), ← ad_step _ _ _ (by decide) (by decide) (by decide), ← ad_step _ _ _ (by decide) (by decide) (by decide)]
    exact ad_hit _ _ (by decide) (by decide)
  unfold adV adE
  rw [ad_yes 0 5 (vd_yes 0 (by decide) (by decide)) (by decide) (by decide), h]; exact ⟨rfl, rfl⟩
theorem lv_civ : Civ 119 2000 4 29 := ⟨by decide, by decide, by decide, by decide, by decide, by decide, by decide⟩
theorem lv_end : MEnd 119 120 := ⟨2000, 4, 29, lv_civ, by decide⟩
theorem lv_adj : ajV [5, 6] [] 119 120 2 = 118 ∧ ajE [5, 6] [] 119 120 2 = 0 := by
  have h1 : up (dOpen [5, 6] []) 119 = some 121 := by
    rw [← up_miss _ _ (by decide) (by decide), ← up_miss _ _ (by decide) (by decide)]
    exact up_hit _ _ (by decide) (by decide)
  have h2 : dn (dOpen [5, 6] []) 119 = some 118 := by
    rw [← dn_miss _ _ (by decide) (by decide)]
    exact dn_hit _ _ (by decide) (by decide)
  have hv := vd_yes 119 (by decide) (by decide)
  have n1 : nxV [5, 6] [] 119 = 121 := by unfold nxV; rw [hv, h1]; rfl
  have p1 : pvV [5, 6] [] 119 = 118 := by unfold pvV; rw [hv, h2]; rfl
  have p2 : pvE [5, 6] [] 119 = 0 := by unfold pvE; rw [hv, h2]; rfl
  have hb : mdB [5, 6] [] 119 120 = false := by unfold mdB; rw [n1]; simp
  unfold ajV ajE mdV mdE
  rw [hv, hb, p1, p2]; exact ⟨rfl, rfl⟩
theorem lv_count : cntI (dOpen [5, 6] []) 0 9 = 5 := by
  unfold cntI
  rw [show max (0 : Int) 0 = 0 by decide, show min (9 : Int) 73049 = 9 by decide]
  decide
theorem lv_check : ckE [99] [5, 6] [] = 0 := by decide
theorem lv_open : opB [5, 6] [] 2 = true := by decide
theorem lv_norm : normI ([5, 6] ++ [4, 5]) = [4, 5, 6] := (norm_of _ [4, 5, 6] (by decide) (by intro x; simp; omega)).symm
theorem lv_nil : normI ([] ++ []) = [] := (norm_of _ [] (by decide) (by intro x; simp)).symm
theorem ints_two (W : World) (b : Nat) (x y : Int) (h0 : W.cell? ⟨b, 0, none⟩ = some (.int .i64 x)) (h1 : W.cell? ⟨b, 1, none⟩ = some (.int .i64 y)) : IntsAt (some ⟨b, 0, none⟩) [x, y] W := by
  have hl := World.block_lt_of_cell? W _ h0
  intro i hi
  have hi2 : i = 0 ∨ i = 1 := by simp at hi; omega
  rcases hi2 with rfl | rfl
  · exact ⟨b, 0, rfl, hl, h0⟩
  · exact ⟨b, 0, rfl, hl, h1⟩
theorem ints_three (W : World) (b : Nat) (x y z : Int) (h0 : W.cell? ⟨b, 0, none⟩ = some (.int .i64 x)) (h1 : W.cell? ⟨b, 1, none⟩ = some (.int .i64 y)) (h2 : W.cell? ⟨b, 2, none⟩ = some (.int .i64 z)) : IntsAt (some ⟨b, 0, none⟩) [x, y, z] W := by
  have hl := World.block_lt_of_cell? W _ h0
  intro i hi
  have hi2 : i = 0 ∨ i = 1 ∨ i = 2 := by simp at hi; omega
  rcases hi2 with rfl | rfl | rfl
  · exact ⟨b, 0, rfl, hl, h0⟩
  · exact ⟨b, 0, rfl, hl, h1⟩
  · exact ⟨b, 0, rfl, hl, h2⟩

set_option maxRecDepth 100000 in
set_option maxHeartbeats 4000000 in
theorem live_any (w : World) (hL : Ln w) : Calls Tryd.prog 11 #[] w fun e w' => e = .returned (.bool true) ∧ Below w.heap.size w w' := by
  have HL := Lib.hid hL
  have C1 : Hid (∀ b W, CalAt (some ⟨b, 0, none⟩) none [5, 6] [] W → Calls Tryd.prog 18 #[.agg #[.string ⟨#[99]⟩, .slice (some ⟨b, 0, none⟩) 2 2, .slice none 0 0], .int .i64 0] W fun e w' => e = .returned (.tuple #[.int .i64 2, .int .i64 0]) ∧ Below W.heap.size W w') := Lib.hid (fun b W h => by
    have k := mNext ⟨#[99]⟩ (some ⟨b, 0, none⟩) none 2 0 [5, 6] [] 0 W h
    rw [lv_next.1, lv_next.2] at k; exact k)
  have C2 : Hid (∀ b W, CalAt (some ⟨b, 0, none⟩) none [5, 6] [] W → Calls Tryd.prog 20 #[.agg #[.string ⟨#[99]⟩, .slice (some ⟨b, 0, none⟩) 2 2, .slice none 0 0], .int .i64 0] W fun e w' => e = .returned (.tuple #[.int .i64 0, .int .i64 11]) ∧ Below W.heap.size W w') := Lib.hid (fun b W h => by
    have k := mPrev ⟨#[99]⟩ (some ⟨b, 0, none⟩) none 2 0 [5, 6] [] 0 W h
    rw [lv_prev.1, lv_prev.2] at k; exact k)
  have C3 : Hid (∀ b W, CalAt (some ⟨b, 0, none⟩) none [5, 6] [] W → Calls Tryd.prog 26 #[.agg #[.string ⟨#[99]⟩, .slice (some ⟨b, 0, none⟩) 2 2, .slice none 0 0], .int .i64 0, .int .i64 5] W fun e w' => e = .returned (.tuple #[.int .i64 6, .int .i64 0]) ∧ Below W.heap.size W w') := Lib.hid (fun b W h => by
    have k := mAdd ⟨#[99]⟩ (some ⟨b, 0, none⟩) none 2 0 [5, 6] [] 0 5 W h
    rw [lv_add.1, lv_add.2] at k; exact k)
  have C4 : Hid (∀ b W, Ln W → CalAt (some ⟨b, 0, none⟩) none [5, 6] [] W → Calls Tryd.prog 24 #[.agg #[.string ⟨#[99]⟩, .slice (some ⟨b, 0, none⟩) 2 2, .slice none 0 0], .int .i64 119, .int .i64 2] W fun e w' => e = .returned (.tuple #[.int .i64 118, .int .i64 0]) ∧ Below W.heap.size W w') := Lib.hid (fun b W hl h => by
    have k := mAdjust ⟨#[99]⟩ (some ⟨b, 0, none⟩) none 2 0 [5, 6] [] 119 120 2 (fun _ => lv_end) W hl h
    rw [lv_adj.1, lv_adj.2] at k; exact k)
  have C5 : Hid (∀ b b2 W, CalAt (some ⟨b, 0, none⟩) none [5, 6] [] W → CalAt (some ⟨b2, 0, none⟩) none [4, 5] [] W → Calls Tryd.prog 31 #[.agg #[.string ⟨#[99]⟩, .slice (some ⟨b, 0, none⟩) 2 2, .slice none 0 0], .agg #[.string ⟨#[]⟩, .slice (some ⟨b2, 0, none⟩) 2 2, .slice none 0 0]] W fun e w' =>
      ∃ uo uc vo vc, e = .returned (.agg #[.string ⟨#[99]⟩, .slice uo 3 uc, .slice vo 0 vc]) ∧ CalAt uo vo [4, 5, 6] [] w' ∧ Below W.heap.size W w') := Lib.hid (fun b b2 W h h2 => by
    refine (mJoin ⟨#[99]⟩ ⟨#[]⟩ (some ⟨b, 0, none⟩) none (some ⟨b2, 0, none⟩) none 2 0 2 0 [5, 6] [] [4, 5] [] W h h2 (fun k => by cases k) (fun _ => ⟨rfl, rfl⟩) (fun k => by cases k) (fun _ => ⟨rfl, rfl⟩)).mono ?_
    rintro e w' ⟨uo, uc, vo, vc, rfl, hu, hv, hb⟩
    rw [lv_norm, lv_nil] at *
    exact ⟨uo, uc, vo, vc, rfl, ⟨by decide, by decide, hu, hv⟩, hb⟩)
  have C6 : Hid (∀ b W, CalAt (some ⟨b, 0, none⟩) none [5, 6] [] W → Calls Tryd.prog 28 #[.agg #[.string ⟨#[99]⟩, .slice (some ⟨b, 0, none⟩) 2 2, .slice none 0 0], .int .i64 0, .int .i64 9] W fun e w' => e = .returned (.int .i64 5) ∧ Below W.heap.size W w') := Lib.hid (fun b W h => by
    have k := mCount ⟨#[99]⟩ (some ⟨b, 0, none⟩) none 2 0 [5, 6] [] 0 9 W h
    rw [lv_count] at k; exact k)
  have C7 : Hid (∀ b W, CalAt (some ⟨b, 0, none⟩) none [5, 6] [] W → Calls Tryd.prog 12 #[.agg #[.string ⟨#[99]⟩, .slice (some ⟨b, 0, none⟩) 2 2, .slice none 0 0]] W fun e w' => e = .returned (.int .i64 0) ∧ Below W.heap.size W w') := Lib.hid (fun b W h => by
    have k := mCheck ⟨#[99]⟩ (some ⟨b, 0, none⟩) none 2 0 [5, 6] [] W h
    rw [show (⟨#[99]⟩ : ByteArray).data.toList = [99] from rfl, lv_check] at k; exact k)
  have C8 : Hid (∀ b W, CalAt (some ⟨b, 0, none⟩) none [5, 6] [] W → Calls Tryd.prog 22 #[.agg #[.string ⟨#[99]⟩, .slice (some ⟨b, 0, none⟩) 2 2, .slice none 0 0], .int .i64 2] W fun e w' => e = .returned (.bool true) ∧ Below W.heap.size W w') := Lib.hid (fun b W h => by
    have k := mOpen ⟨#[99]⟩ (some ⟨b, 0, none⟩) none 2 0 [5, 6] [] 2 W h
    rw [lv_open] at k; exact k)
  have C9 : Hid (∀ uo uc vo vc b W, CalAt uo vo [4, 5, 6] [] W → CalAt (some ⟨b, 0, none⟩) none [4, 5, 6] [] W → Calls Tryd.prog 16 #[.agg #[.string ⟨#[99]⟩, .slice uo 3 uc, .slice vo 0 vc], .agg #[.string ⟨#[99]⟩, .slice (some ⟨b, 0, none⟩) 3 3, .slice none 0 0]] W fun e w' => e = .returned (.bool true) ∧ Below W.heap.size W w') := Lib.hid (fun uo uc vo vc b W h h2 => by
    have k := rSame ⟨#[99]⟩ ⟨#[99]⟩ uo vo (some ⟨b, 0, none⟩) none uc vc 3 0 [4, 5, 6] [] [4, 5, 6] [] W h h2
    rw [show sameB ⟨#[99]⟩ ⟨#[99]⟩ [4, 5, 6] [4, 5, 6] [] [] = true by decide +kernel] at k; exact k)
  obtain ⟨b, hb⟩ : ∃ b, b = w.heap.size := ⟨_, rfl⟩
  have Z0 : Below w.heap.size w ((w.alloc (.cells #[.int .i64 5, .int .i64 6] 3)).alloc (.cells #[.string ⟨#[99]⟩, .slice (some ⟨w.heap.size, 0, none⟩) 2 2, .slice none 0 0] 24)) := bal (bal (bref _) _) _
  have K0 : CalAt (some ⟨w.heap.size, 0, none⟩) none [5, 6] [] ((w.alloc (.cells #[.int .i64 5, .int .i64 6] 3)).alloc (.cells #[.string ⟨#[99]⟩, .slice (some ⟨w.heap.size, 0, none⟩) 2 2, .slice none 0 0] 24)) := ⟨by decide, by decide, ints_two _ _ 5 6 (by simp [go_sem]) (by simp [go_sem]), IntsAt.nil _ _⟩
  have X0 : Box3 (w.heap.size + 1) (.string ⟨#[99]⟩) (.slice (some ⟨w.heap.size, 0, none⟩) 2 2) (.slice none 0 0) ((w.alloc (.cells #[.int .i64 5, .int .i64 6] 3)).alloc (.cells #[.string ⟨#[99]⟩, .slice (some ⟨w.heap.size, 0, none⟩) 2 2, .slice none 0 0] 24)) := by refine ⟨?_, ?_, ?_⟩ <;> simp [go_sem]
  have HZ := Lib.hid Z0
  have HK := Lib.hid K0
  have HX := Lib.hid X0
  clear Z0 K0 X0 hL hb b
  go_enter Tryd.func11, Tryd.ntmps11
  go_wp2_with fail
  refine (C1.out _ _ HK.out).mono ?_
  rintro e w1 ⟨rfl, q⟩
  have Z1 := Lib.hid (btr HZ.out q)
  have K1 := Lib.hid (HK.out.keep q)
  have X1 := HX.out.keep q
  clear q HZ HK HX
  have HX := Lib.hid X1
  obtain ⟨x0, x1, x2⟩ := X1
  go_wp2_with fail
  refine (C2.out _ _ K1.out).mono ?_
  rintro e w2 ⟨rfl, q⟩
  have Z2 := Lib.hid (btr Z1.out q)
  have K2 := Lib.hid (K1.out.keep q)
  have X1 := HX.out.keep q
  clear q Z1 K1 HX x0 x1 x2
  have HX := Lib.hid X1
  obtain ⟨x0, x1, x2⟩ := X1
  go_wp2_with fail
  refine (C3.out _ _ K2.out).mono ?_
  rintro e w3 ⟨rfl, q⟩
  have Z3 := Lib.hid (btr Z2.out q)
  have K3 := Lib.hid (K2.out.keep q)
  have X1 := HX.out.keep q
  clear q Z2 K2 HX x0 x1 x2
  have HX := Lib.hid X1
  obtain ⟨x0, x1, x2⟩ := X1
  go_wp2_with fail
  refine (C4.out _ _ (HL.out.keep Z3.out) K3.out).mono ?_
  rintro e w4 ⟨rfl, q⟩
  have Z4 := Lib.hid (btr Z3.out q)
  have K4 := Lib.hid (K3.out.keep q)
  have X1 := HX.out.keep q
  clear q Z3 K3 HX x0 x1 x2
  have HX := Lib.hid X1
  obtain ⟨x0, x1, x2⟩ := X1
  have qb := bal (bref w4) (.cells #[.int .i64 4, .int .i64 5] 3)
  have K4b : CalAt (some ⟨w4.heap.size, 0, none⟩) none [4, 5] [] (w4.alloc (.cells #[.int .i64 4, .int .i64 5] 3)) := ⟨by decide, by decide, ints_two _ _ 4 5 (by simp [go_sem]) (by simp [go_sem]), IntsAt.nil _ _⟩
  have Z4 := Lib.hid (btr Z4.out qb)
  have K4 := Lib.hid (K4.out.keep qb)
  have K4b := Lib.hid K4b
  have HX := Lib.hid (HX.out.keep qb)
  clear qb
  go_wp2_with fail
  refine (C5.out _ _ _ K4.out K4b.out).mono ?_
  rintro e w5 ⟨uo, uc, vo, vc, rfl, hj, q⟩
  have qb := bal (bref w5) (.cells #[.string ⟨#[99]⟩, .slice uo 3 uc, .slice vo 0 vc] 24)
  have XJ : Box3 w5.heap.size (.string ⟨#[99]⟩) (.slice uo 3 uc) (.slice vo 0 vc) (w5.alloc (.cells #[.string ⟨#[99]⟩, .slice uo 3 uc, .slice vo 0 vc] 24)) := by refine ⟨?_, ?_, ?_⟩ <;> simp [go_sem]
  have Z5 := Lib.hid (btr (btr Z4.out q) qb)
  have K5 := Lib.hid ((K4.out.keep q).keep qb)
  have J5 := Lib.hid (hj.keep qb)
  have X1 := (HX.out.keep q).keep qb
  have XJ := Lib.hid XJ
  clear q qb hj Z4 K4 K4b HX x0 x1 x2
  have HX := Lib.hid X1
  obtain ⟨x0, x1, x2⟩ := X1
  go_wp2_with fail
  refine (C6.out _ _ K5.out).mono ?_
  rintro e w6 ⟨rfl, q⟩
  have Z6 := Lib.hid (btr Z5.out q)
  have K6 := Lib.hid (K5.out.keep q)
  have J6 := Lib.hid (J5.out.keep q)
  have XJ := Lib.hid (XJ.out.keep q)
  have X1 := HX.out.keep q
  clear q Z5 K5 J5 HX x0 x1 x2
  have HX := Lib.hid X1
  obtain ⟨x0, x1, x2⟩ := X1
  go_wp2_with fail
  refine (C7.out _ _ K6.out).mono ?_
  rintro e w7 ⟨rfl, q⟩
  have Z7 := Lib.hid (btr Z6.out q)
  have K7 := Lib.hid (K6.out.keep q)
  have J7 := Lib.hid (J6.out.keep q)
  have XJ := Lib.hid (XJ.out.keep q)
  have X1 := HX.out.keep q
  clear q Z6 K6 J6 HX x0 x1 x2
  obtain ⟨x0, x1, x2⟩ := X1
  go_wp2_with fail
  refine (C8.out _ _ K7.out).mono ?_
  rintro e w8 ⟨rfl, q⟩
  have qb := bal (bref w8) (.cells #[.int .i64 4, .int .i64 5, .int .i64 6] 3)
  have Z8 := Lib.hid (btr (btr Z7.out q) qb)
  have J8 := Lib.hid ((J7.out.keep q).keep qb)
  have K8 : Hid (CalAt (some ⟨w8.heap.size, 0, none⟩) none [4, 5, 6] [] (w8.alloc (.cells #[.int .i64 4, .int .i64 5, .int .i64 6] 3))) := Lib.hid ⟨by decide, by decide, ints_three _ _ 4 5 6 (by simp [go_sem]) (by simp [go_sem]) (by simp [go_sem]), IntsAt.nil _ _⟩
  have X1 := XJ.out.keep q
  clear q qb Z7 K7 J7 XJ x0 x1 x2
  obtain ⟨x0, x1, x2⟩ := X1
  go_wp2_with fail
  refine (C9.out _ _ _ _ _ _ J8.out K8.out).mono ?_
  rintro e w9 ⟨rfl, q⟩
  have Z9 := Lib.hid (btr Z8.out q)
  clear q
  go_wp2_with fail
  go_ret
  exact ⟨rfl, Z9.out⟩
end Go.Proofs.YtgljaopnehdgdaaDoor
