/-
  The document's Same of codes; the walk of CodeEquals.
-/
import Derived.Test.YthanoilbcdhbkaaGreatDoorQM
import Derived.Test.YthanoilbcdhbkaaGreatDoorQKR
namespace Go.Proofs.YthanoilbcdhbkaaGreatDoor
open Go Go.RowKit Go.Lib Go.Shelf WM TM EM YM

theorem same3_yes {t : Int} {av bv : List Vr} {ac bc : List Ins} (h1 : av = bv) (h2 : ac = bc) : same3 ⟨t, av, ac⟩ ⟨t, bv, bc⟩ = true := by subst h1 h2; rw [same3_eq]; simp
theorem same3_nov {t u : Int} {av bv : List Vr} {ac bc : List Ins} (h1 : av ≠ bv) : same3 ⟨t, av, ac⟩ ⟨u, bv, bc⟩ = false := by rw [same3_eq, decide_eq_false_iff_not]; intro e; exact h1 (congrArg Cd.vs e)
theorem same3_noc {t u : Int} {av bv : List Vr} {ac bc : List Ins} (h1 : ac ≠ bc) : same3 ⟨t, av, ac⟩ ⟨u, bv, bc⟩ = false := by rw [same3_eq, decide_eq_false_iff_not]; intro e; exact h1 (congrArg Cd.c e)
theorem same3_not {t u : Int} {av bv : List Vr} {ac bc : List Ins} (h1 : t ≠ u) : same3 ⟨t, av, ac⟩ ⟨u, bv, bc⟩ = false := by rw [same3_eq, decide_eq_false_iff_not]; intro e; exact h1 (congrArg Cd.t e)
theorem same3_self (a : Cd) : same3 a a = true := by rw [same3_eq]; simp
set_option maxRecDepth 100000 in
set_option maxHeartbeats 8000000 in
theorem rSameC (a b : Cd) (vo io vo2 io2 : Option Addr) (vc ic vc2 ic2 : Nat) (w : World) (hv1 : a.vs.length ≤ 1000000) (hv2 : a.c.length ≤ 1000000) (h : CodeAt a vo vc io ic w) (h2 : CodeAt b vo2 vc2 io2 ic2 w) :
  Calls Tryz.prog 14 #[.agg #[.int .i64 a.t, .slice vo a.vs.length vc, .slice io a.c.length ic], .agg #[.int .i64 b.t, .slice vo2 b.vs.length vc2, .slice io2 b.c.length ic2]] w fun e w' => e = .returned (.bool (same3 a b)) ∧ Below w.heap.size w w' := by
 have HV1 := Lib.hid h.vars
 have HC1 := Lib.hid h.ins
 have HV2 := Lib.hid h2.vars
 have HC2 := Lib.hid h2.ins
 obtain ⟨ta, av, ac⟩ := a
 obtain ⟨tb, bv, bc⟩ := b
 obtain ⟨R, hR⟩ : ∃ R, same3 ⟨ta, av, ac⟩ ⟨tb, bv, bc⟩ = R := ⟨_, rfl⟩
 rw [hR]
 simp only at HV1 HC1 HV2 HC2 hv1 hv2 ⊢
 obtain ⟨vn, hn1⟩ : ∃ n, av.length = n := ⟨_, rfl⟩
 obtain ⟨cn, hn2⟩ : ∃ n, ac.length = n := ⟨_, rfl⟩
 obtain ⟨vm, hn3⟩ : ∃ n, bv.length = n := ⟨_, rfl⟩
 obtain ⟨cm, hn4⟩ : ∃ n, bc.length = n := ⟨_, rfl⟩
 have HN1 := Lib.hid hn1
 have HN2 := Lib.hid hn2
 have HM1 := Lib.hid hn3
 have HM2 := Lib.hid hn4
 rw [hn1] at hv1
 rw [hn2] at hv2
 rw [hn1, hn2, hn3, hn4]
 have HR := Lib.hid hR.symm
 clear h h2 hn1 hn2 hn3 hn4 hR
 have HB0 := Lib.hid (show Below w.heap.size w ((w.alloc (.cells #[.int .i64 ta, .slice vo vn vc, .slice io cn ic] 30)).alloc (.cells #[.int .i64 tb, .slice vo2 vm vc2, .slice io2 cm ic2] 30)) from bal (bal (bref w) _) _)
 by_cases ht : ta = tb
 rotate_left
 ·have hb : (ta != tb) = true := bne_yes ht
  have hr : R = false := by rw [HR.out]; exact same3_not ht
  subst hr
  clear ht
  go_enter Tryz.func14, Tryz.ntmps14
  go_wp2_with fail
  go_ret
  exact ⟨rfl, HB0.out⟩
 subst ht
 by_cases h1 : vn = vm
 rotate_left
 ·have hb : ((vn : Int) != (vm : Int)) = true := bne_yes (by omega)
  have hz : ¬ ((vn : Int) = (vm : Int)) := by omega
  have hr : R = false := by rw [HR.out]; exact same3_nov (fun e => h1 (by rw [← HN1.out, ← HM1.out, e]))
  subst hr
  clear h1
  go_enter Tryz.func14, Tryz.ntmps14
  go_wp2_with fail
  go_ret
  exact ⟨rfl, HB0.out⟩
 subst h1
 by_cases h1 : cn = cm
 rotate_left
 ·have hb : ((cn : Int) != (cm : Int)) = true := bne_yes (by omega)
  have hz : ¬ ((cn : Int) = (cm : Int)) := by omega
  have hr : R = false := by rw [HR.out]; exact same3_noc (fun e => h1 (by rw [← HN2.out, ← HM2.out, e]))
  subst hr
  clear h1
  go_enter Tryz.func14, Tryz.ntmps14
  go_wp2_with fail
  go_ret
  exact ⟨rfl, HB0.out⟩
 subst h1
 go_enter Tryz.func14, Tryz.ntmps14
 go_wp2_with fail
 go_loopw [5] (fun i wr => ∃ (k : Nat), k ≤ vn ∧ i = .int .i64 k ∧ av.take k = bv.take k ∧ Below w.heap.size w wr ∧ wr.cell? ⟨w.heap.size, 1, none⟩ = some (.slice vo vn vc) ∧ wr.cell? ⟨w.heap.size, 2, none⟩ = some (.slice io cn ic) ∧ wr.cell? ⟨w.heap.size + 1, 1, none⟩ = some (.slice vo2 vn vc2) ∧ wr.cell? ⟨w.heap.size + 1, 2, none⟩ = some (.slice io2 cn ic2)) (fun i _ => vn - (RowKit.intOf i).toNat)
 case atStart => exact ⟨0, by omega, rfl, rfl, HB0.out, by simp [go_sem], by simp [go_sem], by simp [go_sem], by simp [go_sem]⟩
 case round =>
  obtain ⟨k, hk, rfl, hE, hBw, x1, x2, y1, y2⟩ := hrel
  have HE := Lib.hid hE
  have HBw := Lib.hid hBw
  clear hE hBw
  by_cases hlt : k < vn
  ·obtain ⟨b, off, rfl, hb, c0, c1⟩ := (HV1.out.keep HBw.out) k (by rw [HN1.out]; exact hlt)
   obtain ⟨b2, off2, rfl, hb2, d0, d1⟩ := (HV2.out.keep HBw.out) k (by rw [HM1.out]; exact hlt)
   have ht := take_g V0 av k (by rw [HN1.out]; exact hlt)
   have ht2 := take_g V0 bv k (by rw [HM1.out]; exact hlt)
   have hne := take_neK V0 av bv k
   obtain ⟨x, hx⟩ : ∃ x, av.getD k V0 = x := ⟨_, rfl⟩
   obtain ⟨y, hy⟩ : ∃ y, bv.getD k V0 = y := ⟨_, rfl⟩
   rw [hx] at c0 c1 ht hne
   rw [hy] at d0 d1 ht2 hne
   have hkz : (k : Int) < (vn : Int) := by omega
   obtain ⟨x0, xt⟩ := x
   obtain ⟨y0, yt⟩ := y
   by_cases hq0 : x0 = y0
   ·subst hq0
    by_cases hq1 : xt = yt
    ·subst hq1
     obtain ⟨X, hX⟩ : ∃ X, str x0 = X := ⟨_, rfl⟩
     simp only [hX] at c0 c1 d0 d1
     clear hX
     have HQ : Hid (av.take (k + 1) = bv.take (k + 1)) := Lib.hid (by rw [ht, ht2, HE.out])
     clear hx hy ht ht2 hne
     go_wp2_with fail
     (try (go_quiet (fail); go_wp2_with fail))
     go_roundw
     case rel =>
      refine ⟨k + 1, by omega, by go_num, HQ.out, btr HBw.out (by first | exact bref _ | exact bdr (bref _) | exact bdn (bref _) _), ?_, ?_, ?_, ?_⟩
      ·first | exact x1 | exact keepc (bdr (bref _)) x1 | exact keepc (bdn (bref _) _) x1
      ·first | exact x2 | exact keepc (bdr (bref _)) x2 | exact keepc (bdn (bref _) _) x2
      ·first | exact y1 | exact keepc (bdr (bref _)) y1 | exact keepc (bdn (bref _) _) y1
      ·first | exact y2 | exact keepc (bdr (bref _)) y2 | exact keepc (bdn (bref _) _) y2
     case measure => simp [RowKit.intOf]; omega
    ·have hq1b : (xt != yt) = true := bne_yes hq1
     have hq1c : (xt == yt) = false := beq_no hq1
     obtain ⟨X, hX⟩ : ∃ X, str x0 = X := ⟨_, rfl⟩
     simp only [hX] at c0 c1 d0 d1
     clear hX
     have hr : R = false := by rw [HR.out]; exact same3_nov (hne (fun e => hq1 (congrArg Prod.snd e)))
     subst hr
     clear hx hy ht ht2 hne
     go_wp2_with fail
     (try (go_quiet (fail); go_wp2_with fail))
     go_ret
     exact ⟨rfl, btr HBw.out (by repeat (first | exact bref _ | refine bdr ?_ | refine bdn ?_ _ | refine bal ?_ _))⟩
   ·obtain ⟨X, hX⟩ : ∃ X, str x0 = X := ⟨_, rfl⟩
    obtain ⟨Y, hY⟩ : ∃ X, str y0 = X := ⟨_, rfl⟩
    have hXY := str_ne hq0
    rw [hX, hY] at hXY
    simp only [hX] at c0 c1
    simp only [hY] at d0 d1
    clear hX hY
    have hr : R = false := by rw [HR.out]; exact same3_nov (hne (fun e => hq0 (congrArg Prod.fst e)))
    subst hr
    clear hx hy ht ht2 hne
    go_wp2_with fail
    (try (go_quiet (fail); go_wp2_with fail))
    go_ret
    exact ⟨rfl, btr HBw.out (by repeat (first | exact bref _ | refine bdr ?_ | refine bdn ?_ _ | refine bal ?_ _))⟩
  ·have he : k = vn := by omega
   have HEQ : Hid (av = bv) := Lib.hid (by
    have := HE.out
    rwa [List.take_of_length_le (by rw [HN1.out]; omega), List.take_of_length_le (by rw [HM1.out]; omega)] at this)
   have HEQ1 := HEQ
   clear HEQ HE
   go_wp2_with fail
   go_loopw [6] (fun i wr => ∃ (k : Nat), k ≤ cn ∧ i = .int .i64 k ∧ ac.take k = bc.take k ∧ Below w.heap.size w wr ∧ wr.cell? ⟨w.heap.size, 1, none⟩ = some (.slice vo vn vc) ∧ wr.cell? ⟨w.heap.size, 2, none⟩ = some (.slice io cn ic) ∧ wr.cell? ⟨w.heap.size + 1, 1, none⟩ = some (.slice vo2 vn vc2) ∧ wr.cell? ⟨w.heap.size + 1, 2, none⟩ = some (.slice io2 cn ic2)) (fun i _ => cn - (RowKit.intOf i).toNat)
   case atStart => exact ⟨0, by omega, rfl, rfl, HBw.out, x1, x2, y1, y2⟩
   case round =>
    clear HBw x1 x2 y1 y2
    obtain ⟨k, hk, rfl, hE, hBw, x1, x2, y1, y2⟩ := hrel
    have HE := Lib.hid hE
    have HBw := Lib.hid hBw
    clear hE hBw
    by_cases hlt : k < cn
    ·obtain ⟨b, off, rfl, hb, c0, c1, c2⟩ := (HC1.out.keep HBw.out) k (by rw [HN2.out]; exact hlt)
     obtain ⟨b2, off2, rfl, hb2, d0, d1, d2⟩ := (HC2.out.keep HBw.out) k (by rw [HM2.out]; exact hlt)
     have ht := take_g I0 ac k (by rw [HN2.out]; exact hlt)
     have ht2 := take_g I0 bc k (by rw [HM2.out]; exact hlt)
     have hne := take_neK I0 ac bc k
     obtain ⟨x, hx⟩ : ∃ x, ac.getD k I0 = x := ⟨_, rfl⟩
     obtain ⟨y, hy⟩ : ∃ y, bc.getD k I0 = y := ⟨_, rfl⟩
     rw [hx] at c0 c1 c2 ht hne
     rw [hy] at d0 d1 d2 ht2 hne
     have hkz : (k : Int) < (cn : Int) := by omega
     obtain ⟨x0, xa, xb⟩ := x
     obtain ⟨y0, ya, yb⟩ := y
     by_cases hq0 : x0 = y0
     ·subst hq0
      by_cases hq1 : xa = ya
      ·subst hq1
       by_cases hq2 : xb = yb
       ·subst hq2
        simp only at c0 c1 c2 d0 d1 d2
        have HQ : Hid (ac.take (k + 1) = bc.take (k + 1)) := Lib.hid (by rw [ht, ht2, HE.out])
        clear hx hy ht ht2 hne
        go_wp2_with fail
        (try (go_quiet (fail); go_wp2_with fail))
        go_roundw
        case rel =>
         refine ⟨k + 1, by omega, by go_num, HQ.out, btr HBw.out (by first | exact bref _ | exact bdr (bref _) | exact bdn (bref _) _), ?_, ?_, ?_, ?_⟩
         ·first | exact x1 | exact keepc (bdr (bref _)) x1 | exact keepc (bdn (bref _) _) x1
         ·first | exact x2 | exact keepc (bdr (bref _)) x2 | exact keepc (bdn (bref _) _) x2
         ·first | exact y1 | exact keepc (bdr (bref _)) y1 | exact keepc (bdn (bref _) _) y1
         ·first | exact y2 | exact keepc (bdr (bref _)) y2 | exact keepc (bdn (bref _) _) y2
        case measure => simp [RowKit.intOf]; omega
       ·have hqb : (xb != yb) = true := bne_yes hq2
        have hqc : (xb == yb) = false := beq_no hq2
        simp only at c0 c1 c2 d0 d1 d2
        have hr : R = false := by rw [HR.out]; exact same3_noc (hne (fun e => hq2 (congrArg (fun z => z.2.2) e)))
        subst hr
        clear hx hy ht ht2 hne
        go_wp2_with fail
        (try (go_quiet (fail); go_wp2_with fail))
        go_ret
        exact ⟨rfl, btr HBw.out (by repeat (first | exact bref _ | refine bdr ?_ | refine bdn ?_ _ | refine bal ?_ _))⟩
      ·have hqb : (xa != ya) = true := bne_yes hq1
       have hqc : (xa == ya) = false := beq_no hq1
       simp only at c0 c1 c2 d0 d1 d2
       have hr : R = false := by rw [HR.out]; exact same3_noc (hne (fun e => hq1 (congrArg (fun z => z.2.1) e)))
       subst hr
       clear hx hy ht ht2 hne
       go_wp2_with fail
       (try (go_quiet (fail); go_wp2_with fail))
       go_ret
       exact ⟨rfl, btr HBw.out (by repeat (first | exact bref _ | refine bdr ?_ | refine bdn ?_ _ | refine bal ?_ _))⟩
     ·have hqb : (x0 != y0) = true := bne_yes hq0
      have hqc : (x0 == y0) = false := beq_no hq0
      simp only at c0 c1 c2 d0 d1 d2
      have hr : R = false := by rw [HR.out]; exact same3_noc (hne (fun e => hq0 (congrArg (fun z => z.1) e)))
      subst hr
      clear hx hy ht ht2 hne
      go_wp2_with fail
      (try (go_quiet (fail); go_wp2_with fail))
      go_ret
      exact ⟨rfl, btr HBw.out (by repeat (first | exact bref _ | refine bdr ?_ | refine bdn ?_ _ | refine bal ?_ _))⟩
    ·have he : k = cn := by omega
     subst he
     have HEQ : Hid (ac = bc) := Lib.hid (by
      have := HE.out
      rwa [List.take_of_length_le (by rw [HN2.out]; omega), List.take_of_length_le (by rw [HM2.out]; omega)] at this)
     have hr : R = true := by rw [HR.out]; exact same3_yes HEQ1.out HEQ.out
     subst hr
     go_wp2_with fail
     go_ret
     exact ⟨rfl, HBw.out⟩
end Go.Proofs.YthanoilbcdhbkaaGreatDoor
