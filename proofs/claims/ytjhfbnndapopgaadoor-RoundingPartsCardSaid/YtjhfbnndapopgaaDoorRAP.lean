/-
  The contract of package rounding's Amount.
-/
import Derived.Test.YtjhfbnndapopgaaDoorRD
import Derived.Test.YtjhfbnndapopgaaDoorRAMath
import Derived.Test.YtjhfbnndapopgaaDoorRead
import Derived.Deep.RegionWith
import Derived.Deep.DeepCutAuto
namespace Go.Proofs.YtjhfbnndapopgaaDoor
open Go Go.RowKit WM

set_option maxRecDepth 100000 in
set_option maxHeartbeats 8000000 in
theorem amount_any (a l m : Int) (hh : I64 a) (hl : U64 l) (w : World) (hch : Ch w) :
    Calls Tryd.prog 23 #[.agg #[.int .i64 a, .int .u64 l], .int .i64 m] w fun e w' =>
      e = .returned (.tuple #[.int .i64 (aQ (val a l) m), .agg #[.int .i64 (wH (aR (val a l) m)), .int .u64 (wL (aR (val a l) m))], .int .i64 (aE (val a l) m)]) ∧ Below w.heap.size w w' := by
  have iG : I64 1603080000000 := by unfold I64; omega
  have D := fun W hC => rdivide_of a l 1603080000000 m hh hl iG W hC
  obtain ⟨c1, c2, c3⟩ := amt_cases (val a l) m
  have hvI := inW_val hh hl
  obtain ⟨v, hv⟩ : ∃ v, val a l = v := ⟨_, rfl⟩
  rw [hv] at c1 c2 c3 hvI
  simp only [hv] at D
  rw [hv]
  obtain ⟨Q, hQ⟩ : ∃ x, dQ v 1603080000000 m = x := ⟨_, rfl⟩
  obtain ⟨E, hE⟩ : ∃ x, dE v 1603080000000 m = x := ⟨_, rfl⟩
  simp only [hQ, hE] at D
  simp only [hQ, hE] at c1 c2 c3
  have D := Lib.hid D
  by_cases hE0 : E = 0
  · have GG := fun W => good_any Q W
    subst hE0
    cases hg : goodB Q
    · obtain ⟨e1, e2, e3⟩ := c2 rfl hg
      rw [e1, e2, e3, w_zero'.1, w_zero'.2]
      simp only [hg] at GG
      have GG := Lib.hid GG
      clear e1 e2 e3 c1 c2 c3 hv hQ hE hg hvI
      go_enter Tryd.func23, Tryd.ntmps23
      go_wp2_with fail
      refine (D.out _ (hch.keep (bal (bal (bref w) _) _))).mono ?_
      rintro e w1 ⟨rfl, q1⟩
      have A1 : Own w1 w.heap.size (.int .i64 a) (.int .u64 l) := Own.keep (by refine ⟨?_, ?_, ?_, ?_⟩ <;> simp [go_sem]) q1
      have R1 : Own w1 (w.heap.size + 1) (.int .i64 0) (.int .u64 0) := Own.keep (by refine ⟨?_, ?_, ?_, ?_⟩ <;> simp [go_sem]) q1
      have Z1 : Below w.heap.size w w1 := btr (bal (bal (bref w) _) _) q1
      clear q1
      have RX := R1
      obtain ⟨r0, r1, r2, r3⟩ := RX
      go_wp2_with fail
      refine (GG.out _).mono ?_
      rintro e w2 ⟨rfl, rfl⟩
      go_wp2_with fail
      refine bodyPost_ret (v := .tuple #[.int .i64 0, .agg #[.int .i64 0, .int .u64 0], .int .i64 6]) (by simp [results, Tryd.results23, go_sem, r0, r1]) rfl ⟨rfl, ?_⟩
      (repeat (first | exact Z1 | refine bal ?_ _ | refine bset ?_ (by dsimp only; omega) _))
    · obtain ⟨e1, e2, e3, e4, e5⟩ := c3 rfl hg
      rw [e1, e2, e3]
      simp only [hg] at GG
      have GG := Lib.hid GG
      have hQI : I64 Q := by
        have : -1000000000000 ≤ Q ∧ Q ≤ 1000000000000 := by simpa [goodB] using hg
        unfold I64; omega
      have M := fun W => mul_any 1603080000000 Q iG hQI W
      have hPI : inW (1603080000000 * Q) = true := prod_in iG hQI
      have S := fun W => sub_any a l (wH (1603080000000 * Q)) (wL (1603080000000 * Q)) hh hl (wH_I64 _) (wL_U64 _) W
      simp only [hv, val_w hPI, wE_in e4] at S
      obtain ⟨PH, hPH⟩ : ∃ x, wH (1603080000000 * Q) = x := ⟨_, rfl⟩
      obtain ⟨PL, hPL⟩ : ∃ x, wL (1603080000000 * Q) = x := ⟨_, rfl⟩
      obtain ⟨VH, hVH⟩ : ∃ x, wH (v - 1603080000000 * Q) = x := ⟨_, rfl⟩
      obtain ⟨VL, hVL⟩ : ∃ x, wL (v - 1603080000000 * Q) = x := ⟨_, rfl⟩
      simp only [hPH, hPL] at M S
      simp only [hVH, hVL] at S
      rw [hVH, hVL]
      have M := Lib.hid M; have S := Lib.hid S
      clear e1 e2 e3 e4 e5 c1 c2 c3 hv hQ hE hg hvI hPH hPL hVH hVL hPI hQI
      go_enter Tryd.func23, Tryd.ntmps23
      go_wp2_with fail
      refine (D.out _ (hch.keep (bal (bal (bref w) _) _))).mono ?_
      rintro e w1 ⟨rfl, q1⟩
      have A1 : Own w1 w.heap.size (.int .i64 a) (.int .u64 l) := Own.keep (by refine ⟨?_, ?_, ?_, ?_⟩ <;> simp [go_sem]) q1
      have R1 : Own w1 (w.heap.size + 1) (.int .i64 0) (.int .u64 0) := Own.keep (by refine ⟨?_, ?_, ?_, ?_⟩ <;> simp [go_sem]) q1
      have Z1 : Below w.heap.size w w1 := btr (bal (bal (bref w) _) _) q1
      clear q1
      go_wp2_with fail
      refine (GG.out _).mono ?_
      rintro e w2 ⟨rfl, rfl⟩
      have l0 := R1.lt
      have m0 := A1.lt
      obtain ⟨g1, g2, g3, g4, g5, g6, g7, g8⟩ := sz8r m0
      have AX := A1
      obtain ⟨x0, x1, _, _⟩ := AX
      go_wp2_with fail
      go_cut [9, 10] (fun v9 v10 wx => ∃ c : Nat, v9 = .pointer (some ⟨c, 0, none⟩) ∧ v10 = .int .i64 0 ∧ Own wx c (.int .i64 VH) (.int .u64 VL) ∧ Own wx (w.heap.size + 1) (.int .i64 0) (.int .u64 0) ∧ w.heap.size + 1 < c ∧ Below w.heap.size w wx)
      case first =>
        go_region_with (first
          | (go_at_call 45; refine (M.out _).mono ?_; rintro e W1 ⟨rfl, hk⟩; have X1 : Own W1 w.heap.size (.int .i64 a) (.int .u64 l) := Own.keep (by repeat (first | exact A1 | refine Own.dr ?_ | refine Own.al ?_ _)) hk; have Y1 : Own W1 (w.heap.size + 1) (.int .i64 0) (.int .u64 0) := Own.keep (by repeat (first | exact R1 | refine Own.dr ?_ | refine Own.al ?_ _)) hk; have Z2 : Below w.heap.size w W1 := btr (by repeat (first | exact Z1 | refine bdr ?_ | refine bal ?_ _)) hk; have l1 := Y1.lt; have l1' := X1.lt; obtain ⟨k1, k2, k3, k4, k5, k6, k7, k8⟩ := sz8r l1'; have XY := X1; obtain ⟨y0, y1, y2, y3⟩ := XY; first | (refine (fun (XA : Own W1 w1.heap.size (.int .i64 0) (.int .u64 0)) => ?_) (Own.keep ?_ hk); rotate_left; (refine ⟨?_, ?_, ?_, ?_⟩ <;> (simp [go_sem]; done))) | skip)
          | (go_at_call 17; refine (S.out _).mono ?_; rintro e W2 ⟨rfl, hk2⟩; have Y3 : Own W2 (w.heap.size + 1) (.int .i64 0) (.int .u64 0) := Own.keep (by repeat (first | exact Y1 | refine Own.dr ?_ | refine Own.al ?_ _)) hk2; have Z3 : Below w.heap.size w W2 := btr (by repeat (first | exact Z2 | refine bdr ?_ | refine bal ?_ _)) hk2; have l2 := Y3.lt; first | (have XB := Own.keep XA hk2; obtain ⟨v0, v1, v2, v3⟩ := XB) | (refine (fun (XB : Own W2 W1.heap.size (.int .i64 0) (.int .u64 0)) => ?_) (Own.keep ?_ hk2); rotate_left; (refine ⟨?_, ?_, ?_, ?_⟩ <;> (simp [go_sem]; done)); obtain ⟨v0, v1, v2, v3⟩ := XB) | skip))
        all_goals (go_wp2_with fail; go_meet; refine ⟨_, rfl, rfl, ?_, ?_, ?_, ?_⟩)
        all_goals (try (exact Own.new _ _ _ _))
        all_goals (try (refine Own.put (x := .int .i64 0) (y := .int .u64 0) ?_ _ _; refine ⟨?_, ?_, ?_, ?_⟩ <;> assumption))
        all_goals (try assumption)
        all_goals (repeat (first | exact Y3 | exact Z3 | refine Own.dr ?_ | refine Own.al ?_ _ | refine Own.far ?_ (by dsimp only; omega) _ | refine bdr ?_ | refine bal ?_ _ | refine bset ?_ (by dsimp only; omega) _))
      case rest =>
        obtain ⟨c, rfl, rfl, XC, Y5, lc, Z5⟩ := hcut
        clear A1 R1 Z1 x0 x1 D M S GG
        obtain ⟨c0, c1, c2, c3⟩ := XC
        obtain ⟨r0, r1, r2, r3⟩ := Y5
        go_wp2_with fail
        go_region
        all_goals go_wp2_with fail
        all_goals (refine bodyPost_ret (v := .tuple #[.int .i64 Q, .agg #[.int .i64 VH, .int .u64 VL], .int .i64 0]) (by simp [results, Tryd.results23, go_sem, r0, r1]) rfl ⟨rfl, ?_⟩)
        all_goals (repeat (first | exact Z5 | refine bdr ?_ | refine bdn ?_ _ | refine bal ?_ _ | refine bset ?_ (by dsimp only; omega) _))
  · obtain ⟨e1, e2, e3⟩ := c1 hE0
    rw [e1, e2, e3, w_zero'.1, w_zero'.2]
    have hd : (E != 0) = true := by rw [bne_iff_ne]; exact hE0
    have hd2 : (E == 0) = false := by rw [beq_eq_false_iff_ne]; exact hE0
    clear e1 e2 e3 c1 c2 c3 hv hQ hE hE0 hvI
    go_enter Tryd.func23, Tryd.ntmps23
    go_wp2_with fail
    refine (D.out _ (hch.keep (bal (bal (bref w) _) _))).mono ?_
    rintro e w1 ⟨rfl, q1⟩
    have A1 : Own w1 w.heap.size (.int .i64 a) (.int .u64 l) := Own.keep (by refine ⟨?_, ?_, ?_, ?_⟩ <;> simp [go_sem]) q1
    have R1 : Own w1 (w.heap.size + 1) (.int .i64 0) (.int .u64 0) := Own.keep (by refine ⟨?_, ?_, ?_, ?_⟩ <;> simp [go_sem]) q1
    have Z1 : Below w.heap.size w w1 := btr (bal (bal (bref w) _) _) q1
    clear q1
    have RX := R1
    obtain ⟨r0, r1, r2, r3⟩ := RX
    go_wp2_with fail
    refine bodyPost_ret (v := .tuple #[.int .i64 0, .agg #[.int .i64 0, .int .u64 0], .int .i64 E]) (by simp [results, Tryd.results23, go_sem, r0, r1]) rfl ⟨rfl, ?_⟩
    (repeat (first | exact Z1 | refine bal ?_ _ | refine bset ?_ (by dsimp only; omega) _))
end Go.Proofs.YtjhfbnndapopgaaDoor
