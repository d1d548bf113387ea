/-
  Contracts of the document's own Scale and Mul.
-/
import Derived.Test.YtjhfbnndapopgaaDoorRefT
import Derived.Deep.RegionWith
import Derived.Deep.DeepCutAuto
namespace Go.Proofs.YtjhfbnndapopgaaDoor
open Go Go.RowKit WM
attribute [local go_sem ↓] Go.wp_at_zero Go.wp_at_succ

theorem keepS {w W W1 : World} {n m : Nat} {x y x' y' : Value} (h : W.cell? ⟨n, 0, none⟩ = some x ∧ W.cell? ⟨n, 1, none⟩ = some y ∧ Own W m x' y' ∧ Below w.heap.size w W) (hk : Below W.heap.size W W1) :
    W1.cell? ⟨n, 0, none⟩ = some x ∧ W1.cell? ⟨n, 1, none⟩ = some y ∧ Own W1 m x' y' ∧ Below w.heap.size w W1 :=
  ⟨keepc hk h.1, keepc hk h.2.1, h.2.2.1.keep hk, btr h.2.2.2 hk⟩

set_option maxRecDepth 100000 in
set_option maxHeartbeats 4000000 in
theorem rscale_any (a l n : Int) (hh : I64 a) (hl : U64 l) (hn : I64 n) (w : World) :
    Calls Tryd.prog 57 #[.agg #[.int .i64 a, .int .u64 l], .int .i64 n] w fun e w' =>
      e = .returned (.tuple #[.agg #[.int .i64 (wH (val a l * n)), .int .u64 (wL (val a l * n))], .int .i64 (wE (val a l * n))]) ∧ Below w.heap.size w w' := by
  obtain ⟨u1, u2⟩ := absW_halves hh hl
  have hnU : U64 (absW n) := by unfold absW I64 U64 at *; split <;> omega
  have P1 := fun W => rsplit_any a l hh hl W
  have SZ := Lib.hid (fun W => rsize_any n hn W)
  have T := fun W => rtimes_any (mH (absW (val a l))) (mL (absW (val a l))) (absW n) u1 u2 hnU W
  simp only [val_mag] at T
  have hb := signed_mul (val a l) n
  have d1 : decide (val a l < 0) = decide (a < 0) := by rw [decide_eq_decide]; exact (neg_h hl).symm
  rw [d1] at hb
  have hP : 0 ≤ absW (val a l) * absW n := Int.mul_nonneg (absW_nonneg _) (absW_nonneg _)
  have hso : fitsM (absW (val a l) * absW n) = false → inW (val a l * n) = false := scale_out
  obtain ⟨PV, hPV⟩ : ∃ x, absW (val a l) * absW n = x := ⟨_, rfl⟩
  obtain ⟨V, hV⟩ : ∃ x, val a l * n = x := ⟨_, rfl⟩
  obtain ⟨MH, hMH⟩ : ∃ x, mH (absW (val a l)) = x := ⟨_, rfl⟩
  obtain ⟨ML, hML⟩ : ∃ x, mL (absW (val a l)) = x := ⟨_, rfl⟩
  simp only [hPV, hMH, hML] at T
  simp only [hMH, hML] at P1
  rw [hPV, hV] at hb hso
  rw [hPV] at hP
  rw [hV]
  obtain ⟨k1, k2⟩ := modM_U PV
  obtain ⟨NH, hNH⟩ : ∃ x, mH (modM PV) = x := ⟨_, rfl⟩
  obtain ⟨NL, hNL⟩ : ∃ x, mL (modM PV) = x := ⟨_, rfl⟩
  rw [hNH] at k1; rw [hNL] at k2
  simp only [hNH, hNL] at T
  have hval : val NH NL = modM PV := by rw [← hNH, ← hNL]; exact modM_mag PV
  obtain ⟨b1, hb1⟩ : ∃ b, decide (a < 0) = b := ⟨_, rfl⟩
  obtain ⟨b2, hb2⟩ : ∃ b, decide (n < 0) = b := ⟨_, rfl⟩
  obtain ⟨b3, hb3⟩ : ∃ b, (!(b1 == b2)) = b := ⟨_, rfl⟩
  rw [hb1, hb2] at hb
  have hb' : signed b3 PV = V := by rw [← hb3]; exact hb
  simp only [hb1] at P1
  have P1 := Lib.hid P1
  have J := fun W => rjoin_any b3 NH NL k1 k2 W
  rw [hval] at J
  have hb2x : decide (n < 0) = b2 := hb2
  have hFF : (fitsM PV = false ∧ inW V = false) ∨ (fitsM PV = true ∧ inW (signed b3 (modM PV)) = false ∧ inW V = false) ∨ (fitsM PV = true ∧ inW (signed b3 (modM PV)) = true ∧ jH b3 (modM PV) = wH V ∧ jL b3 (modM PV) = wL V ∧ wE V = 0) := by
    cases hf : fitsM PV
    · exact Or.inl ⟨rfl, hso hf⟩
    · have hm := modM_fits hP hf
      rw [hm, hb']
      cases hi : inW V
      · exact Or.inr (Or.inl ⟨rfl, rfl, rfl⟩)
      · have hi' := hi
        rw [← hb'] at hi'
        have hlt : PV < 340282366920938463463374607431768211456 := by simpa only [fitsM, decide_eq_true_eq] using hf
        obtain ⟨j1, j2⟩ := j_fits hP hlt hi'
        rw [j1, j2, hb']
        exact Or.inr (Or.inr ⟨rfl, rfl, rfl, rfl, wE_in hi⟩)
  have HB2 := Lib.hid hb2x
  have HB3 := Lib.hid hb3
  have HFF := Lib.hid hFF
  clear hb hso hPV hV hMH hML hNH hNL hval hb1 hb2 hb3 hb' d1 hb2x hFF hP u1 u2 hnU k1 k2
  obtain ⟨FP, hFP⟩ : ∃ b, fitsM PV = b := ⟨_, rfl⟩
  obtain ⟨JV, hJV⟩ : ∃ b, inW (signed b3 (modM PV)) = b := ⟨_, rfl⟩
  obtain ⟨JH, hJH⟩ : ∃ b, jH b3 (modM PV) = b := ⟨_, rfl⟩
  obtain ⟨JL, hJL⟩ : ∃ b, jL b3 (modM PV) = b := ⟨_, rfl⟩
  have hq := HFF.out
  simp only [hFP] at T
  simp only [hJV, hJH, hJL] at J
  rw [hFP, hJV, hJH, hJL] at hq
  have T := Lib.hid T; have J := Lib.hid J
  clear HFF hFP hJV hJH hJL
  have HQ := Lib.hid hq
  clear hq
  go_enter Tryd.func57, Tryd.ntmps57
  go_wp2_with fail
  refine (P1.out _).mono ?_
  rintro e w1 ⟨rfl, q1⟩
  have R1 : Own w1 (w.heap.size + 1) (.int .i64 0) (.int .u64 0) := Own.keep (by refine ⟨?_, ?_, ?_, ?_⟩ <;> simp [go_sem]) q1
  have Z1 : Below w.heap.size w w1 := btr (by repeat (first | exact bref _ | refine bal ?_ _)) q1
  have s1 := R1.lt
  have R1' := R1.al (.cells #[.int .u64 MH, .int .u64 ML] 68)
  have Z1' := bal Z1 (.cells #[.int .u64 MH, .int .u64 ML] 68)
  have M1' := Own.new w1 (.int .u64 MH) (.int .u64 ML) 68
  obtain ⟨m0, m1, _, _⟩ := M1'
  clear R1 Z1 q1
  go_wp2_with fail
  go_cut [8, 9] (fun v8 v9 wx => ∃ b : Nat, v8 = .pointer (some ⟨b, 0, none⟩) ∧ v9 = .bool FP ∧ Own wx b (.int .u64 NH) (.int .u64 NL) ∧ Own wx (w.heap.size + 1) (.int .i64 0) (.int .u64 0) ∧ Below w.heap.size w wx)
  case first =>
    go_region_with (first
      | (go_at_call 76; refine (SZ.out _).mono ?_; rintro e W1 ⟨rfl, rfl⟩)
      | (go_at_call 75; refine (T.out _).mono ?_; rintro e W1 ⟨rfl, hk⟩; have RA : Own W1 (w.heap.size + 1) (.int .i64 0) (.int .u64 0) := Own.keep (by repeat (first | exact R1' | refine Own.dr ?_ | refine Own.al ?_ _)) hk; have ZA : Below w.heap.size w W1 := btr (by repeat (first | exact Z1' | refine bdr ?_ | refine bal ?_ _)) hk; first | (refine (fun (XA : Own W1 (w1.heap.size + 1) (.int .u64 0) (.int .u64 0)) => ?_) (Own.keep ?_ hk); rotate_left; (refine ⟨?_, ?_, ?_, ?_⟩ <;> (simp [go_sem]; done)); obtain ⟨x0, x1, x2, x3⟩ := XA) | skip))
    all_goals (go_wp2_with fail; go_meet; refine ⟨_, rfl, rfl, ?_, ?_, ?_⟩)
    all_goals (try (exact Own.new _ _ _ _))
    all_goals (try (refine Own.put (x := .int .u64 0) (y := .int .u64 0) ?_ _ _; refine ⟨?_, ?_, ?_, ?_⟩ <;> assumption))
    all_goals (repeat (first | exact RA | exact ZA | refine Own.dr ?_ | refine Own.al ?_ _ | refine Own.far ?_ (by dsimp only; omega) _ | refine bdr ?_ | refine bal ?_ _ | refine bset ?_ (by dsimp only; omega) _))
  case rest =>
    obtain ⟨b, rfl, rfl, X3, R3, Z3⟩ := hcut
    clear R1' Z1' m0 m1 T P1 SZ
    obtain ⟨x0, x1, _, _⟩ := X3
    have X3 := True.intro
    have g1 := HB2.out
    have g2 := HB3.out
    have g3 : (b1 != b2) = b3 := g2
    rcases HQ.out with ⟨rfl, hi⟩ | ⟨rfl, rfl, hi⟩ | ⟨rfl, rfl, rfl, rfl, hi⟩
    · have HI := Lib.hid hi
      clear HQ hi
      go_wp2_with fail
      refine (J.out _).mono ?_
      rintro e w4 ⟨rfl, q4⟩
      have R4 := R3.keep q4
      have Z4 := btr Z3 q4
      have s4 := R4.lt
      clear R3 Z3 X3 q4 x0 x1
      obtain ⟨r0, r1, r2, r3⟩ := R4
      go_wp2_with fail
      refine bodyPost_ret (v := .tuple #[.agg #[.int .i64 0, .int .u64 0], .int .i64 6]) (by simp [results, Tryd.results57, go_sem, r0, r1, s4]) rfl ⟨by rw [wH_out HI.out, wL_out HI.out, wE_out HI.out], ?_⟩
      (repeat (first | exact Z4 | refine bal ?_ _ | refine bset ?_ (by dsimp only; omega) _))
    · have HI := Lib.hid hi
      clear HQ hi
      go_wp2_with fail
      refine (J.out _).mono ?_
      rintro e w4 ⟨rfl, q4⟩
      have R4 := R3.keep q4
      have Z4 := btr Z3 q4
      have s4 := R4.lt
      clear R3 Z3 X3 q4 x0 x1
      obtain ⟨r0, r1, r2, r3⟩ := R4
      go_wp2_with fail
      refine bodyPost_ret (v := .tuple #[.agg #[.int .i64 0, .int .u64 0], .int .i64 6]) (by simp [results, Tryd.results57, go_sem, r0, r1, s4]) rfl ⟨by rw [wH_out HI.out, wL_out HI.out, wE_out HI.out], ?_⟩
      (repeat (first | exact Z4 | refine bal ?_ _ | refine bset ?_ (by dsimp only; omega) _))
    · have HI := Lib.hid hi
      clear HQ hi
      go_wp2_with fail
      refine (J.out _).mono ?_
      rintro e w4 ⟨rfl, q4⟩
      have R4 := R3.keep q4
      have Z4 := btr Z3 q4
      have s4 := R4.lt
      clear R3 Z3 X3 q4 x0 x1
      obtain ⟨r0, r1, r2, r3⟩ := R4
      go_wp2_with fail
      refine bodyPost_ret (v := .tuple #[.agg #[.int .i64 (wH V), .int .u64 (wL V)], .int .i64 0]) (by simp [results, Tryd.results57, go_sem, r0, r1, s4]) rfl ⟨by rw [HI.out], ?_⟩
      (repeat (first | exact Z4 | refine bal ?_ _ | refine bset ?_ (by dsimp only; omega) _))
end Go.Proofs.YtjhfbnndapopgaaDoor
