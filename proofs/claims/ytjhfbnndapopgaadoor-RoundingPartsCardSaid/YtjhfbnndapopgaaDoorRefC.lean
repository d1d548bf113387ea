/-
  Contracts of the document's own sum, Add, Sub, shifted.
-/
import Derived.Test.YtjhfbnndapopgaaDoorRefB
import Derived.Test.YtjhfbnndapopgaaDoorMath
import Derived.Test.YtjhfbnndapopgaaDoorRead
namespace Go.Proofs.YtjhfbnndapopgaaDoor
open Go Go.RowKit WM
attribute [local go_sem ↓] Go.wp_at_zero Go.wp_at_succ

theorem rshifted_any (a l : Int) (hh : U64 a) (hl : U64 l) (w : World) :
    Calls Tryd.prog 79 #[.agg #[.int .u64 a, .int .u64 l]] w fun e w' =>
      e = .returned (.tuple #[.agg #[.int .u64 (mH (modM (2 * val a l))), .int .u64 (mL (modM (2 * val a l)))], .bool (fitsM (2 * val a l))]) ∧ Below w.heap.size w w' := by
  have P := fun W => rplus_any a l a l hh hl hh hl W
  have e2 : val a l + val a l = 2 * val a l := by omega
  simp only [e2] at P
  have P := Lib.hid P
  clear e2
  go_enter Tryd.func79, Tryd.ntmps79
  go_wp2_with fail
  refine (P.out _).mono ?_
  rintro e w1 ⟨rfl, q1⟩
  have R1 : Own w1 (w.heap.size + 1) (.int .u64 0) (.int .u64 0) := Own.keep (by refine ⟨?_, ?_, ?_, ?_⟩ <;> simp [go_sem]) q1
  have Z1 : Below w.heap.size w w1 := btr (by repeat (first | exact bref _ | refine bal ?_ _)) q1
  obtain ⟨r0, r1, r2, r3⟩ := R1
  go_wp2_with fail
  refine bodyPost_ret (v := .tuple #[.agg #[.int .u64 (mH (modM (2 * val a l))), .int .u64 (mL (modM (2 * val a l)))], .bool (fitsM (2 * val a l))]) (by simp [results, Tryd.results79, go_sem, r0, r1]) rfl ⟨rfl, ?_⟩
  (repeat (first | exact Z1 | refine bal ?_ _ | refine bset ?_ (by simp; done) _))

set_option maxHeartbeats 2000000 in
theorem rsum_same (b : Bool) (ha la hb lb : Int) (h1 : U64 ha) (h2 : U64 la) (h3 : U64 hb) (h4 : U64 lb) (w : World) :
    Calls Tryd.prog 56 #[.bool b, .agg #[.int .u64 ha, .int .u64 la], .bool b, .agg #[.int .u64 hb, .int .u64 lb]] w fun e w' =>
      e = .returned (.tuple #[.agg #[.int .i64 (wH (signed b (val ha la) + signed b (val hb lb))), .int .u64 (wL (signed b (val ha la) + signed b (val hb lb)))], .int .i64 (wE (signed b (val ha la) + signed b (val hb lb)))]) ∧ Below w.heap.size w w' := by
  have hs : signed b (val ha la) + signed b (val hb lb) = signed b (val ha la + val hb lb) := by unfold signed; split <;> omega
  rw [hs]
  have P := fun W => rplus_any ha la hb lb h1 h2 h3 h4 W
  obtain ⟨a0, a1⟩ := mag_bd h1 h2
  obtain ⟨b0, b1⟩ := mag_bd h3 h4
  obtain ⟨S, hS⟩ : ∃ S, val ha la + val hb lb = S := ⟨_, rfl⟩
  have hS0 : 0 ≤ S := by omega
  simp only [hS] at P
  rw [hS]
  obtain ⟨m1, m2⟩ := modM_U S
  have J := fun W => rjoin_any b (mH (modM S)) (mL (modM S)) m1 m2 W
  simp only [modM_mag] at J
  have hbb : (b == b) = true := by cases b <;> rfl
  cases hf : fitsM S
  · have ho : inW (signed b S) = false := by
      rw [inW_not]; unfold signed
      simp only [fitsM, decide_eq_false_iff_not] at hf
      split <;> omega
    have HO := Lib.hid ho
    simp only [hf] at P
    have P := Lib.hid P
    have J := Lib.hid J
    clear hs hS hS0 a0 a1 b0 b1 hf ho m1 m2
    go_enter Tryd.func56, Tryd.ntmps56
    go_wp2_with fail
    go_region_held3 (fun w' => w'.cell? ⟨w.heap.size, 0, none⟩ = some (.int .u64 ha) ∧ w'.cell? ⟨w.heap.size, 1, none⟩ = some (.int .u64 la)) (go_keep) (fail)
    go_wp2_with fail
    refine (P.out _).mono ?_
    rintro e w1 ⟨rfl, q1⟩
    have R1 : Own w1 (w.heap.size + 1 + 1) (.int .i64 0) (.int .u64 0) := Own.keep (by refine ⟨?_, ?_, ?_, ?_⟩ <;> simp [go_sem]) q1
    have M1 : Own w1 (w.heap.size + 1 + 1 + 1) (.int .u64 ha) (.int .u64 la) := Own.keep (by refine ⟨?_, ?_, ?_, ?_⟩ <;> simp [go_sem]) q1
    have Z1 : Below w.heap.size w w1 := btr (by repeat (first | exact bref _ | refine bdr ?_ | refine bal ?_ _)) q1
    have M2 := M1.put (.int .u64 (mH (modM S))) (.int .u64 (mL (modM S)))
    have Z1' := bset (bset Z1 (p := ⟨w.heap.size + 1 + 1 + 1, 0, none⟩) (by simp; omega) (.int .u64 (mH (modM S)))) (p := ⟨w.heap.size + 1 + 1 + 1, 1, none⟩) (by simp; omega) (.int .u64 (mL (modM S)))
    obtain ⟨m0, m1, m2, m3⟩ := M1
    go_wp2_with fail
    refine (J.out _).mono ?_
    rintro e w2 ⟨rfl, q2⟩
    have R2 : Own w2 (w.heap.size + 1 + 1) (.int .i64 0) (.int .u64 0) := Own.keep ((R1.far (by simp) _).far (by simp) _) q2
    have Z2 := btr Z1' q2
    have s2 := R2.lt
    clear R1 Z1 Z1' M2 q1 q2 m0 m1 m2 m3
    obtain ⟨r0, r1, r2, r3⟩ := R2
    go_wp2_with fail
    refine bodyPost_ret (v := .tuple #[.agg #[.int .i64 0, .int .u64 0], .int .i64 6]) (by simp [results, Tryd.results56, go_sem, r0, r1, s2]) rfl ⟨by rw [wH_out HO.out, wL_out HO.out, wE_out HO.out], ?_⟩
    (repeat (first | exact Z2 | refine bal ?_ _ | refine bset ?_ (by dsimp only; omega) _))
  · have hm := modM_fits hS0 hf
    rw [hm] at J
    simp only [hf, hm] at P
    have P := Lib.hid P
    cases hi : inW (signed b S)
    · have HO := Lib.hid hi
      simp only [hi] at J
      have J := Lib.hid J
      clear hs hS hS0 a0 a1 b0 b1 hf hi m1 m2 hm
      go_enter Tryd.func56, Tryd.ntmps56
      go_wp2_with fail
      go_region_held3 (fun w' => w'.cell? ⟨w.heap.size, 0, none⟩ = some (.int .u64 ha) ∧ w'.cell? ⟨w.heap.size, 1, none⟩ = some (.int .u64 la)) (go_keep) (fail)
      go_wp2_with fail
      refine (P.out _).mono ?_
      rintro e w1 ⟨rfl, q1⟩
      have R1 : Own w1 (w.heap.size + 1 + 1) (.int .i64 0) (.int .u64 0) := Own.keep (by refine ⟨?_, ?_, ?_, ?_⟩ <;> simp [go_sem]) q1
      have M1 : Own w1 (w.heap.size + 1 + 1 + 1) (.int .u64 ha) (.int .u64 la) := Own.keep (by refine ⟨?_, ?_, ?_, ?_⟩ <;> simp [go_sem]) q1
      have Z1 : Below w.heap.size w w1 := btr (by repeat (first | exact bref _ | refine bdr ?_ | refine bal ?_ _)) q1
      have M2 := M1.put (.int .u64 (mH S)) (.int .u64 (mL S))
      have Z1' := bset (bset Z1 (p := ⟨w.heap.size + 1 + 1 + 1, 0, none⟩) (by simp; omega) (.int .u64 (mH S))) (p := ⟨w.heap.size + 1 + 1 + 1, 1, none⟩) (by simp; omega) (.int .u64 (mL S))
      obtain ⟨m0, m1, m2, m3⟩ := M1
      go_wp2_with fail
      refine (J.out _).mono ?_
      rintro e w2 ⟨rfl, q2⟩
      have R2 : Own w2 (w.heap.size + 1 + 1) (.int .i64 0) (.int .u64 0) := Own.keep ((R1.far (by simp) _).far (by simp) _) q2
      have Z2 := btr Z1' q2
      have s2 := R2.lt
      clear R1 Z1 Z1' M2 q1 q2 m0 m1 m2 m3
      obtain ⟨r0, r1, r2, r3⟩ := R2
      go_wp2_with fail
      refine bodyPost_ret (v := .tuple #[.agg #[.int .i64 0, .int .u64 0], .int .i64 6]) (by simp [results, Tryd.results56, go_sem, r0, r1, s2]) rfl ⟨by rw [wH_out HO.out, wL_out HO.out, wE_out HO.out], ?_⟩
      (repeat (first | exact Z2 | refine bal ?_ _ | refine bset ?_ (by dsimp only; omega) _))
    · have HO := Lib.hid hi
      simp only [fitsM, decide_eq_true_eq] at hf
      obtain ⟨j1, j2⟩ := j_fits hS0 hf hi
      simp only [hi, j1, j2] at J
      have J := Lib.hid J
      clear hs hS hS0 a0 a1 b0 b1 hf hi m1 m2 hm j1 j2
      go_enter Tryd.func56, Tryd.ntmps56
      go_wp2_with fail
      go_region_held3 (fun w' => w'.cell? ⟨w.heap.size, 0, none⟩ = some (.int .u64 ha) ∧ w'.cell? ⟨w.heap.size, 1, none⟩ = some (.int .u64 la)) (go_keep) (fail)
      go_wp2_with fail
      refine (P.out _).mono ?_
      rintro e w1 ⟨rfl, q1⟩
      have R1 : Own w1 (w.heap.size + 1 + 1) (.int .i64 0) (.int .u64 0) := Own.keep (by refine ⟨?_, ?_, ?_, ?_⟩ <;> simp [go_sem]) q1
      have M1 : Own w1 (w.heap.size + 1 + 1 + 1) (.int .u64 ha) (.int .u64 la) := Own.keep (by refine ⟨?_, ?_, ?_, ?_⟩ <;> simp [go_sem]) q1
      have Z1 : Below w.heap.size w w1 := btr (by repeat (first | exact bref _ | refine bdr ?_ | refine bal ?_ _)) q1
      have M2 := M1.put (.int .u64 (mH S)) (.int .u64 (mL S))
      have Z1' := bset (bset Z1 (p := ⟨w.heap.size + 1 + 1 + 1, 0, none⟩) (by simp; omega) (.int .u64 (mH S))) (p := ⟨w.heap.size + 1 + 1 + 1, 1, none⟩) (by simp; omega) (.int .u64 (mL S))
      obtain ⟨m0, m1, m2, m3⟩ := M1
      go_wp2_with fail
      refine (J.out _).mono ?_
      rintro e w2 ⟨rfl, q2⟩
      have R2 : Own w2 (w.heap.size + 1 + 1) (.int .i64 0) (.int .u64 0) := Own.keep ((R1.far (by simp) _).far (by simp) _) q2
      have Z2 := btr Z1' q2
      have s2 := R2.lt
      clear R1 Z1 Z1' M2 q1 q2 m0 m1 m2 m3
      obtain ⟨r0, r1, r2, r3⟩ := R2
      go_wp2_with fail
      refine bodyPost_ret (v := .tuple #[.agg #[.int .i64 (wH (signed b S)), .int .u64 (wL (signed b S))], .int .i64 0]) (by simp [results, Tryd.results56, go_sem, r0, r1, s2]) rfl ⟨by rw [wE_in HO.out], ?_⟩
      (repeat (first | exact Z2 | refine bal ?_ _ | refine bset ?_ (by dsimp only; omega) _))

set_option maxHeartbeats 2000000 in
theorem rsum_t_less (ha la hb lb : Int) (h1 : U64 ha) (h2 : U64 la) (h3 : U64 hb) (h4 : U64 lb) (hlt : val ha la < val hb lb) (w : World) :
    Calls Tryd.prog 56 #[.bool true, .agg #[.int .u64 ha, .int .u64 la], .bool false, .agg #[.int .u64 hb, .int .u64 lb]] w fun e w' =>
      e = .returned (.tuple #[.agg #[.int .i64 (wH (signed true (val ha la) + signed false (val hb lb))), .int .u64 (wL (signed true (val ha la) + signed false (val hb lb)))], .int .i64 (wE (signed true (val ha la) + signed false (val hb lb)))]) ∧ Below w.heap.size w w' := by
  have hs : (signed true (val ha la) + signed false (val hb lb)) = signed false (val hb lb - val ha la) := by simp only [signed, Bool.false_eq_true, if_false, if_true]; omega
  rw [hs]
  have P := fun W => rminus_any hb lb ha la h3 h4 h1 h2 (by omega) W
  have L := fun W => rless_any ha la hb lb h2 h4 W
  have hd : decide (val ha la < val hb lb) = true := by simpa using hlt
  simp only [hd] at L
  have L := Lib.hid L
  obtain ⟨a0, a1⟩ := mag_bd h1 h2
  obtain ⟨b0, b1⟩ := mag_bd h3 h4
  obtain ⟨D, hD⟩ : ∃ D, val hb lb - val ha la = D := ⟨_, rfl⟩
  have hD0 : 0 ≤ D := by omega
  have hD1 : D < 340282366920938463463374607431768211456 := by omega
  simp only [hD] at P
  have P := Lib.hid P
  rw [hD]
  have J := fun W => rjoin_any false (mH D) (mL D) (mH_U64 hD0 hD1) (mL_U64 _) W
  simp only [val_mag] at J
  cases hi : inW (signed false D)
  · have HO := Lib.hid hi
    simp only [hi] at J
    have J := Lib.hid J
    clear hs hD a0 a1 b0 b1 hi hd hlt hD0 hD1
    go_enter Tryd.func56, Tryd.ntmps56
    go_wp2_with fail
    go_region_held3 (fun w' => w'.cell? ⟨w.heap.size, 0, none⟩ = some (.int .u64 ha) ∧ w'.cell? ⟨w.heap.size, 1, none⟩ = some (.int .u64 la)) (go_keep) (fail)
    go_wp2_with fail
    refine (L.out _).mono ?_
    rintro e w1 ⟨rfl, q1⟩
    have A1 : Own w1 (w.heap.size) (.int .u64 ha) (.int .u64 la) := Own.keep (by refine ⟨?_, ?_, ?_, ?_⟩ <;> simp [go_sem]) q1
    have B1 : Own w1 (w.heap.size + 1) (.int .u64 hb) (.int .u64 lb) := Own.keep (by refine ⟨?_, ?_, ?_, ?_⟩ <;> simp [go_sem]) q1
    have R1 : Own w1 (w.heap.size + 1 + 1) (.int .i64 0) (.int .u64 0) := Own.keep (by refine ⟨?_, ?_, ?_, ?_⟩ <;> simp [go_sem]) q1
    have M1 : Own w1 (w.heap.size + 1 + 1 + 1) (.int .u64 ha) (.int .u64 la) := Own.keep (by refine ⟨?_, ?_, ?_, ?_⟩ <;> simp [go_sem]) q1
    have Z1 : Below w.heap.size w w1 := btr (by repeat (first | exact bref _ | refine bdr ?_ | refine bal ?_ _)) q1
    clear q1
    obtain ⟨a0, a1, _, _⟩ := A1
    obtain ⟨b0, b1, _, _⟩ := B1
    go_wp2_with fail
    refine (P.out _).mono ?_
    rintro e w3 ⟨rfl, q3⟩
    have R3 := R1.keep q3
    have M3 := M1.keep q3
    have Z3 := btr Z1 q3
    clear R1 M1 Z1 q3 a0 a1 b0 b1
    have M4 := M3.put (.int .u64 (mH D)) (.int .u64 (mL D))
    have Z3' := bset (bset Z3 (p := ⟨w.heap.size + 1 + 1 + 1, 0, none⟩) (by simp; omega) (.int .u64 (mH D))) (p := ⟨w.heap.size + 1 + 1 + 1, 1, none⟩) (by simp; omega) (.int .u64 (mL D))
    obtain ⟨m0, m1, m2, m3⟩ := M3
    go_wp2_with fail
    refine (J.out _).mono ?_
    rintro e w2 ⟨rfl, q2⟩
    have R2 : Own w2 (w.heap.size + 1 + 1) (.int .i64 0) (.int .u64 0) := Own.keep ((R3.far (by simp) _).far (by simp) _) q2
    have Z2 := btr Z3' q2
    have s2 := R2.lt
    clear R3 Z3 Z3' M4 q2 m0 m1 m2 m3
    obtain ⟨r0, r1, r2, r3⟩ := R2
    go_wp2_with fail
    refine bodyPost_ret (v := .tuple #[.agg #[.int .i64 0, .int .u64 0], .int .i64 6]) (by simp [results, Tryd.results56, go_sem, r0, r1, s2]) rfl ⟨by rw [wH_out HO.out, wL_out HO.out, wE_out HO.out], ?_⟩
    (repeat (first | exact Z2 | refine bal ?_ _ | refine bset ?_ (by dsimp only; omega) _))
  · have HO := Lib.hid hi
    obtain ⟨j1, j2⟩ := j_fits hD0 hD1 hi
    simp only [hi, j1, j2] at J
    have J := Lib.hid J
    clear hs hD a0 a1 b0 b1 hi hd hlt hD0 hD1 j1 j2
    go_enter Tryd.func56, Tryd.ntmps56
    go_wp2_with fail
    go_region_held3 (fun w' => w'.cell? ⟨w.heap.size, 0, none⟩ = some (.int .u64 ha) ∧ w'.cell? ⟨w.heap.size, 1, none⟩ = some (.int .u64 la)) (go_keep) (fail)
    go_wp2_with fail
    refine (L.out _).mono ?_
    rintro e w1 ⟨rfl, q1⟩
    have A1 : Own w1 (w.heap.size) (.int .u64 ha) (.int .u64 la) := Own.keep (by refine ⟨?_, ?_, ?_, ?_⟩ <;> simp [go_sem]) q1
    have B1 : Own w1 (w.heap.size + 1) (.int .u64 hb) (.int .u64 lb) := Own.keep (by refine ⟨?_, ?_, ?_, ?_⟩ <;> simp [go_sem]) q1
    have R1 : Own w1 (w.heap.size + 1 + 1) (.int .i64 0) (.int .u64 0) := Own.keep (by refine ⟨?_, ?_, ?_, ?_⟩ <;> simp [go_sem]) q1
    have M1 : Own w1 (w.heap.size + 1 + 1 + 1) (.int .u64 ha) (.int .u64 la) := Own.keep (by refine ⟨?_, ?_, ?_, ?_⟩ <;> simp [go_sem]) q1
    have Z1 : Below w.heap.size w w1 := btr (by repeat (first | exact bref _ | refine bdr ?_ | refine bal ?_ _)) q1
    clear q1
    obtain ⟨a0, a1, _, _⟩ := A1
    obtain ⟨b0, b1, _, _⟩ := B1
    go_wp2_with fail
    refine (P.out _).mono ?_
    rintro e w3 ⟨rfl, q3⟩
    have R3 := R1.keep q3
    have M3 := M1.keep q3
    have Z3 := btr Z1 q3
    clear R1 M1 Z1 q3 a0 a1 b0 b1
    have M4 := M3.put (.int .u64 (mH D)) (.int .u64 (mL D))
    have Z3' := bset (bset Z3 (p := ⟨w.heap.size + 1 + 1 + 1, 0, none⟩) (by simp; omega) (.int .u64 (mH D))) (p := ⟨w.heap.size + 1 + 1 + 1, 1, none⟩) (by simp; omega) (.int .u64 (mL D))
    obtain ⟨m0, m1, m2, m3⟩ := M3
    go_wp2_with fail
    refine (J.out _).mono ?_
    rintro e w2 ⟨rfl, q2⟩
    have R2 : Own w2 (w.heap.size + 1 + 1) (.int .i64 0) (.int .u64 0) := Own.keep ((R3.far (by simp) _).far (by simp) _) q2
    have Z2 := btr Z3' q2
    have s2 := R2.lt
    clear R3 Z3 Z3' M4 q2 m0 m1 m2 m3
    obtain ⟨r0, r1, r2, r3⟩ := R2
    go_wp2_with fail
    refine bodyPost_ret (v := .tuple #[.agg #[.int .i64 (wH (signed false D)), .int .u64 (wL (signed false D))], .int .i64 0]) (by simp [results, Tryd.results56, go_sem, r0, r1, s2]) rfl ⟨by rw [wE_in HO.out], ?_⟩
    (repeat (first | exact Z2 | refine bal ?_ _ | refine bset ?_ (by dsimp only; omega) _))

set_option maxHeartbeats 2000000 in
theorem rsum_t_more (ha la hb lb : Int) (h1 : U64 ha) (h2 : U64 la) (h3 : U64 hb) (h4 : U64 lb) (hge : val hb lb ≤ val ha la) (w : World) :
    Calls Tryd.prog 56 #[.bool true, .agg #[.int .u64 ha, .int .u64 la], .bool false, .agg #[.int .u64 hb, .int .u64 lb]] w fun e w' =>
      e = .returned (.tuple #[.agg #[.int .i64 (wH (signed true (val ha la) + signed false (val hb lb))), .int .u64 (wL (signed true (val ha la) + signed false (val hb lb)))], .int .i64 (wE (signed true (val ha la) + signed false (val hb lb)))]) ∧ Below w.heap.size w w' := by
  have hs : (signed true (val ha la) + signed false (val hb lb)) = signed true (val ha la - val hb lb) := by simp only [signed, Bool.false_eq_true, if_false, if_true]; omega
  rw [hs]
  have P := fun W => rminus_any ha la hb lb h1 h2 h3 h4 hge W
  have L := fun W => rless_any ha la hb lb h2 h4 W
  have hd : decide (val ha la < val hb lb) = false := by simpa using hge
  simp only [hd] at L
  have L := Lib.hid L
  obtain ⟨a0, a1⟩ := mag_bd h1 h2
  obtain ⟨b0, b1⟩ := mag_bd h3 h4
  obtain ⟨D, hD⟩ : ∃ D, val ha la - val hb lb = D := ⟨_, rfl⟩
  have hD0 : 0 ≤ D := by omega
  have hD1 : D < 340282366920938463463374607431768211456 := by omega
  simp only [hD] at P
  have P := Lib.hid P
  rw [hD]
  have J := fun W => rjoin_any true (mH D) (mL D) (mH_U64 hD0 hD1) (mL_U64 _) W
  simp only [val_mag] at J
  cases hi : inW (signed true D)
  · have HO := Lib.hid hi
    simp only [hi] at J
    have J := Lib.hid J
    clear hs hD a0 a1 b0 b1 hi hd hge hD0 hD1
    go_enter Tryd.func56, Tryd.ntmps56
    go_wp2_with fail
    go_region_held3 (fun w' => w'.cell? ⟨w.heap.size, 0, none⟩ = some (.int .u64 ha) ∧ w'.cell? ⟨w.heap.size, 1, none⟩ = some (.int .u64 la)) (go_keep) (fail)
    go_wp2_with fail
    refine (L.out _).mono ?_
    rintro e w1 ⟨rfl, q1⟩
    have A1 : Own w1 (w.heap.size) (.int .u64 ha) (.int .u64 la) := Own.keep (by refine ⟨?_, ?_, ?_, ?_⟩ <;> simp [go_sem]) q1
    have B1 : Own w1 (w.heap.size + 1) (.int .u64 hb) (.int .u64 lb) := Own.keep (by refine ⟨?_, ?_, ?_, ?_⟩ <;> simp [go_sem]) q1
    have R1 : Own w1 (w.heap.size + 1 + 1) (.int .i64 0) (.int .u64 0) := Own.keep (by refine ⟨?_, ?_, ?_, ?_⟩ <;> simp [go_sem]) q1
    have M1 : Own w1 (w.heap.size + 1 + 1 + 1) (.int .u64 ha) (.int .u64 la) := Own.keep (by refine ⟨?_, ?_, ?_, ?_⟩ <;> simp [go_sem]) q1
    have Z1 : Below w.heap.size w w1 := btr (by repeat (first | exact bref _ | refine bdr ?_ | refine bal ?_ _)) q1
    clear q1
    obtain ⟨a0, a1, _, _⟩ := A1
    obtain ⟨b0, b1, _, _⟩ := B1
    go_wp2_with fail
    refine (P.out _).mono ?_
    rintro e w3 ⟨rfl, q3⟩
    have R3 := R1.keep q3
    have M3 := M1.keep q3
    have Z3 := btr Z1 q3
    clear R1 M1 Z1 q3 a0 a1 b0 b1
    have M4 := M3.put (.int .u64 (mH D)) (.int .u64 (mL D))
    have Z3' := bset (bset Z3 (p := ⟨w.heap.size + 1 + 1 + 1, 0, none⟩) (by simp; omega) (.int .u64 (mH D))) (p := ⟨w.heap.size + 1 + 1 + 1, 1, none⟩) (by simp; omega) (.int .u64 (mL D))
    obtain ⟨m0, m1, m2, m3⟩ := M3
    go_wp2_with fail
    refine (J.out _).mono ?_
    rintro e w2 ⟨rfl, q2⟩
    have R2 : Own w2 (w.heap.size + 1 + 1) (.int .i64 0) (.int .u64 0) := Own.keep ((R3.far (by simp) _).far (by simp) _) q2
    have Z2 := btr Z3' q2
    have s2 := R2.lt
    clear R3 Z3 Z3' M4 q2 m0 m1 m2 m3
    obtain ⟨r0, r1, r2, r3⟩ := R2
    go_wp2_with fail
    refine bodyPost_ret (v := .tuple #[.agg #[.int .i64 0, .int .u64 0], .int .i64 6]) (by simp [results, Tryd.results56, go_sem, r0, r1, s2]) rfl ⟨by rw [wH_out HO.out, wL_out HO.out, wE_out HO.out], ?_⟩
    (repeat (first | exact Z2 | refine bal ?_ _ | refine bset ?_ (by dsimp only; omega) _))
  · have HO := Lib.hid hi
    obtain ⟨j1, j2⟩ := j_fits hD0 hD1 hi
    simp only [hi, j1, j2] at J
    have J := Lib.hid J
    clear hs hD a0 a1 b0 b1 hi hd hge hD0 hD1 j1 j2
    go_enter Tryd.func56, Tryd.ntmps56
    go_wp2_with fail
    go_region_held3 (fun w' => w'.cell? ⟨w.heap.size, 0, none⟩ = some (.int .u64 ha) ∧ w'.cell? ⟨w.heap.size, 1, none⟩ = some (.int .u64 la)) (go_keep) (fail)
    go_wp2_with fail
    refine (L.out _).mono ?_
    rintro e w1 ⟨rfl, q1⟩
    have A1 : Own w1 (w.heap.size) (.int .u64 ha) (.int .u64 la) := Own.keep (by refine ⟨?_, ?_, ?_, ?_⟩ <;> simp [go_sem]) q1
    have B1 : Own w1 (w.heap.size + 1) (.int .u64 hb) (.int .u64 lb) := Own.keep (by refine ⟨?_, ?_, ?_, ?_⟩ <;> simp [go_sem]) q1
    have R1 : Own w1 (w.heap.size + 1 + 1) (.int .i64 0) (.int .u64 0) := Own.keep (by refine ⟨?_, ?_, ?_, ?_⟩ <;> simp [go_sem]) q1
    have M1 : Own w1 (w.heap.size + 1 + 1 + 1) (.int .u64 ha) (.int .u64 la) := Own.keep (by refine ⟨?_, ?_, ?_, ?_⟩ <;> simp [go_sem]) q1
    have Z1 : Below w.heap.size w w1 := btr (by repeat (first | exact bref _ | refine bdr ?_ | refine bal ?_ _)) q1
    clear q1
    obtain ⟨a0, a1, _, _⟩ := A1
    obtain ⟨b0, b1, _, _⟩ := B1
    go_wp2_with fail
    refine (P.out _).mono ?_
    rintro e w3 ⟨rfl, q3⟩
    have R3 := R1.keep q3
    have M3 := M1.keep q3
    have Z3 := btr Z1 q3
    clear R1 M1 Z1 q3 a0 a1 b0 b1
    have M4 := M3.put (.int .u64 (mH D)) (.int .u64 (mL D))
    have Z3' := bset (bset Z3 (p := ⟨w.heap.size + 1 + 1 + 1, 0, none⟩) (by simp; omega) (.int .u64 (mH D))) (p := ⟨w.heap.size + 1 + 1 + 1, 1, none⟩) (by simp; omega) (.int .u64 (mL D))
    obtain ⟨m0, m1, m2, m3⟩ := M3
    go_wp2_with fail
    refine (J.out _).mono ?_
    rintro e w2 ⟨rfl, q2⟩
    have R2 : Own w2 (w.heap.size + 1 + 1) (.int .i64 0) (.int .u64 0) := Own.keep ((R3.far (by simp) _).far (by simp) _) q2
    have Z2 := btr Z3' q2
    have s2 := R2.lt
    clear R3 Z3 Z3' M4 q2 m0 m1 m2 m3
    obtain ⟨r0, r1, r2, r3⟩ := R2
    go_wp2_with fail
    refine bodyPost_ret (v := .tuple #[.agg #[.int .i64 (wH (signed true D)), .int .u64 (wL (signed true D))], .int .i64 0]) (by simp [results, Tryd.results56, go_sem, r0, r1, s2]) rfl ⟨by rw [wE_in HO.out], ?_⟩
    (repeat (first | exact Z2 | refine bal ?_ _ | refine bset ?_ (by dsimp only; omega) _))

set_option maxHeartbeats 2000000 in
theorem rsum_f_less (ha la hb lb : Int) (h1 : U64 ha) (h2 : U64 la) (h3 : U64 hb) (h4 : U64 lb) (hlt : val ha la < val hb lb) (w : World) :
    Calls Tryd.prog 56 #[.bool false, .agg #[.int .u64 ha, .int .u64 la], .bool true, .agg #[.int .u64 hb, .int .u64 lb]] w fun e w' =>
      e = .returned (.tuple #[.agg #[.int .i64 (wH (signed false (val ha la) + signed true (val hb lb))), .int .u64 (wL (signed false (val ha la) + signed true (val hb lb)))], .int .i64 (wE (signed false (val ha la) + signed true (val hb lb)))]) ∧ Below w.heap.size w w' := by
  have hs : (signed false (val ha la) + signed true (val hb lb)) = signed true (val hb lb - val ha la) := by simp only [signed, Bool.false_eq_true, if_false, if_true]; omega
  rw [hs]
  have P := fun W => rminus_any hb lb ha la h3 h4 h1 h2 (by omega) W
  have L := fun W => rless_any ha la hb lb h2 h4 W
  have hd : decide (val ha la < val hb lb) = true := by simpa using hlt
  simp only [hd] at L
  have L := Lib.hid L
  obtain ⟨a0, a1⟩ := mag_bd h1 h2
  obtain ⟨b0, b1⟩ := mag_bd h3 h4
  obtain ⟨D, hD⟩ : ∃ D, val hb lb - val ha la = D := ⟨_, rfl⟩
  have hD0 : 0 ≤ D := by omega
  have hD1 : D < 340282366920938463463374607431768211456 := by omega
  simp only [hD] at P
  have P := Lib.hid P
  rw [hD]
  have J := fun W => rjoin_any true (mH D) (mL D) (mH_U64 hD0 hD1) (mL_U64 _) W
  simp only [val_mag] at J
  cases hi : inW (signed true D)
  · have HO := Lib.hid hi
    simp only [hi] at J
    have J := Lib.hid J
    clear hs hD a0 a1 b0 b1 hi hd hlt hD0 hD1
    go_enter Tryd.func56, Tryd.ntmps56
    go_wp2_with fail
    go_region_held3 (fun w' => w'.cell? ⟨w.heap.size, 0, none⟩ = some (.int .u64 ha) ∧ w'.cell? ⟨w.heap.size, 1, none⟩ = some (.int .u64 la)) (go_keep) (fail)
    go_wp2_with fail
    refine (L.out _).mono ?_
    rintro e w1 ⟨rfl, q1⟩
    have A1 : Own w1 (w.heap.size) (.int .u64 ha) (.int .u64 la) := Own.keep (by refine ⟨?_, ?_, ?_, ?_⟩ <;> simp [go_sem]) q1
    have B1 : Own w1 (w.heap.size + 1) (.int .u64 hb) (.int .u64 lb) := Own.keep (by refine ⟨?_, ?_, ?_, ?_⟩ <;> simp [go_sem]) q1
    have R1 : Own w1 (w.heap.size + 1 + 1) (.int .i64 0) (.int .u64 0) := Own.keep (by refine ⟨?_, ?_, ?_, ?_⟩ <;> simp [go_sem]) q1
    have M1 : Own w1 (w.heap.size + 1 + 1 + 1) (.int .u64 ha) (.int .u64 la) := Own.keep (by refine ⟨?_, ?_, ?_, ?_⟩ <;> simp [go_sem]) q1
    have Z1 : Below w.heap.size w w1 := btr (by repeat (first | exact bref _ | refine bdr ?_ | refine bal ?_ _)) q1
    clear q1
    obtain ⟨a0, a1, _, _⟩ := A1
    obtain ⟨b0, b1, _, _⟩ := B1
    go_wp2_with fail
    refine (P.out _).mono ?_
    rintro e w3 ⟨rfl, q3⟩
    have R3 := R1.keep q3
    have M3 := M1.keep q3
    have Z3 := btr Z1 q3
    clear R1 M1 Z1 q3 a0 a1 b0 b1
    have M4 := M3.put (.int .u64 (mH D)) (.int .u64 (mL D))
    have Z3' := bset (bset Z3 (p := ⟨w.heap.size + 1 + 1 + 1, 0, none⟩) (by simp; omega) (.int .u64 (mH D))) (p := ⟨w.heap.size + 1 + 1 + 1, 1, none⟩) (by simp; omega) (.int .u64 (mL D))
    obtain ⟨m0, m1, m2, m3⟩ := M3
    go_wp2_with fail
    refine (J.out _).mono ?_
    rintro e w2 ⟨rfl, q2⟩
    have R2 : Own w2 (w.heap.size + 1 + 1) (.int .i64 0) (.int .u64 0) := Own.keep ((R3.far (by simp) _).far (by simp) _) q2
    have Z2 := btr Z3' q2
    have s2 := R2.lt
    clear R3 Z3 Z3' M4 q2 m0 m1 m2 m3
    obtain ⟨r0, r1, r2, r3⟩ := R2
    go_wp2_with fail
    refine bodyPost_ret (v := .tuple #[.agg #[.int .i64 0, .int .u64 0], .int .i64 6]) (by simp [results, Tryd.results56, go_sem, r0, r1, s2]) rfl ⟨by rw [wH_out HO.out, wL_out HO.out, wE_out HO.out], ?_⟩
    (repeat (first | exact Z2 | refine bal ?_ _ | refine bset ?_ (by dsimp only; omega) _))
  · have HO := Lib.hid hi
    obtain ⟨j1, j2⟩ := j_fits hD0 hD1 hi
    simp only [hi, j1, j2] at J
    have J := Lib.hid J
    clear hs hD a0 a1 b0 b1 hi hd hlt hD0 hD1 j1 j2
    go_enter Tryd.func56, Tryd.ntmps56
    go_wp2_with fail
    go_region_held3 (fun w' => w'.cell? ⟨w.heap.size, 0, none⟩ = some (.int .u64 ha) ∧ w'.cell? ⟨w.heap.size, 1, none⟩ = some (.int .u64 la)) (go_keep) (fail)
    go_wp2_with fail
    refine (L.out _).mono ?_
    rintro e w1 ⟨rfl, q1⟩
    have A1 : Own w1 (w.heap.size) (.int .u64 ha) (.int .u64 la) := Own.keep (by refine ⟨?_, ?_, ?_, ?_⟩ <;> simp [go_sem]) q1
    have B1 : Own w1 (w.heap.size + 1) (.int .u64 hb) (.int .u64 lb) := Own.keep (by refine ⟨?_, ?_, ?_, ?_⟩ <;> simp [go_sem]) q1
    have R1 : Own w1 (w.heap.size + 1 + 1) (.int .i64 0) (.int .u64 0) := Own.keep (by refine ⟨?_, ?_, ?_, ?_⟩ <;> simp [go_sem]) q1
    have M1 : Own w1 (w.heap.size + 1 + 1 + 1) (.int .u64 ha) (.int .u64 la) := Own.keep (by refine ⟨?_, ?_, ?_, ?_⟩ <;> simp [go_sem]) q1
    have Z1 : Below w.heap.size w w1 := btr (by repeat (first | exact bref _ | refine bdr ?_ | refine bal ?_ _)) q1
    clear q1
    obtain ⟨a0, a1, _, _⟩ := A1
    obtain ⟨b0, b1, _, _⟩ := B1
    go_wp2_with fail
    refine (P.out _).mono ?_
    rintro e w3 ⟨rfl, q3⟩
    have R3 := R1.keep q3
    have M3 := M1.keep q3
    have Z3 := btr Z1 q3
    clear R1 M1 Z1 q3 a0 a1 b0 b1
    have M4 := M3.put (.int .u64 (mH D)) (.int .u64 (mL D))
    have Z3' := bset (bset Z3 (p := ⟨w.heap.size + 1 + 1 + 1, 0, none⟩) (by simp; omega) (.int .u64 (mH D))) (p := ⟨w.heap.size + 1 + 1 + 1, 1, none⟩) (by simp; omega) (.int .u64 (mL D))
    obtain ⟨m0, m1, m2, m3⟩ := M3
    go_wp2_with fail
    refine (J.out _).mono ?_
    rintro e w2 ⟨rfl, q2⟩
    have R2 : Own w2 (w.heap.size + 1 + 1) (.int .i64 0) (.int .u64 0) := Own.keep ((R3.far (by simp) _).far (by simp) _) q2
    have Z2 := btr Z3' q2
    have s2 := R2.lt
    clear R3 Z3 Z3' M4 q2 m0 m1 m2 m3
    obtain ⟨r0, r1, r2, r3⟩ := R2
    go_wp2_with fail
    refine bodyPost_ret (v := .tuple #[.agg #[.int .i64 (wH (signed true D)), .int .u64 (wL (signed true D))], .int .i64 0]) (by simp [results, Tryd.results56, go_sem, r0, r1, s2]) rfl ⟨by rw [wE_in HO.out], ?_⟩
    (repeat (first | exact Z2 | refine bal ?_ _ | refine bset ?_ (by dsimp only; omega) _))

set_option maxHeartbeats 2000000 in
theorem rsum_f_more (ha la hb lb : Int) (h1 : U64 ha) (h2 : U64 la) (h3 : U64 hb) (h4 : U64 lb) (hge : val hb lb ≤ val ha la) (w : World) :
    Calls Tryd.prog 56 #[.bool false, .agg #[.int .u64 ha, .int .u64 la], .bool true, .agg #[.int .u64 hb, .int .u64 lb]] w fun e w' =>
      e = .returned (.tuple #[.agg #[.int .i64 (wH (signed false (val ha la) + signed true (val hb lb))), .int .u64 (wL (signed false (val ha la) + signed true (val hb lb)))], .int .i64 (wE (signed false (val ha la) + signed true (val hb lb)))]) ∧ Below w.heap.size w w' := by
  have hs : (signed false (val ha la) + signed true (val hb lb)) = signed false (val ha la - val hb lb) := by simp only [signed, Bool.false_eq_true, if_false, if_true]; omega
  rw [hs]
  have P := fun W => rminus_any ha la hb lb h1 h2 h3 h4 hge W
  have L := fun W => rless_any ha la hb lb h2 h4 W
  have hd : decide (val ha la < val hb lb) = false := by simpa using hge
  simp only [hd] at L
  have L := Lib.hid L
  obtain ⟨a0, a1⟩ := mag_bd h1 h2
  obtain ⟨b0, b1⟩ := mag_bd h3 h4
  obtain ⟨D, hD⟩ : ∃ D, val ha la - val hb lb = D := ⟨_, rfl⟩
  have hD0 : 0 ≤ D := by omega
  have hD1 : D < 340282366920938463463374607431768211456 := by omega
  simp only [hD] at P
  have P := Lib.hid P
  rw [hD]
  have J := fun W => rjoin_any false (mH D) (mL D) (mH_U64 hD0 hD1) (mL_U64 _) W
  simp only [val_mag] at J
  cases hi : inW (signed false D)
  · have HO := Lib.hid hi
    simp only [hi] at J
    have J := Lib.hid J
    clear hs hD a0 a1 b0 b1 hi hd hge hD0 hD1
    go_enter Tryd.func56, Tryd.ntmps56
    go_wp2_with fail
    go_region_held3 (fun w' => w'.cell? ⟨w.heap.size, 0, none⟩ = some (.int .u64 ha) ∧ w'.cell? ⟨w.heap.size, 1, none⟩ = some (.int .u64 la)) (go_keep) (fail)
    go_wp2_with fail
    refine (L.out _).mono ?_
    rintro e w1 ⟨rfl, q1⟩
    have A1 : Own w1 (w.heap.size) (.int .u64 ha) (.int .u64 la) := Own.keep (by refine ⟨?_, ?_, ?_, ?_⟩ <;> simp [go_sem]) q1
    have B1 : Own w1 (w.heap.size + 1) (.int .u64 hb) (.int .u64 lb) := Own.keep (by refine ⟨?_, ?_, ?_, ?_⟩ <;> simp [go_sem]) q1
    have R1 : Own w1 (w.heap.size + 1 + 1) (.int .i64 0) (.int .u64 0) := Own.keep (by refine ⟨?_, ?_, ?_, ?_⟩ <;> simp [go_sem]) q1
    have M1 : Own w1 (w.heap.size + 1 + 1 + 1) (.int .u64 ha) (.int .u64 la) := Own.keep (by refine ⟨?_, ?_, ?_, ?_⟩ <;> simp [go_sem]) q1
    have Z1 : Below w.heap.size w w1 := btr (by repeat (first | exact bref _ | refine bdr ?_ | refine bal ?_ _)) q1
    clear q1
    obtain ⟨a0, a1, _, _⟩ := A1
    obtain ⟨b0, b1, _, _⟩ := B1
    go_wp2_with fail
    refine (P.out _).mono ?_
    rintro e w3 ⟨rfl, q3⟩
    have R3 := R1.keep q3
    have M3 := M1.keep q3
    have Z3 := btr Z1 q3
    clear R1 M1 Z1 q3 a0 a1 b0 b1
    have M4 := M3.put (.int .u64 (mH D)) (.int .u64 (mL D))
    have Z3' := bset (bset Z3 (p := ⟨w.heap.size + 1 + 1 + 1, 0, none⟩) (by simp; omega) (.int .u64 (mH D))) (p := ⟨w.heap.size + 1 + 1 + 1, 1, none⟩) (by simp; omega) (.int .u64 (mL D))
    obtain ⟨m0, m1, m2, m3⟩ := M3
    go_wp2_with fail
    refine (J.out _).mono ?_
    rintro e w2 ⟨rfl, q2⟩
    have R2 : Own w2 (w.heap.size + 1 + 1) (.int .i64 0) (.int .u64 0) := Own.keep ((R3.far (by simp) _).far (by simp) _) q2
    have Z2 := btr Z3' q2
    have s2 := R2.lt
    clear R3 Z3 Z3' M4 q2 m0 m1 m2 m3
    obtain ⟨r0, r1, r2, r3⟩ := R2
    go_wp2_with fail
    refine bodyPost_ret (v := .tuple #[.agg #[.int .i64 0, .int .u64 0], .int .i64 6]) (by simp [results, Tryd.results56, go_sem, r0, r1, s2]) rfl ⟨by rw [wH_out HO.out, wL_out HO.out, wE_out HO.out], ?_⟩
    (repeat (first | exact Z2 | refine bal ?_ _ | refine bset ?_ (by dsimp only; omega) _))
  · have HO := Lib.hid hi
    obtain ⟨j1, j2⟩ := j_fits hD0 hD1 hi
    simp only [hi, j1, j2] at J
    have J := Lib.hid J
    clear hs hD a0 a1 b0 b1 hi hd hge hD0 hD1 j1 j2
    go_enter Tryd.func56, Tryd.ntmps56
    go_wp2_with fail
    go_region_held3 (fun w' => w'.cell? ⟨w.heap.size, 0, none⟩ = some (.int .u64 ha) ∧ w'.cell? ⟨w.heap.size, 1, none⟩ = some (.int .u64 la)) (go_keep) (fail)
    go_wp2_with fail
    refine (L.out _).mono ?_
    rintro e w1 ⟨rfl, q1⟩
    have A1 : Own w1 (w.heap.size) (.int .u64 ha) (.int .u64 la) := Own.keep (by refine ⟨?_, ?_, ?_, ?_⟩ <;> simp [go_sem]) q1
    have B1 : Own w1 (w.heap.size + 1) (.int .u64 hb) (.int .u64 lb) := Own.keep (by refine ⟨?_, ?_, ?_, ?_⟩ <;> simp [go_sem]) q1
    have R1 : Own w1 (w.heap.size + 1 + 1) (.int .i64 0) (.int .u64 0) := Own.keep (by refine ⟨?_, ?_, ?_, ?_⟩ <;> simp [go_sem]) q1
    have M1 : Own w1 (w.heap.size + 1 + 1 + 1) (.int .u64 ha) (.int .u64 la) := Own.keep (by refine ⟨?_, ?_, ?_, ?_⟩ <;> simp [go_sem]) q1
    have Z1 : Below w.heap.size w w1 := btr (by repeat (first | exact bref _ | refine bdr ?_ | refine bal ?_ _)) q1
    clear q1
    obtain ⟨a0, a1, _, _⟩ := A1
    obtain ⟨b0, b1, _, _⟩ := B1
    go_wp2_with fail
    refine (P.out _).mono ?_
    rintro e w3 ⟨rfl, q3⟩
    have R3 := R1.keep q3
    have M3 := M1.keep q3
    have Z3 := btr Z1 q3
    clear R1 M1 Z1 q3 a0 a1 b0 b1
    have M4 := M3.put (.int .u64 (mH D)) (.int .u64 (mL D))
    have Z3' := bset (bset Z3 (p := ⟨w.heap.size + 1 + 1 + 1, 0, none⟩) (by simp; omega) (.int .u64 (mH D))) (p := ⟨w.heap.size + 1 + 1 + 1, 1, none⟩) (by simp; omega) (.int .u64 (mL D))
    obtain ⟨m0, m1, m2, m3⟩ := M3
    go_wp2_with fail
    refine (J.out _).mono ?_
    rintro e w2 ⟨rfl, q2⟩
    have R2 : Own w2 (w.heap.size + 1 + 1) (.int .i64 0) (.int .u64 0) := Own.keep ((R3.far (by simp) _).far (by simp) _) q2
    have Z2 := btr Z3' q2
    have s2 := R2.lt
    clear R3 Z3 Z3' M4 q2 m0 m1 m2 m3
    obtain ⟨r0, r1, r2, r3⟩ := R2
    go_wp2_with fail
    refine bodyPost_ret (v := .tuple #[.agg #[.int .i64 (wH (signed false D)), .int .u64 (wL (signed false D))], .int .i64 0]) (by simp [results, Tryd.results56, go_sem, r0, r1, s2]) rfl ⟨by rw [wE_in HO.out], ?_⟩
    (repeat (first | exact Z2 | refine bal ?_ _ | refine bset ?_ (by dsimp only; omega) _))

theorem rsum_any (b c : Bool) (ha la hb lb : Int) (h1 : U64 ha) (h2 : U64 la) (h3 : U64 hb) (h4 : U64 lb) (w : World) :
    Calls Tryd.prog 56 #[.bool b, .agg #[.int .u64 ha, .int .u64 la], .bool c, .agg #[.int .u64 hb, .int .u64 lb]] w fun e w' =>
      e = .returned (.tuple #[.agg #[.int .i64 (wH (signed b (val ha la) + signed c (val hb lb))), .int .u64 (wL (signed b (val ha la) + signed c (val hb lb)))], .int .i64 (wE (signed b (val ha la) + signed c (val hb lb)))]) ∧ Below w.heap.size w w' := by
  rcases Int.lt_or_le (val ha la) (val hb lb) with hc | hc
  · cases b <;> cases c
    · exact rsum_same false ha la hb lb h1 h2 h3 h4 w
    · exact rsum_f_less ha la hb lb h1 h2 h3 h4 hc w
    · exact rsum_t_less ha la hb lb h1 h2 h3 h4 hc w
    · exact rsum_same true ha la hb lb h1 h2 h3 h4 w
  · cases b <;> cases c
    · exact rsum_same false ha la hb lb h1 h2 h3 h4 w
    · exact rsum_f_more ha la hb lb h1 h2 h3 h4 hc w
    · exact rsum_t_more ha la hb lb h1 h2 h3 h4 hc w
    · exact rsum_same true ha la hb lb h1 h2 h3 h4 w
end Go.Proofs.YtjhfbnndapopgaaDoor
