/-
  Contracts of package wide's Int, Cmp, join, timesPlus, Scale, Mul.
-/
import Derived.Test.YtjhfbnndapopgaaDoorWalkA
import Derived.Test.YtjhfbnndapopgaaDoorShelf
import Derived.Deep.RegionHeld3
import Derived.StillTactics
import Derived.OwnWalk
namespace Go.Proofs.YtjhfbnndapopgaaDoor
open Go Go.RowKit WM

/-- Int. -/
theorem int_any (h l : Int) (hh : I64 h) (hl : U64 l) (w : World) :
    Calls Tryd.prog 47 #[.agg #[.int .i64 h, .int .u64 l]] w fun e w' =>
      e = .returned (.tuple #[.int .i64 (toInt (val h l)), .bool (isInt (val h l))]) ∧ Below w.heap.size w w' := by
  have hw := wrap64_I64 l
  cases hi : isInt (val h l)
  · have H1 : Hid (toInt (val h l) = 0) := Lib.hid (by simp [toInt, hi])
    rcases int_no hh hl hi with e1 | ⟨e1, e2⟩
    all_goals
      clear hi
      go_enter Tryd.func47, Tryd.ntmps47
      go_wp2_with fail
      go_region_held3 (fun w' => w'.cell? ⟨w.heap.size, 0, none⟩ = some (.int .i64 h) ∧ w'.cell? ⟨w.heap.size, 1, none⟩ = some (.int .u64 l)) (go_keep) ((go_at_call 16; refine (of_any _ hw _).mono ?_; rintro e w1 ⟨rfl, hb⟩; obtain ⟨hc, hf⟩ := bcell hb; have hs := hb.size))
      go_wp2_with fail
      go_ret2
      exact ⟨by rw [H1.out]; rfl, btr (bdr (bal (bref _) _)) hb⟩
  · obtain ⟨e0, e1, e2⟩ := int_yes hh hl hi
    have H1 : Hid (toInt (val h l) = wrap64 l) := Lib.hid (by simp [toInt, hi, e0])
    clear hi e0
    go_enter Tryd.func47, Tryd.ntmps47
    go_wp2_with fail
    go_region_held3 (fun w' => w'.cell? ⟨w.heap.size, 0, none⟩ = some (.int .i64 h) ∧ w'.cell? ⟨w.heap.size, 1, none⟩ = some (.int .u64 l)) (go_keep) ((go_at_call 16; refine (of_any _ hw _).mono ?_; rintro e w1 ⟨rfl, hb⟩; obtain ⟨hc, hf⟩ := bcell hb; have hs := hb.size))
    go_wp2_with fail
    go_ret2
    exact ⟨by rw [H1.out]; rfl, btr (bdr (bal (bref _) _)) hb⟩

/-- Cmp. -/
theorem cmp_any (ha la hb lb : Int) (h2 : U64 la) (h4 : U64 lb) (w : World) :
    Calls Tryd.prog 49 #[.agg #[.int .i64 ha, .int .u64 la], .agg #[.int .i64 hb, .int .u64 lb]] w fun e w' =>
      e = .returned (.int .i64 (cmpW (val ha la) (val hb lb))) ∧ Below w.heap.size w w' := by
  by_cases h : ha = hb
  · subst h
    have e0 : cmpW ha ha = 0 := by unfold cmpW; rw [if_neg (by omega), if_neg (by omega)]
    have H1 : Hid (cmpW la lb = cmpW (val ha la) (val ha lb)) := Lib.hid cmp_lo
    go_enter Tryd.func49, Tryd.ntmps49
    go_wp2_with (first | (go_at_call 71; refine (compare_int _ _ _).mono ?_; rintro e w1 ⟨rfl, rfl⟩) | (go_at_call 72; refine (compare_u64 _ _ _).mono ?_; rintro e w1 ⟨rfl, rfl⟩))
    go_ret
    exact ⟨by rw [← H1.out]; rfl, bal (bal (bref _) _) _⟩
  · have e0 : (cmpW ha hb == 0) = false := by
      rw [beq_eq_false_iff_ne]; unfold cmpW
      split
      · omega
      · split <;> omega
    have H1 : Hid (cmpW ha hb = cmpW (val ha la) (val hb lb)) := Lib.hid (cmp_hi h2 h4 h)
    clear h
    go_enter Tryd.func49, Tryd.ntmps49
    go_wp2_with (first | (go_at_call 71; refine (compare_int _ _ _).mono ?_; rintro e w1 ⟨rfl, rfl⟩))
    go_ret
    exact ⟨by rw [← H1.out]; rfl, bal (bal (bref _) _) _⟩

theorem mul64_any (x y : Int) (hx : U64 x) (hy : U64 y) (w : World) :
    Calls Tryd.prog 66 #[.int .u64 x, .int .u64 y] w fun e w' => e = .returned (.tuple #[.int .u64 (x * y / 18446744073709551616), .int .u64 (x * y % 18446744073709551616)]) ∧ w = w' := by
  unfold U64 at hx hy
  obtain ⟨x, rfl⟩ := Int.eq_ofNat_of_zero_le hx.1
  obtain ⟨y, rfl⟩ := Int.eq_ofNat_of_zero_le hy.1
  exact (Tryd.bits_Mul64 x y (by omega) (by omega) w).mono fun e w' ⟨he, hw⟩ => ⟨he, hw.symm⟩

/-- timesPlus: m * factor + summand, if that is a magnitude. -/
theorem times_any (h l f s : Int) (hh : U64 h) (hl : U64 l) (hf : U64 f) (hs : U64 s) (w : World) :
    Calls Tryd.prog 43 #[.agg #[.int .u64 h, .int .u64 l], .int .u64 f, .int .u64 s] w fun e w' =>
      e = .returned (.tuple #[.agg #[.int .u64 (mH (keepM (val h l * f + s))), .int .u64 (mL (keepM (val h l * f + s)))], .bool (fitsM (val h l * f + s))]) ∧ Below w.heap.size w w' := by
  have hA : 0 ≤ h * f := Int.mul_nonneg hh.1 hf.1
  have hB : 0 ≤ l * f := Int.mul_nonneg hl.1 hf.1
  obtain ⟨t1, t2, t3⟩ := times_eq (l := l) (h := h) (f := f) (s := s) hA hB hs
  have a1 := add64_0 (l * f % 18446744073709551616) s (by omega) hs.1
  have a2 := add64_c (h * f % 18446744073709551616) (l * f / 18446744073709551616) ((l * f % 18446744073709551616 + s) / 18446744073709551616) (by omega) (by omega) (by unfold U64 at hs; omega) (by unfold U64 at hs; omega)
  have m1 := mul64_any l f hl hf
  have m2 := mul64_any h f hh hf
  obtain ⟨OV, hOV⟩ : ∃ x, h * f / 18446744073709551616 = x := ⟨_, rfl⟩
  obtain ⟨HI, hHI⟩ : ∃ x, h * f % 18446744073709551616 = x := ⟨_, rfl⟩
  obtain ⟨MI, hMI⟩ : ∃ x, l * f / 18446744073709551616 = x := ⟨_, rfl⟩
  obtain ⟨LO, hLO⟩ : ∃ x, l * f % 18446744073709551616 = x := ⟨_, rfl⟩
  rw [hLO] at a1 a2
  rw [hHI, hMI] at a2
  simp only [hOV, hHI] at m2
  simp only [hMI, hLO] at m1
  rw [hOV, hHI, hMI, hLO] at t3
  rw [hHI, hMI, hLO] at t2
  rw [hOV] at t1
  obtain ⟨C1, hC1⟩ : ∃ x, (LO + s) / 18446744073709551616 = x := ⟨_, rfl⟩
  obtain ⟨L1, hL1⟩ : ∃ x, (LO + s) % 18446744073709551616 = x := ⟨_, rfl⟩
  simp only [hC1, hL1] at a1
  rw [hC1] at a2 t2 t3
  rw [hL1] at t3
  obtain ⟨C2, hC2⟩ : ∃ x, (HI + MI + C1) / 18446744073709551616 = x := ⟨_, rfl⟩
  obtain ⟨H2, hH2⟩ : ∃ x, (HI + MI + C1) % 18446744073709551616 = x := ⟨_, rfl⟩
  simp only [hC2, hH2] at a2
  rw [hC2] at t2 t3
  rw [hH2] at t3
  clear hOV hHI hMI hLO hC1 hL1 hC2 hH2 hA hB
  have M1 := Lib.hid m1; have M2 := Lib.hid m2
  clear m1 m2
  by_cases c1 : OV = 0
  · by_cases c2 : C2 = 0
    · obtain ⟨e1, e2, e3⟩ := t3 c1 c2
      have E1 := Lib.hid e1; have E2 := Lib.hid e2; have E3 := Lib.hid e3
      subst c1 c2
      clear t1 t2 t3 e1 e2 e3
      go_enter Tryd.func43, Tryd.ntmps43
      go_wp2_with fail
      refine (M1.out _).mono ?_; rintro e w1 ⟨rfl, rfl⟩
      go_wp2_with fail
      refine (M2.out _).mono ?_; rintro e w1 ⟨rfl, rfl⟩
      go_wp2_with fail
      refine bodyPost_ret (v := .tuple #[.agg #[.int .u64 H2, .int .u64 L1], .bool true]) (by simp [results, Tryd.results43, go_sem]) rfl ⟨by rw [E2.out, E3.out, E1.out], bal (bal (bref _) _) _⟩
    · have E1 := Lib.hid (t2 c2)
      subst c1
      have hd : (C2 == 0) = false := by simpa using c2
      clear t1 t2 t3 c2
      go_enter Tryd.func43, Tryd.ntmps43
      go_wp2_with fail
      refine (M1.out _).mono ?_; rintro e w1 ⟨rfl, rfl⟩
      go_wp2_with fail
      refine (M2.out _).mono ?_; rintro e w1 ⟨rfl, rfl⟩
      go_wp2_with fail
      refine bodyPost_ret (v := .tuple #[.agg #[.int .u64 0, .int .u64 0], .bool false]) (by simp [results, Tryd.results43, go_sem]) rfl ⟨by rw [keepM_no E1.out, E1.out]; rfl, bal (bal (bref _) _) _⟩
  · have E1 := Lib.hid (t1 c1)
    have hd : (OV == 0) = false := by simpa using c1
    clear t1 t2 t3 c1
    go_enter Tryd.func43, Tryd.ntmps43
    go_wp2_with fail
    refine (M1.out _).mono ?_; rintro e w1 ⟨rfl, rfl⟩
    go_wp2_with fail
    refine (M2.out _).mono ?_; rintro e w1 ⟨rfl, rfl⟩
    go_wp2_with fail
    refine bodyPost_ret (v := .tuple #[.agg #[.int .u64 0, .int .u64 0], .bool false]) (by simp [results, Tryd.results43, go_sem]) rfl ⟨by rw [keepM_no E1.out, E1.out]; rfl, bal (bal (bref _) _) _⟩

set_option maxHeartbeats 2000000 in
theorem join_any (h l : Int) (b : Bool) (hh : U64 h) (hl : U64 l) (w : World) :
    Calls Tryd.prog 44 #[.agg #[.int .u64 h, .int .u64 l], .bool b] w fun e w' =>
      e = .returned (.tuple #[.agg #[.int .i64 (wH (signed b (val h l))), .int .u64 (wL (signed b (val h l)))], .int .i64 (wE (signed b (val h l)))]) ∧ Below w.heap.size w w' := by
  by_cases c1 : 9223372036854775808 ≤ h
  · cases b
    · have H := Lib.hid (join_out (b := false) hl c1 (by simp))
      go_enter Tryd.func44, Tryd.ntmps44
      go_wp2_with fail
      refine bodyPost_ret (v := .tuple #[.agg #[.int .i64 0, .int .u64 0], .int .i64 6]) (by simp [results, Tryd.results44, go_sem]) rfl ⟨by rw [wH_out H.out, wL_out H.out, wE_out H.out], by repeat (first | exact bref _ | refine bal ?_ _)⟩
    · by_cases c2 : h = 9223372036854775808
      · by_cases c3 : l = 0
        · obtain ⟨e0, e1, e2⟩ := join_neg hl hh.1 (Or.inr ⟨c2, c3⟩)
          have H := Lib.hid e0; have H1 := Lib.hid e1; have H2 := Lib.hid e2
          clear e0 e1 e2
          subst c2 c3
          go_enter Tryd.func44, Tryd.ntmps44
          go_wp2_with fail
          refine (negated_any _ _ hh hl _).mono ?_
          rintro e w1 ⟨rfl, hb⟩
          obtain ⟨hc, hf⟩ := bcell hb
          have hs' : w.heap.size + 1 + 1 < w1.heap.size := by have hs := hb.size; simp at hs; omega
          have k0 := (hc w.heap.size 0 (by simp; omega))
          have k1 := (hc w.heap.size 1 (by simp; omega))
          have k2 := (hc (w.heap.size + 1) 0 (by simp))
          have k3 := (hc (w.heap.size + 1) 1 (by simp))
          simp [go_sem] at k0 k1 k2 k3
          go_wp2_with fail
          refine bodyPost_ret (v := .tuple #[.agg #[.int .i64 (wrap64 (mH (negM (val 9223372036854775808 0)))), .int .u64 (mL (negM (val 9223372036854775808 0)))], .int .i64 0]) (by simp [results, Tryd.results44, go_sem, hc]) rfl ⟨by rw [H1.out, H2.out, wE_in H.out], by repeat (first | exact btr (by repeat (first | exact bref _ | refine bal ?_ _)) hb | refine bset ?_ (by simp; done) _ | refine bset ?_ (by simp; omega) _)⟩
        · have H := Lib.hid (join_out (b := true) hl c1 (by simp [c3]))
          subst c2
          have hd : (l == 0) = false := by simpa using c3
          go_enter Tryd.func44, Tryd.ntmps44
          go_wp2_with fail
          refine bodyPost_ret (v := .tuple #[.agg #[.int .i64 0, .int .u64 0], .int .i64 6]) (by simp [results, Tryd.results44, go_sem]) rfl ⟨by rw [wH_out H.out, wL_out H.out, wE_out H.out], by repeat (first | exact bref _ | refine bal ?_ _)⟩
      · have H := Lib.hid (join_out (b := true) hl c1 (by simp [c2]))
        have hd : (h == 9223372036854775808) = false := by simpa using c2
        go_enter Tryd.func44, Tryd.ntmps44
        go_wp2_with fail
        refine bodyPost_ret (v := .tuple #[.agg #[.int .i64 0, .int .u64 0], .int .i64 6]) (by simp [results, Tryd.results44, go_sem]) rfl ⟨by rw [wH_out H.out, wL_out H.out, wE_out H.out], by repeat (first | exact bref _ | refine bal ?_ _)⟩
  · cases b
    · obtain ⟨e0, e1, e2⟩ := join_pos hl hh.1 (by omega)
      have H := Lib.hid e0; have H1 := Lib.hid e1; have H2 := Lib.hid e2
      clear e0 e1 e2
      go_enter Tryd.func44, Tryd.ntmps44
      go_wp2_with fail
      refine bodyPost_ret (v := .tuple #[.agg #[.int .i64 (wrap64 h), .int .u64 l], .int .i64 0]) (by simp [results, Tryd.results44, go_sem]) rfl ⟨by rw [H1.out, ← H2.out, wE_in H.out], by repeat (first | exact bref _ | refine bal ?_ _)⟩
    · obtain ⟨e0, e1, e2⟩ := join_neg hl hh.1 (Or.inl (by omega))
      have H := Lib.hid e0; have H1 := Lib.hid e1; have H2 := Lib.hid e2
      clear e0 e1 e2
      go_enter Tryd.func44, Tryd.ntmps44
      go_wp2_with fail
      refine (negated_any _ _ hh hl _).mono ?_
      rintro e w1 ⟨rfl, hb⟩
      obtain ⟨hc, hf⟩ := bcell hb
      have hs' : w.heap.size + 1 + 1 < w1.heap.size := by have hs := hb.size; simp at hs; omega
      have k0 := (hc w.heap.size 0 (by simp; omega))
      have k1 := (hc w.heap.size 1 (by simp; omega))
      have k2 := (hc (w.heap.size + 1) 0 (by simp))
      have k3 := (hc (w.heap.size + 1) 1 (by simp))
      simp [go_sem] at k0 k1 k2 k3
      go_wp2_with fail
      refine bodyPost_ret (v := .tuple #[.agg #[.int .i64 (wrap64 (mH (negM (val h l)))), .int .u64 (mL (negM (val h l)))], .int .i64 0]) (by simp [results, Tryd.results44, go_sem, hc]) rfl ⟨by rw [H1.out, H2.out, wE_in H.out], by repeat (first | exact btr (by repeat (first | exact bref _ | refine bal ?_ _)) hb | refine bset ?_ (by simp; done) _ | refine bset ?_ (by simp; omega) _)⟩
end Go.Proofs.YtjhfbnndapopgaaDoor
