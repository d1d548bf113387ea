/-
  The contract of the law package's own near: the distance of a rounded quotient is one that its mode allows.
-/
import Derived.Test.YtagckehcihhaiaaDoorRNearM
import Derived.Test.YtagckehcihhaiaaDoorRefF
import Derived.Test.YtagckehcihhaiaaDoorRefE
import Derived.Deep.RegionHeld3
import Derived.StillTactics
import Derived.Deep.RegionWith
import Derived.Deep.DeepCutAuto
namespace Go.Proofs.YtagckehcihhaiaaDoor
open Go Go.RowKit Go.Lib WM

/-- What must live through a region of near: the cells of two or three boxes. -/
theorem keep3n {w W W1 : World} {n2 n5 : Nat} {a c d : Value}
    (h : W.cell? ⟨n2, 0, none⟩ = some a ∧ W.cell? ⟨n5, 0, none⟩ = some c ∧ W.cell? ⟨n5, 1, none⟩ = some d ∧ Below w.heap.size w W) (hk : Below W.heap.size W W1) :
    W1.cell? ⟨n2, 0, none⟩ = some a ∧ W1.cell? ⟨n5, 0, none⟩ = some c ∧ W1.cell? ⟨n5, 1, none⟩ = some d ∧ Below w.heap.size w W1 :=
  ⟨keepc hk h.1, keepc hk h.2.1, keepc hk h.2.2.1, btr h.2.2.2 hk⟩

/-- What the facts of the quotient say, by the sign of the dividend's upper half. -/
def NearF (a q n m D : Int) : Prop :=
  (m = 1 → 0 ≤ a → D ≤ 0) ∧ (m = 1 → a < 0 → 0 ≤ D) ∧ (m = 2 → 0 ≤ a → 0 ≤ D) ∧ (m = 2 → a < 0 → D ≤ 0) ∧ (m = 3 → D ≤ 0) ∧ (m = 4 → 0 ≤ D) ∧
    (m = 5 ∨ m = 6 → (-n < D * 2 ∧ D * 2 < n) ∨ D * 2 = n ∨ D * 2 = -n) ∧ (m = 5 → D * 2 = n → 0 ≤ a) ∧ (m = 5 → D * 2 = -n → a < 0) ∧ (m = 6 → D * 2 = n ∨ D * 2 = -n → q % 2 = 0)

set_option maxRecDepth 100000 in
set_option maxHeartbeats 16000000 in
theorem near_any (a l q n m D : Int) (hn1 : 1 ≤ n) (hn : n ≤ 9223372036854775807) (h1 : 1 ≤ m) (h2 : m ≤ 6) (d1 : -n < D) (d2 : D < n) (hF : NearF a q n m D) (w : World) :
    Calls Tryd.prog 40 #[.agg #[.int .i64 a, .int .u64 l], .int .i64 q, .int .i64 n, .agg #[.int .i64 (wH D), .int .u64 (wL D)], .int .i64 m] w fun e w' => e = .returned (.bool true) ∧ Below w.heap.size w w' := by
  have iN : I64 n := by unfold I64; omega
  have iM : I64 (-n) := by unfold I64; omega
  have iZ : I64 0 := by unfold I64; omega
  have iD : I64 D := by unfold I64; omega
  have OF := fun W => rof_any n iN W
  have OG := fun W => rof_any (-n) iM W
  have OZ := fun W => rof_any 0 iZ W
  have CM := fun W => rcmp_any (wH D) (wL D) (wH n) (wL n) (wL_U64 _) (wL_U64 _) W
  have CN := fun W => rcmp_any (wH D) (wL D) (wH (-n)) (wL (-n)) (wL_U64 _) (wL_U64 _) W
  have CZ := fun W => rcmp_any (wH D) (wL D) (wH 0) (wL 0) (wL_U64 _) (wL_U64 _) W
  have c1 : cmpW D n = -1 := by unfold cmpW; repeat (first | omega | rfl | split)
  have c2 : cmpW D (-n) = 1 := by unfold cmpW; repeat (first | omega | rfl | split)
  have c3 : (D ≤ 0 → decide (cmpW D 0 ≤ 0) = true) ∧ (0 < D → decide (cmpW D 0 ≤ 0) = false) ∧ (0 ≤ D → decide (0 ≤ cmpW D 0) = true) ∧ (D < 0 → decide (0 ≤ cmpW D 0) = false) := by
    unfold cmpW
    refine ⟨?_, ?_, ?_, ?_⟩ <;> intro h <;> (repeat (first | omega | rfl | split))
  simp only [val_w (inW_I64 iD), val_w (inW_I64 iN), val_w (inW_I64 iM), val_w (inW_I64 iZ), c1, c2] at CM CN CZ
  obtain ⟨K, hK⟩ : ∃ K, cmpW D 0 = K := ⟨_, rfl⟩
  rw [hK] at c3
  simp only [hK] at CZ
  obtain ⟨LB, hLB⟩ : ∃ b, decide (K ≤ 0) = b := ⟨_, rfl⟩
  obtain ⟨MB, hMB⟩ : ∃ b, decide (0 ≤ K) = b := ⟨_, rfl⟩
  rw [hLB, hMB] at c3
  obtain ⟨DH, e1⟩ : ∃ x, wH D = x := ⟨_, rfl⟩
  obtain ⟨DL, e2⟩ : ∃ x, wL D = x := ⟨_, rfl⟩
  obtain ⟨NH, e3⟩ : ∃ x, wH n = x := ⟨_, rfl⟩
  obtain ⟨NL, e4⟩ : ∃ x, wL n = x := ⟨_, rfl⟩
  obtain ⟨GH, e5⟩ : ∃ x, wH (-n) = x := ⟨_, rfl⟩
  obtain ⟨GL, e6⟩ : ∃ x, wL (-n) = x := ⟨_, rfl⟩
  obtain ⟨ZH, e7⟩ : ∃ x, wH 0 = x := ⟨_, rfl⟩
  obtain ⟨ZL, e8⟩ : ∃ x, wL 0 = x := ⟨_, rfl⟩
  simp only [e1, e2] at CM CN CZ
  simp only [e3, e4] at OF CM
  simp only [e5, e6] at OG CN
  simp only [e7, e8] at OZ CZ
  rw [e1, e2]
  have OFH := Lib.hid OF; have OGH := Lib.hid OG; have OZ := Lib.hid OZ; have CM := Lib.hid CM; have CN := Lib.hid CN; have CZ := Lib.hid CZ
  have HF := Lib.hid hF
  have H3 := Lib.hid c3
  have E1 := Lib.hid e1; have E2 := Lib.hid e2; have E3 := Lib.hid e3; have E4 := Lib.hid e4; have E5 := Lib.hid e5; have E6 := Lib.hid e6
  clear OF OG e1 e2 e3 e4 e5 e6 e7 e8 hF c1 c2 c3 hK iZ
  have wn : IntKind.i64.wrap (-n) = -n := by rw [IntKind.wrap_i64]; omega
  have wn2 : wrap64 (-n) = -n := by unfold wrap64; omega
  go_enter Tryd.func40, Tryd.ntmps40
  go_wp2_with fail
  have K0 : ((w.alloc (.cells #[.int .i64 a, .int .u64 l] 24)).alloc (.cells #[.int .i64 DH, .int .u64 DL] 24)).cell? ⟨w.heap.size, 0, none⟩ = some (.int .i64 a) ∧ ((w.alloc (.cells #[.int .i64 a, .int .u64 l] 24)).alloc (.cells #[.int .i64 DH, .int .u64 DL] 24)).cell? ⟨w.heap.size + 1, 0, none⟩ = some (.int .i64 DH) ∧ ((w.alloc (.cells #[.int .i64 a, .int .u64 l] 24)).alloc (.cells #[.int .i64 DH, .int .u64 DL] 24)).cell? ⟨w.heap.size + 1, 1, none⟩ = some (.int .u64 DL) ∧ Below w.heap.size w ((w.alloc (.cells #[.int .i64 a, .int .u64 l] 24)).alloc (.cells #[.int .i64 DH, .int .u64 DL] 24)) := ⟨by simp [go_sem], by simp [go_sem], by simp [go_sem], by repeat (first | exact bref _ | refine bal ?_ _)⟩
  go_region_held3 (fun W => W.cell? ⟨w.heap.size, 0, none⟩ = some (.int .i64 a) ∧ W.cell? ⟨w.heap.size + 1, 0, none⟩ = some (.int .i64 DH) ∧ W.cell? ⟨w.heap.size + 1, 1, none⟩ = some (.int .u64 DL) ∧ Below w.heap.size w W)
    (first | exact ⟨K0.1, K0.2.1, K0.2.2.1, bdr K0.2.2.2⟩ | exact keep3n (by assumption) hk | (go_split_ands; exact keep3n ⟨by assumption, by assumption, by assumption, by assumption⟩ hk))
    (first
      | (go_at_call 28; first | (with_reducible refine Calls.mono (OFH.out _) ?_; rintro e W1 ⟨rfl, hk⟩) | (with_reducible refine Calls.mono (OGH.out _) ?_; rintro e W1 ⟨rfl, hk⟩))
      | (go_at_call 27; first | (with_reducible refine Calls.mono (CM.out _) ?_; rintro e W1 ⟨rfl, hk⟩) | (with_reducible refine Calls.mono (CN.out _) ?_; rintro e W1 ⟨rfl, hk⟩)))
  rename_i hH
  obtain ⟨k0, k1, k2, k3⟩ := hH
  clear hk K0
  obtain ⟨Wk, hWk⟩ : ∃ X, W1 = X := ⟨_, rfl⟩
  rw [hWk] at k0 k1 k2 k3 ⊢
  clear hWk
  go_wp2_with fail
  go_region_held3 (fun W => W.cell? ⟨w.heap.size, 0, none⟩ = some (.int .i64 a) ∧ W.cell? ⟨w.heap.size + 1, 0, none⟩ = some (.int .i64 DH) ∧ W.cell? ⟨w.heap.size + 1, 1, none⟩ = some (.int .u64 DL) ∧ Below w.heap.size w W)
    (first | exact ⟨k0, k1, k2, bdr k3⟩ | exact keep3n (by assumption) hk | (go_split_ands; exact keep3n ⟨by assumption, by assumption, by assumption, by assumption⟩ hk))
    (first
      | (go_at_call 28; first | (with_reducible refine Calls.mono (OZ.out _) ?_; rintro e W1 ⟨rfl, hk⟩))
      | (go_at_call 27; first | (with_reducible refine Calls.mono (CZ.out _) ?_; rintro e W1 ⟨rfl, hk⟩)))
  rename_i hH
  obtain ⟨j0, j1, j2, j3⟩ := hH
  clear hk k0 k1 k2 k3
  obtain ⟨Wj, hWj⟩ : ∃ X, W1 = X := ⟨_, rfl⟩
  rw [hWj] at j0 j1 j2 j3 ⊢
  clear hWj
  obtain ⟨f1, f2, f3, f4, f5, f6, f7, f8, f9, f10⟩ := HF.out
  obtain ⟨t1, t2, t3, t4⟩ := H3.out
  have hm : m = 1 ∨ m = 2 ∨ m = 3 ∨ m = 4 ∨ m = 5 ∨ m = 6 := by omega
  clear CM CN CZ OZ
  rcases hm with rfl | rfl | rfl | rfl | hm56
  · by_cases ha : 0 ≤ a
    · have hx : LB = true := t1 (f1 rfl ha)
      subst hx
      have hd : decide (0 ≤ a) = true := by simpa using ha
      clear f1 f2 f3 f4 f5 f6 f7 f8 f9 f10 t1 t2 t3 t4
      go_wp2_with fail
      go_ret
      exact ⟨rfl, j3⟩
    · have hx : MB = true := t3 (f2 rfl (by omega))
      subst hx
      have hd : decide (0 ≤ a) = false := by simpa using ha
      have hd2 : decide (a < 0) = true := by simp; omega
      clear f1 f2 f3 f4 f5 f6 f7 f8 f9 f10 t1 t2 t3 t4
      cases LB
      all_goals
        go_wp2_with fail
        go_ret
        exact ⟨rfl, j3⟩
  · by_cases ha : 0 ≤ a
    · have hx : MB = true := t3 (f3 rfl ha)
      subst hx
      have hd : decide (0 ≤ a) = true := by simpa using ha
      clear f1 f2 f3 f4 f5 f6 f7 f8 f9 f10 t1 t2 t3 t4
      go_wp2_with fail
      go_ret
      exact ⟨rfl, j3⟩
    · have hx : LB = true := t1 (f4 rfl (by omega))
      subst hx
      have hd : decide (0 ≤ a) = false := by simpa using ha
      have hd2 : decide (a < 0) = true := by simp; omega
      clear f1 f2 f3 f4 f5 f6 f7 f8 f9 f10 t1 t2 t3 t4
      cases MB
      all_goals
        go_wp2_with fail
        go_ret
        exact ⟨rfl, j3⟩
  · have hx : LB = true := t1 (f5 rfl)
    subst hx
    clear f1 f2 f3 f4 f5 f6 f7 f8 f9 f10 t1 t2 t3 t4
    go_wp2_with fail
    go_ret
    exact ⟨rfl, j3⟩
  · have hx : MB = true := t3 (f6 rfl)
    subst hx
    clear f1 f2 f3 f4 f5 f6 f7 f8 f9 f10 t1 t2 t3 t4
    go_wp2_with fail
    go_ret
    exact ⟨rfl, j3⟩
  · have i2 : I64 2 := by unfold I64; omega
    have hT : inW (D * 2) = true := by rw [inW_iff]; omega
    have SC := fun W => rscale_any (wH D) (wL D) 2 (wH_I64 _) (wL_U64 _) i2 W
    simp only [val_w (inW_I64 iD), wE_in hT] at SC
    have XM := fun W => rcmp_any (wH (D * 2)) (wL (D * 2)) (wH n) (wL n) (wL_U64 _) (wL_U64 _) W
    have XN := fun W => rcmp_any (wH (D * 2)) (wL (D * 2)) (wH (-n)) (wL (-n)) (wL_U64 _) (wL_U64 _) W
    simp only [val_w hT, val_w (inW_I64 iN), val_w (inW_I64 iM)] at XM XN
    have hNH : wH n = 0 := by rw [wH_in (inW_I64 iN)]; omega
    have hGH : wH (-n) = -1 := by rw [wH_in (inW_I64 iM)]; omega
    rw [E3.out] at hNH
    rw [E5.out] at hGH
    subst hNH hGH
    rcases f7 hm56 with ⟨g1, g2⟩ | g | g
    · have c1 : cmpW (D * 2) n = -1 := by unfold cmpW; repeat (first | omega | rfl | split)
      have c2 : cmpW (D * 2) (-n) = 1 := by unfold cmpW; repeat (first | omega | rfl | split)
      simp only [c1] at XM
      simp only [c2] at XN
      simp only [E1.out, E2.out] at SC
      simp only [E3.out, E4.out] at XM
      simp only [E5.out, E6.out] at XN
      obtain ⟨TH, e9⟩ : ∃ x, wH (D * 2) = x := ⟨_, rfl⟩
      obtain ⟨TL, e10⟩ : ∃ x, wL (D * 2) = x := ⟨_, rfl⟩
      simp only [e9, e10] at SC XM XN
      have SC := Lib.hid SC; have XM := Lib.hid XM; have XN := Lib.hid XN
      clear e9 e10 c1 c2 f1 f2 f3 f4 f5 f6 f7 f8 f9 f10 t1 t2 t3 t4 hT
      rcases hm56 with rfl | rfl
      all_goals
        go_wp2_with fail
        refine (SC.out _).mono ?_
        rintro e W3 ⟨rfl, q3⟩
        have x0 := keepc q3 j0
        have hs3 := World.block_lt_of_cell? _ _ x0
        have x3 := btr j3 q3
        clear j0 j1 j2 j3
        go_wp2_with fail
        have y0 := keepc (bal (bref W3) (.cells #[.int .i64 TH, .int .u64 TL] 24)) x0
        have y1 : (W3.alloc (.cells #[.int .i64 TH, .int .u64 TL] 24)).cell? ⟨W3.heap.size, 0, none⟩ = some (.int .i64 TH) := by simp [go_sem]
        have y2 : (W3.alloc (.cells #[.int .i64 TH, .int .u64 TL] 24)).cell? ⟨W3.heap.size, 1, none⟩ = some (.int .u64 TL) := by simp [go_sem]
        have y3 := bal x3 (.cells #[.int .i64 TH, .int .u64 TL] 24)
        go_region_held3 (fun W => W.cell? ⟨w.heap.size, 0, none⟩ = some (.int .i64 a) ∧ W.cell? ⟨W3.heap.size, 0, none⟩ = some (.int .i64 TH) ∧ W.cell? ⟨W3.heap.size, 1, none⟩ = some (.int .u64 TL) ∧ Below w.heap.size w W)
          (first | exact ⟨y0, y1, y2, bdr y3⟩ | exact keep3n (by assumption) hk | (go_split_ands; exact keep3n ⟨by assumption, by assumption, by assumption, by assumption⟩ hk))
          (first
            | (go_at_call 28; first | (with_reducible refine Calls.mono (OFH.out _) ?_; rintro e W1 ⟨rfl, hk⟩) | (with_reducible refine Calls.mono (OGH.out _) ?_; rintro e W1 ⟨rfl, hk⟩))
            | (go_at_call 27; first | (with_reducible refine Calls.mono (XM.out _) ?_; rintro e W1 ⟨rfl, hk⟩) | (with_reducible refine Calls.mono (XN.out _) ?_; rintro e W1 ⟨rfl, hk⟩)))
        rename_i hH
        obtain ⟨z0, z1, z2, z3⟩ := hH
        clear hk y0 y1 y2 y3
        obtain ⟨Wz, hWz⟩ : ∃ X, W1 = X := ⟨_, rfl⟩
        rw [hWz] at z0 z1 z2 z3 ⊢
        clear hWz
        go_wp2_with fail
        go_ret
        exact ⟨rfl, z3⟩
    · have c1 : cmpW (D * 2) n = 0 := by unfold cmpW; repeat (first | omega | rfl | split)
      simp only [c1] at XM
      rw [g] at XM XN SC
      simp only [E1.out, E2.out, E3.out, E4.out] at SC
      simp only [E3.out, E4.out] at XM
      have hD : 0 < D := by omega
      have b1 : LB = false := t2 hD
      have b2 : MB = true := t3 (by omega)
      have hq2 : m = 6 → q % 2 = 0 := fun h => f10 h (Or.inl g)
      have ha5 : m = 5 → 0 ≤ a := fun h => f8 h g
      have SC := Lib.hid SC; have XM := Lib.hid XM
      clear XN c1 g f1 f2 f3 f4 f5 f6 f7 f8 f9 f10 t1 t2 t3 t4 hT
      subst b1 b2
      have hx : (m = 5 ∧ 0 ≤ a) ∨ (m = 6 ∧ q.tmod 2 = 0) := by
        rcases hm56 with h | h
        · exact Or.inl ⟨h, ha5 h⟩
        · exact Or.inr ⟨h, by have := hq2 h; rw [← Int.dvd_iff_tmod_eq_zero, Int.dvd_iff_emod_eq_zero]; exact this⟩
      clear hq2 ha5 hm56
      rcases hx with ⟨rfl, hx⟩ | ⟨rfl, hx⟩
      all_goals
        go_wp2_with fail
        refine (SC.out _).mono ?_
        rintro e W3 ⟨rfl, q3⟩
        have x0 := keepc q3 j0
        have hs3 := World.block_lt_of_cell? _ _ x0
        have x3 := btr j3 q3
        clear j0 j1 j2 j3
        go_wp2_with fail
        have y0 := keepc (bal (bref W3) (.cells #[.int .i64 0, .int .u64 NL] 24)) x0
        have y1 : (W3.alloc (.cells #[.int .i64 0, .int .u64 NL] 24)).cell? ⟨W3.heap.size, 0, none⟩ = some (.int .i64 0) := by simp [go_sem]
        have y2 : (W3.alloc (.cells #[.int .i64 0, .int .u64 NL] 24)).cell? ⟨W3.heap.size, 1, none⟩ = some (.int .u64 NL) := by simp [go_sem]
        have y3 := bal x3 (.cells #[.int .i64 0, .int .u64 NL] 24)
        clear x0 x3 hs3 q3
        refine wp_region_held_drew (S := (fun W => W.cell? ⟨w.heap.size, 0, none⟩ = some (.int .i64 a) ∧ W.cell? ⟨W3.heap.size, 0, none⟩ = some (.int .i64 0) ∧ W.cell? ⟨W3.heap.size, 1, none⟩ = some (.int .u64 NL) ∧ Below w.heap.size w W)) (by kernel_rfl) ⟨y0, y1, y2, bdr y3⟩ (fun hH0 => ?_)
        (try simp only [Act.put, List.getElem_toArray, List.getElem_cons_zero, List.getElem_cons_succ, List.setIfInBounds_toArray, List.set_cons_zero, List.set_cons_succ])
        refine wpAnyH_take (i := 0) (oi := _) (v := ?_) rfl (by kernel_rfl) (by kernel_rfl) (by kernel_rfl) (fun _ _ _ h => h) (Or.inl ⟨?_, ?_⟩) hH0 ?_
        rotate_left
        · rfl
        · (intro W hSw; obtain ⟨s0, s1, s2, s3⟩ := hSw; go_simp; (try with_reducible rfl))
        (try simp only [Act.put, List.getElem_toArray, List.getElem_cons_zero, List.setIfInBounds_toArray, List.set_cons_zero, List.set_cons_succ])
        refine wpAnyH_take (i := 1) (oi := _) (v := ?_) rfl (by kernel_rfl) (by kernel_rfl) (by kernel_rfl) (fun _ _ _ h => h) (Or.inl ⟨?_, ?_⟩) hH0 ?_
        rotate_left
        · rfl
        · (intro W hSw; obtain ⟨s0, s1, s2, s3⟩ := hSw; go_simp; (try with_reducible rfl))
        (try simp only [Act.put, List.getElem_toArray, List.getElem_cons_zero, List.getElem_cons_succ, List.setIfInBounds_toArray, List.set_cons_zero, List.set_cons_succ])
        refine wpAnyH_ready (rs := [2]) (by kernel_rfl) (by simp) ?_
        refine AllReadyH.cons (o := _) rfl (fun K hK => ?_) AllReadyH.nil
        obtain ⟨s0, s1, s2, s3⟩ := hH0
        go_simp
        refine (OFH.out _).mono ?_
        rintro e W1 ⟨rfl, hk⟩
        try go_wp2_with fail
        refine hK.out _ _ (keep3n ⟨s0, s1, s2, s3⟩ hk) (fun hH1 => ?_)
        clear hK K hk s0 s1 s2 s3
        (try simp only [Act.put, List.getElem_toArray, List.getElem_cons_zero, List.getElem_cons_succ, List.setIfInBounds_toArray, List.set_cons_zero, List.set_cons_succ])
        refine wpAnyH_ready (rs := [3]) (by kernel_rfl) (by simp) ?_
        refine AllReadyH.cons (o := _) rfl (fun K hK => ?_) AllReadyH.nil
        obtain ⟨s0, s1, s2, s3⟩ := hH1
        go_simp
        refine (XM.out _).mono ?_
        rintro e W1 ⟨rfl, hk⟩
        try go_wp2_with fail
        refine hK.out _ _ (keep3n ⟨s0, s1, s2, s3⟩ hk) (fun hH2 => ?_)
        clear hK K hk s0 s1 s2 s3
        (try simp only [Act.put, List.getElem_toArray, List.getElem_cons_zero, List.getElem_cons_succ, List.setIfInBounds_toArray, List.set_cons_zero, List.set_cons_succ])
        refine wpAnyH_take (i := 4) (oi := _) (v := ?_) rfl (by kernel_rfl) (by kernel_rfl) (by kernel_rfl) (fun _ _ _ h => h) (Or.inl ⟨?_, ?_⟩) hH2 ?_
        rotate_left
        · rfl
        · (intro W hSw; obtain ⟨s0, s1, s2, s3⟩ := hSw; go_simp; (try with_reducible rfl))
        (try simp only [Act.put, List.getElem_toArray, List.getElem_cons_zero, List.getElem_cons_succ, List.setIfInBounds_toArray, List.set_cons_zero, List.set_cons_succ])
        refine wpAnyH_take (i := 5) (oi := _) (v := ?_) rfl (by kernel_rfl) (by kernel_rfl) (by kernel_rfl) (fun _ _ _ h => h) (Or.inl ⟨?_, ?_⟩) hH2 ?_
        rotate_left
        · rfl
        · (intro W hSw; obtain ⟨s0, s1, s2, s3⟩ := hSw; go_simp; (try with_reducible rfl))
        (try simp only [Act.put, List.getElem_toArray, List.getElem_cons_zero, List.getElem_cons_succ, List.setIfInBounds_toArray, List.set_cons_zero, List.set_cons_succ])
        refine wpAnyH_take (i := 6) (oi := _) (v := undef) rfl (by kernel_rfl) (by kernel_rfl) (by kernel_rfl) (fun _ _ _ h => h) (Or.inr ⟨?_, rfl⟩) hH2 ?_
        · rfl
        (try simp only [Act.put, List.getElem_toArray, List.getElem_cons_zero, List.getElem_cons_succ, List.setIfInBounds_toArray, List.set_cons_zero, List.set_cons_succ])
        refine wpAnyH_take (i := 7) (oi := _) (v := undef) rfl (by kernel_rfl) (by kernel_rfl) (by kernel_rfl) (fun _ _ _ h => h) (Or.inr ⟨?_, rfl⟩) hH2 ?_
        · rfl
        (try simp only [Act.put, List.getElem_toArray, List.getElem_cons_zero, List.getElem_cons_succ, List.setIfInBounds_toArray, List.set_cons_zero, List.set_cons_succ])
        refine wpAnyH_take (i := 8) (oi := _) (v := undef) rfl (by kernel_rfl) (by kernel_rfl) (by kernel_rfl) (fun _ _ _ h => h) (Or.inr ⟨?_, rfl⟩) hH2 ?_
        · rfl
        (try simp only [Act.put, List.getElem_toArray, List.getElem_cons_zero, List.getElem_cons_succ, List.setIfInBounds_toArray, List.set_cons_zero, List.set_cons_succ])
        refine wpAnyH_take (i := 9) (oi := _) (v := undef) rfl (by kernel_rfl) (by kernel_rfl) (by kernel_rfl) (fun _ _ _ h => h) (Or.inr ⟨?_, rfl⟩) hH2 ?_
        · rfl
        (try simp only [Act.put, List.getElem_toArray, List.getElem_cons_zero, List.getElem_cons_succ, List.setIfInBounds_toArray, List.set_cons_zero, List.set_cons_succ])
        refine wpAnyH_take (i := 10) (oi := _) (v := undef) rfl (by kernel_rfl) (by kernel_rfl) (by kernel_rfl) (fun _ _ _ h => h) (Or.inr ⟨?_, rfl⟩) hH2 ?_
        · rfl
        (try simp only [Act.put, List.getElem_toArray, List.getElem_cons_zero, List.getElem_cons_succ, List.setIfInBounds_toArray, List.set_cons_zero, List.set_cons_succ])
        refine wpAnyH_take (i := 11) (oi := _) (v := undef) rfl (by kernel_rfl) (by kernel_rfl) (by kernel_rfl) (fun _ _ _ h => h) (Or.inr ⟨?_, rfl⟩) hH2 ?_
        · rfl
        (try simp only [Act.put, List.getElem_toArray, List.getElem_cons_zero, List.getElem_cons_succ, List.setIfInBounds_toArray, List.set_cons_zero, List.set_cons_succ])
        refine wpAnyH_take (i := 12) (oi := _) (v := ?_) rfl (by kernel_rfl) (by kernel_rfl) (by kernel_rfl) (fun _ _ _ h => h) (Or.inl ⟨?_, ?_⟩) hH2 ?_
        rotate_left
        · rfl
        · (intro W hSw; obtain ⟨s0, s1, s2, s3⟩ := hSw; go_simp; (try with_reducible rfl))
        (try simp only [Act.put, List.getElem_toArray, List.getElem_cons_zero, List.getElem_cons_succ, List.setIfInBounds_toArray, List.set_cons_zero, List.set_cons_succ])
        refine wpAnyH_done (by kernel_rfl) ?_ _
        go_wp2_with fail
        obtain ⟨s0, s1, s2, s3⟩ := hH2
        refine wp_region_held_drew (S := (fun W => W.cell? ⟨w.heap.size, 0, none⟩ = some (.int .i64 a) ∧ W.cell? ⟨W3.heap.size, 0, none⟩ = some (.int .i64 0) ∧ W.cell? ⟨W3.heap.size, 1, none⟩ = some (.int .u64 NL) ∧ Below w.heap.size w W)) (by kernel_rfl) ⟨s0, s1, s2, bdr s3⟩ (fun hH0 => ?_)
        clear s0 s1 s2 s3
        (try simp only [Act.put, List.getElem_toArray, List.getElem_cons_zero, List.getElem_cons_succ, List.setIfInBounds_toArray, List.set_cons_zero, List.set_cons_succ])
        refine wpAnyH_take (i := 0) (oi := _) (v := ?_) rfl (by kernel_rfl) (by kernel_rfl) (by kernel_rfl) (fun _ _ _ h => h) (Or.inl ⟨?_, ?_⟩) hH0 ?_
        rotate_left
        · rfl
        · (intro W hSw; obtain ⟨s0, s1, s2, s3⟩ := hSw; go_simp; (try with_reducible rfl))
        (try simp only [Act.put, List.getElem_toArray, List.getElem_cons_zero, List.setIfInBounds_toArray, List.set_cons_zero, List.set_cons_succ])
        refine wpAnyH_take (i := 1) (oi := _) (v := ?_) rfl (by kernel_rfl) (by kernel_rfl) (by kernel_rfl) (fun _ _ _ h => h) (Or.inl ⟨?_, ?_⟩) hH0 ?_
        rotate_left
        · rfl
        · (intro W hSw; obtain ⟨s0, s1, s2, s3⟩ := hSw; go_simp; (try with_reducible rfl))
        (try simp only [Act.put, List.getElem_toArray, List.getElem_cons_zero, List.getElem_cons_succ, List.setIfInBounds_toArray, List.set_cons_zero, List.set_cons_succ])
        refine wpAnyH_ready (rs := [2]) (by kernel_rfl) (by simp) ?_
        refine AllReadyH.cons (o := _) rfl (fun K hK => ?_) AllReadyH.nil
        obtain ⟨s0, s1, s2, s3⟩ := hH0
        go_simp
        refine (OFH.out _).mono ?_
        rintro e W1 ⟨rfl, hk⟩
        try go_wp2_with fail
        refine hK.out _ _ (keep3n ⟨s0, s1, s2, s3⟩ hk) (fun hH1 => ?_)
        clear hK K hk s0 s1 s2 s3
        (try simp only [Act.put, List.getElem_toArray, List.getElem_cons_zero, List.getElem_cons_succ, List.setIfInBounds_toArray, List.set_cons_zero, List.set_cons_succ])
        refine wpAnyH_take (i := 3) (oi := _) (v := ?_) rfl (by kernel_rfl) (by kernel_rfl) (by kernel_rfl) (fun _ _ _ h => h) (Or.inl ⟨?_, ?_⟩) hH1 ?_
        rotate_left
        · rfl
        · (intro W hSw; obtain ⟨s0, s1, s2, s3⟩ := hSw; go_simp; (try with_reducible rfl))
        (try simp only [Act.put, List.getElem_toArray, List.getElem_cons_zero, List.getElem_cons_succ, List.setIfInBounds_toArray, List.set_cons_zero, List.set_cons_succ])
        refine wpAnyH_take (i := 4) (oi := _) (v := ?_) rfl (by kernel_rfl) (by kernel_rfl) (by kernel_rfl) (fun _ _ _ h => h) (Or.inl ⟨?_, ?_⟩) hH1 ?_
        rotate_left
        · rfl
        · (intro W hSw; obtain ⟨s0, s1, s2, s3⟩ := hSw; go_simp; (try with_reducible rfl))
        (try simp only [Act.put, List.getElem_toArray, List.getElem_cons_zero, List.getElem_cons_succ, List.setIfInBounds_toArray, List.set_cons_zero, List.set_cons_succ])
        refine wpAnyH_take (i := 5) (oi := _) (v := undef) rfl (by kernel_rfl) (by kernel_rfl) (by kernel_rfl) (fun _ _ _ h => h) (Or.inr ⟨?_, rfl⟩) hH1 ?_
        · rfl
        (try simp only [Act.put, List.getElem_toArray, List.getElem_cons_zero, List.getElem_cons_succ, List.setIfInBounds_toArray, List.set_cons_zero, List.set_cons_succ])
        refine wpAnyH_take (i := 6) (oi := _) (v := undef) rfl (by kernel_rfl) (by kernel_rfl) (by kernel_rfl) (fun _ _ _ h => h) (Or.inr ⟨?_, rfl⟩) hH1 ?_
        · rfl
        (try simp only [Act.put, List.getElem_toArray, List.getElem_cons_zero, List.getElem_cons_succ, List.setIfInBounds_toArray, List.set_cons_zero, List.set_cons_succ])
        refine wpAnyH_take (i := 7) (oi := _) (v := undef) rfl (by kernel_rfl) (by kernel_rfl) (by kernel_rfl) (fun _ _ _ h => h) (Or.inr ⟨?_, rfl⟩) hH1 ?_
        · rfl
        (try simp only [Act.put, List.getElem_toArray, List.getElem_cons_zero, List.getElem_cons_succ, List.setIfInBounds_toArray, List.set_cons_zero, List.set_cons_succ])
        refine wpAnyH_take (i := 8) (oi := _) (v := undef) rfl (by kernel_rfl) (by kernel_rfl) (by kernel_rfl) (fun _ _ _ h => h) (Or.inr ⟨?_, rfl⟩) hH1 ?_
        · rfl
        (try simp only [Act.put, List.getElem_toArray, List.getElem_cons_zero, List.getElem_cons_succ, List.setIfInBounds_toArray, List.set_cons_zero, List.set_cons_succ])
        refine wpAnyH_take (i := 9) (oi := _) (v := undef) rfl (by kernel_rfl) (by kernel_rfl) (by kernel_rfl) (fun _ _ _ h => h) (Or.inr ⟨?_, rfl⟩) hH1 ?_
        · rfl
        (try simp only [Act.put, List.getElem_toArray, List.getElem_cons_zero, List.getElem_cons_succ, List.setIfInBounds_toArray, List.set_cons_zero, List.set_cons_succ])
        refine wpAnyH_take (i := 10) (oi := _) (v := ?_) rfl (by kernel_rfl) (by kernel_rfl) (by kernel_rfl) (fun _ _ _ h => h) (Or.inl ⟨?_, ?_⟩) hH1 ?_
        rotate_left
        · rfl
        · (intro W hSw; obtain ⟨s0, s1, s2, s3⟩ := hSw; go_simp; (try with_reducible rfl))
        (try simp only [Act.put, List.getElem_toArray, List.getElem_cons_zero, List.getElem_cons_succ, List.setIfInBounds_toArray, List.set_cons_zero, List.set_cons_succ])
        refine wpAnyH_done (by kernel_rfl) ?_ _
        obtain ⟨s0, s1, s2, s3⟩ := hH1
      · have hd : decide (0 ≤ a) = true := by simpa using hx
        go_wp2_with fail
        go_ret
        exact ⟨rfl, s3⟩
      · have hd : (q.tmod 2 == 0) = true := by rw [hx]; rfl
        go_wp2_with fail
        go_ret
        exact ⟨rfl, s3⟩
    · have c1 : cmpW (D * 2) n = -1 := by unfold cmpW; repeat (first | omega | rfl | split)
      have c2 : cmpW (D * 2) (-n) = 0 := by unfold cmpW; repeat (first | omega | rfl | split)
      simp only [c1] at XM
      simp only [c2] at XN
      rw [g] at SC
      simp only [g] at XM XN
      simp only [E1.out, E2.out, E5.out, E6.out] at SC
      simp only [E3.out, E4.out, E5.out, E6.out] at XM
      simp only [E5.out, E6.out] at XN
      have b1 : LB = true := t1 (by omega)
      have b2 : MB = false := t4 (by omega)
      have hq2 : m = 6 → q % 2 = 0 := fun h => f10 h (Or.inr g)
      have ha5 : m = 5 → a < 0 := fun h => f9 h g
      have SC := Lib.hid SC; have XM := Lib.hid XM; have XN := Lib.hid XN
      clear c1 c2 g f1 f2 f3 f4 f5 f6 f7 f8 f9 f10 t1 t2 t3 t4 hT
      subst b1 b2
      have hx : (m = 5 ∧ a < 0) ∨ (m = 6 ∧ q.tmod 2 = 0) := by
        rcases hm56 with h | h
        · exact Or.inl ⟨h, ha5 h⟩
        · exact Or.inr ⟨h, by have := hq2 h; rw [← Int.dvd_iff_tmod_eq_zero, Int.dvd_iff_emod_eq_zero]; exact this⟩
      clear hq2 ha5 hm56
      rcases hx with ⟨rfl, hx⟩ | ⟨rfl, hx⟩
      all_goals
        go_wp2_with fail
        refine (SC.out _).mono ?_
        rintro e W3 ⟨rfl, q3⟩
        have x0 := keepc q3 j0
        have hs3 := World.block_lt_of_cell? _ _ x0
        have x3 := btr j3 q3
        clear j0 j1 j2 j3
        go_wp2_with fail
        have y0 := keepc (bal (bref W3) (.cells #[.int .i64 (-1), .int .u64 GL] 24)) x0
        have y1 : (W3.alloc (.cells #[.int .i64 (-1), .int .u64 GL] 24)).cell? ⟨W3.heap.size, 0, none⟩ = some (.int .i64 (-1)) := by simp [go_sem]
        have y2 : (W3.alloc (.cells #[.int .i64 (-1), .int .u64 GL] 24)).cell? ⟨W3.heap.size, 1, none⟩ = some (.int .u64 GL) := by simp [go_sem]
        have y3 := bal x3 (.cells #[.int .i64 (-1), .int .u64 GL] 24)
        clear x0 x3 hs3 q3
        go_region_held3 (fun W => W.cell? ⟨w.heap.size, 0, none⟩ = some (.int .i64 a) ∧ W.cell? ⟨W3.heap.size, 0, none⟩ = some (.int .i64 (-1)) ∧ W.cell? ⟨W3.heap.size, 1, none⟩ = some (.int .u64 GL) ∧ Below w.heap.size w W)
          (first | exact ⟨y0, y1, y2, bdr y3⟩ | exact keep3n (by assumption) hk | (go_split_ands; exact keep3n ⟨by assumption, by assumption, by assumption, by assumption⟩ hk))
          (first
            | (go_at_call 28; first | (with_reducible refine Calls.mono (OFH.out _) ?_; rintro e W1 ⟨rfl, hk⟩) | (with_reducible refine Calls.mono (OGH.out _) ?_; rintro e W1 ⟨rfl, hk⟩))
            | (go_at_call 27; first | (with_reducible refine Calls.mono (XM.out _) ?_; rintro e W1 ⟨rfl, hk⟩) | (with_reducible refine Calls.mono (XN.out _) ?_; rintro e W1 ⟨rfl, hk⟩)))
        rename_i hH
        obtain ⟨z0, z1, z2, z3⟩ := hH
        clear hk y0 y1 y2 y3
        obtain ⟨Wz, hWz⟩ : ∃ X, W1 = X := ⟨_, rfl⟩
        rw [hWz] at z0 z1 z2 z3 ⊢
        clear hWz
        go_wp2_with fail
        go_region_held3 (fun W => W.cell? ⟨w.heap.size, 0, none⟩ = some (.int .i64 a) ∧ W.cell? ⟨W3.heap.size, 0, none⟩ = some (.int .i64 (-1)) ∧ W.cell? ⟨W3.heap.size, 1, none⟩ = some (.int .u64 GL) ∧ Below w.heap.size w W)
          (first | exact ⟨z0, z1, z2, bdr z3⟩ | exact keep3n (by assumption) hk | (go_split_ands; exact keep3n ⟨by assumption, by assumption, by assumption, by assumption⟩ hk))
          (first
            | (go_at_call 28; first | (with_reducible refine Calls.mono (OFH.out _) ?_; rintro e W1 ⟨rfl, hk⟩) | (with_reducible refine Calls.mono (OGH.out _) ?_; rintro e W1 ⟨rfl, hk⟩)))
        rename_i hH
        obtain ⟨v0, v1, v2, v3⟩ := hH
        clear hk z0 z1 z2 z3
        obtain ⟨Wv, hWv⟩ : ∃ X, W1 = X := ⟨_, rfl⟩
        rw [hWv] at v0 v1 v2 v3 ⊢
        clear hWv
      · have hd : decide (a < 0) = true := by simpa using hx
        have hd2 : decide (0 ≤ a) = false := by simp; omega
        go_wp2_with fail
        go_ret
        exact ⟨rfl, v3⟩
      · have hd : (q.tmod 2 == 0) = true := by rw [hx]; rfl
        go_wp2_with fail
        go_ret
        exact ⟨rfl, v3⟩
end Go.Proofs.YtagckehcihhaiaaDoor
