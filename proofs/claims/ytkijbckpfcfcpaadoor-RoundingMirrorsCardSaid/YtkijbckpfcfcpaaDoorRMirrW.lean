/-
  The walk of the law RoundingMirrors.
-/
import Derived.Test.YtkijbckpfcfcpaaDoorRMirr
namespace Go.Proofs.YtkijbckpfcfcpaaDoor
open Go Go.RowKit WM

theorem wE_ways (v : Int) : wE v = 0 ∨ wE v = 6 := by
  cases h : inW v
  · exact Or.inr (wE_out h)
  · exact Or.inl (wE_in h)

set_option maxRecDepth 100000 in
set_option maxHeartbeats 16000000 in
theorem mirrors_of (L : Live2) (a l n m : Int) (hh : I64 a) (hl : U64 l) (hn : I64 n) (_hm : I64 m) (w : World) (hch : Ch w) :
    Calls Tryd.prog 11 #[.agg #[.int .i64 a, .int .u64 l], .int .i64 n, .int .i64 m] w fun e w' => e = .returned (.bool true) ∧ Below w.heap.size w w' := by
  have z64 : I64 0 := by unfold I64; omega
  have OF := fun W => rof_any 0 z64 W
  have SUB := fun W => rsub_any (wH 0) (wL 0) a l (wH_I64 0) (wL_U64 0) hh hl W
  have hv0 : val (wH 0) (wL 0) = 0 := val_w (inW_I64 z64)
  simp only [hv0] at SUB
  obtain ⟨B, hB⟩ : ∃ B, 0 - val a l = B := ⟨_, rfl⟩
  rw [hB] at SUB
  obtain ⟨ZH, hZH⟩ : ∃ x, wH 0 = x := ⟨_, rfl⟩
  obtain ⟨ZL, hZL⟩ : ∃ x, wL 0 = x := ⟨_, rfl⟩
  simp only [hZH, hZL] at OF SUB
  have hEE := wE_ways B
  have hIN : wE B = 0 → inW B = true := by
    intro h
    cases hi : inW B
    · rw [wE_out hi] at h; omega
    · rfl
  have b1 := wH_I64 B; have b2 := wL_U64 B
  have hvB := fun h => val_w (hIN h)
  obtain ⟨BH, hBH⟩ : ∃ x, wH B = x := ⟨_, rfl⟩
  obtain ⟨BL, hBL⟩ : ∃ x, wL B = x := ⟨_, rfl⟩
  obtain ⟨EE, hE⟩ : ∃ x, wE B = x := ⟨_, rfl⟩
  rw [hBH, hBL] at hvB
  rw [hE] at hEE hvB
  rw [hBH] at b1; rw [hBL] at b2
  simp only [hBH, hBL, hE] at SUB
  have OF := Lib.hid OF; have SUB := Lib.hid SUB; have HB := Lib.hid hB; have HVB := Lib.hid hvB; have HEE := Lib.hid hEE
  clear hv0 hB hZH hZL hEE hIN hBH hBL hE hvB z64
  have X0 := Own.new w (.int .i64 a) (.int .u64 l) 24
  have Z0 := bal (bref w) (.cells #[.int .i64 a, .int .u64 l] 24)
  go_enter Tryd.func11, Tryd.ntmps11
  go_wp2_with fail
  obtain ⟨WA, hWA⟩ : ∃ X, w.alloc (.cells #[.int .i64 a, .int .u64 l] 24) = X := ⟨_, rfl⟩
  rw [hWA] at X0 Z0 ⊢
  clear hWA
  have Z0' : Below w.heap.size w WA := Z0
  have lb := X0.lt
  have XX := X0
  obtain ⟨x0, x1, x2, x3⟩ := XX
  go_cut [7, 8] (fun v7 v8 wx => ∃ c : Nat, v7 = .pointer (some ⟨c, 0, none⟩) ∧ v8 = .int .i64 EE ∧ Own wx c (.int .i64 BH) (.int .u64 BL) ∧ Own wx w.heap.size (.int .i64 a) (.int .u64 l) ∧ Below w.heap.size w wx)
  case first =>
    go_region_with (first
      | (go_at_call 28; refine (OF.out _).mono ?_; rintro e W1 ⟨rfl, hk⟩; have X1 : Own W1 w.heap.size (.int .i64 a) (.int .u64 l) := Own.keep (by repeat (first | exact X0 | refine Own.dr ?_ | refine Own.al ?_ _)) hk; have Z1 : Below w.heap.size w W1 := btr (by repeat (first | exact Z0' | refine bdr ?_ | refine bal ?_ _)) hk; have l1 := X1.lt; have XY := X1; obtain ⟨y0, y1, y2, y3⟩ := XY; first | (refine (fun (XA : Own W1 WA.heap.size (.int .i64 0) (.int .u64 0)) => ?_) (Own.keep ?_ hk); rotate_left; (refine ⟨?_, ?_, ?_, ?_⟩ <;> (simp [go_sem]; done))) | skip)
      | (go_at_call 35; refine (SUB.out _).mono ?_; rintro e W2 ⟨rfl, hk2⟩; have X3 : Own W2 w.heap.size (.int .i64 a) (.int .u64 l) := Own.keep (by repeat (first | exact X1 | refine Own.dr ?_ | refine Own.al ?_ _)) hk2; have Z3 : Below w.heap.size w W2 := btr (by repeat (first | exact Z1 | refine bdr ?_ | refine bal ?_ _)) hk2; have l2 := X3.lt; first | (have XB := Own.keep XA hk2; obtain ⟨v0, v1, v2, v3⟩ := XB) | (refine (fun (XB : Own W2 W1.heap.size (.int .i64 0) (.int .u64 0)) => ?_) (Own.keep ?_ hk2); rotate_left; (refine ⟨?_, ?_, ?_, ?_⟩ <;> (simp [go_sem]; done)); obtain ⟨v0, v1, v2, v3⟩ := XB) | skip))
    all_goals (go_wp2_with fail; (try simp only [Act.put, List.getElem_toArray, List.getElem_cons_zero, List.getElem_cons_succ, List.setIfInBounds_toArray, List.set_cons_zero, List.set_cons_succ]); go_meet; refine ⟨_, (by first | rfl | (simp [Act.put]; done)), (by first | rfl | (simp [Act.put]; done)), ?_, ?_, ?_⟩)
    all_goals (try (exact Own.new _ _ _ _))
    all_goals (try (refine Own.put (x := .int .i64 0) (y := .int .u64 0) ?_ _ _; refine ⟨?_, ?_, ?_, ?_⟩ <;> assumption))
    all_goals (repeat (first | exact X3 | exact Z3 | refine Own.dr ?_ | refine Own.al ?_ _ | refine Own.far ?_ (by dsimp only; omega) _ | refine bdr ?_ | refine bal ?_ _ | refine bset ?_ (by dsimp only; omega) _))
  case rest =>
    obtain ⟨c, rfl, rfl, XC, X5, Z5⟩ := hcut
    clear X0 Z0 Z0' x0 x1 x2 x3 OF SUB lb
    have h5 := hch.keep Z5
    have XCC := XC
    obtain ⟨c0, c1, _, _⟩ := XCC
    have XX := X5
    obtain ⟨x0, x1, x2, x3⟩ := XX
    rcases HEE.out with rfl | rfl
    · by_cases hn1 : n < 1
      · have hd : decide (n < 1) = true := by simpa using hn1
        go_wp2_with fail
        refine (L _ h5).mono ?_
        rintro e w4 ⟨rfl, q4⟩
        have Z6 := btr Z5 q4
        go_wp2_with fail
        go_ret
        exact ⟨rfl, Z6⟩
      · have hd : decide (n < 1) = false := by simpa using hn1
        have V := fun W => rvalid_any m W
        cases hv : validB m
        · simp only [hv] at V
          have V := Lib.hid V
          clear hv
          go_wp2_with fail
          refine (V.out _).mono ?_
          rintro e w3 ⟨rfl, rfl⟩
          go_wp2_with fail
          refine (L _ h5).mono ?_
          rintro e w4 ⟨rfl, q4⟩
          have Z6 := btr Z5 q4
          go_wp2_with fail
          go_ret
          exact ⟨rfl, Z6⟩
        · simp only [hv] at V
          have V := Lib.hid V
          have W4 := mirror_ways (val a l) n m (by omega) hv
          have D1 := fun W hC => rdivide_of a l n m hh hl hn W hC
          have D2 := fun W hC => rdivide_of BH BL n (otherM m) b1 b2 hn W hC
          simp only [HVB.out rfl] at D2
          rw [HB.out] at W4
          have hO : (m = 3 ∧ otherM m = 4) ∨ (m = 4 ∧ otherM m = 3) ∨ (¬ m = 3 ∧ ¬ m = 4 ∧ otherM m = m) := by
            by_cases e3 : m = 3
            · exact Or.inl ⟨e3, by unfold otherM; rw [if_pos e3]⟩
            · by_cases e4 : m = 4
              · exact Or.inr (Or.inl ⟨e4, by unfold otherM; rw [if_neg e3, if_pos e4]⟩)
              · exact Or.inr (Or.inr ⟨e3, e4, by unfold otherM; rw [if_neg e3, if_neg e4]⟩)
          obtain ⟨o, ho⟩ : ∃ o, otherM m = o := ⟨_, rfl⟩
          rw [ho] at W4 hO
          simp only [ho] at D2
          obtain ⟨X, hX⟩ : ∃ X, dQ (val a l) n m = X := ⟨_, rfl⟩
          obtain ⟨Y, hY⟩ : ∃ Y, dQ B n o = Y := ⟨_, rfl⟩
          obtain ⟨F, hF⟩ : ∃ F, dE (val a l) n m = F := ⟨_, rfl⟩
          obtain ⟨G, hG⟩ : ∃ G, dE B n o = G := ⟨_, rfl⟩
          simp only [hX, hF] at D1 W4
          simp only [hY, hG] at D2 W4
          have D1 := Lib.hid D1; have D2 := Lib.hid D2
          have HW4 := Lib.hid W4
          clear hv hX hY hF hG ho W4
          rcases hO with ⟨rfl, rfl⟩ | ⟨rfl, rfl⟩ | ⟨hm3, hm4, rfl⟩
          all_goals
            go_wp2_with fail
            refine (V.out _).mono ?_
            rintro e w3 ⟨rfl, rfl⟩
            go_wp2_with fail
            refine (D1.out _ h5).mono ?_
            rintro e w4 ⟨rfl, q4⟩
            have Z6 := btr Z5 q4
            have h6 := h5.keep q4
            obtain ⟨d0, d1, _, _⟩ := XC.keep q4
            clear c0 c1 x0 x1 x2 x3
            go_wp2_with fail
            refine (D2.out _ h6).mono ?_
            rintro e w5 ⟨rfl, q5⟩
            have Z7 := btr Z6 q5
            have h7 := h6.keep q5
            clear d0 d1
            rcases HW4.out with ⟨rfl, rfl, hxy⟩ | ⟨rfl, rfl, rfl⟩ | ⟨rfl, rfl, rfl⟩ | ⟨rfl, rfl⟩
            all_goals
              go_wp2_with fail
              refine (L _ h7).mono ?_
              rintro e w6 ⟨rfl, q6⟩
              have Z8 := btr Z7 q6
              go_wp2_with fail
              go_ret
              exact ⟨rfl, Z8⟩
    · clear HVB
      go_wp2_with fail
      refine (L _ h5).mono ?_
      rintro e w4 ⟨rfl, q4⟩
      have Z6 := btr Z5 q4
      go_wp2_with fail
      go_ret
      exact ⟨rfl, Z6⟩
end Go.Proofs.YtkijbckpfcfcpaaDoor
