/-
  The walk of the law of blanks.
-/
import Derived.Test.YtpmappddepkhiaaDoorTI
namespace Go.Proofs.YtpmappddepkhiaaDoor
open Go Go.RowKit Go.Lib WM TM

theorem TZ_lines {l : List UInt8} : ∀ t ∈ (TZ l).1, 1 ≤ t.2.1 ∧ t.2.1 ≤ 2049 := by
  intro t ht
  unfold TZ at ht
  split at ht
  · exact absurd ht (by simp)
  · rename_i h
    have h1 := TK_line l 1 t ht
    have h2 := TK_last l 1 t ht
    omega

set_option maxRecDepth 100000 in
set_option maxHeartbeats 8000000 in
theorem tokenBlanks (s : ByteArray) (w : World) (hG : Gd w) :
    Calls Tryd.prog 7 #[.string s] w fun e w' => e = .returned (.bool true) ∧ Below w.heap.size w w' := by
  have HG := Lib.hid hG
  have LV := Lib.hid (fun W h => live_any W h)
  have HB0 := Lib.hid (bref w)
  by_cases hl : 2000 < s.size
  · have hlz : (2000 : Int) < (s.size : Int) := by omega
    clear hl hG
    go_enter Tryd.func7, Tryd.ntmps7
    go_wp2_with fail
    with_reducible refine (LV.out _ (HG.out.keep HB0.out)).mono ?_
    rintro e w1 ⟨rfl, q1⟩
    have HB1 := Lib.hid (btr HB0.out q1)
    clear q1
    go_wp2_with fail
    go_ret
    exact ⟨rfl, HB1.out⟩
  have hlz : ¬ (2000 : Int) < (s.size : Int) := by omega
  have hs2 : (byt s).length ≤ 2000 := by rw [byt_len]; omega
  have T1 := fun W hM hE => mtokenize s W hM hE
  have T2 := fun W hM hE => mtokenize (⟨#[35, 32, 49, 46, 53, 32, 61, 10]⟩ ++ s) W hM hE
  have T3 := fun W hM hE => mtokenize (⟨#[9, 32]⟩ ++ s ++ ⟨#[10, 32, 35]⟩) W hM hE
  rw [show byt (⟨#[35, 32, 49, 46, 53, 32, 61, 10]⟩ ++ s) = ahd ++ byt s from by rw [byt_app]; rfl, TZ_ahead _ hs2] at T2
  rw [show byt (⟨#[9, 32]⟩ ++ s ++ ⟨#[10, 32, 35]⟩) = [9, 32] ++ byt s ++ [10, 32, 35] from by rw [byt_app, byt_app]; rfl, TZ_ends _ hs2] at T3
  have hq1 := TZ_ok (l := byt s)
  have hq2 := TZ_line (l := byt s)
  have hlines := TZ_lines (l := byt s)
  obtain ⟨⟨m, a, f⟩, hq⟩ : ∃ q, TZ (byt s) = q := ⟨_, rfl⟩
  rw [hq] at T1 T2 T3 hq1 hq2 hlines
  obtain ⟨k, hk⟩ : ∃ k, m.length = k := ⟨_, rfl⟩
  have hkm : (m.map (shf 1)).length = k := by rw [List.length_map, hk]
  have hk2 : k ≤ 2048 := by rw [← hk]; exact hq1.2
  have U1 : ∀ W, Mk W → Er W → Calls Tryd.prog 14 #[.string s] W fun e w' => ∃ ao c, e = .returned (.tuple #[.slice ao k c, .int .i64 a, .int .i64 f]) ∧ TokensAt ao m w' ∧ Below W.heap.size W w' := fun W hM hE => by
    subst hk
    exact T1 W hM hE
  have U3 : ∀ W, Mk W → Er W → Calls Tryd.prog 14 #[.string (⟨#[9, 32]⟩ ++ s ++ ⟨#[10, 32, 35]⟩)] W fun e w' => ∃ ao c, e = .returned (.tuple #[.slice ao k c, .int .i64 a, .int .i64 f]) ∧ TokensAt ao m w' ∧ Below W.heap.size W w' := fun W hM hE => by
    subst hk
    exact T3 W hM hE
  obtain ⟨z, hz⟩ : ∃ z, (if f = 0 then 0 else a + 1) = z := ⟨_, rfl⟩
  have U2 : ∀ W, Mk W → Er W → Calls Tryd.prog 14 #[.string (⟨#[35, 32, 49, 46, 53, 32, 61, 10]⟩ ++ s)] W fun e w' => ∃ ao c, e = .returned (.tuple #[.slice ao k c, .int .i64 z, .int .i64 f]) ∧ TokensAt ao (m.map (shf 1)) w' ∧ Below W.heap.size W w' := fun W hM hE => by
    have h1 := T2 W hM hE
    simp only [hz] at h1
    refine h1.mono ?_
    rintro e w' ⟨ao, c, he, hT, hB⟩
    refine ⟨ao, c, ?_, hT, hB⟩
    rw [he, hkm]
  have X1 : ∀ ao c ca cb W, TokensAt ao m W → TokensAt c m W → Calls Tryd.prog 15 #[.slice ao k ca, .slice c k cb] W fun e w' => e = .returned (.bool true) ∧ Below W.heap.size W w' := fun ao c ca cb W h1 h2 => by
    have := rsame ao c m ca cb (by omega) W h1 h2
    rwa [hk] at this
  have hsz1 : s.size ≤ 2000 := by omega
  have HX := Lib.hid X1
  have H1 := Lib.hid U1
  have H2 := Lib.hid U2
  have H3 := Lib.hid U3
  have HK := Lib.hid hk
  have HOK := Lib.hid hq1.1
  have HKM := Lib.hid hkm
  have HL := Lib.hid hlines
  have hla : f ≠ 0 → 0 ≤ a ∧ a ≤ 2049 := hq2
  clear hG hl hs2 T1 T2 T3 hq1 hq2 hlines hq U1 U2 U3 X1 hk hkm
  have main : ∀ (P : Prop), (f = 0 → P) → (f ≠ 0 → P) → P := fun P h1 h2 => by
    by_cases h : f = 0
    · exact h1 h
    · exact h2 h
  refine main _ (fun hf => ?_) (fun hf => ?_)
  · subst hf
    clear hla
    go_enter Tryd.func7, Tryd.ntmps7
    go_wp2_with fail
    refine (H1.out _ (HG.out.keep HB0.out).m (HG.out.keep HB0.out).e).mono ?_
    rintro e w1 ⟨a1, c1, rfl, hT, q1⟩
    have HB1 := Lib.hid (btr HB0.out q1)
    have K1 := Lib.hid hT
    clear q1 hT
    go_wp2_with fail
    refine (H2.out _ (HG.out.keep HB1.out).m (HG.out.keep HB1.out).e).mono ?_
    rintro e w2 ⟨a2, c2, rfl, hT, q2⟩
    have HB2 := Lib.hid (btr HB1.out q2)
    have K3 := Lib.hid (K1.out.keep q2)
    have K2 := Lib.hid hT
    clear q2 hT
    go_wp2_with fail
    go_loopw [9] (fun i wr => ∃ (j z : Nat), j ≤ k ∧ i = .int .i64 j ∧ wr = w2.drewN z) (fun i _ => k - (RowKit.intOf i).toNat)
    case atStart => exact ⟨0, 0, by omega, rfl, rfl⟩
    case round =>
      obtain ⟨j, z0, hj, rfl, rfl⟩ := hrel
      by_cases hlt : j < k
      · have hjm : j < m.length := by rw [HK.out]; exact hlt
        obtain ⟨g1, o1, rfl, hg1, x0, x1, x2⟩ := K3.out j hjm
        obtain ⟨g2, o2, rfl, hg2, y0, y1, y2⟩ := K2.out j (by rw [HKM.out]; exact hlt)
        have hgd : (m.map (shf 1)).getD j T0 = shf 1 (m.getD j T0) := by simp [List.getD, hjm]
        have hok := HOK.out _ (getD_mem' T0 m j hjm)
        rw [hgd] at y0 y1 y2
        obtain ⟨⟨uk, ul, ux⟩, hu⟩ : ∃ x, m.getD j T0 = x := ⟨_, rfl⟩
        rw [hu] at x0 x1 x2 y0 y1 y2 hok
        obtain ⟨o1', _, _⟩ := hok
        have hul := HL.out (uk, ul, ux) (by rw [← hu]; exact getD_mem' T0 m j hjm)
        simp only [shf] at x0 x1 x2 y0 y1 y2 hul
        obtain ⟨X, hX⟩ : ∃ X, str ux = X := ⟨_, rfl⟩
        rw [hX] at x2 y2
        have hjz : (j : Int) < (k : Int) := by omega
        clear hgd hu hX o1' hjm
        go_wp2_with fail
        go_quiet (fail)
        go_wp2_with fail
        go_roundw
        case rel => exact ⟨j + 1, _, by omega, by go_num, by first | rfl | exact World.drewN_drewN _ _ _⟩
        case measure => simp [RowKit.intOf]; omega
      · have he : j = k := by omega
        subst he
        have HB3 := Lib.hid (bdn HB2.out z0)
        have K4 := Lib.hid (K3.out.keep (bdn (bref _) z0))
        obtain ⟨w3, hw3⟩ : ∃ w3, w2.drewN z0 = w3 := ⟨_, rfl⟩
        rw [hw3] at HB3 K4 ⊢
        clear hw3
        go_wp2_with fail
        refine (H3.out _ (HG.out.keep HB3.out).m (HG.out.keep HB3.out).e).mono ?_
        rintro e w4 ⟨a4, c4, rfl, hT, q4⟩
        have HB4 := Lib.hid (btr HB3.out q4)
        have K5 := Lib.hid (K4.out.keep q4)
        have K6 := Lib.hid hT
        clear q4 hT
        go_wp2_with fail
        refine (HX.out _ _ _ _ _ K5.out K6.out).mono ?_
        rintro e w5 ⟨rfl, q5⟩
        have HB5 := Lib.hid (btr HB4.out q5)
        clear q5
        go_wp2_with fail
        with_reducible refine (LV.out _ (HG.out.keep HB5.out)).mono ?_
        rintro e w6 ⟨rfl, q6⟩
        have HB6 := Lib.hid (btr HB5.out q6)
        clear q6
        go_wp2_with fail
        go_ret
        exact ⟨rfl, HB6.out⟩
  · have hz2 : z = a + 1 := by rw [← hz, if_neg hf]
    obtain ⟨la1, la2⟩ := hla hf
    have hfb : (f != 0) = true := by rw [bne_iff_ne]; exact hf
    subst hz2
    clear hz
    go_enter Tryd.func7, Tryd.ntmps7
    go_wp2_with fail
    refine (H1.out _ (HG.out.keep HB0.out).m (HG.out.keep HB0.out).e).mono ?_
    rintro e w1 ⟨a1, c1, rfl, hT, q1⟩
    have HB1 := Lib.hid (btr HB0.out q1)
    have K1 := Lib.hid hT
    clear q1 hT
    go_wp2_with fail
    refine (H2.out _ (HG.out.keep HB1.out).m (HG.out.keep HB1.out).e).mono ?_
    rintro e w2 ⟨a2, c2, rfl, hT, q2⟩
    have HB2 := Lib.hid (btr HB1.out q2)
    have K3 := Lib.hid (K1.out.keep q2)
    have K2 := Lib.hid hT
    clear q2 hT
    go_wp2_with fail
    go_loopw [9] (fun i wr => ∃ (j z : Nat), j ≤ k ∧ i = .int .i64 j ∧ wr = w2.drewN z) (fun i _ => k - (RowKit.intOf i).toNat)
    case atStart => exact ⟨0, 0, by omega, rfl, rfl⟩
    case round =>
      obtain ⟨j, z0, hj, rfl, rfl⟩ := hrel
      by_cases hlt : j < k
      · have hjm : j < m.length := by rw [HK.out]; exact hlt
        obtain ⟨g1, o1, rfl, hg1, x0, x1, x2⟩ := K3.out j hjm
        obtain ⟨g2, o2, rfl, hg2, y0, y1, y2⟩ := K2.out j (by rw [HKM.out]; exact hlt)
        have hgd : (m.map (shf 1)).getD j T0 = shf 1 (m.getD j T0) := by simp [List.getD, hjm]
        have hok := HOK.out _ (getD_mem' T0 m j hjm)
        rw [hgd] at y0 y1 y2
        obtain ⟨⟨uk, ul, ux⟩, hu⟩ : ∃ x, m.getD j T0 = x := ⟨_, rfl⟩
        rw [hu] at x0 x1 x2 y0 y1 y2 hok
        obtain ⟨o1', _, _⟩ := hok
        have hul := HL.out (uk, ul, ux) (by rw [← hu]; exact getD_mem' T0 m j hjm)
        simp only [shf] at x0 x1 x2 y0 y1 y2 hul
        obtain ⟨X, hX⟩ : ∃ X, str ux = X := ⟨_, rfl⟩
        rw [hX] at x2 y2
        have hjz : (j : Int) < (k : Int) := by omega
        clear hgd hu hX o1' hjm
        go_wp2_with fail
        go_quiet (fail)
        go_wp2_with fail
        go_roundw
        case rel => exact ⟨j + 1, _, by omega, by go_num, by first | rfl | exact World.drewN_drewN _ _ _⟩
        case measure => simp [RowKit.intOf]; omega
      · have he : j = k := by omega
        subst he
        have HB3 := Lib.hid (bdn HB2.out z0)
        have K4 := Lib.hid (K3.out.keep (bdn (bref _) z0))
        obtain ⟨w3, hw3⟩ : ∃ w3, w2.drewN z0 = w3 := ⟨_, rfl⟩
        rw [hw3] at HB3 K4 ⊢
        clear hw3
        go_wp2_with fail
        refine (H3.out _ (HG.out.keep HB3.out).m (HG.out.keep HB3.out).e).mono ?_
        rintro e w4 ⟨a4, c4, rfl, hT, q4⟩
        have HB4 := Lib.hid (btr HB3.out q4)
        have K5 := Lib.hid (K4.out.keep q4)
        have K6 := Lib.hid hT
        clear q4 hT
        go_wp2_with fail
        refine (HX.out _ _ _ _ _ K5.out K6.out).mono ?_
        rintro e w5 ⟨rfl, q5⟩
        have HB5 := Lib.hid (btr HB4.out q5)
        clear q5
        go_wp2_with fail
        with_reducible refine (LV.out _ (HG.out.keep HB5.out)).mono ?_
        rintro e w6 ⟨rfl, q6⟩
        have HB6 := Lib.hid (btr HB5.out q6)
        clear q6
        go_wp2_with fail
        go_ret
        exact ⟨rfl, HB6.out⟩
end Go.Proofs.YtpmappddepkhiaaDoor
