/-
  The walk of the law that lists are restored from their encodings.
-/
import Derived.Test.YtlgplhekiemeoaaDoorWN
namespace Go.Proofs.YtlgplhekiemeoaaDoor
open Go Go.RowKit Go.Lib WM

theorem enc_ge (l : List ByteArray) : sizeL l + l.length ≤ (encL l).length := by
  induction l with
  | nil => simp [encL, sizeL]
  | cons x r ih =>
    have h2 := nDigits_pos x.size
    unfold sizeL at *
    simp only [encL, List.length_append, List.length_cons, decDigits_length, byt_len, List.map_cons, List.sum_cons]
    omega
theorem len_sizeL (l : List ByteArray) : l.length ≤ sizeL l := by unfold sizeL; omega
/-- A list of at most 5000 texts and bytes is found again. -/
theorem back_texts (l : List ByteArray) (h : sizeL l ≤ 10000) : unp (byt (str (encL l))) = (0, l) ∧ (str (encL l)).size ≤ 1000000 := by
  have hm := sizeL_mem l
  refine ⟨?_, ?_⟩
  · rw [byt_str]
    exact unp_enc l fun x hx => by have := hm x hx; omega
  · rw [str_size]
    have h1 := enc_len l fun x hx => by have := hm x hx; omega
    have h2 := len_sizeL l
    omega
theorem back_ints (l : List Int) (hl : l.length ≤ 500) (hs : ∀ n ∈ l, I64 n) : tkE (byt (str (encI l))) l.length = 0 ∧ tkV (byt (str (encI l))) l.length = l ∧ (str (encI l)).size ≤ 1000000 := by
  obtain ⟨h1, h2⟩ := tk_ints l hs
  rw [byt_str]
  refine ⟨h1, h2, ?_⟩
  rw [str_size]
  unfold encI
  have h3 := sizeL_dec l hs
  have h4 := enc_len (l.map decT) fun x hx => by
    simp only [List.mem_map] at hx
    obtain ⟨n, hn, rfl⟩ := hx
    have := decT_size n (hs n hn)
    omega
  rw [List.length_map] at h4
  omega
theorem fwd_texts (s : ByteArray) (hs : s.size ≤ 5000) (h : (unp (byt s)).1 = 0) : str (encL (unp (byt s)).2) = s ∧ sizeL (unp (byt s)).2 ≤ 100000 := by
  have h1 := enc_unp' (byt s) h
  have h2 := enc_ge (unp (byt s)).2
  rw [h1, byt_len] at h2
  rw [h1]
  exact ⟨str_byt s, by omega⟩
theorem fwd_ints (s : ByteArray) (most : Int) (hs : s.size ≤ 5000) (h : tkE (byt s) most = 0) : str (encI (tkV (byt s) most)) = s ∧ (tkV (byt s) most).length ≤ 4000 ∧ ∀ n ∈ tkV (byt s) most, I64 n := by
  have h1 := ints_tk (byt s) most h
  have h2 := enc_ge ((tkV (byt s) most).map decT)
  have h3 := len_sizeL ((tkV (byt s) most).map decT)
  have h4 : encL ((tkV (byt s) most).map decT) = byt s := h1
  rw [h4, byt_len, List.length_map] at h2
  rw [List.length_map] at h3
  refine ⟨by rw [h1]; exact str_byt s, by omega, ?_⟩
  intro n hn
  unfold tkV at hn
  split at hn
  · split at hn
    · simp at hn
    · exact (tks_len _).2 n hn
  · simp at hn

set_option maxRecDepth 100000 in
set_option maxHeartbeats 8000000 in
theorem wireRound (ao : Option Addr) (l : List ByteArray) (c : Nat) (hs : ∀ x ∈ l, x.size ≤ 281474976710656) (bo : Option Addr) (m : List Int) (d : Nat) (hm : ∀ n ∈ m, I64 n) (s : ByteArray) (w : World) (hT : Tb w) (hE : Er w) (h : TextsAt ao l w) (hi : IntsAt bo m w) :
    Calls Tryd.prog 7 #[.slice ao l.length c, .slice bo m.length d, .string s] w fun e w' => e = .returned (.bool true) ∧ Below w.heap.size w w' := by
  have HT := Lib.hid hT
  have HE := Lib.hid hE
  have LV := Lib.hid (fun W hT hE => live_any W hT hE)
  have HB0 := Lib.hid (bref w)
  have HA := Lib.hid h
  have HI := Lib.hid hi
  obtain ⟨n, hn⟩ : ∃ n, l.length = n := ⟨_, rfl⟩
  obtain ⟨k, hk⟩ : ∃ k, m.length = k := ⟨_, rfl⟩
  by_cases hl : 5000 < n
  · have hlz : (5000 : Int) < (n : Int) := by omega
    rw [hn, hk]
    clear hT hE hl hs h hn hi hm hk
    go_enter Tryd.func7, Tryd.ntmps7
    go_wp2_with fail
    with_reducible refine (LV.out _ (HT.out.keep HB0.out) (HE.out.keep HB0.out)).mono ?_
    rintro e w1 ⟨rfl, q1⟩
    have HB1 := Lib.hid (btr HB0.out q1)
    clear q1
    go_wp2_with fail
    go_ret
    exact ⟨rfl, HB1.out⟩
  · have hlz : ¬ (5000 : Int) < (n : Int) := by omega
    have Z0 := fun W hA => rsize ao l c (by omega) hs W hA
    obtain ⟨Z, hZ⟩ : ∃ Z, sizeL l = Z := ⟨_, rfl⟩
    rw [hZ, hn] at Z0
    have HZ := Lib.hid Z0
    by_cases hz : 5000 < Z
    · have hzz : (5000 : Int) < (Z : Int) := by omega
      rw [hn, hk]
      clear hT hE hl hs h hn hi hm hk Z0 hZ hz
      go_enter Tryd.func7, Tryd.ntmps7
      go_wp2_with fail
      with_reducible refine (HZ.out _ HA.out).mono ?_
      rintro e wz ⟨rfl, rfl⟩
      go_wp2_with fail
      with_reducible refine (LV.out _ (HT.out.keep HB0.out) (HE.out.keep HB0.out)).mono ?_
      rintro e w1 ⟨rfl, q1⟩
      have HB1 := Lib.hid (btr HB0.out q1)
      clear q1
      go_wp2_with fail
      go_ret
      exact ⟨rfl, HB1.out⟩
    · have hzz : ¬ (5000 : Int) < (Z : Int) := by omega
      by_cases h5 : 500 < k
      · have h5z : (500 : Int) < (k : Int) := by omega
        rw [hn, hk]
        clear hT hE hl hs h hn hi hm hk Z0 hZ hz h5
        go_enter Tryd.func7, Tryd.ntmps7
        go_wp2_with fail
        with_reducible refine (HZ.out _ HA.out).mono ?_
        rintro e wz ⟨rfl, rfl⟩
        go_wp2_with fail
        with_reducible refine (LV.out _ (HT.out.keep HB0.out) (HE.out.keep HB0.out)).mono ?_
        rintro e w1 ⟨rfl, q1⟩
        have HB1 := Lib.hid (btr HB0.out q1)
        clear q1
        go_wp2_with fail
        go_ret
        exact ⟨rfl, HB1.out⟩
      · have h5z : ¬ (500 : Int) < (k : Int) := by omega
        by_cases h6 : 5000 < s.size
        · have h6z : (5000 : Int) < (s.size : Int) := by omega
          rw [hn, hk]
          clear hT hE hl hs h hn hi hm hk Z0 hZ hz h5 h6
          go_enter Tryd.func7, Tryd.ntmps7
          go_wp2_with fail
          with_reducible refine (HZ.out _ HA.out).mono ?_
          rintro e wz ⟨rfl, rfl⟩
          go_wp2_with fail
          with_reducible refine (LV.out _ (HT.out.keep HB0.out) (HE.out.keep HB0.out)).mono ?_
          rintro e w1 ⟨rfl, q1⟩
          have HB1 := Lib.hid (btr HB0.out q1)
          clear q1
          go_wp2_with fail
          go_ret
          exact ⟨rfl, HB1.out⟩
        · have h6z : ¬ (5000 : Int) < (s.size : Int) := by omega
          obtain ⟨b1, b2⟩ := back_texts l (by omega)
          obtain ⟨b3, b4, b5⟩ := back_ints m (by omega) hm
          have P0 := fun W hT hA => mpack ao l c (by omega) W hT hA
          have U0 := fun W hE => munpack (str (encL l)) b2 W hE
          rw [b1] at U0
          have I0 := fun W hT hA => mints bo m d (by omega) hm W hT hA
          have K0 := fun W hE => mtakeints (str (encI m)) m.length b5 (by unfold I64; omega) W hE
          rw [b3, b4] at K0
          have U1 := fun W hE => munpack s (by omega) W hE
          have K1 := fun W hE => mtakeints s s.size (by omega) (by unfold I64; omega) W hE
          have F1 := fwd_texts s (by omega)
          have F2 := fwd_ints s s.size (by omega)
          obtain ⟨⟨E, L⟩, hq⟩ : ∃ q, unp (byt s) = q := ⟨_, rfl⟩
          rw [hq] at U1 F1
          simp only at F1
          obtain ⟨G, hG⟩ : ∃ G, tkE (byt s) s.size = G := ⟨_, rfl⟩
          obtain ⟨M, hM⟩ : ∃ M, tkV (byt s) s.size = M := ⟨_, rfl⟩
          rw [hG, hM] at K1
          simp only [hG, hM] at F2
          obtain ⟨D, hD⟩ : ∃ D, str (encL l) = D := ⟨_, rfl⟩
          obtain ⟨J, hJ⟩ : ∃ J, str (encI m) = J := ⟨_, rfl⟩
          rw [hD, hn] at P0
          rw [hD] at U0
          rw [hJ, hk] at I0
          rw [hJ, hk] at K0
          have S0 : ∀ ao bo ca cb W, TextsAt ao l W → TextsAt bo l W → Calls Tryd.prog 15 #[.slice ao n ca, .slice bo n cb] W fun e w' => e = .returned (.bool true) ∧ Below W.heap.size W w' := fun ao bo ca cb W h1 h2 => by
            have := rsameT ao bo l l ca cb (by omega) (by omega) W h1 h2
            rw [decide_eq_true (show l = l from rfl), hn] at this
            exact this
          have S1 : ∀ ao bo ca cb W, IntsAt ao m W → IntsAt bo m W → Calls Tryd.prog 24 #[.slice ao k ca, .slice bo k cb] W fun e w' => e = .returned (.bool true) ∧ Below W.heap.size W w' := fun ao bo ca cb W h1 h2 => by
            have := rsameI ao bo m m ca cb (by omega) (by omega) W h1 h2
            rw [decide_eq_true (show m = m from rfl), hk] at this
            exact this
          have PP : ∀ ao ca, E = 0 → ∀ W, Tb W → TextsAt ao L W → Calls Tryd.prog 11 #[.slice ao L.length ca] W fun e w' => e = .returned (.string s) ∧ Below W.heap.size W w' := fun ao ca hE W h1 h2 => by
            have h3 := F1 hE
            have := mpack ao L ca h3.2 W h1 h2
            rw [h3.1] at this
            exact this
          have PI : ∀ ao ca, G = 0 → ∀ W, Tb W → IntsAt ao M W → Calls Tryd.prog 22 #[.slice ao M.length ca] W fun e w' => e = .returned (.string s) ∧ Below W.heap.size W w' := fun ao ca hG W h1 h2 => by
            have h3 := F2 hG
            have := mints ao M ca h3.2.1 h3.2.2 W h1 h2
            rw [h3.1] at this
            exact this
          have HP := Lib.hid P0
          have HU := Lib.hid U0
          have HJ := Lib.hid I0
          have HK := Lib.hid K0
          have HU1 := Lib.hid U1
          have HK1 := Lib.hid K1
          have HS0 := Lib.hid S0
          have HS1 := Lib.hid S1
          have HPP := Lib.hid PP
          have HPI := Lib.hid PI
          have HN := Lib.hid hn
          have HKN := Lib.hid hk
          obtain ⟨x, hx⟩ : ∃ x, L.length = x := ⟨_, rfl⟩
          obtain ⟨y, hy⟩ : ∃ y, M.length = y := ⟨_, rfl⟩
          have HLX := Lib.hid hx
          have HMY := Lib.hid hy
          rw [hn, hk]
          clear hT hE hl hs h hn hi hm hk Z0 hZ hz h5 h6 P0 U0 I0 K0 U1 K1 S0 S1 PP PI F1 F2 b1 b2 b3 b4 b5 hD hJ hq hG hM hx hy
          by_cases hE0 : E = 0
          · have PQ := fun ao ca W => HPP.out ao ca hE0 W
            rw [HLX.out] at PQ
            have HPQ := Lib.hid PQ
            subst hE0
            clear PQ
            by_cases hG0 : G = 0
            · have PJ := fun ao ca W => HPI.out ao ca hG0 W
              rw [HMY.out] at PJ
              have HPJ := Lib.hid PJ
              subst hG0
              clear PJ
              go_enter Tryd.func7, Tryd.ntmps7
              go_wp2_with fail
              with_reducible refine (HZ.out _ HA.out).mono ?_
              rintro e wz ⟨rfl, rfl⟩
              go_wp2_with fail
              with_reducible refine (HP.out _ HT.out HA.out).mono ?_
              rintro e w1 ⟨rfl, q1⟩
              have HB1 := Lib.hid (btr HB0.out q1)
              clear q1
              go_wp2_with fail
              with_reducible refine (HU.out _ (HE.out.keep HB1.out)).mono ?_
              rintro e w2 ⟨a2, c2, he, hA2, q2⟩
              simp only [HN.out] at he
              subst he
              have TA := Lib.hid hA2
              have HB2 := Lib.hid (btr HB1.out q2)
              clear hA2 q2
              go_wp2_with fail
              with_reducible refine (HJ.out _ (HT.out.keep HB2.out) (HI.out.keep HB2.out)).mono ?_
              rintro e w3 ⟨rfl, q3⟩
              have HB3 := Lib.hid (btr HB2.out q3)
              have TAn := Lib.hid (TA.out.keep q3)
              clear q3
              go_wp2_with fail
              with_reducible refine (HK.out _ (HE.out.keep HB3.out)).mono ?_
              rintro e w4 ⟨a4, c4, he, hA4, q4⟩
              simp only [HKN.out] at he
              subst he
              have TAnn := Lib.hid (TAn.out.keep q4)
              have IA := Lib.hid hA4
              have HB4 := Lib.hid (btr HB3.out q4)
              clear hA4 q4
              go_wp2_with fail
              with_reducible refine (HU1.out _ (HE.out.keep HB4.out)).mono ?_
              rintro e w5 ⟨a5, c5, he, hA5, q5⟩
              simp only [HLX.out] at he
              subst he
              have TAnnn := Lib.hid (TAnn.out.keep q5)
              have IAn := Lib.hid (IA.out.keep q5)
              have TB := Lib.hid hA5
              have HB5 := Lib.hid (btr HB4.out q5)
              clear hA5 q5
              go_wp2_with fail
              with_reducible refine (HK1.out _ (HE.out.keep HB5.out)).mono ?_
              rintro e w6 ⟨a6, c6, he, hA6, q6⟩
              simp only [HMY.out] at he
              subst he
              have TAnnnn := Lib.hid (TAnnn.out.keep q6)
              have IAnn := Lib.hid (IAn.out.keep q6)
              have TBn := Lib.hid (TB.out.keep q6)
              have IB := Lib.hid hA6
              have HB6 := Lib.hid (btr HB5.out q6)
              clear hA6 q6
              go_wp2_with fail
              with_reducible refine (HPQ.out _ _ _ (HT.out.keep HB6.out) TBn.out).mono ?_
              rintro e w7 ⟨rfl, q7⟩
              have HB7 := Lib.hid (btr HB6.out q7)
              have TAnnnnn := Lib.hid (TAnnnn.out.keep q7)
              have IAnnn := Lib.hid (IAnn.out.keep q7)
              have TBnn := Lib.hid (TBn.out.keep q7)
              have IBn := Lib.hid (IB.out.keep q7)
              clear q7
              go_wp2_with fail
              with_reducible refine (HPJ.out _ _ _ (HT.out.keep HB7.out) IBn.out).mono ?_
              rintro e w8 ⟨rfl, q8⟩
              have HB8 := Lib.hid (btr HB7.out q8)
              have TAnnnnnn := Lib.hid (TAnnnnn.out.keep q8)
              have IAnnnn := Lib.hid (IAnnn.out.keep q8)
              have TBnnn := Lib.hid (TBnn.out.keep q8)
              have IBnn := Lib.hid (IBn.out.keep q8)
              clear q8
              go_wp2_with fail
              with_reducible refine (HS0.out _ _ _ _ _ TAnnnnnn.out (HA.out.keep HB8.out)).mono ?_
              rintro e w9 ⟨rfl, q9⟩
              have HB9 := Lib.hid (btr HB8.out q9)
              have TAnnnnnnn := Lib.hid (TAnnnnnn.out.keep q9)
              have IAnnnnn := Lib.hid (IAnnnn.out.keep q9)
              have TBnnnn := Lib.hid (TBnnn.out.keep q9)
              have IBnnn := Lib.hid (IBnn.out.keep q9)
              clear q9
              go_wp2_with fail
              with_reducible refine (HS1.out _ _ _ _ _ IAnnnnn.out (HI.out.keep HB9.out)).mono ?_
              rintro e w10 ⟨rfl, q10⟩
              have HB10 := Lib.hid (btr HB9.out q10)
              have TAnnnnnnnn := Lib.hid (TAnnnnnnn.out.keep q10)
              have IAnnnnnn := Lib.hid (IAnnnnn.out.keep q10)
              have TBnnnnn := Lib.hid (TBnnnn.out.keep q10)
              have IBnnnn := Lib.hid (IBnnn.out.keep q10)
              clear q10
              go_wp2_with fail
              with_reducible refine (LV.out _ (HT.out.keep HB10.out) (HE.out.keep HB10.out)).mono ?_
              rintro e w11 ⟨rfl, q11⟩
              have HB11 := Lib.hid (btr HB10.out q11)
              clear q11
              go_wp2_with fail
              go_ret
              exact ⟨rfl, HB11.out⟩
            · have hGb : (G == 0) = false := by rw [beq_eq_false_iff_ne]; exact hG0
              go_enter Tryd.func7, Tryd.ntmps7
              go_wp2_with fail
              with_reducible refine (HZ.out _ HA.out).mono ?_
              rintro e wz ⟨rfl, rfl⟩
              go_wp2_with fail
              with_reducible refine (HP.out _ HT.out HA.out).mono ?_
              rintro e w1 ⟨rfl, q1⟩
              have HB1 := Lib.hid (btr HB0.out q1)
              clear q1
              go_wp2_with fail
              with_reducible refine (HU.out _ (HE.out.keep HB1.out)).mono ?_
              rintro e w2 ⟨a2, c2, he, hA2, q2⟩
              simp only [HN.out] at he
              subst he
              have TA := Lib.hid hA2
              have HB2 := Lib.hid (btr HB1.out q2)
              clear hA2 q2
              go_wp2_with fail
              with_reducible refine (HJ.out _ (HT.out.keep HB2.out) (HI.out.keep HB2.out)).mono ?_
              rintro e w3 ⟨rfl, q3⟩
              have HB3 := Lib.hid (btr HB2.out q3)
              have TAn := Lib.hid (TA.out.keep q3)
              clear q3
              go_wp2_with fail
              with_reducible refine (HK.out _ (HE.out.keep HB3.out)).mono ?_
              rintro e w4 ⟨a4, c4, he, hA4, q4⟩
              simp only [HKN.out] at he
              subst he
              have TAnn := Lib.hid (TAn.out.keep q4)
              have IA := Lib.hid hA4
              have HB4 := Lib.hid (btr HB3.out q4)
              clear hA4 q4
              go_wp2_with fail
              with_reducible refine (HU1.out _ (HE.out.keep HB4.out)).mono ?_
              rintro e w5 ⟨a5, c5, he, hA5, q5⟩
              simp only [HLX.out] at he
              subst he
              have TAnnn := Lib.hid (TAnn.out.keep q5)
              have IAn := Lib.hid (IA.out.keep q5)
              have TB := Lib.hid hA5
              have HB5 := Lib.hid (btr HB4.out q5)
              clear hA5 q5
              go_wp2_with fail
              with_reducible refine (HK1.out _ (HE.out.keep HB5.out)).mono ?_
              rintro e w6 ⟨a6, c6, he, hA6, q6⟩
              simp only [HMY.out] at he
              subst he
              have TAnnnn := Lib.hid (TAnnn.out.keep q6)
              have IAnn := Lib.hid (IAn.out.keep q6)
              have TBn := Lib.hid (TB.out.keep q6)
              have IB := Lib.hid hA6
              have HB6 := Lib.hid (btr HB5.out q6)
              clear hA6 q6
              go_wp2_with fail
              with_reducible refine (HPQ.out _ _ _ (HT.out.keep HB6.out) TBn.out).mono ?_
              rintro e w7 ⟨rfl, q7⟩
              have HB7 := Lib.hid (btr HB6.out q7)
              have TAnnnnn := Lib.hid (TAnnnn.out.keep q7)
              have IAnnn := Lib.hid (IAnn.out.keep q7)
              have TBnn := Lib.hid (TBn.out.keep q7)
              have IBn := Lib.hid (IB.out.keep q7)
              clear q7
              go_wp2_with fail
              with_reducible refine (HS0.out _ _ _ _ _ TAnnnnn.out (HA.out.keep HB7.out)).mono ?_
              rintro e w8 ⟨rfl, q8⟩
              have HB8 := Lib.hid (btr HB7.out q8)
              have TAnnnnnn := Lib.hid (TAnnnnn.out.keep q8)
              have IAnnnn := Lib.hid (IAnnn.out.keep q8)
              have TBnnn := Lib.hid (TBnn.out.keep q8)
              have IBnn := Lib.hid (IBn.out.keep q8)
              clear q8
              go_wp2_with fail
              with_reducible refine (HS1.out _ _ _ _ _ IAnnnn.out (HI.out.keep HB8.out)).mono ?_
              rintro e w9 ⟨rfl, q9⟩
              have HB9 := Lib.hid (btr HB8.out q9)
              have TAnnnnnnn := Lib.hid (TAnnnnnn.out.keep q9)
              have IAnnnnn := Lib.hid (IAnnnn.out.keep q9)
              have TBnnnn := Lib.hid (TBnnn.out.keep q9)
              have IBnnn := Lib.hid (IBnn.out.keep q9)
              clear q9
              go_wp2_with fail
              with_reducible refine (LV.out _ (HT.out.keep HB9.out) (HE.out.keep HB9.out)).mono ?_
              rintro e w10 ⟨rfl, q10⟩
              have HB10 := Lib.hid (btr HB9.out q10)
              clear q10
              go_wp2_with fail
              go_ret
              exact ⟨rfl, HB10.out⟩
          · have hEb : (E == 0) = false := by rw [beq_eq_false_iff_ne]; exact hE0
            by_cases hG0 : G = 0
            · have PJ := fun ao ca W => HPI.out ao ca hG0 W
              rw [HMY.out] at PJ
              have HPJ := Lib.hid PJ
              subst hG0
              clear PJ
              go_enter Tryd.func7, Tryd.ntmps7
              go_wp2_with fail
              with_reducible refine (HZ.out _ HA.out).mono ?_
              rintro e wz ⟨rfl, rfl⟩
              go_wp2_with fail
              with_reducible refine (HP.out _ HT.out HA.out).mono ?_
              rintro e w1 ⟨rfl, q1⟩
              have HB1 := Lib.hid (btr HB0.out q1)
              clear q1
              go_wp2_with fail
              with_reducible refine (HU.out _ (HE.out.keep HB1.out)).mono ?_
              rintro e w2 ⟨a2, c2, he, hA2, q2⟩
              simp only [HN.out] at he
              subst he
              have TA := Lib.hid hA2
              have HB2 := Lib.hid (btr HB1.out q2)
              clear hA2 q2
              go_wp2_with fail
              with_reducible refine (HJ.out _ (HT.out.keep HB2.out) (HI.out.keep HB2.out)).mono ?_
              rintro e w3 ⟨rfl, q3⟩
              have HB3 := Lib.hid (btr HB2.out q3)
              have TAn := Lib.hid (TA.out.keep q3)
              clear q3
              go_wp2_with fail
              with_reducible refine (HK.out _ (HE.out.keep HB3.out)).mono ?_
              rintro e w4 ⟨a4, c4, he, hA4, q4⟩
              simp only [HKN.out] at he
              subst he
              have TAnn := Lib.hid (TAn.out.keep q4)
              have IA := Lib.hid hA4
              have HB4 := Lib.hid (btr HB3.out q4)
              clear hA4 q4
              go_wp2_with fail
              with_reducible refine (HU1.out _ (HE.out.keep HB4.out)).mono ?_
              rintro e w5 ⟨a5, c5, he, hA5, q5⟩
              simp only [HLX.out] at he
              subst he
              have TAnnn := Lib.hid (TAnn.out.keep q5)
              have IAn := Lib.hid (IA.out.keep q5)
              have TB := Lib.hid hA5
              have HB5 := Lib.hid (btr HB4.out q5)
              clear hA5 q5
              go_wp2_with fail
              with_reducible refine (HK1.out _ (HE.out.keep HB5.out)).mono ?_
              rintro e w6 ⟨a6, c6, he, hA6, q6⟩
              simp only [HMY.out] at he
              subst he
              have TAnnnn := Lib.hid (TAnnn.out.keep q6)
              have IAnn := Lib.hid (IAn.out.keep q6)
              have TBn := Lib.hid (TB.out.keep q6)
              have IB := Lib.hid hA6
              have HB6 := Lib.hid (btr HB5.out q6)
              clear hA6 q6
              go_wp2_with fail
              with_reducible refine (HPJ.out _ _ _ (HT.out.keep HB6.out) IB.out).mono ?_
              rintro e w7 ⟨rfl, q7⟩
              have HB7 := Lib.hid (btr HB6.out q7)
              have TAnnnnn := Lib.hid (TAnnnn.out.keep q7)
              have IAnnn := Lib.hid (IAnn.out.keep q7)
              have TBnn := Lib.hid (TBn.out.keep q7)
              have IBn := Lib.hid (IB.out.keep q7)
              clear q7
              go_wp2_with fail
              with_reducible refine (HS0.out _ _ _ _ _ TAnnnnn.out (HA.out.keep HB7.out)).mono ?_
              rintro e w8 ⟨rfl, q8⟩
              have HB8 := Lib.hid (btr HB7.out q8)
              have TAnnnnnn := Lib.hid (TAnnnnn.out.keep q8)
              have IAnnnn := Lib.hid (IAnnn.out.keep q8)
              have TBnnn := Lib.hid (TBnn.out.keep q8)
              have IBnn := Lib.hid (IBn.out.keep q8)
              clear q8
              go_wp2_with fail
              with_reducible refine (HS1.out _ _ _ _ _ IAnnnn.out (HI.out.keep HB8.out)).mono ?_
              rintro e w9 ⟨rfl, q9⟩
              have HB9 := Lib.hid (btr HB8.out q9)
              have TAnnnnnnn := Lib.hid (TAnnnnnn.out.keep q9)
              have IAnnnnn := Lib.hid (IAnnnn.out.keep q9)
              have TBnnnn := Lib.hid (TBnnn.out.keep q9)
              have IBnnn := Lib.hid (IBnn.out.keep q9)
              clear q9
              go_wp2_with fail
              with_reducible refine (LV.out _ (HT.out.keep HB9.out) (HE.out.keep HB9.out)).mono ?_
              rintro e w10 ⟨rfl, q10⟩
              have HB10 := Lib.hid (btr HB9.out q10)
              clear q10
              go_wp2_with fail
              go_ret
              exact ⟨rfl, HB10.out⟩
            · have hGb : (G == 0) = false := by rw [beq_eq_false_iff_ne]; exact hG0
              go_enter Tryd.func7, Tryd.ntmps7
              go_wp2_with fail
              with_reducible refine (HZ.out _ HA.out).mono ?_
              rintro e wz ⟨rfl, rfl⟩
              go_wp2_with fail
              with_reducible refine (HP.out _ HT.out HA.out).mono ?_
              rintro e w1 ⟨rfl, q1⟩
              have HB1 := Lib.hid (btr HB0.out q1)
              clear q1
              go_wp2_with fail
              with_reducible refine (HU.out _ (HE.out.keep HB1.out)).mono ?_
              rintro e w2 ⟨a2, c2, he, hA2, q2⟩
              simp only [HN.out] at he
              subst he
              have TA := Lib.hid hA2
              have HB2 := Lib.hid (btr HB1.out q2)
              clear hA2 q2
              go_wp2_with fail
              with_reducible refine (HJ.out _ (HT.out.keep HB2.out) (HI.out.keep HB2.out)).mono ?_
              rintro e w3 ⟨rfl, q3⟩
              have HB3 := Lib.hid (btr HB2.out q3)
              have TAn := Lib.hid (TA.out.keep q3)
              clear q3
              go_wp2_with fail
              with_reducible refine (HK.out _ (HE.out.keep HB3.out)).mono ?_
              rintro e w4 ⟨a4, c4, he, hA4, q4⟩
              simp only [HKN.out] at he
              subst he
              have TAnn := Lib.hid (TAn.out.keep q4)
              have IA := Lib.hid hA4
              have HB4 := Lib.hid (btr HB3.out q4)
              clear hA4 q4
              go_wp2_with fail
              with_reducible refine (HU1.out _ (HE.out.keep HB4.out)).mono ?_
              rintro e w5 ⟨a5, c5, he, hA5, q5⟩
              simp only [HLX.out] at he
              subst he
              have TAnnn := Lib.hid (TAnn.out.keep q5)
              have IAn := Lib.hid (IA.out.keep q5)
              have TB := Lib.hid hA5
              have HB5 := Lib.hid (btr HB4.out q5)
              clear hA5 q5
              go_wp2_with fail
              with_reducible refine (HK1.out _ (HE.out.keep HB5.out)).mono ?_
              rintro e w6 ⟨a6, c6, he, hA6, q6⟩
              simp only [HMY.out] at he
              subst he
              have TAnnnn := Lib.hid (TAnnn.out.keep q6)
              have IAnn := Lib.hid (IAn.out.keep q6)
              have TBn := Lib.hid (TB.out.keep q6)
              have IB := Lib.hid hA6
              have HB6 := Lib.hid (btr HB5.out q6)
              clear hA6 q6
              go_wp2_with fail
              with_reducible refine (HS0.out _ _ _ _ _ TAnnnn.out (HA.out.keep HB6.out)).mono ?_
              rintro e w7 ⟨rfl, q7⟩
              have HB7 := Lib.hid (btr HB6.out q7)
              have TAnnnnn := Lib.hid (TAnnnn.out.keep q7)
              have IAnnn := Lib.hid (IAnn.out.keep q7)
              have TBnn := Lib.hid (TBn.out.keep q7)
              have IBn := Lib.hid (IB.out.keep q7)
              clear q7
              go_wp2_with fail
              with_reducible refine (HS1.out _ _ _ _ _ IAnnn.out (HI.out.keep HB7.out)).mono ?_
              rintro e w8 ⟨rfl, q8⟩
              have HB8 := Lib.hid (btr HB7.out q8)
              have TAnnnnnn := Lib.hid (TAnnnnn.out.keep q8)
              have IAnnnn := Lib.hid (IAnnn.out.keep q8)
              have TBnnn := Lib.hid (TBnn.out.keep q8)
              have IBnn := Lib.hid (IBn.out.keep q8)
              clear q8
              go_wp2_with fail
              with_reducible refine (LV.out _ (HT.out.keep HB8.out) (HE.out.keep HB8.out)).mono ?_
              rintro e w9 ⟨rfl, q9⟩
              have HB9 := Lib.hid (btr HB8.out q9)
              clear q9
              go_wp2_with fail
              go_ret
              exact ⟨rfl, HB9.out⟩
end Go.Proofs.YtlgplhekiemeoaaDoor
