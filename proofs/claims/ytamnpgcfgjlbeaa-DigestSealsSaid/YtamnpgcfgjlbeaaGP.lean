/-
  The walk of the law of two texts.
-/
import Derived.Test.YtamnpgcfgjlbeaaGO
namespace Go.Proofs.Ytamnpgcfgjlbeaa
open Go Go.RowKit Go.Lib GM

set_option maxRecDepth 100000 in
set_option maxHeartbeats 8000000 in
theorem digestTexts (s t : ByteArray) (w : World) :
    Calls Try.prog 8 #[.string s, .string t] w fun e w' => e = .returned (.bool true) ∧ Below w.heap.size w w' := by
  have LV := Lib.hid (fun W => live_any W)
  have HB0 := Lib.hid (bref w)
  by_cases h1 : s.size < 1
  · have d0 : (s.size : Int) < 1 := by omega
    have d1 : decide ((s.size : Int) < 1) = true := by simp; omega
    clear h1
    go_enter Try.func8, Try.ntmps8
    go_wp2_with fail
    with_reducible refine (LV.out _).mono ?_
    rintro e w1 ⟨rfl, q1⟩
    have HB1 := Lib.hid (btr HB0.out q1)
    clear q1
    go_wp2_with fail
    go_ret
    exact ⟨rfl, HB1.out⟩
  have d1 : decide ((s.size : Int) < 1) = false := by simp; omega
  by_cases h2 : t.size < 1
  · have d0 : (t.size : Int) < 1 := by omega
    have d2 : decide ((t.size : Int) < 1) = true := by simp; omega
    clear h1 h2
    go_enter Try.func8, Try.ntmps8
    go_wp2_with fail
    with_reducible refine (LV.out _).mono ?_
    rintro e w1 ⟨rfl, q1⟩
    have HB1 := Lib.hid (btr HB0.out q1)
    clear q1
    go_wp2_with fail
    go_ret
    exact ⟨rfl, HB1.out⟩
  have d2 : decide ((t.size : Int) < 1) = false := by simp; omega
  by_cases h3 : 24 < s.size
  · have d0 : (24 : Int) < (s.size : Int) := by omega
    have d3 : decide ((24 : Int) < (s.size : Int)) = true := by simp; omega
    clear h1 h2 h3
    go_enter Try.func8, Try.ntmps8
    go_wp2_with fail
    with_reducible refine (LV.out _).mono ?_
    rintro e w1 ⟨rfl, q1⟩
    have HB1 := Lib.hid (btr HB0.out q1)
    clear q1
    go_wp2_with fail
    go_ret
    exact ⟨rfl, HB1.out⟩
  have d3 : decide ((24 : Int) < (s.size : Int)) = false := by simp; omega
  by_cases h4 : 24 < t.size
  · have d0 : (24 : Int) < (t.size : Int) := by omega
    have d4 : decide ((24 : Int) < (t.size : Int)) = true := by simp; omega
    clear h1 h2 h3 h4
    go_enter Try.func8, Try.ntmps8
    go_wp2_with fail
    with_reducible refine (LV.out _).mono ?_
    rintro e w1 ⟨rfl, q1⟩
    have HB1 := Lib.hid (btr HB0.out q1)
    clear q1
    go_wp2_with fail
    go_ret
    exact ⟨rfl, HB1.out⟩
  have d4 : decide ((24 : Int) < (t.size : Int)) = false := by simp; omega
  have hs := byt_len s
  have ht := byt_len t
  have hst := app_le s t
  have p1 := fun W => rplain s (by omega) W
  have p2 := fun W => rplain t (by omega) W
  cases hp1 : pln (byt s)
  · rw [hp1] at p1
    have P1 := Lib.hid p1
    clear h1 h2 h3 h4 hs ht hst p1 p2 hp1
    go_enter Try.func8, Try.ntmps8
    go_wp2_with fail
    with_reducible refine (P1.out _).mono ?_
    rintro e wz ⟨rfl, rfl⟩
    go_wp2_with fail
    with_reducible refine (LV.out _).mono ?_
    rintro e w1 ⟨rfl, q1⟩
    have HB1 := Lib.hid (btr HB0.out q1)
    clear q1
    go_wp2_with fail
    go_ret
    exact ⟨rfl, HB1.out⟩
  rw [hp1] at p1
  have P1 := Lib.hid p1
  cases hp2 : pln (byt t)
  · rw [hp2] at p2
    have P2 := Lib.hid p2
    clear h1 h2 h3 h4 hs ht hst p1 p2 hp1 hp2
    go_enter Try.func8, Try.ntmps8
    go_wp2_with fail
    with_reducible refine (P1.out _).mono ?_
    rintro e wz ⟨rfl, rfl⟩
    go_wp2_with fail
    with_reducible refine (P2.out _).mono ?_
    rintro e wz ⟨rfl, rfl⟩
    go_wp2_with fail
    with_reducible refine (LV.out _).mono ?_
    rintro e w1 ⟨rfl, q1⟩
    have HB1 := Lib.hid (btr HB0.out q1)
    clear q1
    go_wp2_with fail
    go_ret
    exact ⟨rfl, HB1.out⟩
  rw [hp2] at p2
  have P2 := Lib.hid p2
  have hb : byt (s ++ t) = byt s ++ byt t := byt_app s t
  have hl : (byt s ++ byt t).length = s.size + t.size := by rw [List.length_append, hs, ht]
  have m1 := (mE_mid (byt s) (by omega)).2 hp1
  have m2 := (mE_mid (byt t) (by omega)).2 hp2
  have m3 := (mE_mid (byt (s ++ t)) (by rw [hb]; omega)).2 (by rw [hb, pln_app, hp1, hp2]; rfl)
  have q1 := fun W => mmod s W
  have q2 := fun W => mmod t W
  have q3 := fun W => mmod (s ++ t) W
  rw [m1.1, m1.2] at q1
  rw [m2.1, m2.2] at q2
  rw [m3.1, m3.2] at q3
  have hT : byt t ≠ [] := by intro e; rw [e] at ht; simp at ht; omega
  have hF := rst_two (byt s) (byt t) hp2 hT
  rw [← hb] at hF
  have hA := rst_lt (byt s)
  have hB := rst_lt (byt t)
  have hM := mulF_lt (byt t) (rst (byt s)) hA
  obtain ⟨a, ha⟩ : ∃ a, rst (byt s) = a := ⟨_, rfl⟩
  obtain ⟨z, hz⟩ : ∃ z, rst (byt t) = z := ⟨_, rfl⟩
  obtain ⟨y, hy⟩ : ∃ y, rst (byt (s ++ t)) = y := ⟨_, rfl⟩
  obtain ⟨M, hMM⟩ : ∃ M, mulF a (byt t) = M := ⟨_, rfl⟩
  rw [ha] at q1 hF hA hM
  rw [hz] at q2 hF hB
  rw [hy] at q3 hF
  rw [hMM] at hF hM
  have k1 : ((M : Int) + (z : Int)).tmod 97 = (y : Int) := by rw [Int.tmod_eq_emod_of_nonneg (by omega)]; omega
  have Q1 := Lib.hid q1
  have Q2 := Lib.hid q2
  have Q3 := Lib.hid q3
  have HMM := Lib.hid hMM
  have LE := Lib.hid (fun b W => rletter b W)
  have s24 : s.size ≤ 24 := by omega
  have t24 : t.size ≤ 24 := by omega
  clear h1 h2 h3 h4 hs ht hst p1 p2 hp1 hp2 hb hl m1 m2 m3 q1 q2 q3 hT hF ha hz hy hMM
  go_enter Try.func8, Try.ntmps8
  go_wp2_with fail
  with_reducible refine (P1.out _).mono ?_
  rintro e wz ⟨rfl, rfl⟩
  go_wp2_with fail
  with_reducible refine (P2.out _).mono ?_
  rintro e wz ⟨rfl, rfl⟩
  go_wp2_with fail
  with_reducible refine (Q1.out _).mono ?_
  rintro e wz ⟨rfl, rfl⟩
  go_wp2_with fail
  with_reducible refine (Q2.out _).mono ?_
  rintro e wz ⟨rfl, rfl⟩
  go_wp2_with fail
  with_reducible refine (Q3.out _).mono ?_
  rintro e wz ⟨rfl, rfl⟩
  go_wp2_with fail
  go_loop [5, 11] (fun x i => ∃ (n k : Nat), k ≤ t.size ∧ x = .int .i64 n ∧ i = .int .i64 k ∧ n < 97 ∧ mulF n ((byt t).drop k) = M) (fun _ i => t.size - (RowKit.intOf i).toNat)
  case atStart => exact ⟨a, 0, by omega, rfl, rfl, hA, by simpa using HMM.out⟩
  case round =>
    obtain ⟨n, k, hk, rfl, rfl, hn, hm⟩ := hrel
    have HM := Lib.hid hm
    clear hm
    by_cases hlt : k < t.size
    · have hkz : (k : Int) < (t.size : Int) := by omega
      have HD := Lib.hid (drop_cons' t k hlt)
      obtain ⟨b, hbb⟩ : ∃ b, t[k] = b := ⟨_, rfl⟩
      have HN : Hid (mulF (mulS n b) ((byt t).drop (k + 1)) = M) := Lib.hid (by rw [← HM.out, HD.out, hbb]; rfl)
      have L1 := LE.out b
      have hN1 := HN.out
      have hmn := mulS_lt n b
      unfold mulS at hN1 hmn
      cases hlb : ltB b
      · rw [hlb] at L1 hN1 hmn
        simp only [Bool.false_eq_true, if_false] at hN1 hmn
        obtain ⟨m, hm⟩ : ∃ m, 10 * n % 97 = m := ⟨_, rfl⟩
        rw [hm] at hN1 hmn
        have e1 : (10 * (n : Int)).tmod 97 = (m : Int) := by rw [Int.tmod_eq_emod_of_nonneg (by omega)]; omega
        have L2 := Lib.hid L1
        have HN2 := Lib.hid hN1
        clear L1 hN1 HN hm hlb
        go_wp2_with fail
        refine (L2.out _).mono ?_
        rintro e w1 ⟨rfl, rfl⟩
        go_wp2_with fail
        go_round
        case rel => exact ⟨m, k + 1, by omega, rfl, by go_num, hmn, HN2.out⟩
        case measure => simp [RowKit.intOf]; omega
      · rw [hlb] at L1 hN1 hmn
        simp only [if_true] at hN1 hmn
        obtain ⟨g, hg⟩ : ∃ m, 10 * n % 97 = m := ⟨_, rfl⟩
        rw [hg] at hN1 hmn
        obtain ⟨m, hm⟩ : ∃ m, 10 * g % 97 = m := ⟨_, rfl⟩
        rw [hm] at hN1 hmn
        have hg97 : g < 97 := by omega
        have e1 : (10 * (n : Int)).tmod 97 = (g : Int) := by rw [Int.tmod_eq_emod_of_nonneg (by omega)]; omega
        have e2 : (10 * (g : Int)).tmod 97 = (m : Int) := by rw [Int.tmod_eq_emod_of_nonneg (by omega)]; omega
        have L2 := Lib.hid L1
        have HN2 := Lib.hid hN1
        clear L1 hN1 HN hm hg hlb
        go_wp2_with fail
        refine (L2.out _).mono ?_
        rintro e w1 ⟨rfl, rfl⟩
        go_wp2_with fail
        go_round
        case rel => exact ⟨m, k + 1, by omega, rfl, by go_num, hmn, HN2.out⟩
        case measure => simp [RowKit.intOf]; omega
    · have he : k = t.size := by omega
      subst he
      have hX : M = n := by rw [← HM.out, drop_nil']; rfl
      subst hX
      go_wp2_with fail
      with_reducible refine (LV.out _).mono ?_
      rintro e w1 ⟨rfl, q1⟩
      have HB1 := Lib.hid (btr HB0.out q1)
      clear q1
      go_wp2_with fail
      go_ret
      exact ⟨rfl, HB1.out⟩
end Go.Proofs.Ytamnpgcfgjlbeaa
