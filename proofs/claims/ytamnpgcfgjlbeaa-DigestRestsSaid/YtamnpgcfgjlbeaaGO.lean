/-
  The walks of the laws of package digest.
-/
import Derived.Test.YtamnpgcfgjlbeaaGN
namespace Go.Proofs.Ytamnpgcfgjlbeaa
open Go Go.RowKit Go.Lib GM

theorem app_le (s t : ByteArray) : (s ++ t).size = s.size + t.size := by simp

set_option maxRecDepth 100000 in
set_option maxHeartbeats 8000000 in
theorem digestRests (s : ByteArray) (w : World) :
    Calls Try.prog 5 #[.string s] w fun e w' => e = .returned (.bool true) ∧ Below w.heap.size w w' := by
  have LV := Lib.hid (fun W => live_any W)
  have HB0 := Lib.hid (bref w)
  by_cases hl : 200 < s.size
  · have hlz : (200 : Int) < (s.size : Int) := by omega
    clear hl
    go_enter Try.func5, Try.ntmps5
    go_wp2_with fail
    with_reducible refine (LV.out _).mono ?_
    rintro e w1 ⟨rfl, q1⟩
    have HB1 := Lib.hid (btr HB0.out q1)
    clear q1
    go_wp2_with fail
    go_ret
    exact ⟨rfl, HB1.out⟩
  · have hlz : ¬ (200 : Int) < (s.size : Int) := by omega
    have M1 := fun W => mmod s W
    have R1 := fun W => rmod s W
    obtain ⟨V, hV⟩ : ∃ V, mV (byt s) = V := ⟨_, rfl⟩
    obtain ⟨E, hE⟩ : ∃ E, mE (byt s) = E := ⟨_, rfl⟩
    rw [hV, hE] at M1 R1
    have M2 := Lib.hid M1
    have R2 := Lib.hid R1
    clear hl M1 R1 hV hE
    go_enter Try.func5, Try.ntmps5
    go_wp2_with fail
    with_reducible refine (M2.out _).mono ?_
    rintro e wz ⟨rfl, rfl⟩
    go_wp2_with fail
    with_reducible refine (R2.out _).mono ?_
    rintro e wz ⟨rfl, rfl⟩
    go_wp2_with fail
    with_reducible refine (LV.out _).mono ?_
    rintro e w1 ⟨rfl, q1⟩
    have HB1 := Lib.hid (btr HB0.out q1)
    clear q1
    go_wp2_with fail
    go_ret
    exact ⟨rfl, HB1.out⟩

set_option maxRecDepth 100000 in
set_option maxHeartbeats 8000000 in
theorem digestNumbers (s : ByteArray) (w : World) :
    Calls Try.prog 6 #[.string s] w fun e w' => e = .returned (.bool true) ∧ Below w.heap.size w w' := by
  have LV := Lib.hid (fun W => live_any W)
  have HB0 := Lib.hid (bref w)
  by_cases hl : 200 < s.size
  · have hlz : (200 : Int) < (s.size : Int) := by omega
    clear hl
    go_enter Try.func6, Try.ntmps6
    go_wp2_with fail
    with_reducible refine (LV.out _).mono ?_
    rintro e w1 ⟨rfl, q1⟩
    have HB1 := Lib.hid (btr HB0.out q1)
    clear q1
    go_wp2_with fail
    go_ret
    exact ⟨rfl, HB1.out⟩
  · have hlz : ¬ (200 : Int) < (s.size : Int) := by omega
    have M1 := fun W => mseal s W
    have R1 := fun W => rseal s W
    have S1 := fun W => msealed s W
    have U1 := fun W => rsealed s W
    obtain ⟨V, hV⟩ : ∃ V, str (sealV (byt s)) = V := ⟨_, rfl⟩
    obtain ⟨E, hE⟩ : ∃ E, sealE (byt s) = E := ⟨_, rfl⟩
    obtain ⟨B, hB⟩ : ∃ B, sealedB (byt s) = B := ⟨_, rfl⟩
    rw [hV, hE] at M1 R1
    rw [hB] at S1 U1
    have M2 := Lib.hid M1
    have R2 := Lib.hid R1
    have S2 := Lib.hid S1
    have U2 := Lib.hid U1
    clear hl M1 R1 S1 U1 hV hE hB
    go_enter Try.func6, Try.ntmps6
    go_wp2_with fail
    with_reducible refine (M2.out _).mono ?_
    rintro e w1 ⟨rfl, q1⟩
    have HB1 := Lib.hid (btr HB0.out q1)
    clear q1
    go_wp2_with fail
    with_reducible refine (R2.out _).mono ?_
    rintro e w2 ⟨rfl, q2⟩
    have HB2 := Lib.hid (btr HB1.out q2)
    clear q2
    go_wp2_with fail
    with_reducible refine (S2.out _).mono ?_
    rintro e wz ⟨rfl, rfl⟩
    go_wp2_with fail
    with_reducible refine (U2.out _).mono ?_
    rintro e wz ⟨rfl, rfl⟩
    go_wp2_with fail
    with_reducible refine (LV.out _).mono ?_
    rintro e w3 ⟨rfl, q3⟩
    have HB3 := Lib.hid (btr HB2.out q3)
    clear q3
    go_wp2_with fail
    go_ret
    exact ⟨rfl, HB3.out⟩

set_option maxRecDepth 100000 in
set_option maxHeartbeats 8000000 in
theorem digestHexes (h : Nat) (hh : h < 18446744073709551616) (s : ByteArray) (w : World) :
    Calls Try.prog 4 #[.int .u64 (h : Int), .string s] w fun e w' => e = .returned (.bool true) ∧ Below w.heap.size w w' := by
  have LV := Lib.hid (fun W => live_any W)
  have HB0 := Lib.hid (bref w)
  by_cases hl : 100 < s.size
  · have hlz : (100 : Int) < (s.size : Int) := by omega
    clear hl
    go_enter Try.func4, Try.ntmps4
    go_wp2_with fail
    with_reducible refine (LV.out _).mono ?_
    rintro e w1 ⟨rfl, q1⟩
    have HB1 := Lib.hid (btr HB0.out q1)
    clear q1
    go_wp2_with fail
    go_ret
    exact ⟨rfl, HB1.out⟩
  · have hlz : ¬ (100 : Int) < (s.size : Int) := by omega
    have M1 := fun W => munhex s W
    have R1 := fun W => runhex s W
    have X1 := fun W => mhexf h W
    have Y1 := fun W => rhexf h hh W
    have Z1 := fun W => munhex (str (hex h)) W
    rw [byt_str, (un_hex h hh).1, (un_hex h hh).2] at Z1
    have V1 := fun W => mhexf (unV (byt s)) W
    have K := hex_un (byt s)
    obtain ⟨V, hV⟩ : ∃ V, unV (byt s) = V := ⟨_, rfl⟩
    obtain ⟨E, hE⟩ : ∃ E, unE (byt s) = E := ⟨_, rfl⟩
    obtain ⟨X, hX⟩ : ∃ X, str (hex h) = X := ⟨_, rfl⟩
    rw [hV, hE] at M1 R1
    rw [hX] at X1 Y1 Z1
    rw [hV] at V1
    rw [hV, hE] at K
    have M2 := Lib.hid M1
    have R2 := Lib.hid R1
    have X2 := Lib.hid X1
    have Y2 := Lib.hid Y1
    have Z2 := Lib.hid Z1
    by_cases hE0 : E = 0
    · rw [K hE0, str_byt] at V1
      have V2 := Lib.hid V1
      clear hl M1 R1 X1 Y1 Z1 V1 hV hE hX K
      subst hE0
      go_enter Try.func4, Try.ntmps4
      go_wp2_with fail
      with_reducible refine (M2.out _).mono ?_
      rintro e wz ⟨rfl, rfl⟩
      go_wp2_with fail
      with_reducible refine (R2.out _).mono ?_
      rintro e wz ⟨rfl, rfl⟩
      go_wp2_with fail
      with_reducible refine (X2.out _).mono ?_
      rintro e w1 ⟨rfl, q1⟩
      have HB1 := Lib.hid (btr HB0.out q1)
      clear q1
      go_wp2_with fail
      with_reducible refine (Z2.out _).mono ?_
      rintro e wz ⟨rfl, rfl⟩
      go_wp2_with fail
      with_reducible refine (X2.out _).mono ?_
      rintro e w2 ⟨rfl, q2⟩
      have HB2 := Lib.hid (btr HB1.out q2)
      clear q2
      go_wp2_with fail
      with_reducible refine (Y2.out _).mono ?_
      rintro e wz ⟨rfl, rfl⟩
      go_wp2_with fail
      with_reducible refine (V2.out _).mono ?_
      rintro e w3 ⟨rfl, q3⟩
      have HB3 := Lib.hid (btr HB2.out q3)
      clear q3
      go_wp2_with fail
      with_reducible refine (LV.out _).mono ?_
      rintro e w4 ⟨rfl, q4⟩
      have HB4 := Lib.hid (btr HB3.out q4)
      clear q4
      go_wp2_with fail
      go_ret
      exact ⟨rfl, HB4.out⟩
    · have v1 : (E != 0) = true := by rw [bne_iff_ne]; exact hE0
      clear hl M1 R1 X1 Y1 Z1 V1 hV hE hX K
      go_enter Try.func4, Try.ntmps4
      go_wp2_with fail
      with_reducible refine (M2.out _).mono ?_
      rintro e wz ⟨rfl, rfl⟩
      go_wp2_with fail
      with_reducible refine (R2.out _).mono ?_
      rintro e wz ⟨rfl, rfl⟩
      go_wp2_with fail
      with_reducible refine (X2.out _).mono ?_
      rintro e w1 ⟨rfl, q1⟩
      have HB1 := Lib.hid (btr HB0.out q1)
      clear q1
      go_wp2_with fail
      with_reducible refine (Z2.out _).mono ?_
      rintro e wz ⟨rfl, rfl⟩
      go_wp2_with fail
      with_reducible refine (X2.out _).mono ?_
      rintro e w2 ⟨rfl, q2⟩
      have HB2 := Lib.hid (btr HB1.out q2)
      clear q2
      go_wp2_with fail
      with_reducible refine (Y2.out _).mono ?_
      rintro e wz ⟨rfl, rfl⟩
      go_wp2_with fail
      with_reducible refine (LV.out _).mono ?_
      rintro e w3 ⟨rfl, q3⟩
      have HB3 := Lib.hid (btr HB2.out q3)
      clear q3
      go_wp2_with fail
      go_ret
      exact ⟨rfl, HB3.out⟩

set_option maxRecDepth 100000 in
set_option maxHeartbeats 8000000 in
theorem digestHashes (p : Nat) (hp : p < 18446744073709551616) (s t : ByteArray) (w : World) :
    Calls Try.prog 3 #[.int .u64 (p : Int), .string s, .string t] w fun e w' => e = .returned (.bool true) ∧ Below w.heap.size w w' := by
  have LV := Lib.hid (fun W => live_any W)
  have HB0 := Lib.hid (bref w)
  by_cases hl : 2000 < s.size
  · have hlz : (2000 : Int) < (s.size : Int) := by omega
    have hld : decide ((2000 : Int) < (s.size : Int)) = true := by simp; omega
    clear hl
    go_enter Try.func3, Try.ntmps3
    go_wp2_with fail
    with_reducible refine (LV.out _).mono ?_
    rintro e w1 ⟨rfl, q1⟩
    have HB1 := Lib.hid (btr HB0.out q1)
    clear q1
    go_wp2_with fail
    go_ret
    exact ⟨rfl, HB1.out⟩
  have hld : decide ((2000 : Int) < (s.size : Int)) = false := by simp; omega
  by_cases ht : 2000 < t.size
  · have htd : decide ((2000 : Int) < (t.size : Int)) = true := by simp; omega
    clear hl ht
    go_enter Try.func3, Try.ntmps3
    go_wp2_with fail
    with_reducible refine (LV.out _).mono ?_
    rintro e w1 ⟨rfl, q1⟩
    have HB1 := Lib.hid (btr HB0.out q1)
    clear q1
    go_wp2_with fail
    go_ret
    exact ⟨rfl, HB1.out⟩
  have htd : decide ((2000 : Int) < (t.size : Int)) = false := by simp; omega
  have a1 := app_le s t
  have hsz : s.size ≤ 2000 := by omega
  have htz : t.size ≤ 2000 := by omega
  have H1 := fun W => mhash s (by omega) W
  have H2 := fun W => rhash s (by omega) W
  have H3 := fun W => mchain p s (by omega) W
  have H4 := fun W => rchain p hp s (by omega) W
  have H5 := fun W => mhash t (by omega) W
  have H6 := fun W => rhash t (by omega) W
  have H7 := fun W => mpair p (hashN (byt t)) W
  have H8 := fun W => rpair p (hashN (byt t)) hp (hashN_lt _) W
  have H9 := fun W => mhash (s ++ t) (by omega) W
  have HA := fun W => rextend (hashN (byt s)) t (hashN_lt _) (by omega) W
  have HC := fun W => mchain p (s ++ t) (by omega) W
  have HD := fun W => rextend (chainN p (byt s)) t (chainN_lt _ _) (by omega) W
  have i1 : hashN (byt (s ++ t)) = ext (hashN (byt s)) (byt t) := by unfold hashN; rw [byt_app, ext_app]
  have i2 : chainN p (byt (s ++ t)) = ext (chainN p (byt s)) (byt t) := by unfold chainN; rw [byt_app, ext_app]
  rw [← i1] at HA
  rw [← i2] at HD
  clear i1 i2
  obtain ⟨v0, e0⟩ : ∃ z, hashN (byt s) = z := ⟨_, rfl⟩
  obtain ⟨v1, e1⟩ : ∃ z, chainN p (byt s) = z := ⟨_, rfl⟩
  obtain ⟨v2, e2⟩ : ∃ z, hashN (byt t) = z := ⟨_, rfl⟩
  obtain ⟨v3, e3⟩ : ∃ z, hashN (byt (s ++ t)) = z := ⟨_, rfl⟩
  obtain ⟨v4, e4⟩ : ∃ z, chainN p (byt (s ++ t)) = z := ⟨_, rfl⟩
  obtain ⟨v5, e5⟩ : ∃ z, chainN p (eig (hashN (byt t))) = z := ⟨_, rfl⟩
  rw [e5] at H7 H8
  rw [e0] at H1 H2 HA
  rw [e1] at H3 H4 HD
  rw [e2] at H5 H6 H7 H8
  rw [e3] at H9 HA
  rw [e4] at HC HD
  have K1 := Lib.hid H1
  have K2 := Lib.hid H2
  have K3 := Lib.hid H3
  have K4 := Lib.hid H4
  have K5 := Lib.hid H5
  have K6 := Lib.hid H6
  have K7 := Lib.hid H7
  have K8 := Lib.hid H8
  have K9 := Lib.hid H9
  have KA := Lib.hid HA
  have KC := Lib.hid HC
  have KD := Lib.hid HD
  clear hl ht a1 e0 e1 e2 e3 e4 e5 hp H1 H2 H3 H4 H5 H6 H7 H8 H9 HA HC HD
  go_enter Try.func3, Try.ntmps3
  go_wp2_with fail
  with_reducible refine (K1.out _).mono ?_
  rintro e wz ⟨rfl, rfl⟩
  go_wp2_with fail
  with_reducible refine (K2.out _).mono ?_
  rintro e wz ⟨rfl, rfl⟩
  go_wp2_with fail
  with_reducible refine (K3.out _).mono ?_
  rintro e wz ⟨rfl, rfl⟩
  go_wp2_with fail
  with_reducible refine (K4.out _).mono ?_
  rintro e w1 ⟨rfl, q1⟩
  have HB1 := Lib.hid (btr HB0.out q1)
  clear q1
  go_wp2_with fail
  with_reducible refine (K5.out _).mono ?_
  rintro e wz ⟨rfl, rfl⟩
  go_wp2_with fail
  with_reducible refine (K7.out _).mono ?_
  rintro e wz ⟨rfl, rfl⟩
  go_wp2_with fail
  with_reducible refine (K6.out _).mono ?_
  rintro e wz ⟨rfl, rfl⟩
  go_wp2_with fail
  with_reducible refine (K8.out _).mono ?_
  rintro e w2 ⟨rfl, q2⟩
  have HB2 := Lib.hid (btr HB1.out q2)
  clear q2
  go_wp2_with fail
  with_reducible refine (K9.out _).mono ?_
  rintro e wz ⟨rfl, rfl⟩
  go_wp2_with fail
  with_reducible refine (K1.out _).mono ?_
  rintro e wz ⟨rfl, rfl⟩
  go_wp2_with fail
  with_reducible refine (KA.out _).mono ?_
  rintro e wz ⟨rfl, rfl⟩
  go_wp2_with fail
  with_reducible refine (KC.out _).mono ?_
  rintro e wz ⟨rfl, rfl⟩
  go_wp2_with fail
  with_reducible refine (K3.out _).mono ?_
  rintro e wz ⟨rfl, rfl⟩
  go_wp2_with fail
  with_reducible refine (KD.out _).mono ?_
  rintro e wz ⟨rfl, rfl⟩
  go_wp2_with fail
  with_reducible refine (LV.out _).mono ?_
  rintro e w3 ⟨rfl, q3⟩
  have HB3 := Lib.hid (btr HB2.out q3)
  clear q3
  go_wp2_with fail
  go_ret
  exact ⟨rfl, HB3.out⟩
end Go.Proofs.Ytamnpgcfgjlbeaa
