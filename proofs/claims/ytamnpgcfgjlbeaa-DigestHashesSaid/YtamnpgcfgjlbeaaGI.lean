/-
  Check digits: contracts of the document's own Seal, and of Sealed on both sides.
-/
import Derived.Test.YtamnpgcfgjlbeaaGH
namespace Go.Proofs.Ytamnpgcfgjlbeaa
open Go Go.RowKit Go.Lib GM

set_option maxRecDepth 100000 in
set_option maxHeartbeats 2000000 in
theorem rseal (s : ByteArray) (w : World) :
    Calls Try.prog 24 #[.string s] w fun e w' => e = .returned (.tuple #[.string (str (sealV (byt s))), .int .i64 (sealE (byt s))]) ∧ Below w.heap.size w w' := by
  have hlen := byt_len s
  by_cases hb : s.size < 1 ∨ 46 < s.size
  · obtain ⟨z1, z2⟩ := seal_big (byt s) (by omega)
    rw [z1, z2]
    rcases hb with hb | hb
    · have d1 : decide ((s.size : Int) < 1) = true := by simp; omega
      have d2 : (s.size : Int) < 1 := by omega
      clear z1 z2 hlen hb
      go_enter Try.func24, Try.ntmps24
      go_wp2_with fail
      go_ret2
      exact ⟨rfl, bref _⟩
    · have d1 : decide ((s.size : Int) < 1) = false := by simp; omega
      have d2 : decide ((46 : Int) < (s.size : Int)) = true := by simp; omega
      have d3 : (46 : Int) < (s.size : Int) := by omega
      clear z1 z2 hlen hb
      go_enter Try.func24, Try.ntmps24
      go_wp2_with fail
      go_ret2
      exact ⟨rfl, bref _⟩
  · obtain ⟨HBad, HGood⟩ := seal_mid (byt s) (by omega)
    have P0 := fun W => rplain s (by omega) W
    have d1 : decide ((s.size : Int) < 1) = false := by simp; omega
    have d2 : decide ((46 : Int) < (s.size : Int)) = false := by simp; omega
    have hs48 : s.size ≤ 46 := by omega
    cases hp : pln (byt s)
    · obtain ⟨z1, z2⟩ := HBad hp
      rw [z1, z2]
      rw [hp] at P0
      have P := Lib.hid P0
      clear z1 z2 P0 HBad HGood hlen hb hp
      go_enter Try.func24, Try.ntmps24
      go_wp2_with fail
      refine (P.out _).mono ?_
      rintro e w1 ⟨rfl, rfl⟩
      go_wp2_with fail
      go_ret2
      exact ⟨rfl, bref _⟩
    · obtain ⟨z1, z2⟩ := HGood hp
      have Q0 := fun W => rrest (s ++ ⟨#[48, 48]⟩) (by rw [← byt_len, byt_00, List.length_append, List.length_cons, List.length_cons, List.length_nil]; omega) (by rw [byt_00, pln_00]; exact hp) W
      rw [z1, z2]
      rw [hp] at P0
      rw [byt_00] at Q0
      have hr97 := rst_lt (byt s ++ [48, 48])
      have HS : str (sealL (byt s)) = s ++ str [UInt8.ofNat (48 + (98 - rst (byt s ++ [48, 48])) / 10)] ++ str [UInt8.ofNat (48 + (98 - rst (byt s ++ [48, 48])) % 10)] := by
        unfold sealL chk
        rw [ByteArray.append_assoc, str_app, ← str_app, str_byt]; rfl
      obtain ⟨r, hr⟩ : ∃ r, rst (byt s ++ [48, 48]) = r := ⟨_, rfl⟩
      rw [hr] at Q0 HS hr97
      obtain ⟨q, hq⟩ : ∃ q, 98 - r = q := ⟨_, rfl⟩
      rw [hq] at HS
      obtain ⟨x, hx⟩ : ∃ x, q / 10 = x := ⟨_, rfl⟩
      obtain ⟨y, hy⟩ : ∃ y, q % 10 = y := ⟨_, rfl⟩
      rw [hx, hy] at HS
      have e0 : 98 - (r : Int) = (q : Int) := by omega
      have e2 : (q : Int).tdiv 10 = (x : Int) := by rw [Int.tdiv_eq_ediv_of_nonneg (by omega)]; omega
      have e3 : (q : Int).tmod 10 = (y : Int) := by rw [Int.tmod_eq_emod_of_nonneg (by omega)]; omega
      have x10 : x < 10 := by omega
      have y10 : y < 10 := by omega
      have p1 := ten_piece x x10
      have p2 := ten_piece y y10
      obtain ⟨X, hX⟩ : ∃ X, str [UInt8.ofNat (48 + x)] = X := ⟨_, rfl⟩
      obtain ⟨Y, hY⟩ : ∃ Y, str [UInt8.ofNat (48 + y)] = Y := ⟨_, rfl⟩
      have sX : X.size = 1 := by rw [← hX, str_size]; rfl
      have sY : Y.size = 1 := by rw [← hY, str_size]; rfl
      rw [hX] at p1 HS
      rw [hY] at p2 HS
      have x0 : (x : Int) + 1 ≤ 10 := by omega
      have y0 : (y : Int) + 1 ≤ 10 := by omega
      have HS2 := Lib.hid HS
      have P := Lib.hid P0
      have Q := Lib.hid Q0
      clear z1 z2 P0 Q0 HBad HGood hlen hb hp HS hr hq hx hy hX hY
      go_enter Try.func24, Try.ntmps24
      go_wp2_with fail
      refine (P.out _).mono ?_
      rintro e w1 ⟨rfl, rfl⟩
      go_wp2_with fail
      refine (Q.out _).mono ?_
      rintro e w1 ⟨rfl, rfl⟩
      go_wp2_with fail
      go_quiet (fail)
      go_wp2_with fail
      go_ret2
      exact ⟨by rw [HS2.out]; rfl, bdn (bref _) _⟩

theorem sealed_eq (l : List UInt8) : sealedB l = (decide (3 ≤ l.length) && (decide (mE l = 0) && decide (mV l = 1))) := by unfold sealedB; rw [Bool.and_assoc]

set_option maxRecDepth 100000 in
theorem msealed (s : ByteArray) (w : World) :
    Calls Try.prog 25 #[.string s] w fun e w' => e = .returned (.bool (sealedB (byt s))) ∧ w = w' := by
  have hlen := byt_len s
  have M0 := fun W => mmod s W
  obtain ⟨R, hR⟩ : ∃ R, sealedB (byt s) = R := ⟨_, rfl⟩
  rw [hR]
  rw [sealed_eq, hlen] at hR
  obtain ⟨E, hE⟩ : ∃ E, mE (byt s) = E := ⟨_, rfl⟩
  obtain ⟨V, hV⟩ : ∃ V, mV (byt s) = V := ⟨_, rfl⟩
  rw [hE, hV] at M0 hR
  have M := Lib.hid M0
  clear hE hV M0 hlen
  by_cases h3 : 3 ≤ s.size
  · have d1 : ¬ (s.size : Int) ≤ 2 := by omega
    have d2 : decide ((s.size : Int) ≤ 2) = false := by simp; omega
    by_cases hE : E = 0
    · by_cases hV : V = 1
      · have HX : Hid (R = true) := Lib.hid (by rw [← hR, hE, hV]; simp; omega)
        clear hR h3
        subst hE hV
        go_enter Try.func25, Try.ntmps25
        go_wp2_with fail
        refine (M.out _).mono ?_
        rintro e w1 ⟨rfl, rfl⟩
        go_wp2_with fail
        go_ret
        exact ⟨by rw [HX.out]; rfl, rfl⟩
      · have HX : Hid (R = false) := Lib.hid (by rw [← hR]; simp [hV])
        have v1 : ((V : Int) == 1) = false := by rw [beq_eq_false_iff_ne]; omega
        clear hR h3 hV
        subst hE
        go_enter Try.func25, Try.ntmps25
        go_wp2_with fail
        refine (M.out _).mono ?_
        rintro e w1 ⟨rfl, rfl⟩
        go_wp2_with fail
        go_ret
        exact ⟨by rw [HX.out]; rfl, rfl⟩
    · have HX : Hid (R = false) := Lib.hid (by rw [← hR]; simp [hE])
      have v1 : (E == 0) = false := by rw [beq_eq_false_iff_ne]; exact hE
      clear hR h3
      go_enter Try.func25, Try.ntmps25
      go_wp2_with fail
      refine (M.out _).mono ?_
      rintro e w1 ⟨rfl, rfl⟩
      go_wp2_with fail
      go_ret
      exact ⟨by rw [HX.out]; rfl, rfl⟩
  · have d1 : (s.size : Int) ≤ 2 := by omega
    have HX : Hid (R = false) := Lib.hid (by rw [← hR]; simp [h3])
    clear hR h3
    go_enter Try.func25, Try.ntmps25
    go_wp2_with fail
    go_ret
    exact ⟨by rw [HX.out]; rfl, rfl⟩

set_option maxRecDepth 100000 in
theorem rsealed (s : ByteArray) (w : World) :
    Calls Try.prog 26 #[.string s] w fun e w' => e = .returned (.bool (sealedB (byt s))) ∧ w = w' := by
  have hlen := byt_len s
  have M0 := fun W => rmod s W
  obtain ⟨R, hR⟩ : ∃ R, sealedB (byt s) = R := ⟨_, rfl⟩
  rw [hR]
  rw [sealed_eq, hlen] at hR
  obtain ⟨E, hE⟩ : ∃ E, mE (byt s) = E := ⟨_, rfl⟩
  obtain ⟨V, hV⟩ : ∃ V, mV (byt s) = V := ⟨_, rfl⟩
  rw [hE, hV] at M0 hR
  have M := Lib.hid M0
  clear hE hV M0 hlen
  by_cases h3 : 3 ≤ s.size
  · have d1 : (3 : Int) ≤ (s.size : Int) := by omega
    have d2 : decide ((3 : Int) ≤ (s.size : Int)) = true := by simp; omega
    by_cases hE : E = 0
    · by_cases hV : V = 1
      · have HX : Hid (R = true) := Lib.hid (by rw [← hR, hE, hV]; simp; omega)
        clear hR h3
        subst hE hV
        go_enter Try.func26, Try.ntmps26
        go_wp2_with fail
        refine (M.out _).mono ?_
        rintro e w1 ⟨rfl, rfl⟩
        go_wp2_with fail
        go_ret
        exact ⟨by rw [HX.out]; rfl, rfl⟩
      · have HX : Hid (R = false) := Lib.hid (by rw [← hR]; simp [hV])
        have v1 : ((V : Int) == 1) = false := by rw [beq_eq_false_iff_ne]; omega
        clear hR h3 hV
        subst hE
        go_enter Try.func26, Try.ntmps26
        go_wp2_with fail
        refine (M.out _).mono ?_
        rintro e w1 ⟨rfl, rfl⟩
        go_wp2_with fail
        go_ret
        exact ⟨by rw [HX.out]; rfl, rfl⟩
    · have HX : Hid (R = false) := Lib.hid (by rw [← hR]; simp [hE])
      have v1 : (E == 0) = false := by rw [beq_eq_false_iff_ne]; exact hE
      clear hR h3
      go_enter Try.func26, Try.ntmps26
      go_wp2_with fail
      refine (M.out _).mono ?_
      rintro e w1 ⟨rfl, rfl⟩
      go_wp2_with fail
      go_ret
      exact ⟨by rw [HX.out]; rfl, rfl⟩
  · have d1 : ¬ (3 : Int) ≤ (s.size : Int) := by omega
    have d2 : decide ((3 : Int) ≤ (s.size : Int)) = false := by simp; omega
    have HX : Hid (R = false) := Lib.hid (by rw [← hR]; simp [h3])
    clear hR h3
    go_enter Try.func26, Try.ntmps26
    go_wp2_with fail
    refine (M.out _).mono ?_
    rintro e w1 ⟨rfl, rfl⟩
    go_wp2_with fail
    go_ret
    exact ⟨by rw [HX.out]; rfl, rfl⟩
end Go.Proofs.Ytamnpgcfgjlbeaa
