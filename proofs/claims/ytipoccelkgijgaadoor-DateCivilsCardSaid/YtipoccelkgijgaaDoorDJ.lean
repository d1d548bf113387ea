/-
  The walks of the laws about dates.
-/
import Derived.Test.YtipoccelkgijgaaDoorDI
namespace Go.Proofs.YtipoccelkgijgaaDoor
open Go Go.RowKit Go.Lib WM

set_option maxRecDepth 100000 in
set_option maxHeartbeats 4000000 in
theorem days_any (y m d : Int) (_ : I64 y) (_ : I64 m) (_ : I64 d) (w : World) (hL : Ln w) (ht : Tb w) :
    Calls Tryd.prog 4 #[.int .i64 y, .int .i64 m, .int .i64 d] w fun e w' => e = .returned (.bool true) ∧ Below w.heap.size w w' := by
  have C1 := mday y m d w hL
  have C2 := rday y m d w
  obtain ⟨Q, h1⟩ : ∃ x, dayV y m d = x := ⟨_, rfl⟩
  obtain ⟨E, h2⟩ : ∃ x, dayE y m d = x := ⟨_, rfl⟩
  rw [h1, h2] at C1 C2
  have C1 := Lib.hid C1; have C2 := Lib.hid C2
  clear h1 h2
  go_enter Tryd.func4, Tryd.ntmps4
  go_wp2_with fail
  refine C1.out.mono ?_
  rintro e w1 ⟨rfl, rfl⟩
  go_wp2_with fail
  refine C2.out.mono ?_
  rintro e w1 ⟨rfl, rfl⟩
  go_wp2_with fail
  refine (live_any _ hL ht).mono ?_
  rintro e w9 ⟨rfl, q9⟩
  go_wp2_with fail
  go_ret
  exact ⟨rfl, q9⟩

set_option maxRecDepth 100000 in
set_option maxHeartbeats 4000000 in
theorem months_any (day n a : Int) (_ : I64 day) (_ : I64 n) (_ : I64 a) (w : World) (hL : Ln w) (ht : Tb w) :
    Calls Tryd.prog 5 #[.int .i64 day, .int .i64 n, .int .i64 a] w fun e w' => e = .returned (.bool true) ∧ Below w.heap.size w w' := by
  have H : ∃ Q E : Int, (Calls Tryd.prog 24 #[.int .i64 day, .int .i64 n, .int .i64 a] w fun e w' => e = .returned (.tuple #[.int .i64 Q, .int .i64 E]) ∧ w = w') ∧
      (Calls Tryd.prog 25 #[.int .i64 day, .int .i64 n, .int .i64 a] w fun e w' => e = .returned (.tuple #[.int .i64 Q, .int .i64 E]) ∧ w = w') := by
    cases h : vdB day
    · exact ⟨0, 1, mam_no day n a h w, ram_no day n a h w⟩
    · obtain ⟨y, m, d, hc⟩ := civ_ex day h
      exact ⟨_, _, mam day y m d n a hc w hL, ram day y m d n a hc w⟩
  obtain ⟨Q, E, C1, C2⟩ := H
  have C1 := Lib.hid C1; have C2 := Lib.hid C2
  go_enter Tryd.func5, Tryd.ntmps5
  go_wp2_with fail
  refine C1.out.mono ?_
  rintro e w1 ⟨rfl, rfl⟩
  go_wp2_with fail
  refine C2.out.mono ?_
  rintro e w1 ⟨rfl, rfl⟩
  go_wp2_with fail
  refine (live_any _ hL ht).mono ?_
  rintro e w9 ⟨rfl, q9⟩
  go_wp2_with fail
  go_ret
  exact ⟨rfl, q9⟩

set_option maxRecDepth 100000 in
set_option maxHeartbeats 4000000 in
theorem civils_any (day year : Int) (_ : I64 day) (_ : I64 year) (w : World) (hL : Ln w) (ht : Tb w) :
    Calls Tryd.prog 3 #[.int .i64 day, .int .i64 year] w fun e w' => e = .returned (.bool true) ∧ Below w.heap.size w w' := by
  have V1 := mvalid day w
  have V2 := rvalid day w
  have K1 := mweek day w
  have K2 := rweek day w
  obtain ⟨K, hK⟩ : ∃ K, (if vdB day = true then (day + 5) % 7 else -1) = K := ⟨_, rfl⟩
  rw [hK] at K1 K2
  clear hK
  have H : ∃ (Y M D E : Int) (S : ByteArray), (Calls Tryd.prog 9 #[.int .i64 day] w fun e w' => e = .returned (.tuple #[.int .i64 Y, .int .i64 M, .int .i64 D]) ∧ w = w') ∧
      (Calls Tryd.prog 10 #[.int .i64 day] w fun e w' => e = .returned (.tuple #[.int .i64 Y, .int .i64 M, .int .i64 D]) ∧ w = w') ∧
      (Calls Tryd.prog 15 #[.int .i64 day] w fun e w' => e = .returned (.int .i64 E) ∧ w = w') ∧
      (Calls Tryd.prog 16 #[.int .i64 day] w fun e w' => e = .returned (.int .i64 E) ∧ w = w') ∧
      (Calls Tryd.prog 17 #[.int .i64 day] w fun e w' => e = .returned (.string S) ∧ Below w.heap.size w w') ∧
      (∀ W : World, Calls Tryd.prog 18 #[.int .i64 day] W fun e w' => e = .returned (.string S) ∧ W = w') := by
    cases h : vdB day
    · exact ⟨0, 0, 0, -1, ⟨#[]⟩, mcivil_no day h w, rcivil_no day h w, mend_no day h w, rend_no day h w, (mfmt_no day h w).mono fun _ _ ⟨he, hw⟩ => ⟨he, by rw [← hw]; exact bref _⟩, fun W => rfmt_no day h W⟩
    · obtain ⟨y, m, d, hc⟩ := civ_ex day h
      obtain ⟨y, m, d, rfl, rfl, rfl⟩ := civ_nat day y m d hc
      exact ⟨_, _, _, _, _, mcivil day y m d hc w hL, rcivil day y m d hc w, mend day y m d hc w hL, rend day y m d hc w, mfmt day y m d hc w hL ht, fun W => rfmt day y m d hc W⟩
  obtain ⟨Y, M, D, E, S, C1, C2, C3, C4, C5, C6⟩ := H
  have G1 := fun W => mleap year W
  have G2 := fun W => rleap year W
  obtain ⟨B, hB⟩ : ∃ B, leapB year = B := ⟨_, rfl⟩
  obtain ⟨VB, hVB⟩ : ∃ B, vdB day = B := ⟨_, rfl⟩
  simp only [hB] at G1 G2
  rw [hVB] at V1 V2
  have C1 := Lib.hid C1; have C2 := Lib.hid C2; have C3 := Lib.hid C3; have C4 := Lib.hid C4; have C5 := Lib.hid C5; have C6 := Lib.hid C6
  have V1 := Lib.hid V1; have V2 := Lib.hid V2; have K1 := Lib.hid K1; have K2 := Lib.hid K2; have G1 := Lib.hid G1; have G2 := Lib.hid G2
  clear hB hVB
  go_enter Tryd.func3, Tryd.ntmps3
  go_wp2_with fail
  refine C1.out.mono ?_
  rintro e w1 ⟨rfl, rfl⟩
  go_wp2_with fail
  refine C2.out.mono ?_
  rintro e w1 ⟨rfl, rfl⟩
  go_wp2_with fail
  refine V1.out.mono ?_
  rintro e w1 ⟨rfl, rfl⟩
  go_wp2_with fail
  refine V2.out.mono ?_
  rintro e w1 ⟨rfl, rfl⟩
  go_wp2_with fail
  refine K1.out.mono ?_
  rintro e w1 ⟨rfl, rfl⟩
  go_wp2_with fail
  refine K2.out.mono ?_
  rintro e w1 ⟨rfl, rfl⟩
  go_wp2_with fail
  refine C3.out.mono ?_
  rintro e w1 ⟨rfl, rfl⟩
  go_wp2_with fail
  refine C4.out.mono ?_
  rintro e w1 ⟨rfl, rfl⟩
  go_wp2_with fail
  refine C5.out.mono ?_
  rintro e w5 ⟨rfl, q5⟩
  go_wp2_with fail
  refine (C6.out _).mono ?_
  rintro e w1 ⟨rfl, rfl⟩
  go_wp2_with fail
  refine (G1.out _).mono ?_
  rintro e w1 ⟨rfl, rfl⟩
  go_wp2_with fail
  refine (G2.out _).mono ?_
  rintro e w1 ⟨rfl, rfl⟩
  go_wp2_with fail
  refine (live_any _ (hL.keep q5) (ht.keep q5)).mono ?_
  rintro e w9 ⟨rfl, q9⟩
  have Z9 := btr q5 q9
  go_wp2_with fail
  go_ret
  exact ⟨rfl, Z9⟩

set_option maxRecDepth 100000 in
set_option maxHeartbeats 4000000 in
theorem texts_any (s : ByteArray) (hs : s.size ≤ maxLen) (w : World) (hL : Ln w) (ht : Tb w) :
    Calls Tryd.prog 6 #[.string s] w fun e w' => e = .returned (.bool true) ∧ Below w.heap.size w w' := by
  have hs' : s.size ≤ 9223372036854775807 := by unfold maxLen at hs; omega
  have C1 := fun W hT => mparse s hs' W hT
  have C2 := fun W => rparse s hs' W
  by_cases he : psE s.data.toList = 0
  · obtain ⟨y, m, d, hc, ht2⟩ := ps_ok _ he
    have hstr : str (textL y m d) = s := by rw [ht2, list_str]
    have F := fun W hT hU => mfmt (psV s.data.toList) y m d hc W hT hU
    rw [hstr] at F
    simp only [he] at C1 C2
    obtain ⟨Q, h1⟩ : ∃ x, psV s.data.toList = x := ⟨_, rfl⟩
    simp only [h1] at C1 C2 F
    have C1 := Lib.hid C1; have C2 := Lib.hid C2; have F := Lib.hid F
    clear h1 he hc hs hs' hstr ht2
    go_enter Tryd.func6, Tryd.ntmps6
    go_wp2_with fail
    refine (C1.out _ hL).mono ?_
    rintro e w1 ⟨rfl, n1, rfl⟩
    go_wp2_with fail
    refine (C2.out _).mono ?_
    rintro e w1 ⟨rfl, n2, rfl⟩
    go_wp2_with fail
    refine (F.out _ (hL.keep (bdn (bref _) _)) (ht.keep (bdn (bref _) _))).mono ?_
    rintro e w2 ⟨rfl, q2⟩
    have Z2 := btr (bdn (bref w) (n1 + n2)) q2
    go_wp2_with fail
    refine (live_any _ (hL.keep Z2) (ht.keep Z2)).mono ?_
    rintro e w9 ⟨rfl, q9⟩
    have Z9 := btr Z2 q9
    go_wp2_with fail
    go_ret
    exact ⟨rfl, Z9⟩
  · obtain ⟨Q, h1⟩ : ∃ x, psV s.data.toList = x := ⟨_, rfl⟩
    obtain ⟨E, h2⟩ : ∃ x, psE s.data.toList = x := ⟨_, rfl⟩
    simp only [h1, h2] at C1 C2
    rw [h2] at he
    have hne : (E == 0) = false := by rw [beq_eq_false_iff_ne]; exact he
    have hne2 : (E != 0) = true := by rw [bne_iff_ne]; exact he
    have C1 := Lib.hid C1; have C2 := Lib.hid C2
    clear h1 h2 hs hs'
    go_enter Tryd.func6, Tryd.ntmps6
    go_wp2_with fail
    refine (C1.out _ hL).mono ?_
    rintro e w1 ⟨rfl, n1, rfl⟩
    go_wp2_with fail
    refine (C2.out _).mono ?_
    rintro e w1 ⟨rfl, n2, rfl⟩
    go_wp2_with fail
    have Z2 := bdn (bref w) (n1 + n2)
    refine (live_any _ (hL.keep Z2) (ht.keep Z2)).mono ?_
    rintro e w9 ⟨rfl, q9⟩
    have Z9 := btr Z2 q9
    go_wp2_with fail
    go_ret
    exact ⟨rfl, Z9⟩
end Go.Proofs.YtipoccelkgijgaaDoor
