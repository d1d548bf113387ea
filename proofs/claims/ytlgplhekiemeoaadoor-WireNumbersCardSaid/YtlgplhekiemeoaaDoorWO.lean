/-
  The walks of the laws of package wire.
-/
import Derived.Test.YtlgplhekiemeoaaDoorWN
namespace Go.Proofs.YtlgplhekiemeoaaDoor
open Go Go.RowKit Go.Lib WM

set_option maxRecDepth 100000 in
set_option maxHeartbeats 8000000 in
theorem wireNumbers (n : Int) (hn : I64 n) (s : ByteArray) (w : World) (hT : Tb w) (hE : Er w) :
    Calls Tryd.prog 5 #[.int .i64 n, .string s] w fun e w' => e = .returned (.bool true) ∧ Below w.heap.size w w' := by
  have HT := Lib.hid hT
  have HE := Lib.hid hE
  have LV := Lib.hid (fun W hT hE => live_any W hT hE)
  have HB0 := Lib.hid (bref w)
  by_cases hl : 200 < s.size
  · have hlz : (200 : Int) < (s.size : Int) := by omega
    clear hT hE hl
    go_enter Tryd.func5, Tryd.ntmps5
    go_wp2_with fail
    with_reducible refine (LV.out _ (HT.out.keep HB0.out) (HE.out.keep HB0.out)).mono ?_
    rintro e w1 ⟨rfl, q1⟩
    have HB1 := Lib.hid (btr HB0.out q1)
    clear q1
    go_wp2_with fail
    go_ret
    exact ⟨rfl, HB1.out⟩
  · have hlz : ¬ (200 : Int) < (s.size : Int) := by omega
    have M := Lib.hid (fun W hE => mtake s (by omega) W hE)
    have R := Lib.hid (fun W => rtake s (by omega) W)
    have MI := Lib.hid (fun W hT => mint n hn W hT)
    have RI := Lib.hid (fun W => rint n hn W)
    have M1 := M.out
    have R1 := R.out
    have MI1 := MI.out
    have RI1 := RI.out
    obtain ⟨V, hV⟩ : ∃ V, tiV s.data.toList = V := ⟨_, rfl⟩
    obtain ⟨E, hE2⟩ : ∃ E, tiE s.data.toList = E := ⟨_, rfl⟩
    obtain ⟨D, hD⟩ : ∃ D, str (itoa n) = D := ⟨_, rfl⟩
    rw [hV, hE2] at M1 R1
    rw [hD] at MI1 RI1
    have M2 := Lib.hid M1
    have R2 := Lib.hid R1
    have MI2 := Lib.hid MI1
    have RI2 := Lib.hid RI1
    clear hT hE hl M R MI RI M1 R1 MI1 RI1 hV hE2 hD
    go_enter Tryd.func5, Tryd.ntmps5
    go_wp2_with fail
    with_reducible refine (M2.out _ HE.out).mono ?_
    rintro e w1 ⟨rfl, q1⟩
    have HB1 := Lib.hid (btr HB0.out q1)
    clear q1
    go_wp2_with fail
    with_reducible refine (R2.out _).mono ?_
    rintro e wz ⟨rfl, rfl⟩
    go_wp2_with fail
    with_reducible refine (MI2.out _ (HT.out.keep HB1.out)).mono ?_
    rintro e w2 ⟨rfl, q2⟩
    have HB2 := Lib.hid (btr HB1.out q2)
    clear q2
    go_wp2_with fail
    with_reducible refine (RI2.out _).mono ?_
    rintro e wz ⟨rfl, rfl⟩
    go_wp2_with fail
    with_reducible refine (LV.out _ (HT.out.keep HB2.out) (HE.out.keep HB2.out)).mono ?_
    rintro e w3 ⟨rfl, q3⟩
    have HB3 := Lib.hid (btr HB2.out q3)
    clear q3
    go_wp2_with fail
    go_ret
    exact ⟨rfl, HB3.out⟩

set_option maxRecDepth 100000 in
set_option maxHeartbeats 8000000 in
theorem wirePacks (ao : Option Addr) (l : List ByteArray) (c : Nat) (hs : ∀ x ∈ l, x.size ≤ 281474976710656) (w : World) (hT : Tb w) (hE : Er w) (h : TextsAt ao l w) :
    Calls Tryd.prog 3 #[.slice ao l.length c] w fun e w' => e = .returned (.bool true) ∧ Below w.heap.size w w' := by
  have HT := Lib.hid hT
  have HE := Lib.hid hE
  have LV := Lib.hid (fun W hT hE => live_any W hT hE)
  have HB0 := Lib.hid (bref w)
  have HS := Lib.hid hs
  have HA := Lib.hid h
  obtain ⟨n, hn⟩ : ∃ n, l.length = n := ⟨_, rfl⟩
  by_cases hl : 5000 < n
  · have hlz : (5000 : Int) < (n : Int) := by omega
    rw [hn]
    clear hT hE hl hs h hn
    go_enter Tryd.func3, Tryd.ntmps3
    go_wp2_with fail
    with_reducible refine (LV.out _ (HT.out.keep HB0.out) (HE.out.keep HB0.out)).mono ?_
    rintro e w1 ⟨rfl, q1⟩
    have HB1 := Lib.hid (btr HB0.out q1)
    clear q1
    go_wp2_with fail
    go_ret
    exact ⟨rfl, HB1.out⟩
  · have hlz : ¬ (5000 : Int) < (n : Int) := by omega
    have Z0 := fun W hA => rsize ao l c (by omega) HS.out W hA
    obtain ⟨Z, hZ⟩ : ∃ Z, sizeL l = Z := ⟨_, rfl⟩
    rw [hZ, hn] at Z0
    have HZ := Lib.hid Z0
    by_cases hz : 5000 < Z
    · have hzz : (5000 : Int) < (Z : Int) := by omega
      rw [hn]
      clear hT hE hl hs h hn Z0 hZ hz
      go_enter Tryd.func3, Tryd.ntmps3
      go_wp2_with fail
      with_reducible refine (HZ.out _ HA.out).mono ?_
      rintro e wz ⟨rfl, rfl⟩
      go_wp2_with fail
      with_reducible refine (LV.out _ (HT.out.keep HB0.out) (HE.out.keep HB0.out)).mono ?_
      rintro e w1 ⟨rfl, q1⟩
      have HB1 := Lib.hid (btr HB0.out q1)
      clear q1
      go_wp2_with fail
      go_ret
      exact ⟨rfl, HB1.out⟩
    · have hzz : ¬ (5000 : Int) < (Z : Int) := by omega
      have M0 := fun W hT hA => mpack ao l c (by omega) W hT hA
      have R0 := fun W hA => rpack ao l c (by omega) W hA
      obtain ⟨D, hD⟩ : ∃ D, str (encL l) = D := ⟨_, rfl⟩
      rw [hD, hn] at M0 R0
      have HM := Lib.hid M0
      have HR := Lib.hid R0
      rw [hn]
      clear hT hE hl hs h hn Z0 hZ hz M0 R0 hD
      go_enter Tryd.func3, Tryd.ntmps3
      go_wp2_with fail
      with_reducible refine (HZ.out _ HA.out).mono ?_
      rintro e wz ⟨rfl, rfl⟩
      go_wp2_with fail
      with_reducible refine (HM.out _ HT.out HA.out).mono ?_
      rintro e w1 ⟨rfl, q1⟩
      have HB1 := Lib.hid (btr HB0.out q1)
      clear q1
      go_wp2_with fail
      with_reducible refine (HR.out _ (HA.out.keep HB1.out)).mono ?_
      rintro e w2 ⟨rfl, q2⟩
      have HB2 := Lib.hid (btr HB1.out q2)
      clear q2
      go_wp2_with fail
      with_reducible refine (LV.out _ (HT.out.keep HB2.out) (HE.out.keep HB2.out)).mono ?_
      rintro e w3 ⟨rfl, q3⟩
      have HB3 := Lib.hid (btr HB2.out q3)
      clear q3
      go_wp2_with fail
      go_ret
      exact ⟨rfl, HB3.out⟩

set_option maxRecDepth 100000 in
set_option maxHeartbeats 8000000 in
theorem wireUnpacks (s : ByteArray) (w : World) (hT : Tb w) (hE : Er w) :
    Calls Tryd.prog 4 #[.string s] w fun e w' => e = .returned (.bool true) ∧ Below w.heap.size w w' := by
  have HT := Lib.hid hT
  have HE := Lib.hid hE
  have LV := Lib.hid (fun W hT hE => live_any W hT hE)
  have HB0 := Lib.hid (bref w)
  by_cases hl : 20000 < s.size
  · have hlz : (20000 : Int) < (s.size : Int) := by omega
    clear hT hE hl
    go_enter Tryd.func4, Tryd.ntmps4
    go_wp2_with fail
    with_reducible refine (LV.out _ (HT.out.keep HB0.out) (HE.out.keep HB0.out)).mono ?_
    rintro e w1 ⟨rfl, q1⟩
    have HB1 := Lib.hid (btr HB0.out q1)
    clear q1
    go_wp2_with fail
    go_ret
    exact ⟨rfl, HB1.out⟩
  · have hlz : ¬ (20000 : Int) < (s.size : Int) := by omega
    have M0 := fun W hE => munpack s (by omega) W hE
    have R0 := fun W => runpack s (by omega) W
    have hu := (unp_sizes _ (byt s) rfl).1
    rw [byt_len] at hu
    obtain ⟨⟨E, l⟩, hq⟩ : ∃ q, unp (byt s) = q := ⟨_, rfl⟩
    rw [hq] at M0 R0 hu
    simp only at hu
    obtain ⟨n, hn⟩ : ∃ n, l.length = n := ⟨_, rfl⟩
    have S0 : ∀ ao bo ca cb W, TextsAt ao l W → TextsAt bo l W → Calls Tryd.prog 15 #[.slice ao n ca, .slice bo n cb] W fun e w' => e = .returned (.bool true) ∧ Below W.heap.size W w' := fun ao bo ca cb W h1 h2 => by
      have := rsameT ao bo l l ca cb (by omega) (by omega) W h1 h2
      rw [decide_eq_true (show l = l from rfl), hn] at this
      exact this
    have HM := Lib.hid M0
    have HR := Lib.hid R0
    have HS := Lib.hid S0
    have HN := Lib.hid hn
    clear hT hE hl M0 R0 S0 hn hq hu
    go_enter Tryd.func4, Tryd.ntmps4
    go_wp2_with fail
    with_reducible refine (HM.out _ HE.out).mono ?_
    rintro e w1 ⟨ao, c, he, hA, q1⟩
    simp only [HN.out] at he
    subst he
    have HA := Lib.hid hA
    have HB1 := Lib.hid q1
    clear hA q1
    go_wp2_with fail
    with_reducible refine (HR.out _).mono ?_
    rintro e w2 ⟨ao2, c2, he, hA, q2⟩
    simp only [HN.out] at he
    subst he
    have HA1 := Lib.hid (HA.out.keep q2)
    have HA2 := Lib.hid hA
    have HB2 := Lib.hid (btr HB1.out q2)
    clear hA q2
    go_wp2_with fail
    with_reducible refine (HS.out _ _ _ _ _ HA1.out HA2.out).mono ?_
    rintro e w3 ⟨rfl, q3⟩
    have HB3 := Lib.hid (btr HB2.out q3)
    clear q3
    go_wp2_with fail
    with_reducible refine (LV.out _ (HT.out.keep HB3.out) (HE.out.keep HB3.out)).mono ?_
    rintro e w4 ⟨rfl, q4⟩
    have HB4 := Lib.hid (btr HB3.out q4)
    clear q4
    go_wp2_with fail
    go_ret
    exact ⟨rfl, HB4.out⟩

set_option maxRecDepth 100000 in
set_option maxHeartbeats 8000000 in
theorem wireLists (ao : Option Addr) (l : List Int) (c : Nat) (hs : ∀ n ∈ l, I64 n) (s : ByteArray) (most : Int) (hm : I64 most) (w : World) (hT : Tb w) (hE : Er w) (h : IntsAt ao l w) :
    Calls Tryd.prog 6 #[.slice ao l.length c, .string s, .int .i64 most] w fun e w' => e = .returned (.bool true) ∧ Below w.heap.size w w' := by
  have HT := Lib.hid hT
  have HE := Lib.hid hE
  have LV := Lib.hid (fun W hT hE => live_any W hT hE)
  have HB0 := Lib.hid (bref w)
  have HA := Lib.hid h
  obtain ⟨n, hn⟩ : ∃ n, l.length = n := ⟨_, rfl⟩
  rw [hn]
  by_cases hl : 500 < n
  · have hlz : (500 : Int) < (n : Int) := by omega
    clear hT hE hl hs h hn hm
    go_enter Tryd.func6, Tryd.ntmps6
    go_wp2_with fail
    with_reducible refine (LV.out _ (HT.out.keep HB0.out) (HE.out.keep HB0.out)).mono ?_
    rintro e w1 ⟨rfl, q1⟩
    have HB1 := Lib.hid (btr HB0.out q1)
    clear q1
    go_wp2_with fail
    go_ret
    exact ⟨rfl, HB1.out⟩
  · have hlz : ¬ (500 : Int) < (n : Int) := by omega
    by_cases hl2 : 5000 < s.size
    · have hl2z : (5000 : Int) < (s.size : Int) := by omega
      clear hT hE hl hl2 hs h hn hm
      go_enter Tryd.func6, Tryd.ntmps6
      go_wp2_with fail
      with_reducible refine (LV.out _ (HT.out.keep HB0.out) (HE.out.keep HB0.out)).mono ?_
      rintro e w1 ⟨rfl, q1⟩
      have HB1 := Lib.hid (btr HB0.out q1)
      clear q1
      go_wp2_with fail
      go_ret
      exact ⟨rfl, HB1.out⟩
    · have hl2z : ¬ (5000 : Int) < (s.size : Int) := by omega
      have M0 := fun W hE => mtakeints s most (by omega) hm W hE
      have R0 := fun W => rtakeints s most (by omega) hm W
      have I0 := fun W hT hA => mints ao l c (by omega) hs W hT hA
      have J0 := fun W hA => rints ao l c (by omega) hs W hA
      obtain ⟨E, hE2⟩ : ∃ E, tkE (byt s) most = E := ⟨_, rfl⟩
      have hu : (tkV (byt s) most).length ≤ 5000 := by
        have h1 := (unp_sizes _ (byt s) rfl).1
        have h2 := (tks_len (unp (byt s)).2).1
        rw [byt_len] at h1
        unfold tkV
        split
        · split
          · simp
          · omega
        · simp
      obtain ⟨x, hx⟩ : ∃ x, tkV (byt s) most = x := ⟨_, rfl⟩
      rw [hE2, hx] at M0 R0
      rw [hx] at hu
      obtain ⟨D, hD⟩ : ∃ D, str (encI l) = D := ⟨_, rfl⟩
      rw [hD, hn] at I0 J0
      obtain ⟨m, hm2⟩ : ∃ m, x.length = m := ⟨_, rfl⟩
      have S0 : ∀ ao bo ca cb W, IntsAt ao x W → IntsAt bo x W → Calls Tryd.prog 24 #[.slice ao m ca, .slice bo m cb] W fun e w' => e = .returned (.bool true) ∧ Below W.heap.size W w' := fun ao bo ca cb W h1 h2 => by
        have := rsameI ao bo x x ca cb (by omega) (by omega) W h1 h2
        rw [decide_eq_true (show x = x from rfl), hm2] at this
        exact this
      have HM := Lib.hid M0
      have HR := Lib.hid R0
      have HI := Lib.hid I0
      have HJ := Lib.hid J0
      have HS := Lib.hid S0
      have HN := Lib.hid hm2
      clear hT hE hl hl2 hs h hn hm M0 R0 I0 J0 S0 hm2 hE2 hx hu hD
      go_enter Tryd.func6, Tryd.ntmps6
      go_wp2_with fail
      with_reducible refine (HM.out _ HE.out).mono ?_
      rintro e w1 ⟨ao1, c1, he, hA, q1⟩
      rw [HN.out] at he
      subst he
      have HA1 := Lib.hid hA
      have HB1 := Lib.hid q1
      clear hA q1
      go_wp2_with fail
      with_reducible refine (HR.out _).mono ?_
      rintro e w2 ⟨ao2, c2, he, hA, q2⟩
      rw [HN.out] at he
      subst he
      have HA2 := Lib.hid (HA1.out.keep q2)
      have HA3 := Lib.hid hA
      have HB2 := Lib.hid (btr HB1.out q2)
      clear hA q2
      go_wp2_with fail
      with_reducible refine (HI.out _ (HT.out.keep HB2.out) (HA.out.keep HB2.out)).mono ?_
      rintro e w3 ⟨rfl, q3⟩
      have HB3 := Lib.hid (btr HB2.out q3)
      have HA4 := Lib.hid (HA2.out.keep q3)
      have HA5 := Lib.hid (HA3.out.keep q3)
      clear q3
      go_wp2_with fail
      with_reducible refine (HJ.out _ (HA.out.keep HB3.out)).mono ?_
      rintro e w4 ⟨rfl, q4⟩
      have HB4 := Lib.hid (btr HB3.out q4)
      have HA6 := Lib.hid (HA4.out.keep q4)
      have HA7 := Lib.hid (HA5.out.keep q4)
      clear q4
      go_wp2_with fail
      with_reducible refine (HS.out _ _ _ _ _ HA6.out HA7.out).mono ?_
      rintro e w5 ⟨rfl, q5⟩
      have HB5 := Lib.hid (btr HB4.out q5)
      clear q5
      go_wp2_with fail
      with_reducible refine (LV.out _ (HT.out.keep HB5.out) (HE.out.keep HB5.out)).mono ?_
      rintro e w6 ⟨rfl, q6⟩
      have HB6 := Lib.hid (btr HB5.out q6)
      clear q6
      go_wp2_with fail
      go_ret
      exact ⟨rfl, HB6.out⟩
end Go.Proofs.YtlgplhekiemeoaaDoor
