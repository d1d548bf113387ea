/-
  The contract of package money's Parse.
-/
import Derived.Test.YtkijbckpfcfcpabDoorMLeaf
import Derived.Test.YtkijbckpfcfcpabDoorShelf
namespace Go.Proofs.YtkijbckpfcfcpabDoor
open Go Go.RowKit Go.Lib WM

theorem pr_arg (l : List UInt8) (d : Int) (h : plB d = false) : prE l d = 1 ∧ prV l d = 0 := by
  have e : prE l d = 1 := by unfold prE; rw [h]; rfl
  exact ⟨e, by unfold prV; rw [e]; rfl⟩
theorem pr_syn (l : List UInt8) (n : Nat) (h : plB n = true) (ho : pOk (digs l) n = false) : prE l n = 2 ∧ prV l n = 0 := by
  have e : prE l n = 2 := by unfold prE; rw [h, if_pos rfl, Int.toNat_natCast, ho]; rfl
  exact ⟨e, by unfold prV; rw [e]; rfl⟩
theorem pr_zero (l : List UInt8) (n : Nat) (h : plB n = true) (ho : pOk (digs l) n = true) (hn : isNeg l = true) (hz : pNum (digs l) n = 0) : prE l n = 2 ∧ prV l n = 0 := by
  have e : prE l n = 2 := by unfold prE; rw [h, if_pos rfl, Int.toNat_natCast, ho, if_pos rfl, hn, hz]; rfl
  exact ⟨e, by unfold prV; rw [e]; rfl⟩
theorem pr_big (l : List UInt8) (n : Nat) (h : plB n = true) (ho : pOk (digs l) n = true) (hb : 1000000000000 < pNum (digs l) n) : prE l n = 6 ∧ prV l n = 0 := by
  have e : prE l n = 6 := by
    unfold prE
    rw [h, if_pos rfl, Int.toNat_natCast, ho, if_pos rfl, show (pNum (digs l) n == 0) = false by rw [beq_eq_false_iff_ne]; omega, Bool.and_false, if_neg (by decide), if_pos hb]
  exact ⟨e, by unfold prV; rw [e]; rfl⟩
theorem pr_good (l : List UInt8) (n : Nat) (h : plB n = true) (ho : pOk (digs l) n = true) (hz : (isNeg l && pNum (digs l) n == 0) = false) (hb : pNum (digs l) n ≤ 1000000000000) : prE l n = 0 ∧ prV l n = signed (isNeg l) (pNum (digs l) n) := by
  have e : prE l n = 0 := by
    unfold prE
    rw [h, if_pos rfl, Int.toNat_natCast, ho, if_pos rfl, hz, if_neg (by decide), if_neg (by omega)]
  exact ⟨e, by unfold prV; rw [if_pos e, Int.toNat_natCast]⟩
theorem trim_len (l : List UInt8) : (digs l).length ≤ l.length := digs_length l

set_option maxRecDepth 100000 in
set_option maxHeartbeats 4000000 in
theorem mparse_yes (s : ByteArray) (n : Nat) (hn : n ≤ 4) (hs : s.size ≤ 9223372036854775807) (w : World) :
    Calls Tryd.prog 25 #[.string s, .int .i64 n] w fun e w' => e = .returned (.tuple #[.int .i64 (prV s.data.toList n), .int .i64 (prE s.data.toList n)]) ∧ Below w.heap.size w w' := by
  have hpl : plB n = true := by unfold plB; simp; omega
  have V := fun W => mdigits n W
  simp only [hpl] at V
  have V := Lib.hid V
  obtain ⟨l, hl⟩ : ∃ l, s.data.toList = l := ⟨_, rfl⟩
  have hsz : l.length = s.size := by rw [← hl]; exact size_list s
  have CP := fun W => Tryd.strings_CutPrefix s ⟨#[45]⟩ W
  rw [hl] at CP
  have e1 : (⟨(Lib.trimPrefix l [45]).toArray⟩ : ByteArray) = str (digs l) := rfl
  have e2 : Lib.hasPrefix l [45] = isNeg l := rfl
  have e3 : (⟨#[45]⟩ : ByteArray).data.toList = [45] := rfl
  rw [e3, e1, e2] at CP
  rw [hl]
  obtain ⟨u, hu⟩ : ∃ u, digs l = u := ⟨_, rfl⟩
  have hul : u.length ≤ s.size := by rw [← hu, ← hsz]; exact digs_length l
  have A1 := fun ho => pr_syn l n hpl (by rw [hu]; exact ho)
  have A2 := fun ho => pr_zero l n hpl (by rw [hu]; exact ho)
  have A3 := fun ho => pr_big l n hpl (by rw [hu]; exact ho)
  have A4 := fun ho => pr_good l n hpl (by rw [hu]; exact ho)
  rw [hu] at CP A2 A3 A4
  obtain ⟨G, hG⟩ : ∃ G, isNeg l = G := ⟨_, rfl⟩
  obtain ⟨RV, hRV⟩ : ∃ x, prV l n = x := ⟨_, rfl⟩
  obtain ⟨RE, hRE⟩ : ∃ x, prE l n = x := ⟨_, rfl⟩
  simp only [hG, hRV, hRE] at CP A1 A2 A3 A4 ⊢
  have CT := fun W => mcut (str u) n hn (by rw [str_size]; omega) W
  rw [str_list] at CT
  have CP := Lib.hid CP
  obtain ⟨U, hU⟩ : ∃ U, str u = U := ⟨_, rfl⟩
  have CP2 := CP.out
  rw [hU] at CP2 CT
  have CP2 := Lib.hid CP2
  clear CP hl hsz e1 e2 e3 hG hRV hRE hu V
  have V := fun W => mdigits n W
  simp only [hpl] at V
  have V := Lib.hid V
  cases hF : pFound u n
  · have HR := A1 (by unfold pOk; rw [hF, Bool.false_and])
    have HR := Lib.hid HR
    rw [hF] at CT
    have CT := Lib.hid CT
    clear A1 A2 A3 A4 hF
    go_enter Tryd.func25, Tryd.ntmps25
    go_wp2_with fail
    refine (V.out _).mono ?_
    rintro e w1 ⟨rfl, rfl⟩
    go_wp2_with fail
    refine (CP2.out _).mono ?_
    rintro e w1 ⟨rfl, rfl⟩
    go_wp2_with fail
    refine (CT.out _).mono ?_
    rintro e w2 ⟨rfl, q2⟩
    go_wp2_with fail
    go_ret2
    exact ⟨by rw [HR.out.1, HR.out.2]; rfl, q2⟩
  · rw [hF] at CT
    simp only [if_pos] at CT
    obtain ⟨WW, hW⟩ : ∃ x, pWhole u n = x := ⟨_, rfl⟩
    obtain ⟨RR, hR⟩ : ∃ x, pFrac u n = x := ⟨_, rfl⟩
    have hWl : WW.length ≤ u.length := by rw [← hW]; unfold pWhole; split; exact Nat.le_refl _; rw [List.length_take]; omega
    have hRl : RR.length ≤ u.length := by rw [← hR]; unfold pFrac; split; simp; rw [List.length_drop]; omega
    have hOk : pOk u n = (shortB WW false && (allDig WW && allDig RR)) := by unfold pOk; rw [hF, hW, hR, Bool.true_and]
    have hNum : pNum u n = dvalA (dvalA 0 WW) RR := by unfold pNum; rw [hW, hR, ← dvalA_app]; rfl
    rw [hW, hR] at CT
    have SH := fun W => mshortest (str WW) (by rw [str_size]; omega) W
    have D1 := fun W => mdecimal (str WW) (by rw [str_size]; omega) W
    have D2 := fun W => mdecimal (str RR) (by rw [str_size]; omega) W
    have K1 := fun ha W => mcapped 0 (str WW) (by rw [str_size]; omega) ha W
    have K2 := fun ha W => mcapped (dvalA 0 WW) (str RR) (by rw [str_size]; omega) ha W
    have c0 : capN 0 = 0 := rfl
    rw [str_list] at SH D1 D2 K1 K2
    rw [c0] at K1
    obtain ⟨X, hX⟩ : ∃ X, str WW = X := ⟨_, rfl⟩
    obtain ⟨Y, hY⟩ : ∃ Y, str RR = Y := ⟨_, rfl⟩
    rw [hX] at SH D1 K1 CT
    rw [hY] at D2 K2 CT
    have CT := Lib.hid CT
    clear hX hY hW hR hWl hRl hF c0
    cases hS : shortB WW false
    · have HR := Lib.hid (A1 (by rw [hOk, hS, Bool.false_and]))
      rw [hS] at SH
      have SH := Lib.hid SH
      clear A1 A2 A3 A4 hOk hNum D1 D2 K1 K2 hS
      go_enter Tryd.func25, Tryd.ntmps25
      go_wp2_with fail
      refine (V.out _).mono ?_
      rintro e w1 ⟨rfl, rfl⟩
      go_wp2_with fail
      refine (CP2.out _).mono ?_
      rintro e w1 ⟨rfl, rfl⟩
      go_wp2_with fail
      refine (CT.out _).mono ?_
      rintro e w2 ⟨rfl, q2⟩
      go_wp2_with fail
      refine (SH.out _).mono ?_
      rintro e w3 ⟨rfl, rfl⟩
      go_wp2_with fail
      go_ret2
      exact ⟨by rw [HR.out.1, HR.out.2]; rfl, q2⟩
    · rw [hS] at SH
      have SH := Lib.hid SH
      cases hD1 : allDig WW
      · have HR := Lib.hid (A1 (by rw [hOk, hS, hD1, Bool.false_and, Bool.and_false]))
        rw [hD1] at D1
        have D1 := Lib.hid D1
        clear A1 A2 A3 A4 hOk hNum D2 K1 K2 hS hD1
        go_enter Tryd.func25, Tryd.ntmps25
        go_wp2_with fail
        refine (V.out _).mono ?_
        rintro e w1 ⟨rfl, rfl⟩
        go_wp2_with fail
        refine (CP2.out _).mono ?_
        rintro e w1 ⟨rfl, rfl⟩
        go_wp2_with fail
        refine (CT.out _).mono ?_
        rintro e w2 ⟨rfl, q2⟩
        go_wp2_with fail
        refine (SH.out _).mono ?_
        rintro e w3 ⟨rfl, rfl⟩
        go_wp2_with fail
        refine (D1.out _).mono ?_
        rintro e w3 ⟨rfl, rfl⟩
        go_wp2_with fail
        go_ret2
        exact ⟨by rw [HR.out.1, HR.out.2]; rfl, q2⟩
      · have K1 := Lib.hid (K1 hD1)
        rw [hD1] at D1
        have D1 := Lib.hid D1
        cases hD2 : allDig RR
        · have HR := Lib.hid (A1 (by rw [hOk, hS, hD1, hD2, Bool.and_false, Bool.and_false]))
          rw [hD2] at D2
          have D2 := Lib.hid D2
          clear A1 A2 A3 A4 hOk hNum K2 hS hD1 hD2
          go_enter Tryd.func25, Tryd.ntmps25
          go_wp2_with fail
          refine (V.out _).mono ?_
          rintro e w1 ⟨rfl, rfl⟩
          go_wp2_with fail
          refine (CP2.out _).mono ?_
          rintro e w1 ⟨rfl, rfl⟩
          go_wp2_with fail
          refine (CT.out _).mono ?_
          rintro e w2 ⟨rfl, q2⟩
          go_wp2_with fail
          refine (SH.out _).mono ?_
          rintro e w3 ⟨rfl, rfl⟩
          go_wp2_with fail
          refine (D1.out _).mono ?_
          rintro e w3 ⟨rfl, rfl⟩
          go_wp2_with fail
          refine (D2.out _).mono ?_
          rintro e w3 ⟨rfl, rfl⟩
          go_wp2_with fail
          go_ret2
          exact ⟨by rw [HR.out.1, HR.out.2]; rfl, q2⟩
        · have K2 := K2 hD2
          rw [← hNum] at K2
          have hok : pOk u n = true := by rw [hOk, hS, hD1, hD2]; rfl
          have A2 := A2 hok; have A3 := A3 hok; have A4 := A4 hok
          obtain ⟨N, hN⟩ : ∃ N, pNum u n = N := ⟨_, rfl⟩
          rw [hN] at K2 A2 A3 A4
          rw [hD2] at D2
          have D2 := Lib.hid D2; have K2 := Lib.hid K2
          clear hN hok hOk hNum hS hD1 hD2 A1
          by_cases hz : N = 0
          · subst hz
            have c0 : capN 0 = 0 := rfl
            rw [c0] at K2
            have VA := fun W => mvalid 0 W
            have a0 : amtB 0 = true := rfl
            rw [a0] at VA
            have VA := Lib.hid VA
            clear c0 a0
            cases hg : G
            · subst hg
              have HR := Lib.hid (A4 rfl (by omega))
              clear A2 A3 A4
              go_enter Tryd.func25, Tryd.ntmps25
              go_wp2_with fail
              refine (V.out _).mono ?_
              rintro e w1 ⟨rfl, rfl⟩
              go_wp2_with fail
              refine (CP2.out _).mono ?_
              rintro e w1 ⟨rfl, rfl⟩
              go_wp2_with fail
              refine (CT.out _).mono ?_
              rintro e w2 ⟨rfl, q2⟩
              go_wp2_with fail
              refine (SH.out _).mono ?_
              rintro e w3 ⟨rfl, rfl⟩
              go_wp2_with fail
              refine (D1.out _).mono ?_
              rintro e w3 ⟨rfl, rfl⟩
              go_wp2_with fail
              refine (D2.out _).mono ?_
              rintro e w3 ⟨rfl, rfl⟩
              go_wp2_with fail
              refine (K1.out _).mono ?_
              rintro e w3 ⟨rfl, rfl⟩
              go_wp2_with fail
              refine (K2.out _).mono ?_
              rintro e w3 ⟨rfl, rfl⟩
              go_wp2_with fail
              refine (VA.out _).mono ?_
              rintro e w3 ⟨rfl, rfl⟩
              go_wp2_with fail
              go_ret2
              exact ⟨by rw [HR.out.1, HR.out.2]; rfl, q2⟩
            · subst hg
              have HR := Lib.hid (A2 rfl rfl)
              clear A2 A3 A4
              go_enter Tryd.func25, Tryd.ntmps25
              go_wp2_with fail
              refine (V.out _).mono ?_
              rintro e w1 ⟨rfl, rfl⟩
              go_wp2_with fail
              refine (CP2.out _).mono ?_
              rintro e w1 ⟨rfl, rfl⟩
              go_wp2_with fail
              refine (CT.out _).mono ?_
              rintro e w2 ⟨rfl, q2⟩
              go_wp2_with fail
              refine (SH.out _).mono ?_
              rintro e w3 ⟨rfl, rfl⟩
              go_wp2_with fail
              refine (D1.out _).mono ?_
              rintro e w3 ⟨rfl, rfl⟩
              go_wp2_with fail
              refine (D2.out _).mono ?_
              rintro e w3 ⟨rfl, rfl⟩
              go_wp2_with fail
              refine (K1.out _).mono ?_
              rintro e w3 ⟨rfl, rfl⟩
              go_wp2_with fail
              refine (K2.out _).mono ?_
              rintro e w3 ⟨rfl, rfl⟩
              go_wp2_with fail
              go_ret2
              exact ⟨by rw [HR.out.1, HR.out.2]; rfl, q2⟩
          · have A4 := A4 (by rw [show (N == 0) = false by rw [beq_eq_false_iff_ne]; exact hz, Bool.and_false])
            have hzb : (capN N == 0) = false := by rw [beq_eq_false_iff_ne]; unfold capN; split <;> omega
            have hzn : ¬ capN N = 0 := by unfold capN; split <;> omega
            by_cases hb : 1000000000000 < N
            · have HR := Lib.hid (A3 hb)
              have VA := fun W => mvalid (capN N) W
              have a0 : amtB (capN N) = false := by unfold amtB capN; split <;> simp <;> omega
              rw [a0] at VA
              obtain ⟨Z, hZ⟩ : ∃ Z, capN N = Z := ⟨_, rfl⟩
              have K2 := K2.out
              rw [hZ] at K2 VA hzb hzn
              have VA := Lib.hid VA
              have K2 := Lib.hid K2
              clear A2 A3 A4 a0 hZ
              cases hg : G
              all_goals
                subst hg
                go_enter Tryd.func25, Tryd.ntmps25
                go_wp2_with fail
                refine (V.out _).mono ?_
                rintro e w1 ⟨rfl, rfl⟩
                go_wp2_with fail
                refine (CP2.out _).mono ?_
                rintro e w1 ⟨rfl, rfl⟩
                go_wp2_with fail
                refine (CT.out _).mono ?_
                rintro e w2 ⟨rfl, q2⟩
                go_wp2_with fail
                refine (SH.out _).mono ?_
                rintro e w3 ⟨rfl, rfl⟩
                go_wp2_with fail
                refine (D1.out _).mono ?_
                rintro e w3 ⟨rfl, rfl⟩
                go_wp2_with fail
                refine (D2.out _).mono ?_
                rintro e w3 ⟨rfl, rfl⟩
                go_wp2_with fail
                refine (K1.out _).mono ?_
                rintro e w3 ⟨rfl, rfl⟩
                go_wp2_with fail
                refine (K2.out _).mono ?_
                rintro e w3 ⟨rfl, rfl⟩
                go_wp2_with fail
                refine (VA.out _).mono ?_
                rintro e w3 ⟨rfl, rfl⟩
                go_wp2_with fail
                go_ret2
                exact ⟨by rw [HR.out.1, HR.out.2]; rfl, q2⟩
            · have HR := A4 (by omega)
              have VA := fun W => mvalid (capN N) W
              have a0 : amtB (capN N) = true := by unfold amtB capN; split <;> simp <;> omega
              have hcap : capN N = N := by unfold capN; split <;> omega
              rw [a0] at VA
              have K2 := K2.out
              rw [hcap] at K2 VA hzb hzn
              have VA := Lib.hid VA
              have K2 := Lib.hid K2
              have hN1 : (N : Int) ≤ 1000000000000 := by omega
              clear A2 A3 A4 a0 hcap
              cases hg : G
              · subst hg
                have HR : Hid (RE = 0 ∧ RV = N) := Lib.hid (by rw [HR.1, HR.2]; unfold signed; rw [if_neg (by decide)]; exact ⟨rfl, rfl⟩)
                go_enter Tryd.func25, Tryd.ntmps25
                go_wp2_with fail
                refine (V.out _).mono ?_
                rintro e w1 ⟨rfl, rfl⟩
                go_wp2_with fail
                refine (CP2.out _).mono ?_
                rintro e w1 ⟨rfl, rfl⟩
                go_wp2_with fail
                refine (CT.out _).mono ?_
                rintro e w2 ⟨rfl, q2⟩
                go_wp2_with fail
                refine (SH.out _).mono ?_
                rintro e w3 ⟨rfl, rfl⟩
                go_wp2_with fail
                refine (D1.out _).mono ?_
                rintro e w3 ⟨rfl, rfl⟩
                go_wp2_with fail
                refine (D2.out _).mono ?_
                rintro e w3 ⟨rfl, rfl⟩
                go_wp2_with fail
                refine (K1.out _).mono ?_
                rintro e w3 ⟨rfl, rfl⟩
                go_wp2_with fail
                refine (K2.out _).mono ?_
                rintro e w3 ⟨rfl, rfl⟩
                go_wp2_with fail
                refine (VA.out _).mono ?_
                rintro e w3 ⟨rfl, rfl⟩
                go_wp2_with fail
                go_ret2
                exact ⟨by rw [HR.out.1, HR.out.2]; rfl, q2⟩
              · subst hg
                have HR : Hid (RE = 0 ∧ RV = -(N : Int)) := Lib.hid (by rw [HR.1, HR.2]; unfold signed; rw [if_pos rfl]; exact ⟨rfl, rfl⟩)
                go_enter Tryd.func25, Tryd.ntmps25
                go_wp2_with fail
                refine (V.out _).mono ?_
                rintro e w1 ⟨rfl, rfl⟩
                go_wp2_with fail
                refine (CP2.out _).mono ?_
                rintro e w1 ⟨rfl, rfl⟩
                go_wp2_with fail
                refine (CT.out _).mono ?_
                rintro e w2 ⟨rfl, q2⟩
                go_wp2_with fail
                refine (SH.out _).mono ?_
                rintro e w3 ⟨rfl, rfl⟩
                go_wp2_with fail
                refine (D1.out _).mono ?_
                rintro e w3 ⟨rfl, rfl⟩
                go_wp2_with fail
                refine (D2.out _).mono ?_
                rintro e w3 ⟨rfl, rfl⟩
                go_wp2_with fail
                refine (K1.out _).mono ?_
                rintro e w3 ⟨rfl, rfl⟩
                go_wp2_with fail
                refine (K2.out _).mono ?_
                rintro e w3 ⟨rfl, rfl⟩
                go_wp2_with fail
                refine (VA.out _).mono ?_
                rintro e w3 ⟨rfl, rfl⟩
                go_wp2_with fail
                go_ret2
                exact ⟨by rw [HR.out.1, HR.out.2]; rfl, q2⟩

theorem mparse (s : ByteArray) (d : Int) (hs : s.size ≤ 9223372036854775807) (w : World) :
    Calls Tryd.prog 25 #[.string s, .int .i64 d] w fun e w' => e = .returned (.tuple #[.int .i64 (prV s.data.toList d), .int .i64 (prE s.data.toList d)]) ∧ Below w.heap.size w w' := by
  cases hp : plB d
  · have HR := Lib.hid (pr_arg s.data.toList d hp)
    have V := fun W => mdigits d W
    simp only [hp] at V
    have V := Lib.hid V
    clear hp
    go_enter Tryd.func25, Tryd.ntmps25
    go_wp2_with fail
    refine (V.out _).mono ?_
    rintro e w1 ⟨rfl, rfl⟩
    go_wp2_with fail
    go_ret2
    exact ⟨by rw [HR.out.1, HR.out.2]; rfl, bref _⟩
  · have hd : 0 ≤ d ∧ d ≤ 4 := by simpa [plB] using hp
    obtain ⟨n, rfl⟩ : ∃ n : Nat, d = n := ⟨d.toNat, by omega⟩
    exact mparse_yes s n (by omega) hs w
end Go.Proofs.YtkijbckpfcfcpabDoor
