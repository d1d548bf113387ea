/-
  Contracts of package calendar's validName and Check, and of the document's own Same.
-/
import Derived.Test.YtgljaopnehdgdaaDoorCP
namespace Go.Proofs.YtgljaopnehdgdaaDoor
open Go Go.RowKit Go.Lib WM

theorem name_no (l : List UInt8) (h : l.length < 1 ∨ 16 < l.length) : nameB l = false := by
  unfold nameB
  rw [decide_eq_false (by omega)]; rfl
theorem name_in (l : List UInt8) (h : 1 ≤ l.length) (h2 : l.length ≤ 16) : nameB l = (letB (l.getD 0 0) && l.all nmC) := by
  unfold nameB
  rw [decide_eq_true (by omega), Bool.true_and]
theorem first_s (s : ByteArray) (h : 0 < s.size) : s.data.toList.getD 0 0 = s[0] := by
  have := drop_s s 0 h
  rw [List.drop_zero] at this
  rw [this]; rfl

set_option maxRecDepth 100000 in
set_option maxHeartbeats 1000000 in
theorem mname (s : ByteArray) (w : World) : Calls Tryd.prog 33 #[.string s] w fun e w' => e = .returned (.bool (nameB s.data.toList)) ∧ w = w' := by
  obtain ⟨R, hR⟩ : ∃ R, nameB s.data.toList = R := ⟨_, rfl⟩
  rw [hR]
  by_cases h1 : s.size < 1
  · have HR : Hid (R = false) := Lib.hid (by rw [← hR]; exact name_no _ (by rw [size_list]; omega))
    have h1z : (s.size : Int) < 1 := by omega
    clear hR
    go_enter Tryd.func33, Tryd.ntmps33
    go_wp2_with fail
    go_ret
    exact ⟨by rw [HR.out]; rfl, rfl⟩
  · have h1z : ¬ (s.size : Int) < 1 := by omega
    by_cases h2 : 16 < s.size
    · have HR : Hid (R = false) := Lib.hid (by rw [← hR]; exact name_no _ (by rw [size_list]; omega))
      have h2z : (16 : Int) < (s.size : Int) := by omega
      clear hR
      go_enter Tryd.func33, Tryd.ntmps33
      go_wp2_with fail
      go_ret
      exact ⟨by rw [HR.out]; rfl, rfl⟩
    · have h2z : ¬ (16 : Int) < (s.size : Int) := by omega
      have h0 : 0 < s.size := by omega
      rw [name_in _ (by rw [size_list]; omega) (by rw [size_list]; omega), first_s s h0] at hR
      have CL := fun W => mletter s[0] W
      cases hl : letB s[0]
      · have HR : Hid (R = false) := Lib.hid (by rw [← hR, hl]; rfl)
        rw [hl] at CL
        have CL := Lib.hid CL
        clear hR hl
        go_enter Tryd.func33, Tryd.ntmps33
        go_wp2_with fail
        refine (CL.out _).mono ?_
        rintro e w1 ⟨rfl, rfl⟩
        go_wp2_with fail
        go_ret
        exact ⟨by rw [HR.out]; rfl, rfl⟩
      · have HR : Hid (s.data.toList.all nmC = R) := Lib.hid (by rw [← hR, hl]; rfl)
        rw [hl] at CL
        have CL := Lib.hid CL
        have CM := Lib.hid (fun c W => mletter c W)
        clear hR hl
        go_enter Tryd.func33, Tryd.ntmps33
        go_wp2_with fail
        refine (CL.out _).mono ?_
        rintro e w1 ⟨rfl, rfl⟩
        go_wp2_with fail
        go_loopw [20] (fun i wr => ∃ k : Nat, k ≤ s.size ∧ i = .int .i64 k ∧ (s.data.toList.drop k).all nmC = R ∧ wr = w) (fun i _ => s.size - (RowKit.intOf i).toNat)
        case atStart => exact ⟨0, by omega, rfl, by rw [List.drop_zero]; exact HR.out, rfl⟩
        case round =>
          clear HR CL
          obtain ⟨k, hk, rfl, hh, rfl⟩ := hrel
          by_cases hlt : k < s.size
          · have hkz : (k : Int) < (s.size : Int) := by omega
            rw [drop_s s k hlt, List.all_cons] at hh
            have CC := fun W => CM.out s[k] W
            obtain ⟨c, hc⟩ : ∃ c : Nat, s[k].toNat = c := ⟨_, rfl⟩
            have hNM : nmC s[k] = (letB s[k] || (decide (48 ≤ c ∧ c ≤ 57) || decide (c = 95))) := by unfold nmC; rw [hc]
            have hc8 : c < 256 := by rw [← hc]; exact s[k].toNat_lt
            rw [hc] at CC
            cases hlk : letB s[k]
            · rw [hlk] at CC hNM
              have CC := Lib.hid CC
              have go : (∀ b, nmC s[k] = b → (b && (s.data.toList.drop (k + 1)).all nmC) = R) := fun b e => by rw [← e]; exact hh
              by_cases n1 : c < 48
              · by_cases n2 : c = 95
                · omega
                · have HRR : Hid (R = false) := Lib.hid (by
                    rw [← go false (by rw [hNM, decide_eq_false (by omega), decide_eq_false (by omega)]; rfl)]; rfl)
                  have n1z : (c : Int) < 48 := by omega
                  have n2z : ((c : Int) == 95) = false := by rw [beq_eq_false_iff_ne]; omega
                  clear hh hNM go hlk
                  go_wp2_with fail
                  refine (CC.out _).mono ?_
                  rintro e w1 ⟨rfl, rfl⟩
                  go_wp2_with fail
                  go_ret
                  exact ⟨by rw [HRR.out]; rfl, rfl⟩
              · by_cases n3 : 57 < c
                · by_cases n2 : c = 95
                  · have HN : Hid ((s.data.toList.drop (k + 1)).all nmC = R) := Lib.hid (by
                      have := go true (by rw [hNM, decide_eq_true n2]; simp)
                      rw [Bool.true_and] at this; exact this)
                    clear hh hNM go hlk
                    subst n2
                    go_wp2_with fail
                    refine (CC.out _).mono ?_
                    rintro e w1 ⟨rfl, rfl⟩
                    go_wp2_with fail
                    go_roundw
                    case rel => exact ⟨k + 1, hlt, by go_num, HN.out, by first | trivial | rfl⟩
                    case measure => simp [RowKit.intOf]; omega
                  · have HRR : Hid (R = false) := Lib.hid (by
                      rw [← go false (by rw [hNM, decide_eq_false (by omega), decide_eq_false (by omega)]; rfl)]; rfl)
                    have n1z : ¬ (c : Int) < 48 := by omega
                    have n3z : (57 : Int) < (c : Int) := by omega
                    have n2z : ((c : Int) == 95) = false := by rw [beq_eq_false_iff_ne]; omega
                    have n2y : ¬ (c : Int) = 95 := by omega
                    clear hh hNM go hlk
                    go_wp2_with fail
                    refine (CC.out _).mono ?_
                    rintro e w1 ⟨rfl, rfl⟩
                    go_wp2_with fail
                    go_ret
                    exact ⟨by rw [HRR.out]; rfl, rfl⟩
                · have HN : Hid ((s.data.toList.drop (k + 1)).all nmC = R) := Lib.hid (by
                    have := go true (by rw [hNM, decide_eq_true (by omega : 48 ≤ c ∧ c ≤ 57)]; simp)
                    rw [Bool.true_and] at this; exact this)
                  have n1z : ¬ (c : Int) < 48 := by omega
                  have n3z : ¬ (57 : Int) < (c : Int) := by omega
                  clear hh hNM go hlk
                  go_wp2_with fail
                  refine (CC.out _).mono ?_
                  rintro e w1 ⟨rfl, rfl⟩
                  go_wp2_with fail
                  go_roundw
                  case rel => exact ⟨k + 1, hlt, by go_num, HN.out, by first | trivial | rfl⟩
                  case measure => simp [RowKit.intOf]; omega
            · rw [hlk] at CC hNM
              have CC := Lib.hid CC
              have HN : Hid ((s.data.toList.drop (k + 1)).all nmC = R) := Lib.hid (by
                rw [hNM, Bool.true_or, Bool.true_and] at hh; exact hh)
              clear hh hNM hlk
              go_wp2_with fail
              refine (CC.out _).mono ?_
              rintro e w1 ⟨rfl, rfl⟩
              go_wp2_with fail
              go_roundw
              case rel => exact ⟨k + 1, hlt, by go_num, HN.out, by first | trivial | rfl⟩
              case measure => simp [RowKit.intOf]; omega
          · have he : k = s.size := by omega
            subst he
            have HRR : Hid (R = true) := Lib.hid (by rw [← hh, ← size_list, List.drop_length]; rfl)
            clear hh
            go_wp2_with fail
            go_ret
            exact ⟨by rw [HRR.out]; rfl, rfl⟩

set_option maxRecDepth 100000 in
set_option maxHeartbeats 1000000 in
theorem mCheck (nm : ByteArray) (wo hp : Option Addr) (wc hc : Nat) (we ho : List Int) (w : World) (hc0 : CalAt wo hp we ho w) :
    Calls Tryd.prog 12 #[.agg #[.string nm, .slice wo we.length wc, .slice hp ho.length hc]] w fun e w' => e = .returned (.int .i64 (ckE nm.data.toList we ho)) ∧ Below w.heap.size w w' := by
  obtain ⟨R, hR⟩ : ∃ R, ckE nm.data.toList we ho = R := ⟨_, rfl⟩
  rw [hR]
  unfold ckE at hR
  have hwl := hc0.wl
  have hhl := hc0.hl
  have HC := Lib.hid hc0
  have HX := Lib.hid (box_new nm wo hp wc hc we ho w)
  have CN := fun W => mname nm W
  have CW := fun W h => mwithin wo wc we 6 W hwl h
  have CA := fun W h => mascend wo wc we W hwl h
  have CH := fun W h => mwithin hp hc ho 73048 W hhl h
  have CB := fun W h => mascend hp hc ho W hhl h
  clear hc0
  cases hn : nameB nm.data.toList
  · rw [hn] at hR CN
    have HR : Hid (R = 4) := Lib.hid (by rw [← hR]; rfl)
    have CN := Lib.hid CN
    clear hR hn CW CA CH CB
    go_enter Tryd.func12, Tryd.ntmps12
    go_wp2_with fail
    refine (CN.out _).mono ?_
    rintro e w1 ⟨rfl, rfl⟩
    go_wp2_with fail
    go_ret
    exact ⟨by rw [HR.out]; rfl, bal (bref _) _⟩
  · rw [hn, if_pos rfl] at hR
    rw [hn] at CN
    have CN := Lib.hid CN
    clear hn
    by_cases hw6 : 7 ≤ we.length
    · have HR : Hid (R = 1) := Lib.hid (by
        rw [← hR, if_neg]
        unfold wkB
        rw [decide_eq_false (by omega)]; simp)
      have h7 : (7 : Int) ≤ (we.length : Int) := by omega
      clear hR CW CA CH CB
      go_enter Tryd.func12, Tryd.ntmps12
      go_wp2_with fail
      refine (CN.out _).mono ?_
      rintro e w1 ⟨rfl, rfl⟩
      go_wp2_with fail
      go_ret
      exact ⟨by rw [HR.out]; rfl, bal (bref _) _⟩
    · have h7 : ¬ (7 : Int) ≤ (we.length : Int) := by omega
      have hwk : wkB we = (we.all (inB 6) && risesB we) := by unfold wkB; rw [decide_eq_true (by omega), Bool.true_and]
      rw [hwk] at hR
      cases hi : we.all (inB 6)
      · rw [hi] at hR CW
        have HR : Hid (R = 1) := Lib.hid (by rw [← hR]; rfl)
        have CW := Lib.hid CW
        clear hR hi hwk CA CH CB
        go_enter Tryd.func12, Tryd.ntmps12
        go_wp2_with fail
        refine (CN.out _).mono ?_
        rintro e w1 ⟨rfl, rfl⟩
        go_wp2_with fail
        refine (CW.out _ (HC.out.wk.keep (bal (bref _) _))).mono ?_
        rintro e w1 ⟨rfl, rfl⟩
        go_wp2_with fail
        go_ret
        exact ⟨by rw [HR.out]; rfl, bal (bref _) _⟩
      · rw [hi, Bool.true_and] at hR
        rw [hi] at CW
        have CW := Lib.hid CW
        clear hi hwk
        cases hr : risesB we
        · rw [hr] at hR CA
          have HR : Hid (R = 1) := Lib.hid (by rw [← hR]; rfl)
          have CA := Lib.hid CA
          clear hR hr CH CB
          go_enter Tryd.func12, Tryd.ntmps12
          go_wp2_with fail
          refine (CN.out _).mono ?_
          rintro e w1 ⟨rfl, rfl⟩
          go_wp2_with fail
          refine (CW.out _ (HC.out.wk.keep (bal (bref _) _))).mono ?_
          rintro e w1 ⟨rfl, rfl⟩
          go_wp2_with fail
          refine (CA.out _ (HC.out.wk.keep (bal (bref _) _))).mono ?_
          rintro e w1 ⟨rfl, n, rfl⟩
          go_wp2_with fail
          go_ret
          exact ⟨by rw [HR.out]; rfl, bdn (bal (bref _) _) _⟩
        · rw [hr, if_pos rfl] at hR
          rw [hr] at CA
          have CA := Lib.hid CA
          clear hr
          by_cases h4 : ho.length ≤ 400
          · rw [if_pos h4] at hR
            have h4z : ¬ (400 : Int) < (ho.length : Int) := by omega
            cases hj : ho.all (inB 73048)
            · rw [hj] at hR CH
              have HR : Hid (R = 1) := Lib.hid (by rw [← hR]; rfl)
              have CH := Lib.hid CH
              clear hR hj CB
              go_enter Tryd.func12, Tryd.ntmps12
              go_wp2_with fail
              refine (CN.out _).mono ?_
              rintro e w1 ⟨rfl, rfl⟩
              go_wp2_with fail
              refine (CW.out _ (HC.out.wk.keep (bal (bref _) _))).mono ?_
              rintro e w1 ⟨rfl, rfl⟩
              go_wp2_with fail
              refine (CA.out _ (HC.out.wk.keep (bal (bref _) _))).mono ?_
              rintro e w1 ⟨rfl, n, rfl⟩
              go_wp2_with fail
              refine (CH.out _ (HC.out.hd.keep (bdn (bal (bref _) _) _))).mono ?_
              rintro e w1 ⟨rfl, rfl⟩
              go_wp2_with fail
              go_ret
              exact ⟨by rw [HR.out]; rfl, bdn (bal (bref _) _) _⟩
            · rw [hj, if_pos rfl] at hR
              rw [hj] at CH
              have CH := Lib.hid CH
              clear hj
              cases hs : risesB ho
              · rw [hs] at hR CB
                have HR : Hid (R = 10) := Lib.hid (by rw [← hR]; rfl)
                have CB := Lib.hid CB
                clear hR hs
                go_enter Tryd.func12, Tryd.ntmps12
                go_wp2_with fail
                refine (CN.out _).mono ?_
                rintro e w1 ⟨rfl, rfl⟩
                go_wp2_with fail
                refine (CW.out _ (HC.out.wk.keep (bal (bref _) _))).mono ?_
                rintro e w1 ⟨rfl, rfl⟩
                go_wp2_with fail
                refine (CA.out _ (HC.out.wk.keep (bal (bref _) _))).mono ?_
                rintro e w1 ⟨rfl, n, rfl⟩
                go_wp2_with fail
                refine (CH.out _ (HC.out.hd.keep (bdn (bal (bref _) _) _))).mono ?_
                rintro e w1 ⟨rfl, rfl⟩
                go_wp2_with fail
                refine (CB.out _ (HC.out.hd.keep (bdn (bal (bref _) _) _))).mono ?_
                rintro e w1 ⟨rfl, n2, rfl⟩
                go_wp2_with fail
                go_ret
                exact ⟨by rw [HR.out]; rfl, by first | exact bdn (bal (bref _) _) _ | exact bdn (bdn (bal (bref _) _) _) _⟩
              · rw [hs] at hR CB
                have HR : Hid (R = 0) := Lib.hid (by rw [← hR]; rfl)
                have CB := Lib.hid CB
                clear hR hs
                go_enter Tryd.func12, Tryd.ntmps12
                go_wp2_with fail
                refine (CN.out _).mono ?_
                rintro e w1 ⟨rfl, rfl⟩
                go_wp2_with fail
                refine (CW.out _ (HC.out.wk.keep (bal (bref _) _))).mono ?_
                rintro e w1 ⟨rfl, rfl⟩
                go_wp2_with fail
                refine (CA.out _ (HC.out.wk.keep (bal (bref _) _))).mono ?_
                rintro e w1 ⟨rfl, n, rfl⟩
                go_wp2_with fail
                refine (CH.out _ (HC.out.hd.keep (bdn (bal (bref _) _) _))).mono ?_
                rintro e w1 ⟨rfl, rfl⟩
                go_wp2_with fail
                refine (CB.out _ (HC.out.hd.keep (bdn (bal (bref _) _) _))).mono ?_
                rintro e w1 ⟨rfl, n2, rfl⟩
                go_wp2_with fail
                go_ret
                exact ⟨by rw [HR.out]; rfl, by first | exact bdn (bal (bref _) _) _ | exact bdn (bdn (bal (bref _) _) _) _⟩
          · rw [if_neg h4] at hR
            have HR : Hid (R = 5) := Lib.hid (by rw [← hR])
            have h4z : (400 : Int) < (ho.length : Int) := by omega
            clear hR CH CB
            go_enter Tryd.func12, Tryd.ntmps12
            go_wp2_with fail
            refine (CN.out _).mono ?_
            rintro e w1 ⟨rfl, rfl⟩
            go_wp2_with fail
            refine (CW.out _ (HC.out.wk.keep (bal (bref _) _))).mono ?_
            rintro e w1 ⟨rfl, rfl⟩
            go_wp2_with fail
            refine (CA.out _ (HC.out.wk.keep (bal (bref _) _))).mono ?_
            rintro e w1 ⟨rfl, n, rfl⟩
            go_wp2_with fail
            go_ret
            exact ⟨by rw [HR.out]; rfl, bdn (bal (bref _) _) _⟩

def sameB (nm n2 : ByteArray) (we we2 ho ho2 : List Int) : Bool := (nm.toList == n2.toList) && (decide (we = we2) && decide (ho = ho2))

set_option maxRecDepth 100000 in
set_option maxHeartbeats 1000000 in
theorem rSame (nm n2 : ByteArray) (wo hp wo2 hp2 : Option Addr) (wc hc wc2 hc2 : Nat) (we ho we2 ho2 : List Int) (w : World) (hA : CalAt wo hp we ho w) (hB : CalAt wo2 hp2 we2 ho2 w) :
    Calls Tryd.prog 16 #[.agg #[.string nm, .slice wo we.length wc, .slice hp ho.length hc], .agg #[.string n2, .slice wo2 we2.length wc2, .slice hp2 ho2.length hc2]] w fun e w' => e = .returned (.bool (sameB nm n2 we we2 ho ho2)) ∧ Below w.heap.size w w' := by
  obtain ⟨R, hR⟩ : ∃ R, sameB nm n2 we we2 ho ho2 = R := ⟨_, rfl⟩
  rw [hR]
  unfold sameB at hR
  have HA := Lib.hid hA
  have HB := Lib.hid hB
  have C1 := fun W hx hy => rints wo wo2 wc wc2 we we2 W hA.wl hB.wl hx hy
  have C2 := fun W hx hy => rints hp hp2 hc hc2 ho ho2 W hA.hl hB.hl hx hy
  clear hA hB
  cases h1 : (nm.toList == n2.toList)
  · have HR : Hid (R = false) := Lib.hid (by rw [← hR, h1]; rfl)
    clear hR C1 C2
    go_enter Tryd.func16, Tryd.ntmps16
    go_wp2_with fail
    go_ret
    exact ⟨by rw [HR.out]; rfl, bal (bal (bref _) _) _⟩
  · rw [h1, Bool.true_and] at hR
    cases h2 : decide (we = we2)
    · have HR : Hid (R = false) := Lib.hid (by rw [← hR, h2]; rfl)
      rw [h2] at C1
      have C1 := Lib.hid C1
      clear hR C2 h2
      go_enter Tryd.func16, Tryd.ntmps16
      go_wp2_with fail
      refine (C1.out _ (HA.out.wk.keep (bal (bal (bref _) _) _)) (HB.out.wk.keep (bal (bal (bref _) _) _))).mono ?_
      rintro e w1 ⟨rfl, n, rfl⟩
      go_wp2_with fail
      go_ret
      exact ⟨by rw [HR.out]; rfl, bdn (bal (bal (bref _) _) _) _⟩
    · rw [h2, Bool.true_and] at hR
      rw [h2] at C1
      rw [hR] at C2
      have C1 := Lib.hid C1
      have C2 := Lib.hid C2
      clear hR h2
      go_enter Tryd.func16, Tryd.ntmps16
      go_wp2_with fail
      refine (C1.out _ (HA.out.wk.keep (bal (bal (bref _) _) _)) (HB.out.wk.keep (bal (bal (bref _) _) _))).mono ?_
      rintro e w1 ⟨rfl, n, rfl⟩
      go_wp2_with fail
      refine (C2.out _ (HA.out.hd.keep (bdn (bal (bal (bref _) _) _) _)) (HB.out.hd.keep (bdn (bal (bal (bref _) _) _) _))).mono ?_
      rintro e w1 ⟨rfl, n2, rfl⟩
      go_wp2_with fail
      go_ret
      exact ⟨by simp, by first | exact bdn (bal (bal (bref _) _) _) _ | exact bdn (bdn (bal (bal (bref _) _) _) _) _⟩
end Go.Proofs.YtgljaopnehdgdaaDoor
