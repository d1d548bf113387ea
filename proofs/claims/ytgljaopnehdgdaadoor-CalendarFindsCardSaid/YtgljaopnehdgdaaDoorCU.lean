/-
  Contracts of the document's own Name and Check; the walk of the law CalendarChecks.
-/
import Derived.Test.YtgljaopnehdgdaaDoorCT
namespace Go.Proofs.YtgljaopnehdgdaaDoor
open Go Go.RowKit Go.Lib WM

set_option maxRecDepth 100000 in
set_option maxHeartbeats 2000000 in
theorem rname (s : ByteArray) (w : World) : Calls Tryd.prog 36 #[.string s] w fun e w' => e = .returned (.bool (nameB s.data.toList)) ∧ w = w' := by
  obtain ⟨R, hR⟩ : ∃ R, nameB s.data.toList = R := ⟨_, rfl⟩
  rw [hR]
  by_cases h1 : s.size < 1
  · have HR : Hid (R = false) := Lib.hid (by rw [← hR]; exact name_no _ (by rw [size_list]; omega))
    have h1z : (s.size : Int) < 1 := by omega
    clear hR
    go_enter Tryd.func36, Tryd.ntmps36
    go_wp2_with fail
    go_ret
    exact ⟨by rw [HR.out]; rfl, rfl⟩
  · have h1z : ¬ (s.size : Int) < 1 := by omega
    by_cases h2 : 16 < s.size
    · have HR : Hid (R = false) := Lib.hid (by rw [← hR]; exact name_no _ (by rw [size_list]; omega))
      have h2z : (16 : Int) < (s.size : Int) := by omega
      clear hR
      go_enter Tryd.func36, Tryd.ntmps36
      go_wp2_with fail
      go_ret
      exact ⟨by rw [HR.out]; rfl, rfl⟩
    · have h2z : ¬ (16 : Int) < (s.size : Int) := by omega
      have h0 : 0 < s.size := by omega
      rw [name_in _ (by rw [size_list]; omega) (by rw [size_list]; omega), first_s s h0] at hR
      have hl : letB s[0] = decide (97 ≤ s[0].toNat ∧ s[0].toNat ≤ 122) := rfl
      by_cases g1 : s[0].toNat < 97
      · have HR : Hid (R = false) := Lib.hid (by rw [← hR, hl, decide_eq_false (by omega)]; rfl)
        have g1z : (s[0].toNat : Int) < 97 := by omega
        clear hR hl
        go_enter Tryd.func36, Tryd.ntmps36
        go_wp2_with fail
        go_ret
        exact ⟨by rw [HR.out]; rfl, rfl⟩
      · have g1z : ¬ (s[0].toNat : Int) < 97 := by omega
        by_cases g2 : 122 < s[0].toNat
        · have HR : Hid (R = false) := Lib.hid (by rw [← hR, hl, decide_eq_false (by omega)]; rfl)
          have g2z : (122 : Int) < (s[0].toNat : Int) := by omega
          clear hR hl
          go_enter Tryd.func36, Tryd.ntmps36
          go_wp2_with fail
          go_ret
          exact ⟨by rw [HR.out]; rfl, rfl⟩
        · have g2z : ¬ (122 : Int) < (s[0].toNat : Int) := by omega
          have HR : Hid (s.data.toList.all nmC = R) := Lib.hid (by rw [← hR, hl, decide_eq_true (by omega), Bool.true_and])
          clear hR hl
          go_enter Tryd.func36, Tryd.ntmps36
          go_wp2_with fail
          go_loopw [3] (fun i wr => ∃ k : Nat, k ≤ s.size ∧ i = .int .i64 k ∧ (s.data.toList.drop k).all nmC = R ∧ wr = w) (fun i _ => s.size - (RowKit.intOf i).toNat)
          case atStart => exact ⟨0, by omega, rfl, by rw [List.drop_zero]; exact HR.out, rfl⟩
          case round =>
            clear HR g1z g2z g1 g2
            obtain ⟨k, hk, rfl, hh, rfl⟩ := hrel
            by_cases hlt : k < s.size
            · have hkz : (k : Int) < (s.size : Int) := by omega
              rw [drop_s s k hlt, List.all_cons] at hh
              have hNM : nmC s[k] = (decide (97 ≤ s[k].toNat ∧ s[k].toNat ≤ 122) || (decide (48 ≤ s[k].toNat ∧ s[k].toNat ≤ 57) || decide (s[k].toNat = 95))) := rfl
              have yes : nmC s[k] = true → (s.data.toList.drop (k + 1)).all nmC = R := fun e => by rw [e, Bool.true_and] at hh; exact hh
              have no : nmC s[k] = false → R = false := fun e => by rw [e] at hh; exact hh.symm
              have hc8 : s[k].toNat < 256 := s[k].toNat_lt
              rcases (show (97 ≤ s[k].toNat ∧ s[k].toNat ≤ 122) ∨ s[k].toNat < 48 ∨ (48 ≤ s[k].toNat ∧ s[k].toNat ≤ 57) ∨ (57 < s[k].toNat ∧ s[k].toNat < 95) ∨ s[k].toNat = 95 ∨ s[k].toNat = 96 ∨ 122 < s[k].toNat by omega) with u | u | u | u | u | u | u
              · have HN := Lib.hid (yes (by rw [hNM, decide_eq_true u, Bool.true_or]))
                have q1 : ¬ (s[k].toNat : Int) < 97 := by omega
                have q2 : ¬ (122 : Int) < (s[k].toNat : Int) := by omega
                clear hh hNM yes no u
                go_wp2_with fail
                go_roundw
                case rel => exact ⟨k + 1, hlt, by go_num, HN.out, by first | trivial | rfl⟩
                case measure => simp [RowKit.intOf]; omega
              · have HRR := Lib.hid (no (by rw [hNM, decide_eq_false (by omega), decide_eq_false (by omega), decide_eq_false (by omega)]; rfl))
                have q1 : (s[k].toNat : Int) < 97 := by omega
                have q3 : (s[k].toNat : Int) < 48 := by omega
                have q5 : ((s[k].toNat : Int) == 95) = false := by rw [beq_eq_false_iff_ne]; omega
                have q6 : ¬ (s[k].toNat : Int) = 95 := by omega
                clear hh hNM yes no u
                go_wp2_with fail
                go_ret
                exact ⟨by rw [HRR.out]; rfl, rfl⟩
              · have HN := Lib.hid (yes (by rw [hNM, decide_eq_true u]; simp))
                have q1 : (s[k].toNat : Int) < 97 := by omega
                have q3 : ¬ (s[k].toNat : Int) < 48 := by omega
                have q4 : ¬ (57 : Int) < (s[k].toNat : Int) := by omega
                clear hh hNM yes no u
                go_wp2_with fail
                go_roundw
                case rel => exact ⟨k + 1, hlt, by go_num, HN.out, by first | trivial | rfl⟩
                case measure => simp [RowKit.intOf]; omega
              · have HRR := Lib.hid (no (by rw [hNM, decide_eq_false (by omega), decide_eq_false (by omega), decide_eq_false (by omega)]; rfl))
                have q1 : (s[k].toNat : Int) < 97 := by omega
                have q3 : ¬ (s[k].toNat : Int) < 48 := by omega
                have q4 : (57 : Int) < (s[k].toNat : Int) := by omega
                have q5 : ((s[k].toNat : Int) == 95) = false := by rw [beq_eq_false_iff_ne]; omega
                have q6 : ¬ (s[k].toNat : Int) = 95 := by omega
                clear hh hNM yes no u
                go_wp2_with fail
                go_ret
                exact ⟨by rw [HRR.out]; rfl, rfl⟩
              · have HN := Lib.hid (yes (by rw [hNM, decide_eq_true u]; simp))
                clear hh hNM yes no hc8
                go_wp2_with fail
                go_roundw
                case rel => exact ⟨k + 1, hlt, by go_num, HN.out, by first | trivial | rfl⟩
                case measure => simp [RowKit.intOf]; omega
              · have HRR := Lib.hid (no (by rw [hNM, decide_eq_false (by omega), decide_eq_false (by omega), decide_eq_false (by omega)]; rfl))
                clear hh hNM yes no hc8
                go_wp2_with fail
                go_ret
                exact ⟨by rw [HRR.out]; rfl, rfl⟩
              · have HRR := Lib.hid (no (by rw [hNM, decide_eq_false (by omega), decide_eq_false (by omega), decide_eq_false (by omega)]; rfl))
                have q1 : ¬ (s[k].toNat : Int) < 97 := by omega
                have q2 : (122 : Int) < (s[k].toNat : Int) := by omega
                have q3 : ¬ (s[k].toNat : Int) < 48 := by omega
                have q4 : (57 : Int) < (s[k].toNat : Int) := by omega
                have q5 : ((s[k].toNat : Int) == 95) = false := by rw [beq_eq_false_iff_ne]; omega
                have q6 : ¬ (s[k].toNat : Int) = 95 := by omega
                clear hh hNM yes no u
                go_wp2_with fail
                go_ret
                exact ⟨by rw [HRR.out]; rfl, rfl⟩
            · have he : k = s.size := by omega
              subst he
              have HRR : Hid (R = true) := Lib.hid (by rw [← hh, ← size_list, List.drop_length]; rfl)
              clear hh
              go_wp2_with fail
              go_ret
              exact ⟨by rw [HRR.out]; rfl, rfl⟩

set_option maxRecDepth 100000 in
set_option maxHeartbeats 2000000 in
theorem rCheck (nm : ByteArray) (wo hp : Option Addr) (wc hc : Nat) (we ho : List Int) (w : World) (hc0 : CalAt wo hp we ho w) :
    Calls Tryd.prog 13 #[.agg #[.string nm, .slice wo we.length wc, .slice hp ho.length hc]] w fun e w' => e = .returned (.int .i64 (ckE nm.data.toList we ho)) ∧ Below w.heap.size w w' := by
  obtain ⟨R, hR⟩ : ∃ R, ckE nm.data.toList we ho = R := ⟨_, rfl⟩
  rw [hR]
  unfold ckE at hR
  have hwl := hc0.wl
  have hhl := hc0.hl
  have HC := Lib.hid hc0
  have CN := fun W => rname nm W
  have CA := fun W h => rrises wo wc we W hwl h
  have CB := fun W h => rrises hp hc ho W hhl h
  have CV := Lib.hid (fun d W => rvalid d W)
  have HX := Lib.hid (box_new nm wo hp wc hc we ho w)
  clear hc0
  cases hn : nameB nm.data.toList
  · rw [hn] at hR CN
    have HR : Hid (R = 4) := Lib.hid (by rw [← hR]; rfl)
    have CN := Lib.hid CN
    clear hR hn CA CB
    go_enter Tryd.func13, Tryd.ntmps13
    go_wp2_with fail
    refine (CN.out _).mono ?_
    rintro e w1 ⟨rfl, rfl⟩
    go_wp2_with fail
    go_ret
    exact ⟨by rw [HR.out]; rfl, bal (bref _) _⟩
  · rw [hn, if_pos rfl] at hR
    rw [hn] at CN
    have CN := Lib.hid CN
    have HR := Lib.hid hR
    have CA := Lib.hid CA
    have CB := Lib.hid CB
    clear hn hR
    go_enter Tryd.func13, Tryd.ntmps13
    go_wp2_with fail
    refine (CN.out _).mono ?_
    rintro e w1 ⟨rfl, rfl⟩
    go_wp2_with fail
    go_loopw [3] (fun i wr => ∃ k : Nat, k ≤ we.length ∧ i = .int .i64 k ∧ (we.drop k).all (inB 6) = we.all (inB 6) ∧ Box3 w.heap.size (.string nm) (.slice wo we.length wc) (.slice hp ho.length hc) wr ∧ Below w.heap.size w wr) (fun i _ => we.length - (RowKit.intOf i).toNat)
    case atStart => exact ⟨0, by omega, rfl, by rw [List.drop_zero], HX.out, bal (bref _) _⟩
    case round =>
      obtain ⟨k, hk, rfl, hh, hX, hB⟩ := hrel
      clear HX CN
      have HB := Lib.hid hB
      have HX := Lib.hid hX
      obtain ⟨x0, x1, x2⟩ := hX
      by_cases hlt : k < we.length
      · obtain ⟨b, off, rfl, hbw, c0⟩ := (HC.out.wk.keep hB) k hlt
        obtain ⟨x, hx⟩ : ∃ x, we.getD k 0 = x := ⟨_, rfl⟩
        rw [drop_i we k hlt, List.all_cons, hx] at hh
        rw [hx] at c0
        have hkz : (k : Int) < (we.length : Int) := by omega
        have bad : inB 6 x = false → R = 1 := fun e => by
          rw [e, Bool.false_and] at hh
          rw [← HR.out, if_neg]
          unfold wkB; rw [← hh]; simp
        by_cases q0 : x < 0
        · have HRR := Lib.hid (bad (by simp [inB]; omega))
          clear hh hx bad hB
          go_wp2_with fail
          go_ret
          exact ⟨by rw [HRR.out]; rfl, HB.out⟩
        · by_cases q1 : 6 < x
          · have HRR := Lib.hid (bad (by simp [inB]; omega))
            clear hh hx bad hB
            go_wp2_with fail
            go_ret
            exact ⟨by rw [HRR.out]; rfl, HB.out⟩
          · have HH : Hid ((we.drop (k + 1)).all (inB 6) = we.all (inB 6)) := Lib.hid (by
              have : inB 6 x = true := by simp [inB]; omega
              rw [this, Bool.true_and] at hh; exact hh)
            clear hh hx bad hB
            go_wp2_with fail
            go_roundw
            case rel => exact ⟨k + 1, hlt, by go_num, HH.out, HX.out, HB.out⟩
            case measure => simp [RowKit.intOf]; omega
      · have he : k = we.length := by omega
        subst he
        have hall : we.all (inB 6) = true := by rw [← hh, List.drop_length]; rfl
        have hwk : wkB we = (decide (we.length ≤ 6) && risesB we) := by unfold wkB; rw [hall, Bool.true_and]
        have hR := HR.out
        rw [hwk] at hR
        clear hh hall hwk HR
        by_cases q6 : 6 < we.length
        · have HRR : Hid (R = 1) := Lib.hid (by rw [← hR, decide_eq_false (by omega)]; rfl)
          have q6z : (6 : Int) < (we.length : Int) := by omega
          clear hR hB CA CB
          go_wp2_with fail
          go_ret
          exact ⟨by rw [HRR.out]; rfl, HB.out⟩
        · have q6z : ¬ (6 : Int) < (we.length : Int) := by omega
          rw [decide_eq_true (by omega), Bool.true_and] at hR
          have CA := CA.out
          cases hr : risesB we
          · rw [hr] at hR CA
            have HRR : Hid (R = 1) := Lib.hid (by rw [← hR]; rfl)
            have CA := Lib.hid CA
            clear hR hB hr CB
            go_wp2_with fail
            refine (CA.out _ (HC.out.wk.keep HB.out)).mono ?_
            rintro e w2 ⟨rfl, n, rfl⟩
            go_wp2_with fail
            go_ret
            exact ⟨by rw [HRR.out]; rfl, bdn HB.out _⟩
          · rw [hr, if_pos rfl] at hR
            rw [hr] at CA
            have CA := Lib.hid CA
            clear hr
            by_cases h4 : 400 < ho.length
            · have HRR : Hid (R = 5) := Lib.hid (by rw [← hR, if_neg (by omega)])
              have h4z : (400 : Int) < (ho.length : Int) := by omega
              clear hR hB CB
              go_wp2_with fail
              refine (CA.out _ (HC.out.wk.keep HB.out)).mono ?_
              rintro e w2 ⟨rfl, n, rfl⟩
              go_wp2_with fail
              go_ret
              exact ⟨by rw [HRR.out]; rfl, bdn HB.out _⟩
            · have h4z : ¬ (400 : Int) < (ho.length : Int) := by omega
              rw [if_pos (by omega)] at hR
              have HR := Lib.hid hR
              clear hR hB
              go_wp2_with fail
              refine (CA.out _ (HC.out.wk.keep HB.out)).mono ?_
              rintro e w2 ⟨rfl, n, hw2⟩
              have X2 := HX.out.keep (bdn (bref _) n)
              have B2 := bdn HB.out n
              rw [← hw2] at X2 B2
              have HX2 := Lib.hid X2
              have HB2 := Lib.hid B2
              clear hw2 HX HB x0 x1 x2 B2
              obtain ⟨x0, x1, x2⟩ := X2
              go_wp2_with fail
              go_loopw [4] (fun i wr => ∃ k : Nat, k ≤ ho.length ∧ i = .int .i64 k ∧ (ho.drop k).all (inB 73048) = ho.all (inB 73048) ∧ Box3 w.heap.size (.string nm) (.slice wo we.length wc) (.slice hp ho.length hc) wr ∧ Below w.heap.size w wr) (fun i _ => ho.length - (RowKit.intOf i).toNat)
              case atStart => exact ⟨0, by omega, rfl, by rw [List.drop_zero], HX2.out, HB2.out⟩
              case round =>
                obtain ⟨k, hk, rfl, hh, hX, hB⟩ := hrel
                clear HX2 HB2 x0 x1 x2 CA
                have HB := Lib.hid hB
                have HX := Lib.hid hX
                obtain ⟨x0, x1, x2⟩ := hX
                by_cases hlt2 : k < ho.length
                · obtain ⟨b, off, rfl, hbw, c0⟩ := (HC.out.hd.keep hB) k hlt2
                  obtain ⟨x, hx⟩ : ∃ x, ho.getD k 0 = x := ⟨_, rfl⟩
                  rw [drop_i ho k hlt2, List.all_cons, hx] at hh
                  rw [hx] at c0
                  have hkz : (k : Int) < (ho.length : Int) := by omega
                  have hin : inB 73048 x = vdB x := rfl
                  rw [hin] at hh
                  have CX := fun W => CV.out x W
                  cases hv : vdB x
                  · rw [hv, Bool.false_and] at hh
                    rw [hv] at CX
                    have CX := Lib.hid CX
                    have HRR : Hid (R = 1) := Lib.hid (by rw [← HR.out, ← hh]; rfl)
                    clear hh hx hin hv hB
                    go_wp2_with fail
                    refine (CX.out _).mono ?_
                    rintro e w3 ⟨rfl, rfl⟩
                    go_wp2_with fail
                    go_ret
                    exact ⟨by rw [HRR.out]; rfl, HB.out⟩
                  · rw [hv, Bool.true_and] at hh
                    rw [hv] at CX
                    have CX := Lib.hid CX
                    have HH := Lib.hid hh
                    clear hh hx hin hv hB
                    go_wp2_with fail
                    refine (CX.out _).mono ?_
                    rintro e w3 ⟨rfl, rfl⟩
                    go_wp2_with fail
                    go_roundw
                    case rel => exact ⟨k + 1, hlt2, by go_num, HH.out, HX.out, HB.out⟩
                    case measure => simp [RowKit.intOf]; omega
                · have he : k = ho.length := by omega
                  subst he
                  have hall : ho.all (inB 73048) = true := by rw [← hh, List.drop_length]; rfl
                  have hR := HR.out
                  rw [if_pos hall] at hR
                  have CB := CB.out
                  cases hs : risesB ho
                  · rw [hs] at hR CB
                    have HRR : Hid (R = 10) := Lib.hid (by rw [← hR]; rfl)
                    have CB := Lib.hid CB
                    clear hh hall hR hB HR hs
                    go_wp2_with fail
                    refine (CB.out _ (HC.out.hd.keep HB.out)).mono ?_
                    rintro e w3 ⟨rfl, n3, rfl⟩
                    go_wp2_with fail
                    go_ret
                    exact ⟨by rw [HRR.out]; rfl, bdn HB.out _⟩
                  · rw [hs] at hR CB
                    have HRR : Hid (R = 0) := Lib.hid (by rw [← hR]; rfl)
                    have CB := Lib.hid CB
                    clear hh hall hR hB HR hs
                    go_wp2_with fail
                    refine (CB.out _ (HC.out.hd.keep HB.out)).mono ?_
                    rintro e w3 ⟨rfl, n3, rfl⟩
                    go_wp2_with fail
                    go_ret
                    exact ⟨by rw [HRR.out]; rfl, bdn HB.out _⟩

set_option maxRecDepth 100000 in
set_option maxHeartbeats 2000000 in
theorem wCalendarChecks (nm : ByteArray) (wo hp : Option Addr) (wc hc : Nat) (we ho : List Int) (w : World) (hL : Ln w) (hw : IntsAt wo we w) (hh : IntsAt hp ho w) :
    Calls Tryd.prog 3 #[.agg #[.string nm, .slice wo we.length wc, .slice hp ho.length hc]] w fun e w' => e = .returned (.bool true) ∧ Below w.heap.size w w' := by
  have HL := Lib.hid hL
  by_cases h1 : 100 < nm.size
  · have h1z : (100 : Int) < (nm.size : Int) := by omega
    clear hw hh hL
    go_enter Tryd.func3, Tryd.ntmps3
    go_wp2_with fail
    refine (live_any _ (HL.out.keep (bal (bref _) _))).mono ?_
    rintro e w2 ⟨rfl, q2⟩
    have Z2 := Lib.hid (btr (bal (bref _) _) q2)
    clear q2
    go_wp2_with fail
    go_ret
    exact ⟨rfl, Z2.out⟩
  · have h1z : ¬ (100 : Int) < (nm.size : Int) := by omega
    by_cases h2 : 100 < we.length
    · have h2z : (100 : Int) < (we.length : Int) := by omega
      clear hw hh hL
      go_enter Tryd.func3, Tryd.ntmps3
      go_wp2_with fail
      refine (live_any _ (HL.out.keep (bal (bref _) _))).mono ?_
      rintro e w2 ⟨rfl, q2⟩
      have Z2 := Lib.hid (btr (bal (bref _) _) q2)
      clear q2
      go_wp2_with fail
      go_ret
      exact ⟨rfl, Z2.out⟩
    · have h2z : ¬ (100 : Int) < (we.length : Int) := by omega
      by_cases h3 : 500 < ho.length
      · have h3z : (500 : Int) < (ho.length : Int) := by omega
        clear hw hh hL
        go_enter Tryd.func3, Tryd.ntmps3
        go_wp2_with fail
        refine (live_any _ (HL.out.keep (bal (bref _) _))).mono ?_
        rintro e w2 ⟨rfl, q2⟩
        have Z2 := Lib.hid (btr (bal (bref _) _) q2)
        clear q2
        go_wp2_with fail
        go_ret
        exact ⟨rfl, Z2.out⟩
      · have h3z : ¬ (500 : Int) < (ho.length : Int) := by omega
        have hcal : CalAt wo hp we ho w := ⟨by omega, by omega, hw, hh⟩
        have HC := Lib.hid hcal
        have HX := Lib.hid (box_new nm wo hp wc hc we ho w)
        have C1 := fun W k => mCheck nm wo hp wc hc we ho W k
        have C2 := fun W k => rCheck nm wo hp wc hc we ho W k
        obtain ⟨E, hE⟩ : ∃ E, ckE nm.data.toList we ho = E := ⟨_, rfl⟩
        simp only [hE] at C1 C2
        have C1 := Lib.hid C1
        have C2 := Lib.hid C2
        clear hw hh hL hcal hE
        go_enter Tryd.func3, Tryd.ntmps3
        go_wp2_with fail
        refine wp_region_held_drew (S := KS w.heap.size (.string nm) (.slice wo we.length wc) (.slice hp ho.length hc) w) (by kernel_rfl) ⟨HX.out.keep (bdn (bref _) 1), bdn (bal (bref _) _) 1⟩ (fun hH0 => ?_)
        refine wpAnyH_take (i := 0) (oi := _) (v := ?_) rfl (by kernel_rfl) (by kernel_rfl) (by kernel_rfl) (fun _ _ _ h => h) (Or.inl ⟨?_, ?_⟩) hH0 ?_
        rotate_left
        · kernel_rfl
        · (intro W' hSw; obtain ⟨⟨s0, s1, s2⟩, s5⟩ := hSw; go_simp; (try with_reducible rfl))
        (try simp only [List.getElem_toArray])
        (try simp only [List.getElem_cons_succ])
        (try simp only [List.getElem_cons_zero])
        (try simp only [Act.put])
        (try simp only [List.setIfInBounds_toArray])
        (try simp only [List.set_cons_succ])
        (try simp only [List.set_cons_zero])
        refine wpAnyH_take (i := 2) (oi := _) (v := ?_) rfl (by kernel_rfl) (by kernel_rfl) (by kernel_rfl) (fun _ _ _ h => h) (Or.inl ⟨?_, ?_⟩) hH0 ?_
        rotate_left
        · kernel_rfl
        · (intro W' hSw; obtain ⟨⟨s0, s1, s2⟩, s5⟩ := hSw; go_simp; (try with_reducible rfl))
        (try simp only [List.getElem_toArray])
        (try simp only [List.getElem_cons_succ])
        (try simp only [List.getElem_cons_zero])
        (try simp only [Act.put])
        (try simp only [List.setIfInBounds_toArray])
        (try simp only [List.set_cons_succ])
        (try simp only [List.set_cons_zero])
        refine wpAnyH_ready (rs := [1]) (by kernel_rfl) (by simp) ?_
        refine AllReadyH.cons (o := _) rfl (fun K hK => ?_) AllReadyH.nil
        go_simp
        refine (C1.out _ (HC.out.keep hH0.2)).mono ?_
        rintro e W6 ⟨rfl, hk⟩
        refine hK.out _ _ (hH0.keep hk) (fun hH1 => ?_)
        clear hK K
        (try simp only [List.getElem_toArray])
        (try simp only [List.getElem_cons_succ])
        (try simp only [List.getElem_cons_zero])
        (try simp only [Act.put])
        (try simp only [List.setIfInBounds_toArray])
        (try simp only [List.set_cons_succ])
        (try simp only [List.set_cons_zero])
        refine wpAnyH_ready (rs := [3]) (by kernel_rfl) (by simp) ?_
        refine AllReadyH.cons (o := _) rfl (fun K hK => ?_) AllReadyH.nil
        go_simp
        refine (C2.out _ (HC.out.keep hH1.2)).mono ?_
        rintro e W7 ⟨rfl, hk2⟩
        refine hK.out _ _ (hH1.keep hk2) (fun hH2 => ?_)
        clear hK K
        (try simp only [List.getElem_toArray])
        (try simp only [List.getElem_cons_succ])
        (try simp only [List.getElem_cons_zero])
        (try simp only [Act.put])
        (try simp only [List.setIfInBounds_toArray])
        (try simp only [List.set_cons_succ])
        (try simp only [List.set_cons_zero])
        refine wpAnyH_take (i := 4) (oi := _) (v := ?_) rfl (by kernel_rfl) (by kernel_rfl) (by kernel_rfl) (fun _ _ _ h => h) (Or.inl ⟨?_, ?_⟩) hH2 ?_
        rotate_left
        · kernel_rfl
        · (intro W' hSw; obtain ⟨⟨s0, s1, s2⟩, s5⟩ := hSw; go_simp; (try with_reducible rfl))
        (try simp only [List.getElem_toArray])
        (try simp only [List.getElem_cons_succ])
        (try simp only [List.getElem_cons_zero])
        (try simp only [Act.put])
        (try simp only [List.setIfInBounds_toArray])
        (try simp only [List.set_cons_succ])
        (try simp only [List.set_cons_zero])
        refine wpAnyH_take (i := 5) (oi := _) (v := ?_) rfl (by kernel_rfl) (by kernel_rfl) (by kernel_rfl) (fun _ _ _ h => h) (Or.inl ⟨?_, ?_⟩) hH2 ?_
        rotate_left
        · kernel_rfl
        · (intro W' hSw; obtain ⟨⟨s0, s1, s2⟩, s5⟩ := hSw; go_simp; (try with_reducible rfl))
        (try simp only [List.getElem_toArray])
        (try simp only [List.getElem_cons_succ])
        (try simp only [List.getElem_cons_zero])
        (try simp only [Act.put])
        (try simp only [List.setIfInBounds_toArray])
        (try simp only [List.set_cons_succ])
        (try simp only [List.set_cons_zero])
        refine wpAnyH_ready (rs := [6]) (by kernel_rfl) (by simp) ?_
        refine AllReadyH.cons (o := _) rfl (fun K hK => ?_) AllReadyH.nil
        go_simp
        refine (live_any _ (HL.out.keep hH2.2)).mono ?_
        rintro e W8 ⟨rfl, hk3⟩
        refine hK.out _ _ (hH2.keep hk3) (fun hH3 => ?_)
        clear hK K
        (try simp only [List.getElem_toArray])
        (try simp only [List.getElem_cons_succ])
        (try simp only [List.getElem_cons_zero])
        (try simp only [Act.put])
        (try simp only [List.setIfInBounds_toArray])
        (try simp only [List.set_cons_succ])
        (try simp only [List.set_cons_zero])
        refine wpAnyH_take (i := 7) (oi := _) (v := ?_) rfl (by kernel_rfl) (by kernel_rfl) (by kernel_rfl) (fun _ _ _ h => h) (Or.inl ⟨?_, ?_⟩) hH3 ?_
        rotate_left
        · kernel_rfl
        · (intro W' hSw; obtain ⟨⟨s0, s1, s2⟩, s5⟩ := hSw; go_simp; (try with_reducible rfl))
        (try simp only [List.getElem_toArray])
        (try simp only [List.getElem_cons_succ])
        (try simp only [List.getElem_cons_zero])
        (try simp only [Act.put])
        (try simp only [List.setIfInBounds_toArray])
        (try simp only [List.set_cons_succ])
        (try simp only [List.set_cons_zero])
        refine wpAnyH_take (i := 8) (oi := _) (v := ?_) rfl (by kernel_rfl) (by kernel_rfl) (by kernel_rfl) (fun _ _ _ h => h) (Or.inl ⟨?_, ?_⟩) hH3 ?_
        rotate_left
        · kernel_rfl
        · (intro W' hSw; obtain ⟨⟨s0, s1, s2⟩, s5⟩ := hSw; go_simp; (try with_reducible rfl))
        (try simp only [List.getElem_toArray])
        (try simp only [List.getElem_cons_succ])
        (try simp only [List.getElem_cons_zero])
        (try simp only [Act.put])
        (try simp only [List.setIfInBounds_toArray])
        (try simp only [List.set_cons_succ])
        (try simp only [List.set_cons_zero])
        refine wpAnyH_done (by kernel_rfl) ?_ _
        have ZZ := hH3.2
        clear hk hk2 hk3 hH0 hH1 hH2 hH3
        go_wp2_with fail
        go_ret
        exact ⟨by first | rfl | simp, ZZ⟩
end Go.Proofs.YtgljaopnehdgdaaDoor
