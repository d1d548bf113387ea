/-
  The walks of the laws CalendarAdjusts, CalendarAdds and CalendarCounts.
-/
import Derived.Test.YtgljaopnehdgdaaDoorCR
namespace Go.Proofs.YtgljaopnehdgdaaDoor
open Go Go.RowKit Go.Lib WM

def fewB (we ho : List Int) : Bool := decide (we.length ≤ 20) && decide (ho.length ≤ 40)
set_option maxRecDepth 100000 in
set_option maxHeartbeats 1000000 in
theorem mfew (nm : ByteArray) (wo hp : Option Addr) (wc hc : Nat) (we ho : List Int) (w : World) : Calls Tryd.prog 17 #[.agg #[.string nm, .slice wo we.length wc, .slice hp ho.length hc]] w fun e w' => e = .returned (.bool (fewB we ho)) ∧ Below w.heap.size w w' := by
  obtain ⟨R, hR⟩ : ∃ R, fewB we ho = R := ⟨_, rfl⟩
  rw [hR]
  unfold fewB at hR
  by_cases h1 : we.length ≤ 20
  · rw [decide_eq_true h1, Bool.true_and] at hR
    have h1z : (we.length : Int) ≤ 20 := by omega
    by_cases h2 : ho.length ≤ 40
    · have HR : Hid (R = true) := Lib.hid (by rw [← hR]; simpa using h2)
      have h2z : (ho.length : Int) ≤ 40 := by omega
      clear hR h1 h2
      go_enter Tryd.func17, Tryd.ntmps17
      go_wp2_with fail
      go_ret
      exact ⟨by rw [HR.out]; rfl, bal (bref _) _⟩
    · have HR : Hid (R = false) := Lib.hid (by rw [← hR]; simpa using h2)
      have h2z : ¬ (ho.length : Int) ≤ 40 := by omega
      clear hR h1 h2
      go_enter Tryd.func17, Tryd.ntmps17
      go_wp2_with fail
      go_ret
      exact ⟨by rw [HR.out]; rfl, bal (bref _) _⟩
  · have HR : Hid (R = false) := Lib.hid (by rw [← hR, decide_eq_false h1]; rfl)
    have h1z : ¬ (we.length : Int) ≤ 20 := by omega
    clear hR h1
    go_enter Tryd.func17, Tryd.ntmps17
    go_wp2_with fail
    go_ret
    exact ⟨by rw [HR.out]; rfl, bal (bref _) _⟩
theorem few_cal {wo hp : Option Addr} {we ho : List Int} {w : World} (hf : fewB we ho = true) (hw : IntsAt wo we w) (hh : IntsAt hp ho w) : CalAt wo hp we ho w := by
  simp only [fewB, Bool.and_eq_true, decide_eq_true_eq] at hf
  exact ⟨by omega, by omega, hw, hh⟩
theorem mend_ex (day : Int) : ∃ me, vdB day = true → MEnd day me := by
  cases h : vdB day
  · exact ⟨0, fun k => by cases k⟩
  · obtain ⟨y, m, d, c⟩ := civ_ex day h
    exact ⟨_, fun _ => ⟨y, m, d, c, rfl⟩⟩

set_option maxRecDepth 100000 in
set_option maxHeartbeats 4000000 in
theorem wCalendarAdjusts (nm : ByteArray) (wo hp : Option Addr) (wc hc : Nat) (we ho : List Int) (day rule : Int) (w : World) (hL : Ln w) (hw : IntsAt wo we w) (hh : IntsAt hp ho w) :
    Calls Tryd.prog 6 #[.agg #[.string nm, .slice wo we.length wc, .slice hp ho.length hc], .int .i64 day, .int .i64 rule] w fun e w' => e = .returned (.bool true) ∧ Below w.heap.size w w' := by
  have CF := fun W => mfew nm wo hp wc hc we ho W
  have HL := Lib.hid hL
  cases hf : fewB we ho
  · rw [hf] at CF
    have CF := Lib.hid CF
    clear hf hL hw hh
    go_enter Tryd.func6, Tryd.ntmps6
    go_wp2_with fail
    refine (CF.out _).mono ?_
    rintro e w1 ⟨rfl, q1⟩
    have Z1 := Lib.hid (btr (bal (bref _) _) q1)
    clear q1
    go_wp2_with fail
    refine (live_any _ (HL.out.keep Z1.out)).mono ?_
    rintro e w2 ⟨rfl, q2⟩
    have Z2 := Lib.hid (btr Z1.out q2)
    clear q2
    go_wp2_with fail
    go_ret
    exact ⟨rfl, Z2.out⟩
  · have hcal := few_cal hf hw hh
    rw [hf] at CF
    have CF := Lib.hid CF
    have HC := Lib.hid hcal
    have HX := Lib.hid (box_new nm wo hp wc hc we ho w)
    obtain ⟨me, hme⟩ := mend_ex day
    obtain ⟨V, hV⟩ : ∃ V, ajV we ho day me rule = V := ⟨_, rfl⟩
    obtain ⟨E, hE⟩ : ∃ E, ajE we ho day me rule = E := ⟨_, rfl⟩
    have C1 := fun W h k => mAdjust nm wo hp wc hc we ho day me rule hme W h k
    have C2 := fun W h k => rAdjust nm wo hp wc hc we ho day me rule hme W h k
    simp only [hV, hE] at C1 C2
    have C1 := Lib.hid C1
    have C2 := Lib.hid C2
    clear hf hL hw hh hcal hV hE hme
    go_enter Tryd.func6, Tryd.ntmps6
    go_wp2_with fail
    refine (CF.out _).mono ?_
    rintro e w1 ⟨rfl, q1⟩
    have X1 := HX.out.keep q1
    have Z1 := Lib.hid (btr (bal (bref _) _) q1)
    clear q1 HX
    have HX := Lib.hid X1
    obtain ⟨x0, x1, x2⟩ := X1
    go_wp2_with fail
    refine (C1.out _ (HL.out.keep Z1.out) (HC.out.keep Z1.out)).mono ?_
    rintro e w2 ⟨rfl, q⟩
    have Z2 := Lib.hid (btr Z1.out q)
    have X1 := HX.out.keep q
    clear q Z1 HX x0 x1 x2
    have HX := Lib.hid X1
    obtain ⟨x0, x1, x2⟩ := X1
    go_wp2_with fail
    refine (C2.out _ (HL.out.keep Z2.out) (HC.out.keep Z2.out)).mono ?_
    rintro e w3 ⟨rfl, q⟩
    have Z3 := Lib.hid (btr Z2.out q)
    have X1 := HX.out.keep q
    clear q Z2 HX x0 x1 x2
    have HX := Lib.hid X1
    obtain ⟨x0, x1, x2⟩ := X1
    go_wp2_with fail
    refine (live_any _ (HL.out.keep Z3.out)).mono ?_
    rintro e w4 ⟨rfl, q⟩
    have Z4 := Lib.hid (btr Z3.out q)
    clear q Z3 HX x0 x1 x2
    go_wp2_with fail
    go_ret
    exact ⟨by simp, Z4.out⟩

set_option maxRecDepth 100000 in
set_option maxHeartbeats 4000000 in
theorem wCalendarAdds (nm : ByteArray) (wo hp : Option Addr) (wc hc : Nat) (we ho : List Int) (day n : Int) (w : World) (hL : Ln w) (hw : IntsAt wo we w) (hh : IntsAt hp ho w) :
    Calls Tryd.prog 7 #[.agg #[.string nm, .slice wo we.length wc, .slice hp ho.length hc], .int .i64 day, .int .i64 n] w fun e w' => e = .returned (.bool true) ∧ Below w.heap.size w w' := by
  have CF := fun W => mfew nm wo hp wc hc we ho W
  have HL := Lib.hid hL
  cases hf : fewB we ho
  · rw [hf] at CF
    have CF := Lib.hid CF
    clear hf hL hw hh
    go_enter Tryd.func7, Tryd.ntmps7
    go_wp2_with fail
    refine (CF.out _).mono ?_
    rintro e w1 ⟨rfl, q1⟩
    have Z1 := Lib.hid (btr (bal (bref _) _) q1)
    clear q1
    go_wp2_with fail
    refine (live_any _ (HL.out.keep Z1.out)).mono ?_
    rintro e w2 ⟨rfl, q2⟩
    have Z2 := Lib.hid (btr Z1.out q2)
    clear q2
    go_wp2_with fail
    go_ret
    exact ⟨rfl, Z2.out⟩
  · have hcal := few_cal hf hw hh
    rw [hf] at CF
    have CF := Lib.hid CF
    have HC := Lib.hid hcal
    have HX := Lib.hid (box_new nm wo hp wc hc we ho w)
    obtain ⟨V, hV⟩ : ∃ V, adV we ho day n = V := ⟨_, rfl⟩
    obtain ⟨E, hE⟩ : ∃ E, adE we ho day n = E := ⟨_, rfl⟩
    have C1 := fun W k => mAdd nm wo hp wc hc we ho day n W k
    have C2 := fun W k => rAdd nm wo hp wc hc we ho day n W k
    simp only [hV, hE] at C1 C2
    have C1 := Lib.hid C1
    have C2 := Lib.hid C2
    clear hf hL hw hh hcal hV hE
    go_enter Tryd.func7, Tryd.ntmps7
    go_wp2_with fail
    refine (CF.out _).mono ?_
    rintro e w1 ⟨rfl, q1⟩
    have X1 := HX.out.keep q1
    have Z1 := Lib.hid (btr (bal (bref _) _) q1)
    clear q1 HX
    have HX := Lib.hid X1
    obtain ⟨x0, x1, x2⟩ := X1
    go_wp2_with fail
    refine (C1.out _ (HC.out.keep Z1.out)).mono ?_
    rintro e w2 ⟨rfl, q⟩
    have Z2 := Lib.hid (btr Z1.out q)
    have X1 := HX.out.keep q
    clear q Z1 HX x0 x1 x2
    have HX := Lib.hid X1
    obtain ⟨x0, x1, x2⟩ := X1
    go_wp2_with fail
    refine (C2.out _ (HC.out.keep Z2.out)).mono ?_
    rintro e w3 ⟨rfl, q⟩
    have Z3 := Lib.hid (btr Z2.out q)
    have X1 := HX.out.keep q
    clear q Z2 HX x0 x1 x2
    have HX := Lib.hid X1
    obtain ⟨x0, x1, x2⟩ := X1
    go_wp2_with fail
    refine (live_any _ (HL.out.keep Z3.out)).mono ?_
    rintro e w4 ⟨rfl, q⟩
    have Z4 := Lib.hid (btr Z3.out q)
    clear q Z3 HX x0 x1 x2
    go_wp2_with fail
    go_ret
    exact ⟨by simp, Z4.out⟩

set_option maxRecDepth 100000 in
set_option maxHeartbeats 4000000 in
theorem wCalendarCounts (nm : ByteArray) (wo hp : Option Addr) (wc hc : Nat) (we ho : List Int) (day n : Int) (w : World) (hL : Ln w) (hw : IntsAt wo we w) (hh : IntsAt hp ho w) :
    Calls Tryd.prog 9 #[.agg #[.string nm, .slice wo we.length wc, .slice hp ho.length hc], .int .i64 day, .int .i64 n] w fun e w' => e = .returned (.bool true) ∧ Below w.heap.size w w' := by
  have CF := fun W => mfew nm wo hp wc hc we ho W
  have HL := Lib.hid hL
  cases hf : fewB we ho
  · rw [hf] at CF
    have CF := Lib.hid CF
    clear hf hL hw hh
    go_enter Tryd.func9, Tryd.ntmps9
    go_wp2_with fail
    refine (CF.out _).mono ?_
    rintro e w1 ⟨rfl, q1⟩
    have Z1 := Lib.hid (btr (bal (bref _) _) q1)
    clear q1
    go_wp2_with fail
    refine (live_any _ (HL.out.keep Z1.out)).mono ?_
    rintro e w2 ⟨rfl, q2⟩
    have Z2 := Lib.hid (btr Z1.out q2)
    clear q2
    go_wp2_with fail
    go_ret
    exact ⟨rfl, Z2.out⟩
  · have hcal := few_cal hf hw hh
    rw [hf] at CF
    have CF := Lib.hid CF
    have HC := Lib.hid hcal
    have HX := Lib.hid (box_new nm wo hp wc hc we ho w)
    have CV := fun W => rvalid day W
    have CA := fun W k => mAdd nm wo hp wc hc we ho day n W k
    cases hok : adOk day n
    · have V0 : adV we ho day n = 0 := by unfold adV; rw [hok]; rfl
      have E0 : adE we ho day n = 1 := by unfold adE; rw [hok]; rfl
      simp only [V0, E0] at CA
      have CA := Lib.hid CA
      have fin : vdB day = false ∨ (vdB day = true ∧ n < 1) ∨ (vdB day = true ∧ ¬ n < 1 ∧ 1000 < n) := by
        cases hv : vdB day
        · exact Or.inl rfl
        · unfold adOk at hok
          rw [hv] at hok
          by_cases n1 : n < 1
          · exact Or.inr (Or.inl ⟨rfl, n1⟩)
          · by_cases n2 : 1000 < n
            · exact Or.inr (Or.inr ⟨rfl, n1, n2⟩)
            · rw [decide_eq_true (by omega : 1 ≤ n), decide_eq_true (by omega : n ≤ 1000)] at hok
              cases hok
      clear hf hL hw hh hcal hok V0 E0
      rcases fin with hv | ⟨hv, hn⟩ | ⟨hv, hn, hn2⟩
      · rw [hv] at CV
        have CV := Lib.hid CV
        clear hv
        go_enter Tryd.func9, Tryd.ntmps9
        go_wp2_with fail
        refine (CF.out _).mono ?_
        rintro e w1 ⟨rfl, q1⟩
        have X1 := HX.out.keep q1
        have Z1 := Lib.hid (btr (bal (bref _) _) q1)
        clear q1 HX
        have HX := Lib.hid X1
        obtain ⟨x0, x1, x2⟩ := X1
        go_wp2_with fail
        refine (CA.out _ (HC.out.keep Z1.out)).mono ?_
        rintro e w2 ⟨rfl, q⟩
        have Z2 := Lib.hid (btr Z1.out q)
        have X1 := HX.out.keep q
        clear q Z1 HX x0 x1 x2
        have HX := Lib.hid X1
        obtain ⟨x0, x1, x2⟩ := X1
        go_wp2_with fail
        refine (CV.out _).mono ?_
        rintro e w3 ⟨rfl, rfl⟩
        go_wp2_with fail
        refine (live_any _ (HL.out.keep Z2.out)).mono ?_
        rintro e w3 ⟨rfl, q⟩
        have Z3 := Lib.hid (btr Z2.out q)
        clear q Z2 HX x0 x1 x2
        go_wp2_with fail
        go_ret
        exact ⟨rfl, Z3.out⟩
      · rw [hv] at CV
        have CV := Lib.hid CV
        clear hv
        go_enter Tryd.func9, Tryd.ntmps9
        go_wp2_with fail
        refine (CF.out _).mono ?_
        rintro e w1 ⟨rfl, q1⟩
        have X1 := HX.out.keep q1
        have Z1 := Lib.hid (btr (bal (bref _) _) q1)
        clear q1 HX
        have HX := Lib.hid X1
        obtain ⟨x0, x1, x2⟩ := X1
        go_wp2_with fail
        refine (CA.out _ (HC.out.keep Z1.out)).mono ?_
        rintro e w2 ⟨rfl, q⟩
        have Z2 := Lib.hid (btr Z1.out q)
        have X1 := HX.out.keep q
        clear q Z1 HX x0 x1 x2
        have HX := Lib.hid X1
        obtain ⟨x0, x1, x2⟩ := X1
        go_wp2_with fail
        refine (CV.out _).mono ?_
        rintro e w3 ⟨rfl, rfl⟩
        go_wp2_with fail
        refine (live_any _ (HL.out.keep Z2.out)).mono ?_
        rintro e w3 ⟨rfl, q⟩
        have Z3 := Lib.hid (btr Z2.out q)
        clear q Z2 HX x0 x1 x2
        go_wp2_with fail
        go_ret
        exact ⟨rfl, Z3.out⟩
      · rw [hv] at CV
        have CV := Lib.hid CV
        clear hv
        go_enter Tryd.func9, Tryd.ntmps9
        go_wp2_with fail
        refine (CF.out _).mono ?_
        rintro e w1 ⟨rfl, q1⟩
        have X1 := HX.out.keep q1
        have Z1 := Lib.hid (btr (bal (bref _) _) q1)
        clear q1 HX
        have HX := Lib.hid X1
        obtain ⟨x0, x1, x2⟩ := X1
        go_wp2_with fail
        refine (CA.out _ (HC.out.keep Z1.out)).mono ?_
        rintro e w2 ⟨rfl, q⟩
        have Z2 := Lib.hid (btr Z1.out q)
        have X1 := HX.out.keep q
        clear q Z1 HX x0 x1 x2
        have HX := Lib.hid X1
        obtain ⟨x0, x1, x2⟩ := X1
        go_wp2_with fail
        refine (CV.out _).mono ?_
        rintro e w3 ⟨rfl, rfl⟩
        go_wp2_with fail
        refine (live_any _ (HL.out.keep Z2.out)).mono ?_
        rintro e w3 ⟨rfl, q⟩
        have Z3 := Lib.hid (btr Z2.out q)
        clear q Z2 HX x0 x1 x2
        go_wp2_with fail
        go_ret
        exact ⟨rfl, Z3.out⟩
    · have hv : vdB day = true ∧ 1 ≤ n ∧ n ≤ 1000 := by
        unfold adOk at hok
        simp only [Bool.and_eq_true, decide_eq_true_eq] at hok
        exact ⟨hok.1, hok.2.1, hok.2.2⟩
      obtain ⟨hv, n1, n2⟩ := hv
      rw [hv] at CV
      have CV := Lib.hid CV
      obtain ⟨v1, v2⟩ := (vd_iff day).1 hv
      have n1' : ¬ n < 1 := by omega
      have n2' : ¬ 1000 < n := by omega
      cases hr : ad (dOpen we ho) (day + 1) n with
      | none =>
        have V0 : adV we ho day n = 0 := by unfold adV; rw [hok, hr]; rfl
        have E0 : adE we ho day n = 11 := by unfold adE; rw [hok, hr]; rfl
        simp only [V0, E0] at CA
        have CA := Lib.hid CA
        have CC := fun W k => mCount nm wo hp wc hc we ho (day + 1) 73049 W k
        obtain ⟨K, hK⟩ : ∃ K, cntI (dOpen we ho) (day + 1) 73049 = K := ⟨_, rfl⟩
        have hlt : K < n := by
          have := ad_none _ _ _ n1 hr
          rw [← hK]; unfold cntI
          rw [show max (day + 1) 0 = day + 1 by omega, show min (73049 : Int) 73049 = 73049 by decide]; exact this
        simp only [hK] at CC
        have CC := Lib.hid CC
        clear hf hL hw hh hcal hok V0 E0 hr hK hv
        go_enter Tryd.func9, Tryd.ntmps9
        go_wp2_with fail
        refine (CF.out _).mono ?_
        rintro e w1 ⟨rfl, q1⟩
        have X1 := HX.out.keep q1
        have Z1 := Lib.hid (btr (bal (bref _) _) q1)
        clear q1 HX
        have HX := Lib.hid X1
        obtain ⟨x0, x1, x2⟩ := X1
        go_wp2_with fail
        refine (CA.out _ (HC.out.keep Z1.out)).mono ?_
        rintro e w2 ⟨rfl, q⟩
        have Z2 := Lib.hid (btr Z1.out q)
        have X1 := HX.out.keep q
        clear q Z1 HX x0 x1 x2
        have HX := Lib.hid X1
        obtain ⟨x0, x1, x2⟩ := X1
        go_wp2_with fail
        refine (CV.out _).mono ?_
        rintro e w3 ⟨rfl, rfl⟩
        go_wp2_with fail
        refine (CC.out _ (HC.out.keep Z2.out)).mono ?_
        rintro e w3 ⟨rfl, q⟩
        have Z3 := Lib.hid (btr Z2.out q)
        have X1 := HX.out.keep q
        clear q Z2 HX x0 x1 x2
        have HX := Lib.hid X1
        obtain ⟨x0, x1, x2⟩ := X1
        go_wp2_with fail
        refine (live_any _ (HL.out.keep Z3.out)).mono ?_
        rintro e w4 ⟨rfl, q⟩
        have Z4 := Lib.hid (btr Z3.out q)
        clear q Z3 HX x0 x1 x2
        go_wp2_with fail
        go_ret
        exact ⟨rfl, Z4.out⟩
      | some x =>
        have V0 : adV we ho day n = x := by unfold adV; rw [hok, hr]; rfl
        have E0 : adE we ho day n = 0 := by unfold adE; rw [hok, hr]; rfl
        obtain ⟨s1, s2, s3, s4⟩ := ad_some _ _ _ _ (by omega) n1 hr
        simp only [V0, E0] at CA
        have CA := Lib.hid CA
        have CO := fun W k => mOpen nm wo hp wc hc we ho x W k
        have hO : opB we ho x = true := by rw [opB_of we ho x (vd_yes x (by omega) s2)]; exact s3
        simp only [hO] at CO
        have CO := Lib.hid CO
        have CC := fun W k => mCount nm wo hp wc hc we ho (day + 1) x W k
        have hK : cntI (dOpen we ho) (day + 1) x = n - 1 := by
          unfold cntI
          rw [show max (day + 1) 0 = day + 1 by omega, show min x 73049 = x by omega]; exact s4
        simp only [hK] at CC
        have CC := Lib.hid CC
        have hgt : day < x := by omega
        clear hf hL hw hh hcal hok V0 E0 hr hK hv s1 s3 s4 hO
        go_enter Tryd.func9, Tryd.ntmps9
        go_wp2_with fail
        refine (CF.out _).mono ?_
        rintro e w1 ⟨rfl, q1⟩
        have X1 := HX.out.keep q1
        have Z1 := Lib.hid (btr (bal (bref _) _) q1)
        clear q1 HX
        have HX := Lib.hid X1
        obtain ⟨x0, x1, x2⟩ := X1
        go_wp2_with fail
        refine (CA.out _ (HC.out.keep Z1.out)).mono ?_
        rintro e w2 ⟨rfl, q⟩
        have Z2 := Lib.hid (btr Z1.out q)
        have X1 := HX.out.keep q
        clear q Z1 HX x0 x1 x2
        have HX := Lib.hid X1
        obtain ⟨x0, x1, x2⟩ := X1
        go_wp2_with fail
        refine (CV.out _).mono ?_
        rintro e w3 ⟨rfl, rfl⟩
        go_wp2_with fail
        refine (CO.out _ (HC.out.keep Z2.out)).mono ?_
        rintro e w3 ⟨rfl, q⟩
        have Z3 := Lib.hid (btr Z2.out q)
        have X1 := HX.out.keep q
        clear q Z2 HX x0 x1 x2
        have HX := Lib.hid X1
        obtain ⟨x0, x1, x2⟩ := X1
        go_wp2_with fail
        refine (CC.out _ (HC.out.keep Z3.out)).mono ?_
        rintro e w4 ⟨rfl, q⟩
        have Z4 := Lib.hid (btr Z3.out q)
        have X1 := HX.out.keep q
        clear q Z3 HX x0 x1 x2
        have HX := Lib.hid X1
        obtain ⟨x0, x1, x2⟩ := X1
        go_wp2_with fail
        refine (live_any _ (HL.out.keep Z4.out)).mono ?_
        rintro e w5 ⟨rfl, q⟩
        have Z5 := Lib.hid (btr Z4.out q)
        clear q Z4 HX x0 x1 x2
        go_wp2_with fail
        go_ret
        exact ⟨by first | rfl | simp, Z5.out⟩
end Go.Proofs.YtgljaopnehdgdaaDoor
