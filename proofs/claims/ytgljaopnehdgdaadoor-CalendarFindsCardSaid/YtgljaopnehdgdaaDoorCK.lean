/-
  Contracts of package calendar's Count, and of the document's own.
-/
import Derived.Test.YtgljaopnehdgdaaDoorCI
namespace Go.Proofs.YtgljaopnehdgdaaDoor
open Go Go.RowKit Go.Lib WM

set_option maxRecDepth 100000 in
set_option maxHeartbeats 4000000 in
theorem mCount (nm : ByteArray) (wo hp : Option Addr) (wc hc : Nat) (we ho : List Int) (a b : Int) (w : World) (hc0 : CalAt wo hp we ho w) :
    Calls Tryd.prog 28 #[.agg #[.string nm, .slice wo we.length wc, .slice hp ho.length hc], .int .i64 a, .int .i64 b] w fun e w' => e = .returned (.int .i64 (cntI (dOpen we ho) a b)) ∧ Below w.heap.size w w' := by
  obtain ⟨R, hR⟩ : ∃ R, cntI (dOpen we ho) a b = R := ⟨_, rfl⟩
  have hbd := cnt_bd (dOpen we ho) a b
  rw [hR] at hbd
  rw [hR]
  obtain ⟨r0, r1⟩ := hbd
  have C1 := Lib.hid (fun W h => mopening nm wo hp wc hc we ho W h)
  have C2 := Lib.hid (fun b1 b2 d hv W h => mopen we ho b1 b2 d hv W h)
  have HC := Lib.hid hc0
  clear hc0
  by_cases ha : 0 ≤ a
  · skip
    by_cases hb : b ≤ 73049
    · skip
      have HR : Hid (cn (dOpen we ho) a b = R) := Lib.hid (by
        rw [← hR]; unfold cntI
        rw [show max a 0 = a by omega, show min b 73049 = b by omega])
      clear hR
      go_enter Tryd.func28, Tryd.ntmps28
      go_wp2_with fail
      refine (C1.out _ (HC.out.keep (bal (bref _) _))).mono ?_
      rintro e w1 ⟨b1, b2, rfl, hS, hB⟩
      have B1 := Lib.hid (btr (bal (bref _) _) hB)
      have HS := Lib.hid hS
      clear hS hB
      go_wp2_with fail
      go_loopw [8, 9] (fun x y wr => ∃ c d : Int, x = .int .i64 c ∧ y = .int .i64 d ∧ a ≤ d ∧ (d ≤ b ∨ d = a) ∧ 0 ≤ c ∧ c + cn (dOpen we ho) d b = R ∧ wr = w1) (fun _ y _ => (b - RowKit.intOf y).toNat)
      case atStart => exact ⟨0, a, rfl, rfl, by omega, Or.inr rfl, by omega, by rw [HR.out]; omega, rfl⟩
      case round =>
        clear HR
        obtain ⟨c, d, rfl, rfl, d0, d1, c0, hd, rfl⟩ := hrel
        have hcn := (cn_bd (dOpen we ho) d b).1
        have hcR : c ≤ R := by omega
        have HD := Lib.hid hd
        clear hcn hd d1
        by_cases hin : d < b
        · have hd0 : 0 ≤ d := by omega
          have hd2 : d < 73049 := by omega
          have hdb : d < b := by omega
          have CO := fun W h => C2.out b1 b2 d (vd_yes d (by omega) (by omega)) W h
          cases hO : dOpen we ho d
          · rw [hO] at CO
            have CO := Lib.hid CO
            have HN : Hid (c + cn (dOpen we ho) (d + 1) b = R) := Lib.hid (by
              have := HD.out
              rw [cn_at _ _ _ hin, hO] at this
              simp at this; omega)
            clear hO HD
            go_wp2_with fail
            refine (CO.out _ HS.out).mono ?_
            rintro e w2 ⟨rfl, rfl⟩
            go_wp2_with fail
            go_roundw
            case rel => exact ⟨c, d + 1, rfl, by first | rfl | go_num, by omega, Or.inl (by omega), c0, HN.out, by first | trivial | rfl⟩
            case measure => simp [RowKit.intOf]; omega
          · rw [hO] at CO
            have CO := Lib.hid CO
            have HN : Hid (c + 1 + cn (dOpen we ho) (d + 1) b = R) := Lib.hid (by
              have := HD.out
              rw [cn_at _ _ _ hin, hO] at this
              simp at this; omega)
            clear hO HD
            go_wp2_with fail
            refine (CO.out _ HS.out).mono ?_
            rintro e w2 ⟨rfl, rfl⟩
            go_wp2_with fail
            go_roundw
            case rel => exact ⟨c + 1, d + 1, by first | rfl | go_num, by first | rfl | go_num, by omega, Or.inl (by omega), by omega, HN.out, by first | trivial | rfl⟩
            case measure => simp [RowKit.intOf]; omega
        · have HRR : Hid (R = c) := Lib.hid (by
            have := HD.out
            rw [cn_end _ _ _ (by omega)] at this; omega)
          clear HD
          go_wp2_with fail
          go_ret
          exact ⟨by rw [HRR.out]; rfl, B1.out⟩
    · have hb' : 73049 < b := by omega
      clear hb
      have HR : Hid (cn (dOpen we ho) a 73049 = R) := Lib.hid (by
        rw [← hR]; unfold cntI
        rw [show max a 0 = a by omega, show min b 73049 = 73049 by omega])
      clear hR
      go_enter Tryd.func28, Tryd.ntmps28
      go_wp2_with fail
      refine (C1.out _ (HC.out.keep (bal (bref _) _))).mono ?_
      rintro e w1 ⟨b1, b2, rfl, hS, hB⟩
      have B1 := Lib.hid (btr (bal (bref _) _) hB)
      have HS := Lib.hid hS
      clear hS hB
      go_wp2_with fail
      go_loopw [8, 9] (fun x y wr => ∃ c d : Int, x = .int .i64 c ∧ y = .int .i64 d ∧ a ≤ d ∧ (d ≤ 73049 ∨ d = a) ∧ 0 ≤ c ∧ c + cn (dOpen we ho) d 73049 = R ∧ wr = w1) (fun _ y _ => (73049 - RowKit.intOf y).toNat)
      case atStart => exact ⟨0, a, rfl, rfl, by omega, Or.inr rfl, by omega, by rw [HR.out]; omega, rfl⟩
      case round =>
        clear HR
        obtain ⟨c, d, rfl, rfl, d0, d1, c0, hd, rfl⟩ := hrel
        have hcn := (cn_bd (dOpen we ho) d 73049).1
        have hcR : c ≤ R := by omega
        have HD := Lib.hid hd
        clear hcn hd d1
        by_cases hin : d < 73049
        · have hd0 : 0 ≤ d := by omega
          have hd2 : d < 73049 := by omega
          have hdb : d < b := by omega
          have CO := fun W h => C2.out b1 b2 d (vd_yes d (by omega) (by omega)) W h
          cases hO : dOpen we ho d
          · rw [hO] at CO
            have CO := Lib.hid CO
            have HN : Hid (c + cn (dOpen we ho) (d + 1) 73049 = R) := Lib.hid (by
              have := HD.out
              rw [cn_at _ _ _ hin, hO] at this
              simp at this; omega)
            clear hO HD
            go_wp2_with fail
            refine (CO.out _ HS.out).mono ?_
            rintro e w2 ⟨rfl, rfl⟩
            go_wp2_with fail
            go_roundw
            case rel => exact ⟨c, d + 1, rfl, by first | rfl | go_num, by omega, Or.inl (by omega), c0, HN.out, by first | trivial | rfl⟩
            case measure => simp [RowKit.intOf]; omega
          · rw [hO] at CO
            have CO := Lib.hid CO
            have HN : Hid (c + 1 + cn (dOpen we ho) (d + 1) 73049 = R) := Lib.hid (by
              have := HD.out
              rw [cn_at _ _ _ hin, hO] at this
              simp at this; omega)
            clear hO HD
            go_wp2_with fail
            refine (CO.out _ HS.out).mono ?_
            rintro e w2 ⟨rfl, rfl⟩
            go_wp2_with fail
            go_roundw
            case rel => exact ⟨c + 1, d + 1, by first | rfl | go_num, by first | rfl | go_num, by omega, Or.inl (by omega), by omega, HN.out, by first | trivial | rfl⟩
            case measure => simp [RowKit.intOf]; omega
        · have HRR : Hid (R = c) := Lib.hid (by
            have := HD.out
            rw [cn_end _ _ _ (by omega)] at this; omega)
          clear HD
          go_wp2_with fail
          go_ret
          exact ⟨by rw [HRR.out]; rfl, B1.out⟩
  · have ha' : a < 0 := by omega
    clear ha
    by_cases hb : b ≤ 73049
    · skip
      have HR : Hid (cn (dOpen we ho) 0 b = R) := Lib.hid (by
        rw [← hR]; unfold cntI
        rw [show max a 0 = 0 by omega, show min b 73049 = b by omega])
      clear hR
      go_enter Tryd.func28, Tryd.ntmps28
      go_wp2_with fail
      refine (C1.out _ (HC.out.keep (bal (bref _) _))).mono ?_
      rintro e w1 ⟨b1, b2, rfl, hS, hB⟩
      have B1 := Lib.hid (btr (bal (bref _) _) hB)
      have HS := Lib.hid hS
      clear hS hB
      go_wp2_with fail
      go_loopw [8, 9] (fun x y wr => ∃ c d : Int, x = .int .i64 c ∧ y = .int .i64 d ∧ 0 ≤ d ∧ (d ≤ b ∨ d = 0) ∧ 0 ≤ c ∧ c + cn (dOpen we ho) d b = R ∧ wr = w1) (fun _ y _ => (b - RowKit.intOf y).toNat)
      case atStart => exact ⟨0, 0, rfl, rfl, by omega, Or.inr rfl, by omega, by rw [HR.out]; omega, rfl⟩
      case round =>
        clear HR
        obtain ⟨c, d, rfl, rfl, d0, d1, c0, hd, rfl⟩ := hrel
        have hcn := (cn_bd (dOpen we ho) d b).1
        have hcR : c ≤ R := by omega
        have HD := Lib.hid hd
        clear hcn hd d1
        by_cases hin : d < b
        · have hd0 : 0 ≤ d := by omega
          have hd2 : d < 73049 := by omega
          have hdb : d < b := by omega
          have CO := fun W h => C2.out b1 b2 d (vd_yes d (by omega) (by omega)) W h
          cases hO : dOpen we ho d
          · rw [hO] at CO
            have CO := Lib.hid CO
            have HN : Hid (c + cn (dOpen we ho) (d + 1) b = R) := Lib.hid (by
              have := HD.out
              rw [cn_at _ _ _ hin, hO] at this
              simp at this; omega)
            clear hO HD
            go_wp2_with fail
            refine (CO.out _ HS.out).mono ?_
            rintro e w2 ⟨rfl, rfl⟩
            go_wp2_with fail
            go_roundw
            case rel => exact ⟨c, d + 1, rfl, by first | rfl | go_num, by omega, Or.inl (by omega), c0, HN.out, by first | trivial | rfl⟩
            case measure => simp [RowKit.intOf]; omega
          · rw [hO] at CO
            have CO := Lib.hid CO
            have HN : Hid (c + 1 + cn (dOpen we ho) (d + 1) b = R) := Lib.hid (by
              have := HD.out
              rw [cn_at _ _ _ hin, hO] at this
              simp at this; omega)
            clear hO HD
            go_wp2_with fail
            refine (CO.out _ HS.out).mono ?_
            rintro e w2 ⟨rfl, rfl⟩
            go_wp2_with fail
            go_roundw
            case rel => exact ⟨c + 1, d + 1, by first | rfl | go_num, by first | rfl | go_num, by omega, Or.inl (by omega), by omega, HN.out, by first | trivial | rfl⟩
            case measure => simp [RowKit.intOf]; omega
        · have HRR : Hid (R = c) := Lib.hid (by
            have := HD.out
            rw [cn_end _ _ _ (by omega)] at this; omega)
          clear HD
          go_wp2_with fail
          go_ret
          exact ⟨by rw [HRR.out]; rfl, B1.out⟩
    · have hb' : 73049 < b := by omega
      clear hb
      have HR : Hid (cn (dOpen we ho) 0 73049 = R) := Lib.hid (by
        rw [← hR]; unfold cntI
        rw [show max a 0 = 0 by omega, show min b 73049 = 73049 by omega])
      clear hR
      go_enter Tryd.func28, Tryd.ntmps28
      go_wp2_with fail
      refine (C1.out _ (HC.out.keep (bal (bref _) _))).mono ?_
      rintro e w1 ⟨b1, b2, rfl, hS, hB⟩
      have B1 := Lib.hid (btr (bal (bref _) _) hB)
      have HS := Lib.hid hS
      clear hS hB
      go_wp2_with fail
      go_loopw [8, 9] (fun x y wr => ∃ c d : Int, x = .int .i64 c ∧ y = .int .i64 d ∧ 0 ≤ d ∧ (d ≤ 73049 ∨ d = 0) ∧ 0 ≤ c ∧ c + cn (dOpen we ho) d 73049 = R ∧ wr = w1) (fun _ y _ => (73049 - RowKit.intOf y).toNat)
      case atStart => exact ⟨0, 0, rfl, rfl, by omega, Or.inr rfl, by omega, by rw [HR.out]; omega, rfl⟩
      case round =>
        clear HR
        obtain ⟨c, d, rfl, rfl, d0, d1, c0, hd, rfl⟩ := hrel
        have hcn := (cn_bd (dOpen we ho) d 73049).1
        have hcR : c ≤ R := by omega
        have HD := Lib.hid hd
        clear hcn hd d1
        by_cases hin : d < 73049
        · have hd0 : 0 ≤ d := by omega
          have hd2 : d < 73049 := by omega
          have hdb : d < b := by omega
          have CO := fun W h => C2.out b1 b2 d (vd_yes d (by omega) (by omega)) W h
          cases hO : dOpen we ho d
          · rw [hO] at CO
            have CO := Lib.hid CO
            have HN : Hid (c + cn (dOpen we ho) (d + 1) 73049 = R) := Lib.hid (by
              have := HD.out
              rw [cn_at _ _ _ hin, hO] at this
              simp at this; omega)
            clear hO HD
            go_wp2_with fail
            refine (CO.out _ HS.out).mono ?_
            rintro e w2 ⟨rfl, rfl⟩
            go_wp2_with fail
            go_roundw
            case rel => exact ⟨c, d + 1, rfl, by first | rfl | go_num, by omega, Or.inl (by omega), c0, HN.out, by first | trivial | rfl⟩
            case measure => simp [RowKit.intOf]; omega
          · rw [hO] at CO
            have CO := Lib.hid CO
            have HN : Hid (c + 1 + cn (dOpen we ho) (d + 1) 73049 = R) := Lib.hid (by
              have := HD.out
              rw [cn_at _ _ _ hin, hO] at this
              simp at this; omega)
            clear hO HD
            go_wp2_with fail
            refine (CO.out _ HS.out).mono ?_
            rintro e w2 ⟨rfl, rfl⟩
            go_wp2_with fail
            go_roundw
            case rel => exact ⟨c + 1, d + 1, by first | rfl | go_num, by first | rfl | go_num, by omega, Or.inl (by omega), by omega, HN.out, by first | trivial | rfl⟩
            case measure => simp [RowKit.intOf]; omega
        · have HRR : Hid (R = c) := Lib.hid (by
            have := HD.out
            rw [cn_end _ _ _ (by omega)] at this; omega)
          clear HD
          go_wp2_with fail
          go_ret
          exact ⟨by rw [HRR.out]; rfl, B1.out⟩

set_option maxRecDepth 100000 in
set_option maxHeartbeats 4000000 in
theorem rCount (nm : ByteArray) (wo hp : Option Addr) (wc hc : Nat) (we ho : List Int) (a b : Int) (w : World) (hc0 : CalAt wo hp we ho w) :
    Calls Tryd.prog 29 #[.agg #[.string nm, .slice wo we.length wc, .slice hp ho.length hc], .int .i64 a, .int .i64 b] w fun e w' => e = .returned (.int .i64 (cntI (dOpen we ho) a b)) ∧ Below w.heap.size w w' := by
  obtain ⟨R, hR⟩ : ∃ R, cntI (dOpen we ho) a b = R := ⟨_, rfl⟩
  have hbd := cnt_bd (dOpen we ho) a b
  rw [hR] at hbd
  rw [hR]
  rw [← cnt_all] at hR
  obtain ⟨r0, r1⟩ := hbd
  obtain ⟨q, hq⟩ : ∃ q : Int → Bool, (fun d => decide (a ≤ d) && (decide (d < b) && dOpen we ho d)) = q := ⟨_, rfl⟩
  rw [hq] at hR
  have HQ : Hid (∀ d, q d = (decide (a ≤ d) && (decide (d < b) && dOpen we ho d))) := Lib.hid (fun d => by rw [← hq])
  have HR := Lib.hid hR
  have HC := Lib.hid hc0
  clear hc0 hR hq
  go_enter Tryd.func29, Tryd.ntmps29
  go_wp2_with fail
  go_loopw [7, 8] (fun x y wr => ∃ c d : Int, x = .int .i64 c ∧ y = .int .i64 d ∧ 0 ≤ d ∧ d ≤ 73049 ∧ 0 ≤ c ∧ c + cn q d 73049 = R ∧ Box3 w.heap.size (.string nm) (.slice wo we.length wc) (.slice hp ho.length hc) wr ∧ Below w.heap.size w wr) (fun _ y _ => (73049 - RowKit.intOf y).toNat)
  case atStart => exact ⟨0, 0, rfl, rfl, by omega, by omega, by omega, by rw [HR.out]; omega, box_new nm wo hp wc hc we ho w, bal (bref _) _⟩
  case round =>
    clear HR
    obtain ⟨c, d, rfl, rfl, d0, d1, c0, hd, hX, hB⟩ := hrel
    have HX := Lib.hid hX
    have HB := Lib.hid hB
    obtain ⟨x0, x1, x2⟩ := hX
    have hcn := (cn_bd q d 73049).1
    have hcR : c ≤ R := by omega
    have HD := Lib.hid hd
    clear hcn hd
    by_cases hin : d ≤ 73048
    · by_cases h1 : a ≤ d
      · by_cases h2 : d < b
        · have CO := fun W h => rOpen nm wo hp wc hc we ho d W h
          rw [opB_of we ho d (vd_yes d (by omega) (by omega))] at CO
          cases hO : dOpen we ho d
          · rw [hO] at CO
            have CO := Lib.hid CO
            have HN : Hid (c + cn q (d + 1) 73049 = R) := Lib.hid (by
              have := HD.out
              rw [cn_at _ _ _ (by omega), HQ.out d, hO] at this
              simp at this; omega)
            clear hO HD hB
            go_wp2_with fail
            refine (CO.out _ (HC.out.keep HB.out)).mono ?_
            rintro e w2 ⟨rfl, q2⟩
            have X1 := Lib.hid (HX.out.keep q2)
            have B1 := Lib.hid (btr HB.out q2)
            clear q2 x0 x1 x2
            go_wp2_with fail
            go_roundw
            case rel => exact ⟨c, d + 1, rfl, by first | rfl | go_num, by omega, by omega, c0, HN.out, X1.out, B1.out⟩
            case measure => simp [RowKit.intOf]; omega
          · rw [hO] at CO
            have CO := Lib.hid CO
            have HN : Hid (c + 1 + cn q (d + 1) 73049 = R) := Lib.hid (by
              have := HD.out
              rw [cn_at _ _ _ (by omega), HQ.out d, hO] at this
              simp [h1, h2] at this; omega)
            clear hO HD hB
            go_wp2_with fail
            refine (CO.out _ (HC.out.keep HB.out)).mono ?_
            rintro e w2 ⟨rfl, q2⟩
            have X1 := Lib.hid (HX.out.keep q2)
            have B1 := Lib.hid (btr HB.out q2)
            clear q2 x0 x1 x2
            go_wp2_with fail
            go_roundw
            case rel => exact ⟨c + 1, d + 1, by first | rfl | go_num, by first | rfl | go_num, by omega, by omega, by omega, HN.out, X1.out, B1.out⟩
            case measure => simp [RowKit.intOf]; omega
        · have HN : Hid (c + cn q (d + 1) 73049 = R) := Lib.hid (by
            have := HD.out
            rw [cn_at _ _ _ (by omega), HQ.out d] at this
            simp [h2] at this; omega)
          clear HD hB
          go_wp2_with fail
          go_roundw
          case rel => exact ⟨c, d + 1, rfl, by first | rfl | go_num, by omega, by omega, c0, HN.out, HX.out, HB.out⟩
          case measure => simp [RowKit.intOf]; omega
      · have HN : Hid (c + cn q (d + 1) 73049 = R) := Lib.hid (by
          have := HD.out
          rw [cn_at _ _ _ (by omega), HQ.out d] at this
          simp [h1] at this; omega)
        clear HD hB
        go_wp2_with fail
        go_roundw
        case rel => exact ⟨c, d + 1, rfl, by first | rfl | go_num, by omega, by omega, c0, HN.out, HX.out, HB.out⟩
        case measure => simp [RowKit.intOf]; omega
    · have HRR : Hid (R = c) := Lib.hid (by
        have := HD.out
        rw [cn_end _ _ _ (by omega)] at this; omega)
      clear HD hB
      go_wp2_with fail
      go_ret
      exact ⟨by rw [HRR.out]; rfl, HB.out⟩
end Go.Proofs.YtgljaopnehdgdaaDoor
