/-
  The contract of math/bits.Div64.
-/
import Derived.Test.YtjhfbnndapopgaaDoorWalkA
import Derived.Test.YtjhfbnndapopgaaDoorMath
import Derived.Test.YtjhfbnndapopgaaDoorShelf
import Derived.Deep.QuietTactic
import Derived.BigQuiet
import Derived.LoopTactic
import Derived.Deep.LoopGhost
import Derived.Deep.DeepCutAuto
import Derived.Deep.DeepFit
import Derived.Deep.CutBlock
namespace Go.Proofs.YtjhfbnndapopgaaDoor
open Go Go.RowKit WM

set_option maxRecDepth 100000 in
set_option maxHeartbeats 4000000 in
theorem div64_hi (hi lo y : Int) (h1 : 0 < hi) (h2 : hi < y) (h3 : U64 lo) (h4 : U64 y) (w : World) :
    Calls Tryd.prog 65 #[.int .u64 hi, .int .u64 lo, .int .u64 y] w fun e w' =>
      e = .returned (.tuple #[.int .u64 (val hi lo / y), .int .u64 (val hi lo % y)]) ∧ Below w.heap.size w w' := by
  have ha : (y == 0) = false := by rw [beq_eq_false_iff_ne]; omega
  have hb : (hi == 0) = false := by rw [beq_eq_false_iff_ne]; omega
  obtain ⟨b1, b2, b3, b4⟩ := bitLen_bounds y (by omega) h4.2
  obtain ⟨s, hs⟩ : ∃ s : Nat, 64 - Lib.bitLen y.toNat = s := ⟨_, rfl⟩
  rw [hs] at b3 b4
  have hs63 : s ≤ 63 := by omega
  obtain ⟨pq1, pq2, pq3⟩ := pq s hs63
  obtain ⟨g1, g2, g3, g4⟩ := shifted (hi := hi) pq2 pq3 pq1 h3
  have hi1 : (hi + 1) * 2 ^ s ≤ y * 2 ^ s := Int.mul_le_mul_of_nonneg_right (by omega) (Int.le_of_lt pq2)
  rw [Int.add_mul, Int.one_mul] at hi1
  have hi0 : 0 ≤ hi * 2 ^ s := Int.mul_nonneg (by omega) (Int.le_of_lt pq2)
  have g5 := bits_or_add hi (lo / 2 ^ (64 - s)) s (by omega) (by omega) g2 g1 hs63
  -- the walk's own forms, each under a name
  have w1 : IntKind.u64.wrap (64 - (Lib.bitLen y.toNat : Int)) = (s : Int) := by rw [IntKind.wrap_u64]; omega
  have w1' : min s 64 = s := by omega
  have w2 : IntKind.u64.wrap (y * 2 ^ s) = y * 2 ^ s := by rw [IntKind.wrap_u64]; omega
  have w3 : IntKind.u64.wrap (hi * 2 ^ s) = hi * 2 ^ s := by rw [IntKind.wrap_u64]; omega
  have w4 : IntKind.u64.wrap (64 - (s : Int)) = ((64 - s : Nat) : Int) := by rw [IntKind.wrap_u64]; omega
  have w4' : min (64 - s) 64 = 64 - s := by omega
  have w5 : IntKind.u64.wrap (lo * 2 ^ s) = lo * 2 ^ s % 18446744073709551616 := by rw [IntKind.wrap_u64]
  obtain ⟨Y, hY⟩ : ∃ Y, y * 2 ^ s = Y := ⟨_, rfl⟩
  obtain ⟨U, hU⟩ : ∃ U, hi * 2 ^ s + lo / 2 ^ (64 - s) = U := ⟨_, rfl⟩
  obtain ⟨T, hT⟩ : ∃ T, lo * 2 ^ s % 18446744073709551616 = T := ⟨_, rfl⟩
  rw [hY] at b3 b4 hi1
  have w2' : IntKind.u64.wrap (y * 2 ^ s) = Y := w2.trans hY
  clear w2
  rw [hT] at w5 g4
  rw [hU] at g5 g4
  have hU0 : 0 ≤ U := by omega
  have hUY : U < Y := by omega
  have hT0 : 0 ≤ T ∧ T < 18446744073709551616 := by rw [← hT]; omega
  obtain ⟨N1, hN1⟩ : ∃ x, Y / 4294967296 = x := ⟨_, rfl⟩
  obtain ⟨N0, hN0⟩ : ∃ x, Y % 4294967296 = x := ⟨_, rfl⟩
  obtain ⟨D1, hD1⟩ : ∃ x, T / 4294967296 = x := ⟨_, rfl⟩
  obtain ⟨D0, hD0⟩ : ∃ x, T % 4294967296 = x := ⟨_, rfl⟩
  have m1 : bits .and .u64 Y 4294967295 = N0 := by
    obtain ⟨a, rfl⟩ := Int.eq_ofNat_of_zero_le (show 0 ≤ Y by omega)
    rw [Mul64.maskN a (by omega), ← hN0]; omega
  have m2 : bits .and .u64 T 4294967295 = D0 := by
    obtain ⟨a, rfl⟩ := Int.eq_ofNat_of_zero_le hT0.1
    rw [Mul64.maskN a (by omega), ← hD0]; omega
  have hn : Norm N1 N0 := by unfold Norm; omega
  have eY : Y = N1 * 4294967296 + N0 := by omega
  have eT : T = D1 * 4294967296 + D0 := by omega
  obtain ⟨i1, i2⟩ := inv_start (u := U) (d := D1) hn hU0 (by omega) (by omega) (by omega)
  obtain ⟨Q, hQ⟩ : ∃ x, U / N1 = x := ⟨_, rfl⟩
  rw [hQ] at i1 i2
  obtain ⟨R, hR⟩ : ∃ x, U - Q * N1 = x := ⟨_, rfl⟩
  rw [hR] at i1 i2
  have w6 : IntKind.u64.wrap (U - IntKind.u64.wrap (Q * N1)) = R := by
    have j := i1
    unfold KInv at j
    rw [IntKind.wrap_u64, IntKind.wrap_u64]
    generalize Q * N1 = z at *
    omega
  have bn := hn
  unfold Norm at bn
  obtain ⟨bn1, bn2, bn3, bn4⟩ := bn
  have bd1 : 0 ≤ D1 ∧ D1 < 4294967296 := by omega
  have bd0 : 0 ≤ D0 ∧ D0 < 4294967296 := by omega
  have G4 := Lib.hid g4
  have EY := Lib.hid eY; have ET := Lib.hid eT
  have HY := Lib.hid hY
  have I1 := Lib.hid i1
  have PQ2 := Lib.hid pq2
  have hn1z : (N1 == 0) = false := by rw [beq_eq_false_iff_ne]; omega
  have HQ := Lib.hid hQ; have W6 := Lib.hid w6
  clear hQ w6 g1 g2 g3 g4 hi1 hi0 eY eT hY i1 pq1 pq2 pq3 hU hT hN0 hD0 hR b1 b2 hs
  go_enter Tryd.func65, Tryd.ntmps65
  go_wp2_with fail
  refine (Tryd.bits_LeadingZeros64 y _ h4.1 h4.2).mono ?_
  rintro e w' ⟨rfl, hw⟩
  obtain rfl := hw.symm
  go_upto_block 0 with fail
  go_cut [15] (fun v wx => w = wx ∧ ∃ q : Int, v = .int .u64 q ∧ Half U D1 N1 N0 q)
  case first =>
    go_wp2_with fail
    go_loop [15, 16] (fun a b => ∃ q r : Int, a = .int .u64 q ∧ b = .int .u64 r ∧ KInv U D1 N1 N0 q r ∧ r < 4294967296) (fun a _ => (intOf a).toNat)
    case atStart => exact ⟨Q, R, by rw [HQ.out], by rw [HQ.out, W6.out], I1.out, i2⟩
    case round =>
      obtain ⟨q, r, rfl, rfl, inv, hr⟩ := hrel
      have j := inv
      unfold KInv at j
      obtain ⟨q0, r0, j1, j2, q1⟩ := j
      have hp0 : 0 ≤ q * N0 := Int.mul_nonneg q0 bn3
      have J1 := Lib.hid j1; have J2 := Lib.hid j2
      clear j1 j2
      have INV := Lib.hid inv
      clear inv
      by_cases c1 : 4294967296 ≤ q
      · obtain ⟨k1, k2, k3⟩ := inv_step hn (by rw [← EY.out]; exact hUY) bd1.1 bd1.2 INV.out (Or.inl c1)
        have K2 := Lib.hid k2
        by_cases c2 : 4294967296 ≤ r + N1
        · have K3 := Lib.hid (k3 c2)
          clear k2 k3
          go_wp2
          go_meet
          exact ⟨rfl, _, rfl, K3.out⟩
        · clear k2 k3
          go_wp2
          go_round
          case rel => exact ⟨q - 1, r + N1, rfl, rfl, K2.out, by omega⟩
          case measure => simp [intOf]; omega
      · obtain ⟨p0, hq0⟩ : ∃ p0, q * N0 = p0 := ⟨_, rfl⟩
        have hlt : p0 < 18446744073709551616 := by
          have := Int.mul_le_mul_of_nonneg_right (show q ≤ 4294967296 by omega) bn3
          rw [hq0] at this; omega
        rw [hq0] at hp0
        have hqw : IntKind.u64.wrap (q * N0) = p0 := by rw [hq0, IntKind.wrap_u64]; omega
        by_cases c3 : 4294967296 * r + D1 < p0
        · obtain ⟨k1, k2, k3⟩ := inv_step hn (by rw [← EY.out]; exact hUY) bd1.1 bd1.2 INV.out (Or.inr (by rw [hq0]; exact c3))
          have K2 := Lib.hid k2
          clear hq0
          by_cases c2 : 4294967296 ≤ r + N1
          · have K3 := Lib.hid (k3 c2)
            clear k2 k3
            go_wp2
            go_meet
            exact ⟨rfl, _, rfl, K3.out⟩
          · clear k2 k3
            go_wp2
            go_round
            case rel => exact ⟨q - 1, r + N1, rfl, rfl, K2.out, by omega⟩
            case measure => simp [intOf]; omega
        · have K3 := Lib.hid (inv_done INV.out (by rw [hq0]; exact c3))
          clear hq0
          go_wp2
          go_meet
          exact ⟨rfl, _, rfl, K3.out⟩
  case rest =>
    obtain ⟨rfl, q1, rfl, hh⟩ := hcut
    have ql := half_lt hn (by rw [← EY.out]; exact hUY) bd1.2 hh
    obtain ⟨r1, r2, r3⟩ := half_rest hn hh
    rw [← EY.out] at r1 r2 r3
    have HH := Lib.hid hh
    have q10 : 0 ≤ q1 := hh.1
    clear hh
    obtain ⟨V, hV⟩ : ∃ V, U * 4294967296 + D1 - q1 * Y = V := ⟨_, rfl⟩
    rw [hV] at r1 r2 r3
    have w7 : IntKind.u64.wrap (IntKind.u64.wrap (IntKind.u64.wrap (U * 4294967296) + D1) - IntKind.u64.wrap (q1 * Y)) = V := by
      rw [IntKind.wrap_u64, IntKind.wrap_u64, IntKind.wrap_u64, IntKind.wrap_u64, ← r3]
      generalize q1 * Y = z
      omega
    have W7 := Lib.hid w7
    obtain ⟨i3, i4⟩ := inv_start (u := V) (d := D0) hn r1 (by rw [← EY.out]; exact r2) bd0.1 bd0.2
    have I3 := Lib.hid i3
    have w8 : IntKind.u64.wrap (V - IntKind.u64.wrap (V / N1 * N1)) = V - V / N1 * N1 := by
      have j := i3
      unfold KInv at j
      rw [IntKind.wrap_u64, IntKind.wrap_u64]
      generalize V / N1 * N1 = z at *
      omega
    have W8 := Lib.hid w8
    have HV := Lib.hid hV
    clear r3 w8 i3 hV
    go_upto_block 2 with fail
    clear w7
    go_cut [18] (fun v wx => w = wx ∧ ∃ q : Int, v = .int .u64 q ∧ Half V D0 N1 N0 q)
    case first =>
      go_wp2_with fail
      go_loop [18, 16] (fun a b => ∃ q r : Int, a = .int .u64 q ∧ b = .int .u64 r ∧ KInv V D0 N1 N0 q r ∧ r < 4294967296) (fun a _ => (intOf a).toNat)
      case atStart => exact ⟨V / N1, V - V / N1 * N1, by first | rfl | rw [W7.out], by first | rw [W8.out] | rw [W7.out, W8.out], I3.out, i4⟩
      case round =>
        obtain ⟨q, r, rfl, rfl, inv, hr⟩ := hrel
        have j := inv
        unfold KInv at j
        obtain ⟨q0, r0, j1, j2, q1⟩ := j
        have hp0 : 0 ≤ q * N0 := Int.mul_nonneg q0 bn3
        have J1 := Lib.hid j1; have J2 := Lib.hid j2
        clear j1 j2
        have INV := Lib.hid inv
        clear inv
        by_cases c1 : 4294967296 ≤ q
        · obtain ⟨k1, k2, k3⟩ := inv_step hn (by rw [← EY.out]; exact r2) bd0.1 bd0.2 INV.out (Or.inl c1)
          have K2 := Lib.hid k2
          by_cases c2 : 4294967296 ≤ r + N1
          · have K3 := Lib.hid (k3 c2)
            clear k2 k3
            go_wp2
            go_meet
            exact ⟨rfl, _, rfl, K3.out⟩
          · clear k2 k3
            go_wp2
            go_round
            case rel => exact ⟨q - 1, r + N1, rfl, rfl, K2.out, by omega⟩
            case measure => simp [intOf]; omega
        · obtain ⟨p0, hq0⟩ : ∃ p0, q * N0 = p0 := ⟨_, rfl⟩
          have hlt : p0 < 18446744073709551616 := by
            have := Int.mul_le_mul_of_nonneg_right (show q ≤ 4294967296 by omega) bn3
            rw [hq0] at this; omega
          rw [hq0] at hp0
          have hqw : IntKind.u64.wrap (q * N0) = p0 := by rw [hq0, IntKind.wrap_u64]; omega
          by_cases c3 : 4294967296 * r + D0 < p0
          · obtain ⟨k1, k2, k3⟩ := inv_step hn (by rw [← EY.out]; exact r2) bd0.1 bd0.2 INV.out (Or.inr (by rw [hq0]; exact c3))
            have K2 := Lib.hid k2
            clear hq0
            by_cases c2 : 4294967296 ≤ r + N1
            · have K3 := Lib.hid (k3 c2)
              clear k2 k3
              go_wp2
              go_meet
              exact ⟨rfl, _, rfl, K3.out⟩
            · clear k2 k3
              go_wp2
              go_round
              case rel => exact ⟨q - 1, r + N1, rfl, rfl, K2.out, by omega⟩
              case measure => simp [intOf]; omega
          · have K3 := Lib.hid (inv_done INV.out (by rw [hq0]; exact c3))
            clear hq0
            go_wp2
            go_meet
            exact ⟨rfl, _, rfl, K3.out⟩
    case rest =>
      obtain ⟨rfl, q0, rfl, hh⟩ := hcut
      have qm := half_lt hn (by rw [← EY.out]; exact r2) bd0.2 hh
      obtain ⟨r3, r4, r5⟩ := half_rest hn hh
      rw [← EY.out] at r3 r4 r5
      have q00 : 0 ≤ q0 := hh.1
      clear hh
      obtain ⟨Z, hZ⟩ : ∃ Z, V * 4294967296 + D0 - q0 * Y = Z := ⟨_, rfl⟩
      rw [hZ] at r3 r4 r5
      have w9 : IntKind.u64.wrap (IntKind.u64.wrap (IntKind.u64.wrap (V * 4294967296) + D0) - IntKind.u64.wrap (q0 * Y)) = Z := by
        rw [IntKind.wrap_u64, IntKind.wrap_u64, IntKind.wrap_u64, IntKind.wrap_u64, ← r5]
        generalize q0 * Y = z
        omega
      have w10 : IntKind.u64.wrap (IntKind.u64.wrap (q1 * 4294967296) + q0) = q1 * 4294967296 + q0 := by rw [IntKind.wrap_u64, IntKind.wrap_u64]; omega
      obtain ⟨f1, f2⟩ := div_fin PQ2.out HY.out.symm (by omega) G4.out ET.out HV.out.symm hZ.symm r3 r4
      have F1 := Lib.hid f1; have F2 := Lib.hid f2
      clear r5 hZ f1 f2
      go_wp2_with fail
      go_ret2
      exact ⟨by rw [← F1.out, ← F2.out]; rfl, bref _⟩

theorem div64_zero (lo y : Int) (h2 : 0 < y) (h3 : U64 lo) (w : World) :
    Calls Tryd.prog 65 #[.int .u64 0, .int .u64 lo, .int .u64 y] w fun e w' =>
      e = .returned (.tuple #[.int .u64 (lo / y), .int .u64 (lo % y)]) ∧ Below w.heap.size w w' := by
  have ha : (y == 0) = false := by rw [beq_eq_false_iff_ne]; omega
  have hl : 0 ≤ lo := h3.1
  have HQ : Hid (IntKind.u64.wrap (lo.tdiv y) = lo / y) := Lib.hid (by
    rw [Int.tdiv_eq_ediv_of_nonneg hl, IntKind.wrap_u64]
    have e1 := Int.ediv_nonneg hl (Int.le_of_lt h2)
    have e2 := Int.ediv_le_self y hl
    unfold U64 at h3; omega)
  go_enter Tryd.func65, Tryd.ntmps65
  go_wp2_with fail
  go_quiet (fail)
  go_wp2_with fail
  go_ret2
  exact ⟨by show Ending.returned (.tuple #[.int .u64 (IntKind.u64.wrap (lo.tdiv y)), .int .u64 (lo % y)]) = _; rw [HQ.out], ⟨rfl, rfl, rfl, Nat.le_refl _, fun _ _ => rfl⟩⟩

theorem div64_any (hi lo y : Int) (h1 : 0 ≤ hi) (h2 : hi < y) (h3 : U64 lo) (h4 : U64 y) (w : World) :
    Calls Tryd.prog 65 #[.int .u64 hi, .int .u64 lo, .int .u64 y] w fun e w' =>
      e = .returned (.tuple #[.int .u64 (val hi lo / y), .int .u64 (val hi lo % y)]) ∧ Below w.heap.size w w' := by
  rcases Int.lt_or_eq_of_le h1 with h | h
  · exact div64_hi hi lo y h h2 h3 h4 w
  · subst h
    have e : val 0 lo = lo := by unfold val; omega
    rw [e]
    exact div64_zero lo y h2 h3 w
end Go.Proofs.YtjhfbnndapopgaaDoor
