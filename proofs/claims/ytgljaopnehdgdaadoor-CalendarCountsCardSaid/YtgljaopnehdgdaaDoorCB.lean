/-
  Contracts of package calendar's sets of days and of its condition for a day to be open.
-/
import Derived.Test.YtgljaopnehdgdaaDoorCA
import Derived.Laws.Bits64b
namespace Go.Proofs.YtgljaopnehdgdaaDoor
open Go Go.RowKit Go.Lib WM

/-- n cells of one block, not frozen. -/
def TabB (w : World) (b n : Nat) (f : Nat → Value) : Prop := ∀ i, i < n → w.cell? ⟨b, i, none⟩ = some (f i) ∧ w.frozen? ⟨b, i, none⟩ = false
theorem TabB.keep {w w' : World} {b n : Nat} {f : Nat → Value} (h : TabB w b n f) (hn : 0 < n) (hb : Below w.heap.size w w') : TabB w' b n f := by
  have hl : b < w.heap.size := World.block_lt_of_cell? w _ (h 0 hn).1
  exact fun i hi => ⟨(hb.cell (p := ⟨b, i, none⟩) hl).trans (h i hi).1, (hb.frozen (p := ⟨b, i, none⟩) hl).trans (h i hi).2⟩
theorem TabB.draw {w : World} {b n : Nat} {f : Nat → Value} (h : TabB w b n f) (m : Nat) : TabB (w.drewN m) b n f := by
  intro i hi
  have := h i hi
  simpa using this
theorem TabB.put {w : World} {b n : Nat} {f g : Nat → Value} (h : TabB w b n f) (q : Nat) (hq : q < n) (v : Value) (hv : v = g q) (hg : ∀ i, i < n → i ≠ q → g i = f i) : TabB (w.setCell ⟨b, q, none⟩ v) b n g := by
  intro i hi
  refine ⟨?_, by have := (h i hi).2; simpa using this⟩
  by_cases e : i = q
  · subst e
    rw [← hv]
    exact World.cell?_setCell_same _ _ _ (h i hi).1
  · rw [World.cell?_setCell_other _ _ _ _ (by intro c; injection c with _ c _; exact e c.symm), hg i hi e]
    exact (h i hi).1
theorem TabB.other {w : World} {b n : Nat} {f : Nat → Value} (h : TabB w b n f) (p : Addr) (hp : p.block ≠ b) (v : Value) : TabB (w.setCell p v) b n f := by
  intro i hi
  refine ⟨?_, by have := (h i hi).2; simpa using this⟩
  rw [World.cell?_setCell_other _ _ _ _ (by intro c; rw [c] at hp; exact hp rfl)]
  exact (h i hi).1

theorem and_bit (F r : Nat) (hF : F < 18446744073709551616) : (bits .and .u64 ((F : Int) / 2 ^ r) 1 == 1) = F.testBit r := by
  have e : ((F : Int) / 2 ^ r) = ((F / 2 ^ r : Nat) : Int) := by simp
  have hl : F / 2 ^ r < 18446744073709551616 := Nat.lt_of_le_of_lt (Nat.div_le_self _ _) hF
  have h := bits_and_u64_nat (F / 2 ^ r) 1 hl (by decide)
  rw [e, show (1 : Int) = ((1 : Nat) : Int) from rfl, h, Nat.and_one_is_mod, Nat.testBit_eq_decide_div_mod_eq]
  rw [Bool.eq_iff_iff, beq_iff_eq, decide_eq_true_iff]
  omega
theorem or_bit (F r : Nat) (hr : r < 64) (hF : F < 18446744073709551616) : bits .or .u64 (F : Int) (IntKind.u64.wrap (2 ^ r)) = ((F ||| 2 ^ r : Nat) : Int) := by
  have hp : (2 ^ r : Nat) < 18446744073709551616 := by
    have : (2 ^ r : Nat) < 2 ^ 64 := Nat.pow_lt_pow_right (by decide) hr
    exact this
  have e : IntKind.u64.wrap (2 ^ r) = ((2 ^ r : Nat) : Int) := by
    have h1 : ((2 : Int) ^ r) = ((2 ^ r : Nat) : Int) := by simp
    rw [h1, IntKind.wrap_u64]
    generalize (2 ^ r : Nat) = P at hp
    omega
  rw [e, bits_or_u64_nat F (2 ^ r) hF hp]

set_option maxRecDepth 100000 in
set_option maxHeartbeats 1000000 in
theorem mhas (b q r F : Nat) (day : Int) (hq : q < 1142) (hr : r < 64) (hd : day = q * 64 + r) (w : World) (hF : F < 18446744073709551616) (hc : w.cell? ⟨b, q, none⟩ = some (.int .u64 F)) :
    Calls Tryd.prog 54 #[.pointer (some ⟨b, 0, none⟩), .int .i64 day] w fun e w' => e = .returned (.bool (F.testBit r)) ∧ w = w' := by
  have e1 : day.tdiv 64 = (q : Int) := by rw [Int.tdiv_eq_ediv_of_nonneg (by omega)]; omega
  have e2 : day.tmod 64 = (r : Int) := by rw [Int.tmod_eq_emod_of_nonneg (by omega)]; omega
  have hqz : (q : Int) < 1142 := by omega
  have hqz0 : (0 : Int) ≤ (q : Int) := by omega
  have HB := Lib.hid (and_bit F r hF)
  have b1 : 0 ≤ day ∧ day < 100000 := by omega
  obtain ⟨b1, b2⟩ := b1
  clear hd
  go_enter Tryd.func54, Tryd.ntmps54
  go_wp2_with fail
  rw [HB.out]
  go_ret
  exact ⟨rfl, rfl⟩

set_option maxRecDepth 100000 in
set_option maxHeartbeats 1000000 in
theorem madd (b q r F : Nat) (day : Int) (hq : q < 1142) (hr : r < 64) (hd : day = q * 64 + r) (w : World) (hF : F < 18446744073709551616) (hc : w.cell? ⟨b, q, none⟩ = some (.int .u64 F)) (hf : w.frozen? ⟨b, q, none⟩ = false) :
    Calls Tryd.prog 51 #[.pointer (some ⟨b, 0, none⟩), .int .i64 day] w fun e w' => e = .returned (.tuple #[]) ∧ ∃ n, w' = (w.setCell ⟨b, q, none⟩ (.int .u64 (F ||| 2 ^ r : Nat))).drewN n := by
  have e1 : day.tdiv 64 = (q : Int) := by rw [Int.tdiv_eq_ediv_of_nonneg (by omega)]; omega
  have e2 : day.tmod 64 = (r : Int) := by rw [Int.tmod_eq_emod_of_nonneg (by omega)]; omega
  have hqz : (q : Int) < 1142 := by omega
  have hqz0 : (0 : Int) ≤ (q : Int) := by omega
  have HB := Lib.hid (or_bit F r hr hF)
  have b1 : 0 ≤ day ∧ day < 100000 := by omega
  obtain ⟨b1, b2⟩ := b1
  clear hd
  go_enter Tryd.func51, Tryd.ntmps51
  go_wp2_with fail
  go_region
  rw [HB.out]
  go_wp2_with fail
  go_end0
  exact ⟨rfl, 1, rfl⟩

/-- The sets of the closed weekdays and of the holidays, as they lie in memory. -/
structure Sets (we ho : List Int) (b1 b2 : Nat) (w : World) : Prop where
  wk : TabB w b1 7 (fun i => .bool (we.contains (i : Int)))
  hd : ∃ f : Nat → Nat, (∀ i, f i < 18446744073709551616) ∧ TabB w b2 1142 (fun i => .int .u64 (f i)) ∧ ∀ q r : Nat, q < 1142 → r < 64 → vdB (q * 64 + r : Int) = true → (f q).testBit r = ho.contains (q * 64 + r : Int)
theorem Sets.keep {we ho : List Int} {b1 b2 : Nat} {w w' : World} (h : Sets we ho b1 b2 w) (hb : Below w.heap.size w w') : Sets we ho b1 b2 w' := by
  obtain ⟨h1, f, h2, h3, h4⟩ := h
  exact ⟨h1.keep (by decide) hb, f, h2, h3.keep (by decide) hb, h4⟩

set_option maxRecDepth 100000 in
set_option maxHeartbeats 1000000 in
/-- The condition, as a function value. -/
theorem mopen (we ho : List Int) (b1 b2 : Nat) (day : Int) (hv : vdB day = true) (w : World) (hs : Sets we ho b1 b2 w) :
    Calls Tryd.prog 52 #[.int .i64 day, .pointer (some ⟨b1, 0, none⟩), .pointer (some ⟨b2, 0, none⟩)] w fun e w' => e = .returned (.bool (dOpen we ho day)) ∧ w = w' := by
  have hb := (vd_iff day).1 hv
  obtain ⟨hwk, f, hf, hho, hbit⟩ := hs
  obtain ⟨R, hR⟩ : ∃ R, dOpen we ho day = R := ⟨_, rfl⟩
  rw [hR]
  obtain ⟨k, hk⟩ : ∃ k : Nat, wdI day = k := ⟨(wdI day).toNat, by unfold wdI; omega⟩
  have hk7 : k < 7 := by unfold wdI at hk; omega
  have C1 := fun W => mweek day W
  rw [hv] at C1
  simp only [if_true] at C1
  rw [show (day + 5) % 7 = (k : Int) from hk] at C1
  have C1 := Lib.hid C1
  obtain ⟨q, hq⟩ : ∃ q : Nat, day / 64 = q := ⟨(day / 64).toNat, by omega⟩
  obtain ⟨r, hr⟩ : ∃ r : Nat, day % 64 = r := ⟨(day % 64).toNat, by omega⟩
  have hd : day = q * 64 + r := by omega
  have hc0 : w.cell? ⟨b1, k, none⟩ = some (.bool (we.contains (k : Int))) := (hwk k hk7).1
  have hh := hbit q r (by omega) (by omega) (by rw [show (q * 64 + r : Int) = day by omega]; exact hv)
  rw [show (q * 64 + r : Int) = day by omega] at hh
  have C2 := mhas b2 q r (f q) day (by omega) (by omega) hd w (hf q) (hho q (by omega)).1
  rw [hh] at C2
  unfold dOpen at hR
  rw [hk] at hR
  obtain ⟨b1', b2'⟩ := hb
  have hkz : (k : Int) < 7 := by omega
  have hkz0 : (0 : Int) ≤ (k : Int) := by omega
  cases hA : we.contains (k : Int)
  · cases hB : ho.contains day
    · rw [hA, hB] at hR
      have HR : Hid (R = true) := Lib.hid (by rw [← hR]; rfl)
      rw [hA] at hc0
      rw [hB] at C2
      have C2 := Lib.hid C2
      clear hR hA hB hh hbit hf hho hwk hd hq hr hk hv
      go_enter Tryd.func52, Tryd.ntmps52
      go_wp2_with fail
      refine (C1.out _).mono ?_
      rintro e w1 ⟨rfl, rfl⟩
      go_wp2_with fail
      refine (C2.out).mono ?_
      rintro e w1 ⟨rfl, rfl⟩
      go_wp2_with fail
      go_ret
      exact ⟨by rw [HR.out]; rfl, rfl⟩
    · rw [hA, hB] at hR
      have HR : Hid (R = false) := Lib.hid (by rw [← hR]; rfl)
      rw [hA] at hc0
      rw [hB] at C2
      have C2 := Lib.hid C2
      clear hR hA hB hh hbit hf hho hwk hd hq hr hk hv
      go_enter Tryd.func52, Tryd.ntmps52
      go_wp2_with fail
      refine (C1.out _).mono ?_
      rintro e w1 ⟨rfl, rfl⟩
      go_wp2_with fail
      refine (C2.out).mono ?_
      rintro e w1 ⟨rfl, rfl⟩
      go_wp2_with fail
      go_ret
      exact ⟨by rw [HR.out]; rfl, rfl⟩
  · rw [hA] at hR
    have HR : Hid (R = false) := Lib.hid (by rw [← hR]; rfl)
    rw [hA] at hc0
    clear hR hA hh hbit hf hho hwk hd hq hr hk hv C2
    go_enter Tryd.func52, Tryd.ntmps52
    go_wp2_with fail
    refine (C1.out _).mono ?_
    rintro e w1 ⟨rfl, rfl⟩
    go_wp2_with fail
    go_ret
    exact ⟨by rw [HR.out]; rfl, rfl⟩
end Go.Proofs.YtgljaopnehdgdaaDoor
