/-
  The contract of rise: the distance of the rounded quotient from the lesser integer.
-/
import Derived.Test.YtjhfbnndapopgaaDoorRB
import Derived.Deep.QuietTactic
import Derived.BigQuiet
namespace Go.Proofs.YtjhfbnndapopgaaDoor
open Go Go.RowKit WM

set_option maxRecDepth 100000 in
set_option maxHeartbeats 1000000 in
theorem rise_walk (a l r n m sd hf c : Int) (i : Nat) (hl : U64 l) (hr1 : 1 ≤ r) (hrn : r < n) (hn : n ≤ 9223372036854775807) (k : Int)
    (hk : cmpW (val a l) (val 0 0) = k) (h1 : (k < 0 ∧ sd = 0) ∨ (0 ≤ k ∧ sd = 1)) (h2 : cmpW r (n - r) = hf) (hhf : -1 ≤ hf ∧ hf ≤ 1) (hm : 1 ≤ m ∧ m ≤ 6)
    (hi : (i : Int) = m * 6 + sd * 3 + (1 + hf)) (hc : choicesTab.getD i 0 = c) (w : World) (hch : Ch w) :
    Calls Tryd.prog 52 #[.agg #[.int .i64 a, .int .u64 l], .int .i64 r, .int .i64 n, .int .i64 m] w fun e w' => e = .returned (.int .i64 (if c = 2 then l % 2 else c)) ∧ Below w.heap.size w w' := by
  have hi42 : i < 42 := by omega
  have C1 := fun W => cmp_any a l 0 0 hl (by unfold U64; omega) W
  simp only [hk] at C1
  have C1 := Lib.hid C1
  have C2 := fun W => compare_int r (n - r) W
  simp only [h2] at C2
  have C2 := Lib.hid C2
  have hx := u64_and1 l hl
  have HX := Lib.hid hx
  have HC := Lib.hid hc
  have HI := Lib.hid hi
  clear hk h2 hx hc hi
  rcases h1 with ⟨h1, rfl⟩ | ⟨h1, rfl⟩
  · have eoff : m.toNat * 6 + (1 + hf).toNat = i := by have := HI.out; omega
    go_enter Tryd.func52, Tryd.ntmps52
    go_wp2_with fail
    refine (C1.out _).mono ?_
    rintro e w1 ⟨rfl, q1⟩
    have A1 : Own w1 w.heap.size (.int .i64 a) (.int .u64 l) := (Own.new w _ _ _).keep q1
    have Z1 := btr (bal (bref w) _) q1
    have G1 : w1.cell? ⟨0, m.toNat * 6 + (1 + hf).toNat, none⟩ = some (.int .i64 c) := by
      have := (hch.keep Z1).cell i hi42
      rw [HC.out] at this
      rw [eoff]; exact this
    clear eoff
    obtain ⟨a0, a1, _, _⟩ := A1
    clear q1
    go_wp2_with fail
    refine (C2.out _).mono ?_
    rintro e w2 ⟨rfl, rfl⟩
    by_cases c2 : c = 2
    · subst c2
      go_wp2_with fail
      go_ret
      exact ⟨by show Ending.returned (.int .i64 (wrap64 (bits .and .u64 l 1))) = _; rw [HX.out]; congr 2; unfold wrap64; omega, Z1⟩
    · have c3 : (c == 2) = false := by rw [beq_eq_false_iff_ne]; exact c2
      go_wp2_with fail
      go_ret
      exact ⟨rfl, Z1⟩
  · have eoff : m.toNat * 6 + 3 + (1 + hf).toNat = i := by have := HI.out; omega
    go_enter Tryd.func52, Tryd.ntmps52
    go_wp2_with fail
    refine (C1.out _).mono ?_
    rintro e w1 ⟨rfl, q1⟩
    have A1 : Own w1 w.heap.size (.int .i64 a) (.int .u64 l) := (Own.new w _ _ _).keep q1
    have Z1 := btr (bal (bref w) _) q1
    have G1 : w1.cell? ⟨0, m.toNat * 6 + 3 + (1 + hf).toNat, none⟩ = some (.int .i64 c) := by
      have := (hch.keep Z1).cell i hi42
      rw [HC.out] at this
      rw [eoff]; exact this
    clear eoff
    obtain ⟨a0, a1, _, _⟩ := A1
    clear q1
    go_wp2_with fail
    refine (C2.out _).mono ?_
    rintro e w2 ⟨rfl, rfl⟩
    by_cases c2 : c = 2
    · subst c2
      go_wp2_with fail
      go_ret
      exact ⟨by show Ending.returned (.int .i64 (wrap64 (bits .and .u64 l 1))) = _; rw [HX.out]; congr 2; unfold wrap64; omega, Z1⟩
    · have c3 : (c == 2) = false := by rw [beq_eq_false_iff_ne]; exact c2
      go_wp2_with fail
      go_ret
      exact ⟨rfl, Z1⟩

theorem up1 (neg odd : Bool) (r n : Int) : upB neg odd r n 1 = neg := rfl
theorem up2 (neg odd : Bool) (r n : Int) : upB neg odd r n 2 = !neg := rfl
theorem up3 (neg odd : Bool) (r n : Int) : upB neg odd r n 3 = false := rfl
theorem up4 (neg odd : Bool) (r n : Int) : upB neg odd r n 4 = true := rfl
theorem up5 (neg odd : Bool) (r n : Int) : upB neg odd r n 5 = if r ≠ n - r then decide (n - r < r) else !neg := rfl
theorem up6 (neg odd : Bool) (r n : Int) : upB neg odd r n 6 = if r ≠ n - r then decide (n - r < r) else odd := rfl
theorem rise_eq (v r n m l : Int) (hm : 1 ≤ m ∧ m ≤ 6) (sd hf : Int) (hsd : (v < 0 ∧ sd = 0) ∨ (0 ≤ v ∧ sd = 1)) (hhf : cmpW r (n - r) = hf) (i : Nat) (hi : (i : Int) = m * 6 + sd * 3 + (1 + hf)) (hl : l % 2 = v % 2) :
    (if choicesTab.getD i 0 = 2 then l % 2 else choicesTab.getD i 0) = (if upB (decide (v < 0)) (oddB v) r n m then 1 else 0) := by
  have hf3 : (hf = -1 ∧ r ≠ n - r ∧ decide (n - r < r) = false) ∨ (hf = 0 ∧ ¬ (r ≠ n - r) ∧ True) ∨ (hf = 1 ∧ r ≠ n - r ∧ decide (n - r < r) = true) := by
    rw [← hhf]; unfold cmpW
    split
    · exact Or.inl ⟨rfl, by omega, by simp; omega⟩
    · split
      · exact Or.inr (Or.inr ⟨rfl, by omega, by simp; omega⟩)
      · exact Or.inr (Or.inl ⟨rfl, by omega, trivial⟩)
  have hm6 : m = 1 ∨ m = 2 ∨ m = 3 ∨ m = 4 ∨ m = 5 ∨ m = 6 := by omega
  have ho : l % 2 = if oddB v then 1 else 0 := by
    unfold oddB
    by_cases c : v % 2 = 1
    · rw [hl, c]; rfl
    · rw [hl, if_neg (by simpa using c)]; omega
  have hs2 : (sd = 0 ∧ decide (v < 0) = true) ∨ (sd = 1 ∧ decide (v < 0) = false) := by
    rcases hsd with ⟨hv, h⟩ | ⟨hv, h⟩
    · exact Or.inl ⟨h, by simpa using hv⟩
    · exact Or.inr ⟨h, by simpa using hv⟩
  rw [ho]
  have hi2 : i = (m * 6 + sd * 3 + (1 + hf)).toNat := by omega
  subst hi2
  clear hl ho hhf hi hsd hm
  generalize oddB v = o
  generalize decide (v < 0) = b at hs2 ⊢
  rcases hs2 with ⟨rfl, rfl⟩ | ⟨rfl, rfl⟩
  all_goals
    rcases hf3 with ⟨rfl, g1, g2⟩ | ⟨rfl, g1, g2⟩ | ⟨rfl, g1, g2⟩
    all_goals
      rcases hm6 with rfl | rfl | rfl | rfl | rfl | rfl
      all_goals
        cases o
        all_goals first | (rw [up1]; rfl) | (rw [up2]; rfl) | (rw [up3]; rfl) | (rw [up4]; rfl) | (rw [up5, if_pos g1, g2]; rfl) | (rw [up6, if_pos g1, g2]; rfl) | (rw [up5, if_neg g1]; rfl) | (rw [up6, if_neg g1]; rfl)
end Go.Proofs.YtjhfbnndapopgaaDoor
