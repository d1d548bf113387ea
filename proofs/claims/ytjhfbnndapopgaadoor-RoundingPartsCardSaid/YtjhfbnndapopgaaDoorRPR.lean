/-
  The contract of the document's own Divide and Percent.
-/
import Derived.Test.YtjhfbnndapopgaaDoorRE
import Derived.Test.YtjhfbnndapopgaaDoorRDef
import Derived.Test.YtjhfbnndapopgaaDoorRefM
namespace Go.Proofs.YtjhfbnndapopgaaDoor
open Go Go.RowKit WM

theorem rrdivide_of (a l n m : Int) (hh : I64 a) (hl : U64 l) (hn : I64 n) (w : World) :
    Calls Tryd.prog 19 #[.agg #[.int .i64 a, .int .u64 l], .int .i64 n, .int .i64 m] w fun e w' =>
      e = .returned (.tuple #[.int .i64 (dQ (val a l) n m), .int .i64 (dE (val a l) n m)]) ∧ Below w.heap.size w w' := by
  cases h : (decide (1 ≤ n) && validB m)
  · have e1 : dQ (val a l) n m = 0 := by unfold dQ; rw [h]; rfl
    have e2 : dE (val a l) n m = 1 := by unfold dE; rw [h]; rfl
    rw [e1, e2]
    exact rdivide_no a l n m h w
  · have e1 : dQ (val a l) n m = toInt (quoI (val a l) n m) := by unfold dQ; rw [h]; rfl
    have e2 : dE (val a l) n m = if isInt (quoI (val a l) n m) then 0 else 6 := by unfold dE; rw [h]; rfl
    rw [e1, e2]
    rw [Bool.and_eq_true] at h
    exact rdivide_yes a l n m hh hl hn (by simpa using h.1) (by simpa [validB] using h.2) w

set_option maxRecDepth 100000 in
theorem rpercent_any (a p m : Int) (ha : I64 a) (hp : I64 p) (w : World) :
    Calls Tryd.prog 30 #[.int .i64 a, .int .i64 p, .int .i64 m] w fun e w' =>
      e = .returned (.tuple #[.int .i64 (pQ a p m), .int .i64 (pE' a p m)]) ∧ Below w.heap.size w w' := by
  have G := fun W => rgood_any a W
  cases hg : goodB a
  · have e1 : pQ a p m = 0 := by unfold pQ; rw [hg]; rfl
    have e2 : pE' a p m = 1 := by unfold pE'; rw [hg]; rfl
    rw [e1, e2]
    simp only [hg] at G
    have G := Lib.hid G
    clear hg e1 e2
    go_enter Tryd.func30, Tryd.ntmps30
    go_wp2_with fail
    refine (G.out _).mono ?_
    rintro e w1 ⟨rfl, rfl⟩
    go_wp2_with fail
    go_ret2
    exact ⟨rfl, bref _⟩
  · simp only [hg] at G
    have G := Lib.hid G
    by_cases h1 : p < 0
    · have hd : decide (p < 0) = true := by simpa using h1
      have e1 : pQ a p m = 0 := by unfold pQ; rw [hg, show decide (0 ≤ p ∧ p ≤ 1000000) = false by simp; omega]; rfl
      have e2 : pE' a p m = 1 := by unfold pE'; rw [hg, show decide (0 ≤ p ∧ p ≤ 1000000) = false by simp; omega]; rfl
      rw [e1, e2]
      clear hg e1 e2
      go_enter Tryd.func30, Tryd.ntmps30
      go_wp2_with fail
      refine (G.out _).mono ?_
      rintro e w1 ⟨rfl, rfl⟩
      go_wp2_with fail
      go_ret2
      exact ⟨rfl, bref _⟩
    · have hd : decide (p < 0) = false := by simpa using h1
      by_cases h2 : 1000000 < p
      · have hd2 : decide (1000000 < p) = true := by simpa using h2
        have e1 : pQ a p m = 0 := by unfold pQ; rw [hg, show decide (0 ≤ p ∧ p ≤ 1000000) = false by simp; omega]; rfl
        have e2 : pE' a p m = 1 := by unfold pE'; rw [hg, show decide (0 ≤ p ∧ p ≤ 1000000) = false by simp; omega]; rfl
        rw [e1, e2]
        clear hg e1 e2
        go_enter Tryd.func30, Tryd.ntmps30
        go_wp2_with fail
        refine (G.out _).mono ?_
        rintro e w1 ⟨rfl, rfl⟩
        go_wp2_with fail
        go_ret2
        exact ⟨rfl, bref _⟩
      · have hd2 : decide (1000000 < p) = false := by simpa using h2
        have hc : (goodB a && decide (0 ≤ p ∧ p ≤ 1000000)) = true := by rw [hg, show decide (0 ≤ p ∧ p ≤ 1000000) = true by simp; omega]; rfl
        have i6 : I64 1000000 := by unfold I64; omega
        have hin : inW (a * p) = true := prod_in ha hp
        have M := Lib.hid (fun W => rmul_any a p ha hp W)
        have D := fun W => rrdivide_of (wH (a * p)) (wL (a * p)) 1000000 m (wH_I64 _) (wL_U64 _) i6 W
        simp only [val_w hin] at D
        obtain ⟨Q, hQ⟩ : ∃ x, dQ (a * p) 1000000 m = x := ⟨_, rfl⟩
        obtain ⟨E, hE⟩ : ∃ x, dE (a * p) 1000000 m = x := ⟨_, rfl⟩
        have e1 : pQ a p m = Q := by unfold pQ; rw [if_pos hc, hQ]
        have e2 : pE' a p m = E := by unfold pE'; rw [if_pos hc, hE]
        rw [e1, e2]
        simp only [hQ, hE] at D
        have D := Lib.hid D
        clear hg e1 e2 hQ hE hc hin i6
        go_enter Tryd.func30, Tryd.ntmps30
        go_wp2_with fail
        refine (G.out _).mono ?_
        rintro e w1 ⟨rfl, rfl⟩
        go_wp2_with fail
        refine (M.out _).mono ?_
        rintro e w2 ⟨rfl, Z2⟩
        go_wp2_with fail
        refine (D.out _).mono ?_
        rintro e w3 ⟨rfl, q3⟩
        have Z3 := btr Z2 q3
        go_wp2_with fail
        go_ret2
        exact ⟨rfl, Z3⟩
end Go.Proofs.YtjhfbnndapopgaaDoor
