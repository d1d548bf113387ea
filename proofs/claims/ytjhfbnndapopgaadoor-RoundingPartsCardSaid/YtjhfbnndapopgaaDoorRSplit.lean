/-
  The contract of package rounding's Split for fewer than 20 weights, for what the sort answers.
-/
import Derived.Test.YtjhfbnndapopgaaDoorRDesc
namespace Go.Proofs.YtjhfbnndapopgaaDoor
open Go Go.RowKit Go.Sort WM

/-- A row of n ints, free to be written. -/
def XRow (w : World) (g n : Nat) (l : List Int) : Prop := l.length = n ∧ ∀ j, j < n → w.cell? ⟨g, j, none⟩ = some (.int .i64 (l.getD j 0)) ∧ w.frozen? ⟨g, j, none⟩ = false
theorem XRow.set {w : World} {g n : Nat} {l : List Int} (h : XRow w g n l) {k : Nat} (hk : k < n) (z : Int) : XRow (w.setCell ⟨g, k, none⟩ (.int .i64 z)) g n (l.set k z) := by
  obtain ⟨h0, h1⟩ := h
  refine ⟨by rw [List.length_set]; exact h0, fun j hj => ⟨?_, by rw [World.frozen?_setCell]; exact (h1 j hj).2⟩⟩
  by_cases e : j = k
  · subst e
    rw [World.cell?_setCell_same _ _ _ (h1 j hj).1]
    simp [List.getD, h0, hj]
  · rw [World.cell?_setCell_other _ _ _ _ (by intro c; injection c with _ c _; omega), (h1 j hj).1]
    simp [List.getD, Ne.symm e]
theorem XRow.below {w w' : World} {g n : Nat} {l : List Int} (h : XRow w g n l) (hg : g < w.heap.size) (hb : Below w.heap.size w w') : XRow w' g n l :=
  ⟨h.1, fun j hj => ⟨(hb.cell (p := ⟨g, j, none⟩) hg).trans (h.2 j hj).1, (hb.frozen (p := ⟨g, j, none⟩) hg).trans (h.2 j hj).2⟩⟩
theorem own_row {w : World} {base n : Nat} {v : Value} {l : List Int} (h : w.ownsRow base 3 1 v n (vals l)) (hn : 0 < n) :
    ∃ g cap, v = .slice (some ⟨g, 0, none⟩) n cap ∧ base ≤ g ∧ g < w.heap.size ∧ n ≤ cap ∧ XRow w g n l := by
  obtain ⟨h0, h1⟩ := h
  have hl : l.length = n := by simpa [vals] using h0
  rcases h1 with ⟨_, e⟩ | ⟨g, cap, cur, rfl, hb, hg, hnc, _, hcs, htake⟩
  · omega
  · refine ⟨g, cap, rfl, hb, (Array.getElem?_eq_some_iff.1 hg).1, hnc, hl, fun j hj => ⟨?_, frozen_row _ _ _ _ _ hg⟩⟩
    rw [cell_of_row _ _ j cur _ (0, 0) hg]
    have h2 : (cur.toList.take (n * 1))[j]? = (vals l)[j]? := by rw [htake]
    rw [List.getElem?_take, if_pos (by omega)] at h2
    rw [← Array.getElem?_toList, h2]
    simp [vals, List.getD, hl, hj]

def bumpL (l : List Int) (p : Int) : List Int := l.set p.toNat (l.getD p.toNat 0 + 1)
def bumps (l qs : List Int) : List Int := qs.foldl bumpL l
theorem bumps_snoc (l qs : List Int) (p : Int) : bumps l (qs ++ [p]) = bumpL (bumps l qs) p := by simp [bumps]
theorem bumps_length (l qs : List Int) : (bumps l qs).length = l.length := by
  have key : ∀ qs l, (bumps l qs).length = l.length := by
    intro qs
    induction qs with
    | nil => intro l; rfl
    | cons p qs ih => intro l; show (bumps (bumpL l p) qs).length = _; rw [ih]; unfold bumpL; rw [List.length_set]
  exact key qs l
def inB (M : Int) (l : List Int) : Prop := ∀ j, 0 ≤ l.getD j 0 ∧ l.getD j 0 ≤ M
theorem inB_set {M : Int} {l : List Int} (h : inB M l) (k : Nat) (z : Int) (hz : 0 ≤ z ∧ z ≤ M) : inB M (l.set k z) := by
  intro j
  have hj := h j
  simp only [List.getD, List.getElem?_set] at *
  split
  · split
    · exact hz
    · simp; omega
  · exact hj
theorem bumps_in {M : Int} {l : List Int} (h : inB M l) (qs : List Int) : inB (M + qs.length) (bumps l qs) := by
  have key : ∀ qs l M, inB M l → inB (M + qs.length) (bumps l qs) := by
    intro qs
    induction qs with
    | nil => intro l M h; show inB (M + ((0 : Nat) : Int)) l; simpa using h
    | cons p qs ih =>
      intro l M h
      have h2 : inB (M + 1) (bumpL l p) := by
        unfold bumpL
        refine inB_set (fun j => ?_) _ _ ?_
        · have := h j; omega
        · have := h p.toNat; omega
      have := ih _ _ h2
      show inB (M + ((qs.length + 1 : Nat) : Int)) (bumps (bumpL l p) qs)
      rw [show M + ((qs.length + 1 : Nat) : Int) = M + 1 + qs.length by omega]
      exact this
  exact key qs l M h
/-- The first k numbers negated. -/
def negK (k : Nat) (l : List Int) : List Int := (l.take k).map (fun x => -x) ++ l.drop k
theorem negK_length (k : Nat) (l : List Int) : (negK k l).length = l.length := by
  unfold negK
  rw [List.length_append, List.length_map, List.length_take, List.length_drop]; omega
theorem negK_at (k : Nat) (l : List Int) (h : k < l.length) : (negK k l).getD k 0 = l.getD k 0 := by
  unfold negK
  simp only [List.getD]
  rw [List.getElem?_append_right (by rw [List.length_map, List.length_take]; omega), List.length_map, List.length_take, show k - min k l.length = 0 by omega, List.getElem?_drop, Nat.add_zero]
theorem negK_step (k : Nat) (l : List Int) (h : k < l.length) : (negK k l).set k (-(l.getD k 0)) = negK (k + 1) l := by
  unfold negK
  rw [List.set_append_right _ _ (by rw [List.length_map, List.length_take]; omega), List.length_map, List.length_take, show k - min k l.length = 0 by omega]
  rw [take_snoc_i l k h, List.map_append, List.append_assoc]
  congr 1
  rw [List.drop_eq_getElem_cons h]
  rfl
theorem negK_all (l : List Int) : negK l.length l = l.map (fun x => -x) := by
  unfold negK; rw [List.take_length, List.drop_length, List.append_nil]
def finL (a : Int) (l : List Int) : List Int := if a < 0 then l.map (fun x => -x) else l

/-- Loop 2 at its k-th head. -/
def BRel (w : World) (gx g2 n : Nat) (P ps : List Int) (k : Nat) (wr : World) : Prop :=
  XRow wr gx n (bumps P (ps.take k)) ∧ (∀ j, j < n → wr.cell? ⟨g2, j, none⟩ = some (.int .i64 (ps.getD j 0))) ∧ Below w.heap.size w wr
theorem BRel.step {w wr : World} {gx g2 n k p : Nat} {P ps : List Int} (h : BRel w gx g2 n P ps k wr) (hg : gx ≠ g2) (hgx : w.heap.size ≤ gx) (hk : k < ps.length) (hp : ps.getD k 0 = (p : Int)) (hpn : p < n) :
    BRel w gx g2 n P ps (k + 1) (wr.setCell ⟨gx, p, none⟩ (.int .i64 ((bumps P (ps.take k)).getD p 0 + 1))) := by
  obtain ⟨h1, h2, h3⟩ := h
  refine ⟨?_, fun j hj => ?_, h3.setCell hgx _⟩
  · rw [take_snoc_i ps k hk, bumps_snoc, hp]
    unfold bumpL
    rw [Int.toNat_natCast]
    exact h1.set hpn _
  · rw [World.cell?_setCell_other _ _ _ _ (by intro c; injection c with c _ _; exact hg c)]; exact h2 j hj

theorem vals_at (l : List Int) : (vals l).length = l.length := by simp [vals]
theorem partL_length (a t : Int) (l : List Int) : (partL a t l).length = l.length := by simp [partL]
theorem remL_length (a t : Int) (l : List Int) : (remL a t l).length = l.length := by simp [remL]
theorem partL_in (A t : Int) (zs : List Int) (hA : 0 ≤ A ∧ A ≤ 1000000000000) (ht1 : 1 ≤ t) (hz : ∀ i, i < zs.length → 0 ≤ zs.getD i 0 ∧ zs.getD i 0 ≤ t) : inB 1000000000000 (partL A t zs) := by
  intro j
  by_cases hj : j < zs.length
  · have e : (partL A t zs).getD j 0 = A * zs.getD j 0 / t := by simp [partL, List.getD, hj]
    obtain ⟨z0, z1⟩ := hz j hj
    have p0 : 0 ≤ A * zs.getD j 0 := Int.mul_nonneg hA.1 z0
    have p1 : A * zs.getD j 0 ≤ A * t := Int.mul_le_mul_of_nonneg_left z1 hA.1
    have q1 := Int.ediv_le_ediv (c := t) (by omega) p1
    rw [Int.mul_ediv_cancel _ (by omega)] at q1
    have q0 : 0 ≤ A * zs.getD j 0 / t := Int.ediv_nonneg p0 (by omega)
    rw [e]; omega
  · have e : (partL A t zs).getD j 0 = 0 := by simp [partL, List.getD, hj]
    rw [e]; omega
theorem sumI_in (M : Int) (l : List Int) (hM : 0 ≤ M) (h : inB M l) : ∀ k : Nat, 0 ≤ sumI (l.take k) ∧ sumI (l.take k) ≤ M * k := by
  intro k
  induction k with
  | zero => simp [sumI]
  | succ k ih =>
    by_cases hk : k < l.length
    · rw [take_snoc_i l k hk, sumI_snoc]
      have := h k
      rw [show M * ((k + 1 : Nat) : Int) = M * k + M by rw [Int.natCast_add, Int.mul_add]; simp]
      omega
    · rw [List.take_of_length_le (by omega)]
      rw [List.take_of_length_le (by omega)] at ih
      rw [show M * ((k + 1 : Nat) : Int) = M * k + M by rw [Int.natCast_add, Int.mul_add]; simp]
      omega
end Go.Proofs.YtjhfbnndapopgaaDoor
