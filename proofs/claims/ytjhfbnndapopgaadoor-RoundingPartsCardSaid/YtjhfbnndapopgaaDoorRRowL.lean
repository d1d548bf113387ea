/-
  Lists as arguments of a row about rounding.
-/
import Derived.Test.YtjhfbnndapopgaaDoorRRowB
namespace Go.Proofs.YtjhfbnndapopgaaDoor
open Go Go.ChangeShapes Go.WideShapes Go.ChangeAt Go.RowKit Go.Joins WM

theorem laidOut : laidOutB Tryd.prog = true := by kernel_rfl
theorem opened_ints {H : Type} {enc : TypeId × Value → H} {W : World} {a0 : Option Addr} {len cap : Nat} {d0 : DataW H} {p : List MemPlace}
    (h0 : DataW.Trod enc Tryd.prog W 0 (fun _ => true) true 44 (.slice a0 len cap) d0 p) :
    ∃ zs : List Int, zs.length = len ∧ ∀ i, i < zs.length → ∃ b off, a0 = some ⟨b, off, none⟩ ∧ b < W.heap.size ∧ W.cell? ⟨b, off + i, none⟩ = some (.int .i64 (zs.getD i 0)) := by
  obtain ⟨fuel, hf⟩ := h0
  rcases open_ints Tryd.underlying44 Tryd.underlying3 cellsInt hf with ⟨hcs, hx⟩ | ⟨a, len', cap', zs, hcs, _, hl, hm, hz, hx, hcell, hwz⟩
  · simp [Value.cells] at hcs
    obtain ⟨rfl, rfl, rfl⟩ := hcs
    exact ⟨[], rfl, fun i hi => absurd hi (Nat.not_lt_zero _)⟩
  · simp [Value.cells] at hcs
    obtain ⟨rfl, rfl, rfl⟩ := hcs
    simp only [if_true] at hz
    have htl : (zs.take len).length = len := by rw [List.length_take]; omega
    refine ⟨zs.take len, htl, fun i hi => ?_⟩
    rw [htl] at hi
    obtain ⟨b, off, rfl, hat⟩ := ints_at hcell (by omega)
    have hc := hat i (by omega)
    refine ⟨b, off, rfl, World.block_lt_of_cell? W _ hc, ?_⟩
    rw [hc]
    simp [List.getD, hi]
end Go.Proofs.YtjhfbnndapopgaaDoor
