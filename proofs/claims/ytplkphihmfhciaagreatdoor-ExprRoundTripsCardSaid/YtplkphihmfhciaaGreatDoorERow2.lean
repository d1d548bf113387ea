/-
  A list of tokens that is nil has neither tokens nor room.
-/
import Derived.Test.YtplkphihmfhciaaGreatDoorERow
namespace Go.Proofs.YtplkphihmfhciaaGreatDoor
open Go Go.ChangeShapes Go.WideShapes Go.ChangeAt Go.RowKit Go.Joins Go.Deep WM TM EM

theorem toks_nil {H : Type} {enc : TypeId × Value → H} {W : World} {a0 : Option Addr} {len cap : Nat} {d0 : DataW H} {p : List MemPlace}
  (h0 : DataW.Trod enc Tryz.prog W 0 (fun _ => true) true 22 (.slice a0 len cap) d0 p) : a0 = none → len = 0 ∧ cap = 0 := by
 intro hn
 obtain ⟨fuel, hf⟩ := h0
 rcases open_slice Tryz.underlying22 hf with ⟨hcs, hx⟩ | ⟨a, len', cap', m, n, D, Pl, hcs, _⟩
 ·simp [Value.cells] at hcs
  exact ⟨hcs.2.1, hcs.2.2⟩
 ·simp [Value.cells] at hcs
  rw [hn] at hcs
  cases hcs.1
end Go.Proofs.YtplkphihmfhciaaGreatDoor
