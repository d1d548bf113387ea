/-
  A list of currencies as an argument of a row about money.
-/
import Derived.Test.YtkijbckpfcfcpabDoorMRowL
import Derived.Test.YtkijbckpfcfcpabDoorMFind
import Derived.Deep.Slices
import Derived.Deep.Fields
import Derived.ChangeSame
import Derived.ChangeMaps5
namespace Go.Proofs.YtkijbckpfcfcpabDoor
open Go Go.ChangeShapes Go.WideShapes Go.ChangeAt Go.RowKit Go.Joins Go.Deep WM

theorem cellsCur : Tryd.prog.cellsOf 35 = 2 := by kernel_rfl
theorem cellsStr : Tryd.prog.cellsOf 9 = 1 := by kernel_rfl
theorem cur_cells {H : Type} {enc : TypeId × Value → H} {W : World} {base n : Nat} {spare : Nat → Bool} {held : Bool} {vs : List Value} {x : DataW H × List MemPlace}
    (h : DataW.trod enc Tryd.prog W base spare held n 35 vs = some x) : ∃ (s : ByteArray) (d : Int), vs = [.string s, .int .i64 d] := by
  obtain ⟨ys, m, _, _, hcl, hyl, hf⟩ := DataW.trod_struct Tryd.underlying35 h
  rw [cellsCur] at hcl
  match vs, hcl with
  | [c0, c1], _ =>
    have e0 : DataW.trod enc Tryd.prog W base spare held m 9 (List.take (Tryd.prog.cellsOf 9) (List.drop 0 [c0, c1])) = ys[0]? := hf 0 _ rfl
    have e1 : DataW.trod enc Tryd.prog W base spare held m 3 (List.take (Tryd.prog.cellsOf 3) (List.drop 1 [c0, c1])) = ys[1]? := hf 1 _ rfl
    rw [cellsStr] at e0
    rw [cellsInt] at e1
    have hy0 : ys[0]? = some (ys[0]'(by rw [hyl]; decide)) := List.getElem?_eq_getElem _
    have hy1 : ys[1]? = some (ys[1]'(by rw [hyl]; decide)) := List.getElem?_eq_getElem _
    rw [hy0] at e0; rw [hy1] at e1
    obtain ⟨s, hs, _, _⟩ := DataW.trod_string Tryd.underlying9 e0
    obtain ⟨d, hd, _, _⟩ := DataW.trod_int Tryd.underlying3 e1
    cases hs; cases hd
    exact ⟨s, d, rfl⟩
/-- The list read from the memory. -/
def curAt (W : World) (a : Addr) (i : Nat) : Cur :=
  (match W.cell? (a.add (i * 2)) with | some (.string s) => s | _ => ⟨#[]⟩, match W.cell? (a.add (i * 2 + 1)) with | some (.int .i64 d) => d | _ => 0)
theorem opened_cash {H : Type} {enc : TypeId × Value → H} {W : World} {a0 : Option Addr} {len cap : Nat} {d0 : DataW H} {p : List MemPlace}
    (h0 : DataW.Trod enc Tryd.prog W 0 (fun _ => true) true 32 (.slice a0 len cap) d0 p) :
    ∃ cs : List Cur, cs.length = len ∧ CashAt a0 cs W := by
  obtain ⟨fuel, hf⟩ := h0
  rcases open_slice Tryd.underlying32 hf with ⟨hcs, hx⟩ | ⟨a, len', cap', m, n, D, Pl, hcs, _, hl, _, hm, _, hi⟩
  · simp [Value.cells] at hcs
    obtain ⟨rfl, rfl, rfl⟩ := hcs
    exact ⟨[], rfl, fun i hi => absurd hi (Nat.not_lt_zero _)⟩
  · simp [Value.cells] at hcs
    obtain ⟨rfl, rfl, rfl⟩ := hcs
    simp only [if_true] at hm
    have hat : ∀ i, i < len → ∃ (s : ByteArray) (d : Int), W.cell? (a.add (i * 2)) = some (.string s) ∧ W.cell? (a.add (i * 2 + 1)) = some (.int .i64 d) := by
      intro i hil
      obtain ⟨vs, hcv, htv⟩ := hi i (by omega)
      obtain ⟨s, d, rfl⟩ := cur_cells htv
      rw [cellsCur] at hcv
      obtain ⟨_, _, hcell⟩ := World.cells?_some hcv
      refine ⟨s, d, ?_, ?_⟩
      · have h0 : (a.add (i * 2)).add 0 = a.add (i * 2) := by simp [Addr.add]
        rw [← h0]
        exact hcell 0 (by omega)
      · rw [← Go.Deep.add_add]
        exact hcell 1 (by omega)
    have hgd : ∀ i, i < len → ((List.range len).map (curAt W a)).getD i zeroC = curAt W a i := by
      intro i hil
      simp [List.getD, hil]
    refine ⟨(List.range len).map (curAt W a), by simp, fun i hil => ?_⟩
    rw [List.length_map, List.length_range] at hil
    rw [hgd i hil]
    obtain ⟨s, d, c0, c1⟩ := hat i hil
    have e : curAt W a i = (s, d) := by unfold curAt; rw [c0, c1]
    rw [e]
    obtain ⟨b, off, spot⟩ := a
    obtain ⟨_, _, z0, _⟩ := hat 0 (by omega)
    have hspot : spot = none := by simpa [Addr.add] using World.cell?_spot z0
    subst hspot
    rw [Go.WideShapes.add_plain] at c0 c1
    exact ⟨b, off, rfl, World.block_lt_of_cell? W _ c0, c0, c1⟩
end Go.Proofs.YtkijbckpfcfcpabDoor
