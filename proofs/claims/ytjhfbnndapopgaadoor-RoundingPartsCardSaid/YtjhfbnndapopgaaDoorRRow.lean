/-
  What every row over package rounding asks besides its walk: the listed table of the modes.
-/
import Derived.Test.YtjhfbnndapopgaaDoorRowBase
import Derived.Test.YtjhfbnndapopgaaDoorRB
namespace Go.Proofs.YtjhfbnndapopgaaDoor
open Go Go.ChangeShapes Go.WideShapes Go.ChangeAt Go.RowKit Go.Joins WM

theorem flat_of {α : Type} (k : Nat) : ∀ (n : Nat) (cs : List α) (L : Nat → List α), cs.length = n * k → (∀ i, i < n → (cs.drop (i * k)).take k = L i) → cs = (List.range n).flatMap L
  | 0, cs, L, h, _ => by
    have : cs = [] := List.eq_nil_of_length_eq_zero (by omega)
    rw [this]; rfl
  | n + 1, cs, L, h, hL => by
    have h0 : cs.take k = L 0 := by
      have := hL 0 (by omega)
      rwa [Nat.zero_mul, List.drop_zero] at this
    have ih := flat_of k n (cs.drop k) (fun i => L (i + 1)) (by rw [List.length_drop, h, Nat.add_mul]; omega) (fun i hi => by
      have := hL (i + 1) (by omega)
      rw [List.drop_drop]
      rwa [Nat.add_mul, Nat.one_mul, Nat.add_comm] at this)
    rw [List.range_succ_eq_map, List.flatMap_cons, List.flatMap_map, ← h0, ← ih, List.take_append_drop]
theorem gChType : (Tryd.prog.globals[0]?).map (·.type) = some 94 := by kernel_rfl
theorem cells3 : Tryd.prog.cellsOf 92 = 3 := by kernel_rfl
theorem cells23 : Tryd.prog.cellsOf 93 = 6 := by kernel_rfl
theorem cells723 : Tryd.prog.cellsOf 94 = 42 := by kernel_rfl
theorem cellsInt : Tryd.prog.cellsOf 3 = 1 := by kernel_rfl

section
variable {H : Type} {enc : TypeId × Value → H} {w : World} {base : Nat} {sp : Nat → Bool} {held : Bool} {fuel : Nat} {cs : List Value}
def ints (zs : List Int) : List Value := zs.map fun z => Value.int .i64 z
def datum2 (a b : List Int) : DataW H := .agg [Lib.tabData .i64 a, Lib.tabData .i64 b]
set_option maxRecDepth 100000 in
theorem cells_of_two {a b : List Int} {p : List MemPlace} (h : DataW.trod enc Tryd.prog w base sp held fuel 93 cs = some (datum2 a b, p)) : cs = ints a ++ ints b := by
  obtain ⟨xs, m, rfl, hx, hl, hn, he⟩ := DataW.trod_array Tryd.underlying93 h
  have hx1 : xs.map (·.1) = [Lib.tabData .i64 a, Lib.tabData .i64 b] := by
    have := congrArg Prod.fst hx
    simp only [datum2, DataW.agg.injEq] at this
    exact this.symm
  match xs, hx1, hn with
  | [(x, p0), (y, p1)], hx1, _ =>
    simp only [List.map_cons, List.map_nil, List.cons.injEq, and_true] at hx1
    obtain ⟨rfl, rfl⟩ := hx1
    have e0 := he 0 (by omega)
    have e1 := he 1 (by omega)
    rw [cells3] at e0 e1
    have c0 := Lib.cells_of_tab Tryd.underlying92 Tryd.underlying3 cellsInt cells3 e0
    have c1 := Lib.cells_of_tab Tryd.underlying92 Tryd.underlying3 cellsInt cells3 e1
    rw [cells23] at hl
    have := flat_of 3 2 cs (fun i => if i = 0 then ints a else ints b) hl (fun i hi => by
      have : i = 0 ∨ i = 1 := by omega
      rcases this with rfl | rfl
      · exact c0
      · exact c1)
    rw [this, show List.range 2 = [0, 1] from rfl]; simp
def datum7 (l : List (List Int × List Int)) : DataW H := .agg (l.map fun x => datum2 x.1 x.2)
set_option maxRecDepth 100000 in
theorem cells_of_seven {l : List (List Int × List Int)} {p : List MemPlace} (h : DataW.trod enc Tryd.prog w base sp held fuel 94 cs = some (datum7 l, p)) : cs = l.flatMap fun x => ints x.1 ++ ints x.2 := by
  obtain ⟨xs, m, rfl, hx, hl, hn, he⟩ := DataW.trod_array Tryd.underlying94 h
  have hx1 : xs.map (·.1) = l.map fun x => datum2 x.1 x.2 := by
    have := congrArg Prod.fst hx
    simp only [datum7, DataW.agg.injEq] at this
    exact this.symm
  rw [cells723] at hl
  have hll : l.length = 7 := by
    have := congrArg List.length hx1
    rw [List.length_map, List.length_map] at this
    omega
  have := flat_of 6 7 cs (fun i => match l[i]? with | some x => ints x.1 ++ ints x.2 | none => []) hl (fun i hi => by
    have e := he i hi
    rw [cells23] at e
    have hxi : xs[i]? = some (xs[i]'(by omega)) := List.getElem?_eq_getElem (by omega)
    have hli : l[i]? = some (l[i]'(by omega)) := List.getElem?_eq_getElem (by omega)
    have h1 : (xs[i]'(by omega)).1 = datum2 (l[i]'(by omega)).1 (l[i]'(by omega)).2 := by
      have h2 := congrArg (·[i]?) hx1
      simp only [List.getElem?_map, hxi, hli, Option.map_some, Option.some.injEq] at h2
      exact h2
    rw [hxi] at e
    rw [hli]
    have e2 : DataW.trod enc Tryd.prog w base sp held m 93 ((cs.drop (i * 6)).take 6) = some (datum2 (l[i]'(by omega)).1 (l[i]'(by omega)).2, (xs[i]'(by omega)).2) := by
      rw [e, ← h1]
    exact cells_of_two e2)
  rw [this]
  match l, hll with
  | [_, _, _, _, _, _, _], _ => rfl
end
def chRows : List (List Int × List Int) := [([0, 0, 0], [0, 0, 0]), ([1, 1, 1], [0, 0, 0]), ([0, 0, 0], [1, 1, 1]), ([0, 0, 0], [0, 0, 0]), ([1, 1, 1], [1, 1, 1]), ([0, 0, 1], [0, 1, 1]), ([0, 2, 1], [0, 2, 1])]
theorem chTable {W : World} (h : laidMetH Tryd.prog Rows.roundingDividesRow.laid W) : Ch W := by
  obtain ⟨ps, ⟨g0, t0, cs0, f0, p0, q0, hg0, ht0, hv0, hd0, _, _⟩, _⟩ := (show laidMet Tryd.prog Rows.roundingDividesRow.laid W from h)
  obtain rfl := Option.some.inj (gCh.symm.trans hg0)
  obtain rfl := Option.some.inj (gChType.symm.trans ht0)
  have hd : DataW.trod _ Tryd.prog W 0 _ _ f0 94 _ = some (datum7 chRows, p0) := hd0
  unfold Ch Lib.TabIs
  have hc := cells_of_seven hd
  have he : cs0 = (ints choicesTab).toArray := by
    apply Array.toList_inj.1
    rw [hc]; rfl
  rw [hv0, he]
  rfl
end Go.Proofs.YtjhfbnndapopgaaDoor
