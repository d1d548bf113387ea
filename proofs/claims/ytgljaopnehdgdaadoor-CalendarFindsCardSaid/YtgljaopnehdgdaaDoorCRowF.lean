/-
  A list of calendars as an argument of a row: opened, with the bound that each list within it keeps.
-/
import Derived.Test.YtgljaopnehdgdaaDoorCRow
import Derived.Test.YtgljaopnehdgdaaDoorCY
import Derived.SizedLaws
namespace Go.Proofs.YtgljaopnehdgdaaDoor
open Go Go.ChangeShapes Go.WideShapes Go.ChangeAt Go.RowKit Go.Joins Go.Deep WM

theorem bytesInt : Tryd.prog.bytesOf 3 = 8 := by kernel_rfl
theorem weights_mem {H : Type} {P : Program} {e : TypeId} : ∀ {l : List (DataW H)}, (DataW.weightsAll P e l).all (· ≤ reachBytes) = true → ∀ x ∈ l, (x.weights P e).all (· ≤ reachBytes) = true := by
  intro l
  induction l with
  | nil => intro _ x hx; cases hx
  | cons a l ih =>
    intro h x hx
    simp only [DataW.weightsAll, List.all_append, Bool.and_eq_true] at h
    rw [List.mem_cons] at hx
    rcases hx with e | e
    · rw [e]; exact h.1
    · exact ih h.2 x e
/-- A list of numbers within a datum whose weights are within the reach. -/
theorem sized_list {H : Type} {enc : TypeId × Value → H} {W : World} {n : Nat} {vs : List Value} {x : DataW H × List MemPlace}
    (hf : DataW.trod enc Tryd.prog W 0 (fun _ => true) true n 22 vs = some x) (hs : (x.1.weights Tryd.prog 22).all (· ≤ reachBytes) = true) :
    ∃ ao cap, ∃ zs : List Int, vs = [.slice ao zs.length cap] ∧ IntsAt ao zs W ∧ NilOk ao cap zs ∧ zs.length * 8 ≤ 140737488355328 := by
  rcases open_ints Tryd.underlying22 Tryd.underlying3 cellsInt hf with ⟨hcs, hx⟩ | ⟨a, len', cap', zs, hcs, _, hl, hm, hz, hx, hcell, hwz⟩
  · exact ⟨none, 0, [], hcs, fun i hi => absurd hi (Nat.not_lt_zero _), fun _ => ⟨rfl, rfl⟩, by decide⟩
  · simp only [if_true] at hz
    have htl : (zs.take len').length = len' := by rw [List.length_take]; omega
    rw [hx] at hs
    simp only [DataW.weights, Tryd.underlying22, List.all_cons, Bool.and_eq_true, decide_eq_true_eq, bytesInt] at hs
    have h8 := hs.1
    simp only [lits, List.length_map, htl, reachBytes] at h8
    refine ⟨some a, cap', zs.take len', by rw [htl]; exact hcs, fun i hi => ?_, (fun h => by cases h), by rw [htl]; omega⟩
    rw [htl] at hi
    obtain ⟨b, off, rfl, hat⟩ := ints_at hcell (by omega)
    have hc := hat i (by omega)
    refine ⟨b, off, rfl, World.block_lt_of_cell? W _ hc, ?_⟩
    rw [hc]
    simp [List.getD, hi]
/-- A calendar within a datum. -/
theorem sized_cal {H : Type} {enc : TypeId × Value → H} {W : World} {n : Nat} {vs : List Value} {x : DataW H × List MemPlace}
    (hf : DataW.trod enc Tryd.prog W 0 (fun _ => true) true n 24 vs = some x) (hs : (x.1.weights Tryd.prog 24).all (· ≤ reachBytes) = true) :
    ∃ c : CalR, vs = [.string c.nm, .slice c.wo c.we.length c.wc, .slice c.hp c.ho.length c.hc] ∧ c.Ok W := by
  obtain ⟨y0, y1, y2, m, hx, hcl, h0, h1, h2⟩ := trod_struct3 Tryd.underlying24 hf
  rw [cellsCal] at hcl
  have hw : (y1.1.weights Tryd.prog 22).all (· ≤ reachBytes) = true ∧ (y2.1.weights Tryd.prog 22).all (· ≤ reachBytes) = true := by
    rw [hx] at hs
    simp only [DataW.weights, Tryd.underlying24, List.map_cons, List.map_nil, DataW.weightsEach, List.all_append, Bool.and_eq_true] at hs
    exact ⟨hs.2.1, hs.2.2.1⟩
  match vs, hcl with
  | [c0, c1, c2], _ =>
    have e0 : DataW.trod enc Tryd.prog W 0 (fun _ => true) true m 9 [c0] = some y0 := h0
    have e1 : DataW.trod enc Tryd.prog W 0 (fun _ => true) true m 22 [c1] = some y1 := h1
    have e2 : DataW.trod enc Tryd.prog W 0 (fun _ => true) true m 22 [c2] = some y2 := h2
    obtain ⟨nm, k0, _, _⟩ := DataW.trod_string Tryd.underlying9 e0
    obtain ⟨wo, wc, we, k1, i1, n1, l1⟩ := sized_list e1 hw.1
    obtain ⟨hp, hc, ho, k2, i2, n2, l2⟩ := sized_list e2 hw.2
    simp only [List.cons.injEq, and_true] at k0 k1 k2
    subst k0 k1 k2
    exact ⟨⟨nm, wo, wc, we, hp, hc, ho⟩, rfl, i1, i2, n1, n2, l1, l2⟩
theorem list_of (P : Nat → CalR → Prop) : ∀ n : Nat, (∀ i, i < n → ∃ c, P i c) → ∃ cs : List CalR, cs.length = n ∧ ∀ i, i < n → P i (cs.getD i zeroR) := by
  intro n
  induction n with
  | zero => intro _; exact ⟨[], rfl, fun i hi => absurd hi (Nat.not_lt_zero _)⟩
  | succ n ih =>
    intro h
    obtain ⟨cs, hl, hP⟩ := ih (fun i hi => h i (by omega))
    obtain ⟨c, hc⟩ := h n (by omega)
    refine ⟨cs ++ [c], by simp [hl], fun i hi => ?_⟩
    by_cases e : i = n
    · subst e
      have : (cs ++ [c]).getD i zeroR = c := by simp [List.getD, ← hl]
      rw [this]; exact hc
    · have : (cs ++ [c]).getD i zeroR = cs.getD i zeroR := by
        simp [List.getD, List.getElem?_append, show i < cs.length by omega]
      rw [this]; exact hP i (by omega)
theorem opened_cals {H : Type} {enc : TypeId × Value → H} {W : World} {a0 : Option Addr} {len cap : Nat} {d0 : DataW H} {p : List MemPlace}
    (h0 : DataW.Trod enc Tryd.prog W 0 (fun _ => true) true 29 (.slice a0 len cap) d0 p) (hs : (d0.weights Tryd.prog 29).all (· ≤ reachBytes) = true) :
    ∃ cs : List CalR, cs.length = len ∧ CalsAt a0 cs W := by
  obtain ⟨fuel, hf⟩ := h0
  rcases open_slice Tryd.underlying29 hf with ⟨hcs, hx⟩ | ⟨a, len', cap', m, n, D, Pl, hcs, _, hl, _, hm, hx, hi⟩
  · simp [Value.cells] at hcs
    obtain ⟨rfl, rfl, rfl⟩ := hcs
    exact ⟨[], rfl, fun i hi => absurd hi (Nat.not_lt_zero _)⟩
  · simp [Value.cells] at hcs
    obtain ⟨rfl, rfl, rfl⟩ := hcs
    simp only [if_true] at hm
    have hd : d0 = .slice ((List.range len).map D) ((List.range (m - len)).map fun j => D (len + j)) := (Prod.mk.inj hx).1
    rw [hd] at hs
    simp only [DataW.weights, Tryd.underlying29, List.all_cons, List.all_append, Bool.and_eq_true] at hs
    have hall := weights_mem hs.2.1
    obtain ⟨cs, hcl, hP⟩ := list_of (fun i c => W.cells? 0 (a.add (i * 3)) 3 = some [.string c.nm, .slice c.wo c.we.length c.wc, .slice c.hp c.ho.length c.hc] ∧ c.Ok W) len (fun i hil => by
      obtain ⟨vs, hcv, htv⟩ := hi i (by omega)
      obtain ⟨c, hvs, hok⟩ := sized_cal htv (hall (D i) (List.mem_map.2 ⟨i, List.mem_range.2 hil, rfl⟩))
      rw [cellsCal, hvs] at hcv
      exact ⟨c, hcv, hok⟩)
    refine ⟨cs, hcl, fun i hil => ?_⟩
    obtain ⟨hcv, hok⟩ := hP i (by omega)
    obtain ⟨_, _, hcell⟩ := World.cells?_some hcv
    have k0 : W.cell? ((a.add (i * 3)).add 0) = some (.string (cs.getD i zeroR).nm) := hcell 0 (by omega)
    have k1 : W.cell? ((a.add (i * 3)).add 1) = some (.slice (cs.getD i zeroR).wo (cs.getD i zeroR).we.length (cs.getD i zeroR).wc) := hcell 1 (by omega)
    have k2 : W.cell? ((a.add (i * 3)).add 2) = some (.slice (cs.getD i zeroR).hp (cs.getD i zeroR).ho.length (cs.getD i zeroR).hc) := hcell 2 (by omega)
    obtain ⟨b, off, spot⟩ := a
    have hspot : spot = none := by
      obtain ⟨hcv0, _⟩ := hP 0 (by omega)
      obtain ⟨_, _, hcell0⟩ := World.cells?_some hcv0
      have z0 : W.cell? (((⟨b, off, spot⟩ : Addr).add (0 * 3)).add 0) = some (.string (cs.getD 0 zeroR).nm) := hcell0 0 (by omega)
      simpa [Addr.add] using World.cell?_spot z0
    subst hspot
    rw [Go.WideShapes.add_plain, Go.WideShapes.add_plain] at k0 k1 k2
    exact ⟨b, off, rfl, World.block_lt_of_cell? W _ k0, by simpa using k0, k1, k2, hok⟩
end Go.Proofs.YtgljaopnehdgdaaDoor
