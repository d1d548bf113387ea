/-
  What every row about calendars asks besides its walk: the listed table, the arguments opened, a start that fits.
-/
import Derived.Test.YtgljaopnehdgdaaDoorCards
import Derived.Test.YtgljaopnehdgdaaDoorTie
import Derived.Test.YtgljaopnehdgdaaDoorCP
import Derived.ProofKit
import Derived.OpenShut
import Derived.Deep.DeepHandedRow
import Derived.Lib.LaidTab
import Derived.Lib.SmallJoins
import Derived.LaidMore
import Derived.ChangeSame
import Derived.Deep.Slices
import Derived.Deep.Fields
import Derived.ChangeMaps5
namespace Go.Proofs.YtgljaopnehdgdaaDoor
open Go Go.ChangeShapes Go.WideShapes Go.ChangeAt Go.RowKit Go.Joins Go.Deep WM

theorem own : ownKnob Tryd.prog.godebug = none := by kernel_rfl
theorem laidOut : laidOutB Tryd.prog = true := by kernel_rfl
theorem gLnType : (Tryd.prog.globals[0]?).map (·.type) = some 72 := by kernel_rfl
theorem cellsLn : Tryd.prog.cellsOf 72 = 12 := by kernel_rfl
theorem cellsInt : Tryd.prog.cellsOf 3 = 1 := by kernel_rfl
theorem cellsCal : Tryd.prog.cellsOf 24 = 3 := by kernel_rfl
theorem table {W : World} (h : laidMetH Tryd.prog Rows.calendarAddsRow.laid W) : Ln W := by
  obtain ⟨ps, ⟨g0, t0, cs0, f0, p0, q0, hg0, ht0, hv0, hd0, _⟩, _⟩ := (show laidMet Tryd.prog Rows.calendarAddsRow.laid W from h)
  obtain rfl := Option.some.inj (gLn.symm.trans hg0)
  obtain rfl := Option.some.inj (gLnType.symm.trans ht0)
  have hd : DataW.trod _ Tryd.prog W 0 _ _ f0 72 _ = some (Lib.tabData .i64 lengthsTab, p0) := hd0
  unfold Ln Lib.TabIs
  rw [hv0, ← Lib.cells_of_tab Tryd.underlying72 Tryd.underlying3 cellsInt cellsLn hd]

/-- A list of numbers that came in. -/
theorem opened_list {H : Type} {enc : TypeId × Value → H} {W : World} {n : Nat} {vs : List Value} {x : DataW H × List MemPlace}
    (hf : DataW.trod enc Tryd.prog W 0 (fun _ => true) true n 22 vs = some x) :
    ∃ ao cap, ∃ zs : List Int, vs = [.slice ao zs.length cap] ∧ IntsAt ao zs W ∧ NilOk ao cap zs := by
  rcases open_ints Tryd.underlying22 Tryd.underlying3 cellsInt hf with ⟨hcs, hx⟩ | ⟨a, len', cap', zs, hcs, _, hl, hm, hz, hx, hcell, hwz⟩
  · exact ⟨none, 0, [], hcs, fun i hi => absurd hi (Nat.not_lt_zero _), fun _ => ⟨rfl, rfl⟩⟩
  · simp only [if_true] at hz
    have htl : (zs.take len').length = len' := by rw [List.length_take]; omega
    refine ⟨some a, cap', zs.take len', by rw [htl]; exact hcs, fun i hi => ?_, fun h => by cases h⟩
    rw [htl] at hi
    obtain ⟨b, off, rfl, hat⟩ := ints_at hcell (by omega)
    have hc := hat i (by omega)
    refine ⟨b, off, rfl, World.block_lt_of_cell? W _ hc, ?_⟩
    rw [hc]
    simp [List.getD, hi]
/-- A calendar that came in. -/
theorem opened_cal {H : Type} {enc : TypeId × Value → H} {W : World} {r : Reach} {b0 : Nat} {v : Value} {d : DataW H} {p : List MemPlace} (hv : Value.okWide Tryd.prog W r b0 24 v)
    (h : DataW.Trod enc Tryd.prog W 0 (fun _ => true) true 24 v d p) :
    ∃ nm wo hp wc hc, ∃ we ho : List Int, v = .agg #[.string nm, .slice wo we.length wc, .slice hp ho.length hc] ∧ IntsAt wo we W ∧ IntsAt hp ho W ∧ NilOk wo wc we ∧ NilOk hp hc ho := by
  obtain ⟨c0, c1, c2, y0, y1, y2, m, rfl, rfl, rfl, h0, h1, h2⟩ := open_agg3 Tryd.underlying24 (by kernel_rfl) cellsCal hv h
  obtain ⟨nm, e0, _, _⟩ := DataW.trod_string Tryd.underlying9 h0
  obtain ⟨wo, wc, we, e1, i1, k1⟩ := opened_list h1
  obtain ⟨hp, hc, ho, e2, i2, k2⟩ := opened_list h2
  simp only [List.cons.injEq, and_true] at e0 e1 e2
  subst e0 e1 e2
  exact ⟨nm, wo, hp, wc, hc, we, ho, rfl, i1, i2, k1, k2⟩

/- The row's last step where the call made new blocks alone. -/
section
variable {H : Type} {enc : TypeId × Value → H} {P : Program}
theorem post_of_below {f : Func} {s : ChangeSpec} {apart fresh handsOn again : Bool} {W W' : World} {args : Array Value} {v : Value} {ds gs : List (DataW H)} {before pa pv : List MemPlace}
    (hW : DataW.Whole enc P f.params.toList s.vars apart W args.toList ds gs before)
    (hres : ∀ (b : Nat) (sp : Nat → Bool) (hd : Bool), DataW.TrodAll enc P W' b sp hd f.resultTypes.toList (v.resultList f.resultTypes.size) (s.fn H (ds ++ gs)).results [])
    (hargs : ∀ sp : Nat → Bool, (∀ p ∈ before, sp p.block = true) → DataW.TrodAll enc P W' 0 sp true f.params.toList args.toList (s.fn H (ds ++ gs)).args pa)
    (hvars : ∀ sp : Nat → Bool, (∀ p ∈ before, sp p.block = true) → DataW.TrodVars enc P W' sp s.vars (s.fn H (ds ++ gs)).vars pv)
    (hps : before = pa ++ pv) (hb : Below W.heap.size W W')
    (hok : ∀ (j : Nat) (t : TypeId) (r : Value), f.resultTypes[j]? = some t → (v.resultList f.resultTypes.size)[j]? = some r → Value.okWide P W' .any 0 t r) :
    s.post enc P f apart fresh handsOn again W args v W' := by
  have hlt : ∀ p ∈ before, p.block < W.heap.size := fun p hp => hW.lt p hp
  have hold : ∀ p ∈ before, (fun b => decide (b < W.heap.size)) p.block = true := fun p hp => by simpa using hlt p hp
  refine ⟨ds, gs, before, [], pa, pv, hW, hres _ _ _, hargs _ hold, hvars _ hold, World.keptBut_mono (fun p hp => ⟨hp, ?_⟩) (hb.frame (· ∈ before)), fun _ => ?_⟩
  · rw [hps, List.mem_append] at hp
    exact Or.inr hp
  · obtain ⟨_, _, _, _, _, hz, hn⟩ := hW
    refine ⟨hok, _, _, ([] ++ pa) ++ pv, ⟨[] ++ pa, pv, trodAll_append (hargs _ (fun _ _ => rfl)) (hres _ _ _), hvars _ (fun _ _ => rfl), rfl, ?_, ?_⟩, ?_⟩
    · intro b off hp
      have hin : MemPlace.cell b off ∈ before := by rw [hps]; simpa using hp
      rw [hb.frozen (hlt _ hin)]
      exact hz b off hin
    · intro ha
      have := hn ha
      rw [hps] at this
      simpa using this
    · intro p hp _
      rw [hps]
      simpa using hp
end

/-- A world for a witness: the settled one, the listed tables holding what their initialisers lay. -/
noncomputable def tabWorld (os : Os) : World := World.doorLaid Tryd.prog 4000 os
theorem laid_met (os : Os) (args : Array Value) : laidMet Tryd.prog Rows.calendarAddsRow.laid ((tabWorld os).forCall (fun _ _ => 0) ⟨#[], args, []⟩).memory :=
  laidMet_of_run' 8 (by kernel_rfl) (by kernel_rfl)
end Go.Proofs.YtgljaopnehdgdaaDoor
