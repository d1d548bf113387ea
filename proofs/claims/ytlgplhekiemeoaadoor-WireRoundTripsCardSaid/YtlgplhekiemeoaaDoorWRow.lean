/-
  What every row about records asks besides its walk: the listed table and error, the arguments opened, a start that fits.
-/
import Derived.Test.YtlgplhekiemeoaaDoorCards
import Derived.Test.YtlgplhekiemeoaaDoorTie
import Derived.Test.YtlgplhekiemeoaaDoorWN
import Derived.ProofKit
import Derived.OpenShut
import Derived.Deep.DeepHandedRow
import Derived.Lib.LaidTab
import Derived.Lib.SmallJoins
import Derived.LaidMore
import Derived.ChangeSame
import Derived.Deep.Slices
import Derived.Deep.Fields
import Derived.ChangeMaps5
import Derived.Stop.LaidErr
import Derived.SizedLaws
namespace Go.Proofs.YtlgplhekiemeoaaDoor
open Go Go.ChangeShapes Go.WideShapes Go.ChangeAt Go.RowKit Go.Joins Go.Deep WM

theorem own : ownKnob Tryd.prog.godebug = none := by kernel_rfl
theorem laidOut : laidOutB Tryd.prog = true := by kernel_rfl
theorem gPow : Tryd.prog.globalNamed "internal/strconv.uint64pow10" = some 3 := by kernel_rfl
theorem gPowType : (Tryd.prog.globals[3]?).map (·.type) = some 82 := by kernel_rfl
theorem cellsPow : Tryd.prog.cellsOf 82 = 20 := by kernel_rfl
theorem cellsU64 : Tryd.prog.cellsOf 53 = 1 := by kernel_rfl
theorem cellsInt : Tryd.prog.cellsOf 3 = 1 := by kernel_rfl
theorem cellsStr : Tryd.prog.cellsOf 9 = 1 := by kernel_rfl
theorem table {W : World} (h : laidMetH Tryd.prog Rows.wirePacksRow.laid W) : Tb W := by
  obtain ⟨ps, ⟨g0, t0, cs0, f0, p0, q0, hg0, ht0, hv0, hd0, ⟨g1, t1, cs1, f1, p1, q1, hg1, ht1, hv1, hd1, ⟨g2, t2, cs2, f2, p2, q2, hg2, ht2, hv2, hd2, _⟩, _⟩, _⟩, _⟩ := (show laidMet Tryd.prog Rows.wirePacksRow.laid W from h)
  obtain rfl := Option.some.inj (gPow.symm.trans hg2)
  obtain rfl := Option.some.inj (gPowType.symm.trans ht2)
  have hd : DataW.trod _ Tryd.prog W 0 _ _ f2 82 _ = some (Lib.tabData .u64 Lib.pow10Tab, p2) := hd2
  unfold Tb Lib.TabIs
  rw [hv2, ← Lib.cells_of_tab Tryd.underlying82 Tryd.underlying53 cellsU64 cellsPow hd]
theorem gE : Tryd.prog.globalNamed "strconv.ErrRange" = some 2 := by kernel_rfl
theorem gEType : (Tryd.prog.globals[2]?).map (·.type) = some 50 := by kernel_rfl
theorem starErr : "*" ++ "errors.errorString" = "*errors.errorString" := by decide
theorem rowErr (u : TypeId) (h : Tryd.prog.typeName? 3 u = some "*errors.errorString") : u = 89 :=
  typeName_ptr_named (nm := "errors.errorString") (by rw [starErr]; kernel_rfl) (by kernel_rfl) (by decide) u (by rw [starErr]; exact h)
theorem cellsES : Tryd.prog.cellsOf 91 = 1 := by kernel_rfl
theorem errs {W : World} (h : laidMetH Tryd.prog Rows.wirePacksRow.laid W) : Er W := by
  have hL : laidMet Tryd.prog Rows.wirePacksRow.laid W := h
  obtain ⟨a0, s0, hv0, _, _, _⟩ := laid_sentinel hL.tail.tail.tail gE gEType Tryd.underlying50 rowErr Tryd.underlying89 Tryd.underlying91 rfl rfl Tryd.underlying9 cellsES cellsStr
  exact ⟨_, _, hv0⟩

/-- A list of numbers that came in. -/
theorem opened_ints {H : Type} {enc : TypeId × Value → H} {W : World} {a0 : Option Addr} {len cap : Nat} {d0 : DataW H} {p : List MemPlace}
    (h0 : DataW.Trod enc Tryd.prog W 0 (fun _ => true) true 36 (.slice a0 len cap) d0 p) :
    ∃ zs : List Int, zs.length = len ∧ IntsAt a0 zs W ∧ ∀ n ∈ zs, I64 n := by
  obtain ⟨fuel, hf⟩ := h0
  rcases open_ints Tryd.underlying36 Tryd.underlying3 cellsInt hf with ⟨hcs, hx⟩ | ⟨a, len', cap', zs, hcs, _, hl, hm, hz, hx, hcell, hwz⟩
  · simp [Value.cells] at hcs
    obtain ⟨rfl, rfl, rfl⟩ := hcs
    exact ⟨[], rfl, (fun i hi => absurd hi (Nat.not_lt_zero _)), fun n hn => by cases hn⟩
  · simp [Value.cells] at hcs
    obtain ⟨rfl, rfl, rfl⟩ := hcs
    simp only [if_true] at hz
    have htl : (zs.take len).length = len := by rw [List.length_take]; omega
    refine ⟨zs.take len, htl, fun i hi => ?_, fun n hn => bounds_i64 (hwz n (List.mem_of_mem_take hn))⟩
    rw [htl] at hi
    obtain ⟨b, off, rfl, hat⟩ := ints_at hcell (by omega)
    have hc := hat i (by omega)
    refine ⟨b, off, rfl, World.block_lt_of_cell? W _ hc, ?_⟩
    rw [hc]
    simp [List.getD, hi]
theorem weights_mem {H : Type} {P : Program} {e : TypeId} : ∀ {l : List (DataW H)}, (DataW.weightsAll P e l).all (· ≤ reachBytes) = true → ∀ x ∈ l, (x.weights P e).all (· ≤ reachBytes) = true := by
  intro l
  induction l with
  | nil => intro _ x hx; cases hx
  | cons a l ih =>
    intro h x hx
    simp only [DataW.weightsAll, List.all_append, Bool.and_eq_true] at h
    rw [List.mem_cons] at hx
    rcases hx with e | e
    · rw [e]; exact h.1
    · exact ih h.2 x e
theorem list_of (P : Nat → ByteArray → Prop) : ∀ n : Nat, (∀ i, i < n → ∃ c, P i c) → ∃ cs : List ByteArray, cs.length = n ∧ ∀ i, i < n → P i (cs.getD i E0) := by
  intro n
  induction n with
  | zero => intro _; exact ⟨[], rfl, fun i hi => absurd hi (Nat.not_lt_zero _)⟩
  | succ n ih =>
    intro h
    obtain ⟨cs, hl, hP⟩ := ih (fun i hi => h i (by omega))
    obtain ⟨c, hc⟩ := h n (by omega)
    refine ⟨cs ++ [c], by simp [hl], fun i hi => ?_⟩
    by_cases e : i = n
    · subst e
      have : (cs ++ [c]).getD i E0 = c := by simp [List.getD, ← hl]
      rw [this]; exact hc
    · have : (cs ++ [c]).getD i E0 = cs.getD i E0 := by
        simp [List.getD, List.getElem?_append, show i < cs.length by omega]
      rw [this]; exact hP i (by omega)
/-- A list of texts that came in. -/
theorem opened_texts {H : Type} {enc : TypeId × Value → H} {W : World} {a0 : Option Addr} {len cap : Nat} {d0 : DataW H} {p : List MemPlace}
    (h0 : DataW.Trod enc Tryd.prog W 0 (fun _ => true) true 22 (.slice a0 len cap) d0 p) (hs : (d0.weights Tryd.prog 22).all (· ≤ reachBytes) = true) :
    ∃ zs : List ByteArray, zs.length = len ∧ TextsAt a0 zs W ∧ (∀ x ∈ zs, x.size ≤ 281474976710656) ∧ (a0 = none → zs.length = 0 ∧ cap = 0) := by
  obtain ⟨fuel, hf⟩ := h0
  rcases open_slice Tryd.underlying22 hf with ⟨hcs, hx⟩ | ⟨a, len', cap', m, n, D, Pl, hcs, _, hl, _, hm, hx, hi⟩
  · simp [Value.cells] at hcs
    obtain ⟨rfl, rfl, rfl⟩ := hcs
    exact ⟨[], rfl, (fun i hi => absurd hi (Nat.not_lt_zero _)), (fun x hx => by cases hx), fun _ => ⟨rfl, rfl⟩⟩
  · simp [Value.cells] at hcs
    obtain ⟨rfl, rfl, rfl⟩ := hcs
    simp only [if_true] at hm
    have hd : d0 = .slice ((List.range len).map D) ((List.range (m - len)).map fun j => D (len + j)) := (Prod.mk.inj hx).1
    rw [hd] at hs
    simp only [DataW.weights, Tryd.underlying22, List.all_cons, List.all_append, Bool.and_eq_true] at hs
    have hall := weights_mem hs.2.1
    obtain ⟨cs, hcl, hP⟩ := list_of (fun i c => W.cell? (a.add i) = some (.string c) ∧ c.size ≤ 281474976710656) len (fun i hil => by
      obtain ⟨vs, hcv, htv⟩ := hi i (by omega)
      obtain ⟨s, hvs, hD, _⟩ := DataW.trod_string Tryd.underlying9 htv
      have hw := hall (D i) (List.mem_map.2 ⟨i, List.mem_range.2 hil, rfl⟩)
      rw [(Prod.mk.inj hD).1] at hw
      have hw2 : s.data.toList.length ≤ reachBytes := by simpa [DataW.weights] using hw
      unfold reachBytes at hw2
      rw [size_list] at hw2
      rw [cellsStr, hvs] at hcv
      obtain ⟨_, _, hcell⟩ := World.cells?_some hcv
      refine ⟨s, ?_, by omega⟩
      have h0 : (a.add (i * 1)).add 0 = a.add i := by rw [Nat.mul_one]; simp [Addr.add]
      rw [← h0]
      exact hcell 0 (by omega))
    refine ⟨cs, hcl, fun i hil => ?_, fun x hx => ?_, fun h => by cases h⟩
    · rw [hcl] at hil
      obtain ⟨h1, _⟩ := hP i hil
      obtain ⟨b, off, spot⟩ := a
      have hspot : spot = none := by
        obtain ⟨z0, _⟩ := hP 0 (by omega)
        simpa [Addr.add] using World.cell?_spot z0
      subst hspot
      rw [Addr.add_lit] at h1
      exact ⟨b, off, rfl, World.block_lt_of_cell? W _ h1, h1⟩
    · obtain ⟨i, hi2, rfl⟩ := List.mem_iff_getElem.1 hx
      have := (hP i (by omega)).2
      simpa [List.getD, hi2] using this

/- The row's last step where the call made new blocks alone. -/
section
variable {H : Type} {enc : TypeId × Value → H} {P : Program}
theorem post_of_below {f : Func} {s : ChangeSpec} {apart fresh handsOn again : Bool} {W W' : World} {args : Array Value} {v : Value} {ds gs : List (DataW H)} {before pa pv : List MemPlace}
    (hW : DataW.Whole enc P f.params.toList s.vars apart W args.toList ds gs before)
    (hres : ∀ (b : Nat) (sp : Nat → Bool) (hd : Bool), DataW.TrodAll enc P W' b sp hd f.resultTypes.toList (v.resultList f.resultTypes.size) (s.fn H (ds ++ gs)).results [])
    (hargs : ∀ sp : Nat → Bool, (∀ p ∈ before, sp p.block = true) → DataW.TrodAll enc P W' 0 sp true f.params.toList args.toList (s.fn H (ds ++ gs)).args pa)
    (hvars : ∀ sp : Nat → Bool, (∀ p ∈ before, sp p.block = true) → DataW.TrodVars enc P W' sp s.vars (s.fn H (ds ++ gs)).vars pv)
    (hps : before = pa ++ pv) (hb : Below W.heap.size W W')
    (hok : ∀ (j : Nat) (t : TypeId) (r : Value), f.resultTypes[j]? = some t → (v.resultList f.resultTypes.size)[j]? = some r → Value.okWide P W' .any 0 t r) :
    s.post enc P f apart fresh handsOn again W args v W' := by
  have hlt : ∀ p ∈ before, p.block < W.heap.size := fun p hp => hW.lt p hp
  have hold : ∀ p ∈ before, (fun b => decide (b < W.heap.size)) p.block = true := fun p hp => by simpa using hlt p hp
  refine ⟨ds, gs, before, [], pa, pv, hW, hres _ _ _, hargs _ hold, hvars _ hold, World.keptBut_mono (fun p hp => ⟨hp, ?_⟩) (hb.frame (· ∈ before)), fun _ => ?_⟩
  · rw [hps, List.mem_append] at hp
    exact Or.inr hp
  · obtain ⟨_, _, _, _, _, hz, hn⟩ := hW
    refine ⟨hok, _, _, ([] ++ pa) ++ pv, ⟨[] ++ pa, pv, trodAll_append (hargs _ (fun _ _ => rfl)) (hres _ _ _), hvars _ (fun _ _ => rfl), rfl, ?_, ?_⟩, ?_⟩
    · intro b off hp
      have hin : MemPlace.cell b off ∈ before := by rw [hps]; simpa using hp
      rw [hb.frozen (hlt _ hin)]
      exact hz b off hin
    · intro ha
      have := hn ha
      rw [hps] at this
      simpa using this
    · intro p hp _
      rw [hps]
      simpa using hp
end

/-- A world for a witness: the settled one, the listed variables holding what their initialisers lay. -/
noncomputable def tabWorld (os : Os) : World := World.doorLaid Tryd.prog 4000 os
theorem laid_met (os : Os) (args : Array Value) : laidMet Tryd.prog Rows.wirePacksRow.laid ((tabWorld os).forCall (fun _ _ => 0) ⟨#[], args, []⟩).memory :=
  laidMet_of_run' 8 (by kernel_rfl) (by kernel_rfl)
end Go.Proofs.YtlgplhekiemeoaaDoor
