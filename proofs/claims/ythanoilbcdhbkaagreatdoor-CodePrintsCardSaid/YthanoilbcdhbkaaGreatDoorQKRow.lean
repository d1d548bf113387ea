/-
  What every row about code asks besides its walk: the listed tables and error, the arguments opened, a start that fits.
-/
import Derived.Test.YthanoilbcdhbkaaGreatDoorCards
import Derived.Test.YthanoilbcdhbkaaGreatDoorTie
import Derived.Test.YthanoilbcdhbkaaGreatDoorQL
import Derived.ProofKit
import Derived.OpenShut
import Derived.Deep.DeepHandedRow
import Derived.Lib.LaidTab
import Derived.Lib.SmallJoins
import Derived.LaidMore
import Derived.ChangeSame
import Derived.Deep.Slices
import Derived.Deep.Fields
import Derived.ChangeMaps5
import Derived.Stop.LaidErr
import Derived.SizedLaws
import Derived.Lay
namespace Go.Proofs.YthanoilbcdhbkaaGreatDoor
open Go Go.ChangeShapes Go.WideShapes Go.ChangeAt Go.RowKit Go.Joins Go.Deep WM TM EM YM

abbrev laidL : List (String × DataW Unit) := Rows.codeEqualsRow.laid
theorem own : ownKnob Tryz.prog.godebug = none := by kernel_rfl
theorem laidOut : laidOutB Tryz.prog = true := by kernel_rfl
theorem cellsInt : Tryz.prog.cellsOf 3 = 1 := by kernel_rfl
theorem cellsStr : Tryz.prog.cellsOf 9 = 1 := by kernel_rfl
theorem cellsMk : Tryz.prog.cellsOf 161 = 16 := by kernel_rfl
theorem gE : Tryz.prog.globalNamed "strconv.ErrRange" = some 9 := by kernel_rfl
theorem gEType : (Tryz.prog.globals[9]?).map (·.type) = some 65 := by kernel_rfl
theorem starErr : "*" ++ "errors.errorString" = "*errors.errorString" := by decide
theorem rowErr (u : TypeId) (h : Tryz.prog.typeName? 3 u = some "*errors.errorString") : u = 191 :=
 typeName_ptr_named (nm := "errors.errorString") (by rw [starErr]; kernel_rfl) (by kernel_rfl) (by decide) u (by rw [starErr]; exact h)
theorem cellsES : Tryz.prog.cellsOf 193 = 1 := by kernel_rfl
theorem errs {W : World} (h : laidMetH Tryz.prog laidL W) : Er W := by
 have hL : laidMet Tryz.prog laidL W := h
 obtain ⟨a0, s0, hv0, _, _, _⟩ := laid_sentinel hL.tail.tail.tail gE gEType Tryz.underlying65 rowErr Tryz.underlying191 Tryz.underlying193 rfl rfl Tryz.underlying9 cellsES cellsStr
 exact ⟨_, _, hv0⟩
theorem cells_of_texts {H : Type} {enc : TypeId × Value → H} {P : Program} {w : World} {base : Nat} {sp : Nat → Bool} {held : Bool} {fuel : Nat} {t e : TypeId} {n : Nat} {cs : List Value} {zs : List (List UInt8)} {p : List MemPlace}
  (ht : P.underlying t = some (.array n e)) (he : P.underlying e = some .string) (hce : P.cellsOf e = 1) (hct : P.cellsOf t = n)
  (h : DataW.trod enc P w base sp held fuel t cs = some (.agg (zs.map fun z => .lit (.string z)), p)) : cs = zs.map fun z => Value.string (str z) := by
 cases fuel with
 | zero => simp [DataW.trod] at h
 | succ fuel =>
  simp only [DataW.trod, ht, hce, hct, Nat.mul_one] at h
  split at h
  ·rename_i hl
   obtain ⟨xs, hm, hx⟩ := Option.map_eq_some_iff.1 h
   have hxs : xs.map (·.1) = zs.map fun z => (DataW.lit (.string z) : DataW H) := by
    have := congrArg Prod.fst hx
    simpa using this
   have hxl : xs.length = n := by simpa using Lib.mapM_length hm
   have hzl : zs.length = n := by
    have := congrArg List.length hxs
    simp at this
    omega
   apply List.ext_getElem?
   intro i
   by_cases hi : i < n
   ·obtain ⟨b, hb, hf⟩ := Lib.mapM_at hm i i (by simp [hi])
    obtain ⟨z, hc, rfl, _⟩ := DataW.trod_string he hf
    have h1 : cs[i]? = some (.string z) := by
     have := congrArg (·[0]?) hc
     simpa [List.getElem?_take, List.getElem?_drop] using this
    have h2 : (xs.map (·.1))[i]? = some (DataW.lit (.string z.data.toList) : DataW H) := by simp [hb]
    rw [hxs] at h2
    simp only [List.getElem?_map, Option.map_eq_some_iff, DataW.lit.injEq, Lit.string.injEq] at h2
    obtain ⟨z', hz', rfl⟩ := h2
    rw [h1, List.getElem?_map, hz']
    show some (Value.string z) = some (Value.string (str z.data.toList))
    rw [list_str]
   ·rw [List.getElem?_eq_none (by omega), List.getElem?_eq_none (by simp; omega)]
  ·cases h
theorem gMk : Tryz.prog.globalNamed "corebank/token.marks" = some 4 := by kernel_rfl
theorem gMkType : (Tryz.prog.globals[4]?).map (·.type) = some 161 := by kernel_rfl
theorem marks_lie {W : World} (h : laidMetH Tryz.prog laidL W) : Mk W := by
 have hL : laidMet Tryz.prog laidL W := h
 obtain ⟨ps, ⟨g0, t0, cs0, f0, p0, q0, hg0, ht0, hv0, hd0, _⟩, _⟩ := hL.tail.tail.tail.tail.tail
 obtain rfl := Option.some.inj (gMk.symm.trans hg0)
 obtain rfl := Option.some.inj (gMkType.symm.trans ht0)
 have hd : DataW.trod _ Tryz.prog W 0 _ _ f0 161 _ = some (.agg (mks.map fun z => .lit (.string z)), p0) := hd0
 have hc := cells_of_texts Tryz.underlying161 Tryz.underlying9 cellsStr cellsMk hd
 unfold World.var? at hv0
 rw [gMk] at hv0
 simp only [Option.bind_some] at hv0
 have hlt : 4 < W.heap.size := by
  rcases Nat.lt_or_ge 4 W.heap.size with c | c
  ·exact c
  ·rw [Array.getElem?_eq_none c] at hv0; simp at hv0
 refine ⟨hlt, fun i hi => ?_⟩
 have hx : (mks.map fun z => Value.string (str z))[i]? = some (.string (str (mks.getD i []))) := by
  have hl : mks.length = 16 := rfl
  rw [List.getElem?_map, List.getElem?_eq_getElem (by omega)]
  simp [List.getD, hl, hi]
 unfold World.cell?
 simp only
 split at hv0
 ·rename_i cs t fr hh
  rw [hh]
  simp only [Option.some.injEq] at hv0
  subst hv0
  rw [← hc] at hx
  simpa using hx
 ·cases hv0
theorem cellsOp : Tryz.prog.cellsOf 122 = 4 := by kernel_rfl
theorem gOp : Tryz.prog.globalNamed "corebank/expr.operators" = some 2 := by kernel_rfl
theorem gOpType : (Tryz.prog.globals[2]?).map (·.type) = some 123 := by kernel_rfl
def rowD {H : Type} (r : Int × Int × Int × List UInt8) : DataW H := .agg [.lit (.int .i64 r.1), .lit (.int .i64 r.2.1), .lit (.int .i64 r.2.2.1), .lit (.string r.2.2.2)]
set_option maxRecDepth 100000 in
theorem row_cells {H : Type} {enc : TypeId × Value → H} {W : World} {base n : Nat} {spare : Nat → Bool} {held : Bool} {vs : List Value} {r : Int × Int × Int × List UInt8} {p : List MemPlace}
  (h : DataW.trod enc Tryz.prog W base spare held n 122 vs = some (rowD r, p)) : vs = [.int .i64 r.1, .int .i64 r.2.1, .int .i64 r.2.2.1, .string (str r.2.2.2)] := by
 obtain ⟨ys, m, _, hx, hcl, hyl, hf⟩ := DataW.trod_struct Tryz.underlying122 h
 rw [cellsOp] at hcl
 have hd : ys.map (·.1) = [.lit (.int .i64 r.1), .lit (.int .i64 r.2.1), .lit (.int .i64 r.2.2.1), .lit (.string r.2.2.2)] := by
  have := congrArg Prod.fst hx
  simp only [rowD, DataW.agg.injEq] at this
  exact this.symm
 match vs, hcl with
 | [c0, c1, c2, c3], _ =>
  have e0 : DataW.trod enc Tryz.prog W base spare held m 3 (List.take (Tryz.prog.cellsOf 3) (List.drop 0 [c0, c1, c2, c3])) = ys[0]? := hf 0 _ rfl
  have e1 : DataW.trod enc Tryz.prog W base spare held m 3 (List.take (Tryz.prog.cellsOf 3) (List.drop 1 [c0, c1, c2, c3])) = ys[1]? := hf 1 _ rfl
  have e2 : DataW.trod enc Tryz.prog W base spare held m 3 (List.take (Tryz.prog.cellsOf 3) (List.drop 2 [c0, c1, c2, c3])) = ys[2]? := hf 2 _ rfl
  have e3 : DataW.trod enc Tryz.prog W base spare held m 9 (List.take (Tryz.prog.cellsOf 9) (List.drop 3 [c0, c1, c2, c3])) = ys[3]? := hf 3 _ rfl
  rw [cellsInt] at e0 e1 e2
  rw [cellsStr] at e3
  have hl4 : ys.length = 4 := by have := congrArg List.length hd; simpa using this
  have hy : ∀ i (hi : i < 4), ys[i]? = some (ys[i]'(by omega)) := fun i hi => List.getElem?_eq_getElem _
  rw [hy 0 (by omega)] at e0; rw [hy 1 (by omega)] at e1; rw [hy 2 (by omega)] at e2; rw [hy 3 (by omega)] at e3
  obtain ⟨k0, hk0, hx0, _⟩ := DataW.trod_int Tryz.underlying3 e0
  obtain ⟨k1, hk1, hx1, _⟩ := DataW.trod_int Tryz.underlying3 e1
  obtain ⟨k2, hk2, hx2, _⟩ := DataW.trod_int Tryz.underlying3 e2
  obtain ⟨s, hs, hx3, _⟩ := DataW.trod_string Tryz.underlying9 e3
  have g : ∀ i (hi : i < 4), (ys.map (·.1))[i]? = some (ys[i]'(by omega)).1 := fun i hi => by rw [List.getElem?_map, hy i hi]; rfl
  have g0 := g 0 (by omega); have g1 := g 1 (by omega); have g2 := g 2 (by omega); have g3 := g 3 (by omega)
  rw [hd, hx0] at g0; rw [hd, hx1] at g1; rw [hd, hx2] at g2; rw [hd, hx3] at g3
  cases hk0; cases hk1; cases hk2; cases hs
  simp at g0 g1 g2 g3
  rw [g0, g1, g2, g3, list_str]
set_option maxRecDepth 100000 in
theorem rows_of {H : Type} {enc : TypeId × Value → H} {w : World} {base : Nat} {sp : Nat → Bool} {held : Bool} {fuel : Nat} {cs : List Value} {p : List MemPlace} {rs : List (Int × Int × Int × List UInt8)}
  (h : DataW.trod enc Tryz.prog w base sp held fuel 123 cs = some (.agg (rs.map rowD), p)) : rs.length = 20 ∧ ∀ i (_ : i < 20) (r : Int × Int × Int × List UInt8), rs[i]? = some r → (cs.drop (i * 4)).take 4 = [.int .i64 r.1, .int .i64 r.2.1, .int .i64 r.2.2.1, .string (str r.2.2.2)] := by
 have ht := Tryz.underlying123
 cases fuel with
 | zero => simp [DataW.trod] at h
 | succ fuel =>
  simp only [DataW.trod, ht, cellsOp] at h
  split at h
  ·rename_i hl
   obtain ⟨xs, hm, hx⟩ := Option.map_eq_some_iff.1 h
   have hxs : xs.map (·.1) = rs.map rowD := by
    have := congrArg Prod.fst hx
    simpa using this
   have hxl : xs.length = 20 := by simpa using Lib.mapM_length hm
   have hrl : rs.length = 20 := by
    have := congrArg List.length hxs
    simp at this
    omega
   refine ⟨hrl, fun i hi r hr => ?_⟩
   obtain ⟨b, hb, hf⟩ := Lib.mapM_at hm i i (by simp [hi])
   have h2 : (xs.map (·.1))[i]? = some b.1 := by simp [hb]
   rw [hxs, List.getElem?_map, hr] at h2
   injection h2 with h2
   have hf2 : DataW.trod enc Tryz.prog w base sp held fuel 122 ((cs.drop (i * 4)).take 4) = some (rowD r, b.2) := by rw [h2]; exact hf
   exact row_cells hf2
  ·cases h
theorem ops_rows : ∀ i : Nat, i < 20 → ((List.range 20).map rowO)[i]? = some (rowO i) := fun i hi => by simp [hi]
set_option maxRecDepth 100000 in
theorem ops_lie {W : World} (h : laidMetH Tryz.prog laidL W) : Ot W := by
 have hL : laidMet Tryz.prog laidL W := h
 obtain ⟨ps, ⟨g0, t0, cs0, f0, p0, q0, hg0, ht0, hv0, hd0, _⟩, _⟩ := hL.tail.tail.tail.tail.tail.tail
 obtain rfl := Option.some.inj (gOp.symm.trans hg0)
 obtain rfl := Option.some.inj (gOpType.symm.trans ht0)
 have hd : DataW.trod _ Tryz.prog W 0 _ _ f0 123 _ = some (.agg (((List.range 20).map rowO).map rowD), p0) := hd0
 obtain ⟨_, hr⟩ := rows_of hd
 unfold World.var? at hv0
 rw [gOp] at hv0
 simp only [Option.bind_some] at hv0
 have hlt : 2 < W.heap.size := by
  rcases Nat.lt_or_ge 2 W.heap.size with c | c
  ·exact c
  ·rw [Array.getElem?_eq_none c] at hv0; simp at hv0
 split at hv0
 ·rename_i cs t fr hh
  simp only [Option.some.injEq] at hv0
  subst hv0
  refine ⟨hlt, fun k hk => ?_⟩
  have hrow := hr k hk (rowO k) (ops_rows k hk)
  have key : ∀ j (hj : j < 4), W.cell? ⟨2, k * 4 + j, none⟩ = [.int .i64 (rowO k).1, .int .i64 (rowO k).2.1, .int .i64 (rowO k).2.2.1, .string (str (rowO k).2.2.2)][j]? := by
   intro j hj
   rw [← hrow, List.getElem?_take, if_pos hj, List.getElem?_drop]
   unfold World.cell?
   simp only [hh]
   simp
  exact ⟨key 0 (by omega), key 1 (by omega), key 2 (by omega), key 3 (by omega)⟩
 ·cases hv0
theorem gPow : Tryz.prog.globalNamed "internal/strconv.uint64pow10" = some 3 := by kernel_rfl
theorem gPowType : (Tryz.prog.globals[3]?).map (·.type) = some 151 := by kernel_rfl
theorem cellsPow : Tryz.prog.cellsOf 151 = 20 := by kernel_rfl
theorem cellsU64 : Tryz.prog.cellsOf 143 = 1 := by kernel_rfl
theorem table {W : World} (h : laidMetH Tryz.prog laidL W) : Tk W := by
 obtain ⟨ps, ⟨g0, t0, cs0, f0, p0, q0, hg0, ht0, hv0, hd0, ⟨g1, t1, cs1, f1, p1, q1, hg1, ht1, hv1, hd1, ⟨g2, t2, cs2, f2, p2, q2, hg2, ht2, hv2, hd2, _⟩, _⟩, _⟩, _⟩ := (show laidMet Tryz.prog laidL W from h)
 obtain rfl := Option.some.inj (gPow.symm.trans hg2)
 obtain rfl := Option.some.inj (gPowType.symm.trans ht2)
 have hd : DataW.trod _ Tryz.prog W 0 _ _ f2 151 _ = some (Lib.tabData .u64 Lib.pow10Tab, p2) := hd2
 unfold Tk Lib.TabIs
 rw [hv2, ← Lib.cells_of_tab Tryz.underlying151 Tryz.underlying143 cellsU64 cellsPow hd]
theorem cellsKn : Tryz.prog.cellsOf 99 = 4 := by kernel_rfl
theorem gKn : Tryz.prog.globalNamed "corebank/code.kindNames" = some 0 := by kernel_rfl
theorem gKnType : (Tryz.prog.globals[0]?).map (·.type) = some 99 := by kernel_rfl
theorem Kn_lie {W : World} (h : laidMetH Tryz.prog laidL W) : Kn W := by
 have hL : laidMet Tryz.prog laidL W := h
 obtain ⟨ps, ⟨g0, t0, cs0, f0, p0, q0, hg0, ht0, hv0, hd0, _⟩, _⟩ := hL.tail.tail.tail.tail.tail.tail.tail
 obtain rfl := Option.some.inj (gKn.symm.trans hg0)
 obtain rfl := Option.some.inj (gKnType.symm.trans ht0)
 have hd : DataW.trod _ Tryz.prog W 0 _ _ f0 99 _ = some (.agg (kns.map fun z => .lit (.string z)), p0) := hd0
 have hc := cells_of_texts Tryz.underlying99 Tryz.underlying9 cellsStr cellsKn hd
 unfold World.var? at hv0
 rw [gKn] at hv0
 simp only [Option.bind_some] at hv0
 have hlt : 0 < W.heap.size := by
  rcases Nat.lt_or_ge 0 W.heap.size with c | c
  ·exact c
  ·rw [Array.getElem?_eq_none c] at hv0; simp at hv0
 refine ⟨hlt, fun i hi => ?_⟩
 have hx : (kns.map fun z => Value.string (str z))[i]? = some (.string (str (kns.getD i []))) := by
  have hl : kns.length = 4 := rfl
  rw [List.getElem?_map, List.getElem?_eq_getElem (by omega)]
  simp [List.getD, hl, hi]
 unfold World.cell?
 simp only
 split at hv0
 ·rename_i cs t fr hh
  rw [hh]
  simp only [Option.some.injEq] at hv0
  subst hv0
  rw [← hc] at hx
  simpa using hx
 ·cases hv0
theorem cellsOn : Tryz.prog.cellsOf 100 = 19 := by kernel_rfl
theorem gOn : Tryz.prog.globalNamed "corebank/code.operatorNames" = some 1 := by kernel_rfl
theorem gOnType : (Tryz.prog.globals[1]?).map (·.type) = some 100 := by kernel_rfl
theorem On_lie {W : World} (h : laidMetH Tryz.prog laidL W) : On W := by
 have hL : laidMet Tryz.prog laidL W := h
 obtain ⟨ps, ⟨g0, t0, cs0, f0, p0, q0, hg0, ht0, hv0, hd0, _⟩, _⟩ := hL.tail.tail.tail.tail.tail.tail.tail.tail
 obtain rfl := Option.some.inj (gOn.symm.trans hg0)
 obtain rfl := Option.some.inj (gOnType.symm.trans ht0)
 have hd : DataW.trod _ Tryz.prog W 0 _ _ f0 100 _ = some (.agg (ons.map fun z => .lit (.string z)), p0) := hd0
 have hc := cells_of_texts Tryz.underlying100 Tryz.underlying9 cellsStr cellsOn hd
 unfold World.var? at hv0
 rw [gOn] at hv0
 simp only [Option.bind_some] at hv0
 have hlt : 1 < W.heap.size := by
  rcases Nat.lt_or_ge 1 W.heap.size with c | c
  ·exact c
  ·rw [Array.getElem?_eq_none c] at hv0; simp at hv0
 refine ⟨hlt, fun i hi => ?_⟩
 have hx : (ons.map fun z => Value.string (str z))[i]? = some (.string (str (ons.getD i []))) := by
  have hl : ons.length = 19 := rfl
  rw [List.getElem?_map, List.getElem?_eq_getElem (by omega)]
  simp [List.getD, hl, hi]
 unfold World.cell?
 simp only
 split at hv0
 ·rename_i cs t fr hh
  rw [hh]
  simp only [Option.some.injEq] at hv0
  subst hv0
  rw [← hc] at hx
  simpa using hx
 ·cases hv0
theorem good_lies {W : World} (h : laidMetH Tryz.prog laidL W) : Gk W := ⟨⟨ops_lie h, marks_lie h, errs h⟩, table h, Kn_lie h, On_lie h⟩

theorem cellsVr : Tryz.prog.cellsOf 57 = 2 := by kernel_rfl
set_option maxRecDepth 100000 in
theorem var_cells {H : Type} {enc : TypeId × Value → H} {W : World} {base n : Nat} {spare : Nat → Bool} {held : Bool} {vs : List Value} {x : DataW H × List MemPlace}
  (h : DataW.trod enc Tryz.prog W base spare held n 57 vs = some x) : ∃ (s : ByteArray) (k : Int), vs = [.string s, .int .i64 k] := by
 obtain ⟨ys, m, _, _, hcl, hyl, hf⟩ := DataW.trod_struct Tryz.underlying57 h
 rw [cellsVr] at hcl
 match vs, hcl with
 | [c0, c1], _ =>
  have e0 : DataW.trod enc Tryz.prog W base spare held m 9 (List.take (Tryz.prog.cellsOf 9) (List.drop 0 [c0, c1])) = ys[0]? := hf 0 _ rfl
  have e1 : DataW.trod enc Tryz.prog W base spare held m 3 (List.take (Tryz.prog.cellsOf 3) (List.drop 1 [c0, c1])) = ys[1]? := hf 1 _ rfl
  rw [cellsStr] at e0
  rw [cellsInt] at e1
  have hy0 : ys[0]? = some (ys[0]'(by rw [hyl]; decide)) := List.getElem?_eq_getElem _
  have hy1 : ys[1]? = some (ys[1]'(by rw [hyl]; decide)) := List.getElem?_eq_getElem _
  rw [hy0] at e0; rw [hy1] at e1
  obtain ⟨s, hs, _, _⟩ := DataW.trod_string Tryz.underlying9 e0
  obtain ⟨k, hk, _, _⟩ := DataW.trod_int Tryz.underlying3 e1
  cases hs; cases hk
  exact ⟨s, k, rfl⟩
theorem listd_of {α : Type} (d : α) (P : Nat → α → Prop) : ∀ n : Nat, (∀ i, i < n → ∃ c, P i c) → ∃ cs : List α, cs.length = n ∧ ∀ i, i < n → P i (cs.getD i d) := by
 intro n
 induction n with
 | zero => intro _; exact ⟨[], rfl, fun i hi => absurd hi (Nat.not_lt_zero _)⟩
 | succ n ih =>
  intro h
  obtain ⟨cs, hl, hP⟩ := ih (fun i hi => h i (by omega))
  obtain ⟨c, hc⟩ := h n (by omega)
  refine ⟨cs ++ [c], by simp [hl], fun i hi => ?_⟩
  by_cases e : i = n
  ·subst e
   have : (cs ++ [c]).getD i d = c := by simp [List.getD, ← hl]
   rw [this]; exact hc
  ·have : (cs ++ [c]).getD i d = cs.getD i d := by
    simp [List.getD, List.getElem?_append, show i < cs.length by omega]
   rw [this]; exact hP i (by omega)
theorem cellsIn : Tryz.prog.cellsOf 47 = 3 := by kernel_rfl
theorem cellsCd : Tryz.prog.cellsOf 30 = 3 := by kernel_rfl
theorem cellsSV : Tryz.prog.cellsOf 25 = 1 := by kernel_rfl
theorem cellsSI : Tryz.prog.cellsOf 28 = 1 := by kernel_rfl
set_option maxRecDepth 100000 in
theorem ins_cells {H : Type} {enc : TypeId × Value → H} {W : World} {base n : Nat} {spare : Nat → Bool} {held : Bool} {vs : List Value} {x : DataW H × List MemPlace}
  (h : DataW.trod enc Tryz.prog W base spare held n 47 vs = some x) : ∃ (a b c : Int), vs = [.int .i64 a, .int .i64 b, .int .i64 c] ∧ c ≤ 9223372036854775807 := by
 obtain ⟨ys, m, _, _, hcl, hyl, hf⟩ := DataW.trod_struct Tryz.underlying47 h
 rw [cellsIn] at hcl
 match vs, hcl with
 | [c0, c1, c2], _ =>
  have e0 : DataW.trod enc Tryz.prog W base spare held m 3 (List.take (Tryz.prog.cellsOf 3) (List.drop 0 [c0, c1, c2])) = ys[0]? := hf 0 _ rfl
  have e1 : DataW.trod enc Tryz.prog W base spare held m 3 (List.take (Tryz.prog.cellsOf 3) (List.drop 1 [c0, c1, c2])) = ys[1]? := hf 1 _ rfl
  have e2 : DataW.trod enc Tryz.prog W base spare held m 3 (List.take (Tryz.prog.cellsOf 3) (List.drop 2 [c0, c1, c2])) = ys[2]? := hf 2 _ rfl
  rw [cellsInt] at e0 e1 e2
  have hl3 : ys.length = 3 := by rw [hyl]; decide
  have hy : ∀ i (hi : i < 3), ys[i]? = some (ys[i]'(by omega)) := fun i hi => List.getElem?_eq_getElem _
  rw [hy 0 (by omega)] at e0; rw [hy 1 (by omega)] at e1; rw [hy 2 (by omega)] at e2
  obtain ⟨k0, hk0, _, _⟩ := DataW.trod_int Tryz.underlying3 e0
  obtain ⟨k1, hk1, _, _⟩ := DataW.trod_int Tryz.underlying3 e1
  obtain ⟨k2, hk2, _, hw⟩ := DataW.trod_int Tryz.underlying3 e2
  cases hk0; cases hk1; cases hk2
  exact ⟨k0, k1, k2, rfl, (bounds_i64 hw).2⟩
theorem list_in {H : Type} {enc : TypeId × Value → H} {W : World} {spare : Nat → Bool} {held : Bool} {fuel : Nat} {T e : TypeId} {c0 : Value} {x : DataW H × List MemPlace} {α : Type} (d : α) (cs : α → List Value) (ok : α → Prop) (k : Nat) (hk : 0 < k) (hce : Tryz.prog.cellsOf e = k)
  (hT : Tryz.prog.underlying T = some (.slice e)) (h : DataW.trod enc Tryz.prog W 0 spare held fuel T [c0] = some x) (hcs : ∀ t, (cs t).length = k)
  (hel : ∀ n vs y, DataW.trod enc Tryz.prog W 0 spare held n e vs = some y → ∃ t, vs = cs t ∧ ok t) :
  ∃ (l : List α) (ao : Option Addr) (cap : Nat), c0 = .slice ao l.length cap ∧ l.length ≤ cap ∧ (ao = none → l.length = 0 ∧ cap = 0) ∧ (∀ i, i < l.length → ok (l.getD i d)) ∧
   ∀ i, i < l.length → ∃ b off, ao = some ⟨b, off, none⟩ ∧ b < W.heap.size ∧ ∀ r v, (cs (l.getD i d))[r]? = some v → W.cell? ⟨b, off + i * k + r, none⟩ = some v := by
 rcases DataW.trod_slice hT h with ⟨h1, _⟩ | ⟨a, len, cap, elems, rest, n, hn, h1, _, _, hlc, _, hle, hi, _⟩
 ·simp at h1
  subst h1
  exact ⟨[], none, 0, rfl, Nat.le_refl _, fun _ => ⟨rfl, rfl⟩, fun i hi => absurd hi (Nat.not_lt_zero _), fun i hi => absurd hi (Nat.not_lt_zero _)⟩
 ·simp at h1
  subst h1
  obtain ⟨l, hl, hP⟩ := listd_of d (fun i t => W.cells? 0 (a.add (i * k)) k = some (cs t) ∧ ok t) len (fun i hil => by
   have h1 := hi i hil
   rw [List.getElem?_eq_getElem (by omega), Option.bind_eq_some_iff] at h1
   obtain ⟨vs, hc1, hc2⟩ := h1
   rw [hce] at hc1
   obtain ⟨t, ht, hok⟩ := hel _ _ _ hc2
   exact ⟨t, by rw [← ht]; exact hc1, hok⟩)
  subst hl
  refine ⟨l, some a, cap, rfl, hlc, fun e => (by cases e), fun i hil => (hP i hil).2, fun i hil => ?_⟩
  obtain ⟨b, off, spot⟩ := a
  have hspot : spot = none := by
   obtain ⟨_, _, hcell0⟩ := World.cells?_some (hP 0 (by omega)).1
   have h9 : (cs (l.getD 0 d))[0]? = some ((cs (l.getD 0 d))[0]'(by rw [hcs]; exact hk)) := List.getElem?_eq_getElem _
   have z0 := (hcell0 0 hk).trans h9
   simpa [Addr.add] using World.cell?_spot z0
  subst hspot
  obtain ⟨_, _, hcell⟩ := World.cells?_some (hP i hil).1
  have key : ∀ r v, (cs (l.getD i d))[r]? = some v → W.cell? ⟨b, off + i * k + r, none⟩ = some v := by
   intro r v hr
   have hrk : r < k := by have := (List.getElem?_eq_some_iff.1 hr).1; rw [hcs] at this; exact this
   have h3 := (hcell r hrk).trans hr
   rw [Go.WideShapes.add_plain, Go.WideShapes.add_plain] at h3
   exact h3
  refine ⟨b, off, rfl, ?_, key⟩
  exact World.block_lt_of_cell? W _ (key 0 _ (List.getElem?_eq_getElem (by rw [hcs]; exact hk)))
set_option maxRecDepth 100000 in
theorem open_code {H : Type} {enc : TypeId × Value → H} {W : World} {r : Reach} {b0 : Nat} {v : Value} {d : DataW H} {p : List MemPlace} (hv : Value.okWide Tryz.prog W r b0 30 v)
  (h : DataW.Trod enc Tryz.prog W 0 (fun _ => true) true 30 v d p) : ∃ (a : Cd) (vo io : Option Addr) (vc ic : Nat), v = .agg #[.int .i64 a.t, .slice vo a.vs.length vc, .slice io a.c.length ic] ∧ CodeAt a vo vc io ic W ∧ Fits a.c := by
 obtain ⟨cs, rfl, _⟩ := okWide_struct Tryz.underlying30 hv
 obtain ⟨fuel, hf⟩ := h
 obtain ⟨ys, m, _, _, hcl, hyl, hff⟩ := DataW.trod_struct Tryz.underlying30 hf
 have hcl' : cs.toList.length = 3 := by have := hcl; rw [cellsCd] at this; exact this
 cases cs with
 | mk l =>
 match l, hcl' with
 | [c0, c1, c2], _ =>
  have e0 : DataW.trod enc Tryz.prog W 0 (fun _ => true) true m 3 (List.take (Tryz.prog.cellsOf 3) (List.drop 0 [c0, c1, c2])) = ys[0]? := hff 0 _ rfl
  have e1 : DataW.trod enc Tryz.prog W 0 (fun _ => true) true m 25 (List.take (Tryz.prog.cellsOf 25) (List.drop 1 [c0, c1, c2])) = ys[1]? := hff 1 _ rfl
  have e2 : DataW.trod enc Tryz.prog W 0 (fun _ => true) true m 28 (List.take (Tryz.prog.cellsOf 28) (List.drop 2 [c0, c1, c2])) = ys[2]? := hff 2 _ rfl
  rw [cellsInt] at e0
  rw [cellsSV] at e1
  rw [cellsSI] at e2
  have hl3 : ys.length = 3 := by rw [hyl]; decide
  have hy : ∀ i (hi : i < 3), ys[i]? = some (ys[i]'(by omega)) := fun i hi => List.getElem?_eq_getElem _
  rw [hy 0 (by omega)] at e0; rw [hy 1 (by omega)] at e1; rw [hy 2 (by omega)] at e2
  obtain ⟨k0, hk0, _, _⟩ := DataW.trod_int Tryz.underlying3 e0
  cases hk0
  obtain ⟨vs, vo, vc, rfl, v1, v2, _, v3⟩ := list_in V0 (fun t : Vr => [.string (str t.1), .int .i64 t.2]) (fun _ => True) 2 (by decide) cellsVr Tryz.underlying25 e1 (fun _ => rfl) (fun n vs y hy => by
   obtain ⟨s, k, hvs⟩ := var_cells hy
   exact ⟨(byt s, k), by rw [hvs, str_byt], trivial⟩)
  obtain ⟨c, io, ic, rfl, _, i2, i4, i3⟩ := list_in I0 (fun t : Ins => [.int .i64 t.1, .int .i64 t.2.1, .int .i64 t.2.2]) (fun t => t.2.2 ≤ 9223372036854775807) 3 (by decide) cellsIn Tryz.underlying28 e2 (fun _ => rfl) (fun n vs y hy => by
   obtain ⟨a, b, c, hvs, hb⟩ := ins_cells hy
   exact ⟨(a, b, c), hvs, hb⟩)
  refine ⟨⟨k0, vs, c⟩, vo, io, vc, ic, rfl, ⟨fun i hi => ?_, fun i hi => ?_, v1, v2, i2⟩, fun x hx => ?_⟩
  ·obtain ⟨b, off, e, hb, hc⟩ := v3 i hi
   exact ⟨b, off, e, hb, hc 0 _ rfl, hc 1 _ rfl⟩
  ·obtain ⟨b, off, e, hb, hc⟩ := i3 i hi
   exact ⟨b, off, e, hb, hc 0 _ rfl, hc 1 _ rfl, hc 2 _ rfl⟩
  ·obtain ⟨i, hi, rfl⟩ := List.mem_iff_getElem.1 hx
   have := i4 i hi
   simpa [List.getD, hi] using this
section
variable {H : Type} {enc : TypeId × Value → H} {P : Program}
theorem post_of_below {f : Func} {s : ChangeSpec} {apart fresh handsOn again : Bool} {W W' : World} {args : Array Value} {v : Value} {ds gs : List (DataW H)} {before pa pv : List MemPlace}
  (hW : DataW.Whole enc P f.params.toList s.vars apart W args.toList ds gs before)
  (hres : ∀ (b : Nat) (sp : Nat → Bool) (hd : Bool), DataW.TrodAll enc P W' b sp hd f.resultTypes.toList (v.resultList f.resultTypes.size) (s.fn H (ds ++ gs)).results [])
  (hargs : ∀ sp : Nat → Bool, (∀ p ∈ before, sp p.block = true) → DataW.TrodAll enc P W' 0 sp true f.params.toList args.toList (s.fn H (ds ++ gs)).args pa)
  (hvars : ∀ sp : Nat → Bool, (∀ p ∈ before, sp p.block = true) → DataW.TrodVars enc P W' sp s.vars (s.fn H (ds ++ gs)).vars pv)
  (hps : before = pa ++ pv) (hb : Below W.heap.size W W')
  (hok : ∀ (j : Nat) (t : TypeId) (r : Value), f.resultTypes[j]? = some t → (v.resultList f.resultTypes.size)[j]? = some r → Value.okWide P W' .any 0 t r) :
  s.post enc P f apart fresh handsOn again W args v W' := by
 have hlt : ∀ p ∈ before, p.block < W.heap.size := fun p hp => hW.lt p hp
 have hold : ∀ p ∈ before, (fun b => decide (b < W.heap.size)) p.block = true := fun p hp => by simpa using hlt p hp
 refine ⟨ds, gs, before, [], pa, pv, hW, hres _ _ _, hargs _ hold, hvars _ hold, World.keptBut_mono (fun p hp => ⟨hp, ?_⟩) (hb.frame (· ∈ before)), fun _ => ?_⟩
 ·rw [hps, List.mem_append] at hp
  exact Or.inr hp
 ·obtain ⟨_, _, _, _, _, hz, hn⟩ := hW
  refine ⟨hok, _, _, ([] ++ pa) ++ pv, ⟨[] ++ pa, pv, trodAll_append (hargs _ (fun _ _ => rfl)) (hres _ _ _), hvars _ (fun _ _ => rfl), rfl, ?_, ?_⟩, ?_⟩
  ·intro b off hp
   have hin : MemPlace.cell b off ∈ before := by rw [hps]; simpa using hp
   rw [hb.frozen (hlt _ hin)]
   exact hz b off hin
  ·intro ha
   have := hn ha
   rw [hps] at this
   simpa using this
  ·intro p hp _
   rw [hps]
   simpa using hp
end

noncomputable def tabWorld (os : Os) : World := World.laidAll Tryz.prog os laidL
theorem laid_met (os : Os) (args : Array Value) : laidMet Tryz.prog laidL ((tabWorld os).forCall (fun _ _ => 0) ⟨#[], args, []⟩).memory :=
 laidMet_laidAll _ (by kernel_rfl) (by kernel_rfl)
theorem witness_row_lay {H : Type} {enc : TypeId × Value → H} {C : Checked} {os : Os} {f : FuncId} {fn : Func} {s : OpenSpec} {conds : List PathCond} {apart : Bool} {laid : List (String × DataW Unit)} (modest : Bool) (w0 : World) (args : Array Value) (hos : w0.os = os)
  (hsh : (w0.forCall (fun _ _ => 0) ⟨#[], args, []⟩).Shaped C.prog)
  (hok : Input.okWideB C.prog (w0.forCall (fun _ _ => 0) ⟨#[], args, []⟩) f ⟨#[], args, []⟩ = true)
  (hrow : s.preRow enc C.prog fn conds apart laid (w0.forCall (fun _ _ => 0) ⟨#[], args, []⟩).memory args) :
  ∃ (w : World) (tape : Tape) (i : Input), w.os = os ∧ (w.forCall tape i).Shaped C.prog ∧ i.vars = [] ∧ Input.okWide C.prog (w.forCall tape i) .any w.heap.size f i ∧
   s.preRow enc C.prog fn conds apart laid (w.forCall tape i).memory i.args ∧ ({ modest := modest } : Assume).holds C.prog (lone (Frame.enter C.prog f i.args .normal) [] (w.forCall tape i)) :=
 ⟨w0, fun _ _ => 0, ⟨#[], args, []⟩, hos, hsh, (Input.okWide_of_okWideB (base := 0) hok).1, (Input.okWide_of_okWideB hok).2, hrow, by
  simp only [Assume.holds]
  exact ⟨by simp, by simp, fun _ => Modest.zero, by simp, by simp⟩⟩
theorem tab_os (os : Os) : (tabWorld os).os = os := World.laidAll_os _ _ _
theorem tab_shaped (os : Os) (args : Array Value) : ((tabWorld os).forCall (fun _ _ => 0) ⟨#[], args, []⟩).Shaped Tryz.prog := World.shaped_of_ZipB (by kernel_rfl) (by kernel_rfl)
end Go.Proofs.YthanoilbcdhbkaaGreatDoor
