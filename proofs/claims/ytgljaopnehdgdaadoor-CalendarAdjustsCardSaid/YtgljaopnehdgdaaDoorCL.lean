/-
  The library's Grow at nil, Concat of two lists; the union of two lists by package calendar.
-/
import Derived.Test.YtgljaopnehdgdaaDoorCK
import Derived.Test.YtgljaopnehdgdaaDoorShelf
import Derived.OwnWalk
import Derived.LoopN
import Derived.Lib.AppendZerosOnto
import Derived.Sort.OwnSortedInts
import Derived.ArgAppend
import Derived.Shelf.Spec.SlicesGrow
namespace Go.Proofs.YtgljaopnehdgdaaDoor
open Go Go.RowKit Go.Lib WM

def vals (l : List Int) : List Value := l.map (Value.int .i64)
theorem info3 : (Tryd.prog.info? 3).map (fun i => (i.zero, i.size, i.bytes)) = some (some (.int .i64 0), 1, 8) := by kernel_rfl
theorem own_below {w w' : World} {base : Nat} {e : TypeId} {size : Nat} {v : Value} {n : Nat} {xs : List Value} (h : w.ownsRow base e size v n xs) (hb : Below w.heap.size w w') : w'.ownsRow base e size v n xs := by
  refine ⟨h.1, ?_⟩
  rcases h.2 with hn | ⟨g, cap, cur, rfl, hbg, hg, rest⟩
  · exact Or.inl hn
  · refine Or.inr ⟨g, cap, cur, rfl, hbg, ?_, rest⟩
    rw [hb.block g (Array.getElem?_eq_some_iff.1 hg).1]
    exact hg
theorem own_base {w : World} {b b' : Nat} {e : TypeId} {size : Nat} {v : Value} {n : Nat} {xs : List Value} (h : w.ownsRow b e size v n xs) (hb : b' ≤ b) : w.ownsRow b' e size v n xs := by
  refine ⟨h.1, ?_⟩
  rcases h.2 with hn | ⟨g, cap, cur, rfl, hbg, rest⟩
  · exact Or.inl hn
  · exact Or.inr ⟨g, cap, cur, rfl, by omega, rest⟩
/-- What a list of the call's own is: its numbers lie there. -/
theorem own_shape {w : World} {base n : Nat} {v : Value} {l : List Int} (h : w.ownsRow base 3 1 v n (vals l)) :
    l.length = n ∧ ∃ ao cap, v = .slice ao n cap ∧ IntsAt ao l w ∧ (ao = none → cap = 0) ∧ ∀ a, ao = some a → base ≤ a.block := by
  obtain ⟨h0, h1⟩ := h
  have hl : l.length = n := by simpa [vals] using h0
  refine ⟨hl, ?_⟩
  rcases h1 with ⟨rfl, rfl⟩ | ⟨g, cap, cur, rfl, hb, hg, hnc, _, hcs, htake⟩
  · exact ⟨none, 0, rfl, fun i hi => absurd hi (by omega), fun _ => rfl, fun a h => by cases h⟩
  · refine ⟨some ⟨g, 0, none⟩, cap, rfl, fun j hj => ⟨g, 0, rfl, (Array.getElem?_eq_some_iff.1 hg).1, ?_⟩, (fun h => by cases h), fun a h => by cases h; exact hb⟩
    rw [Nat.zero_add, cell_of_row _ _ j cur _ (0, 0) hg]
    have h2 : (cur.toList.take (n * 1))[j]? = (vals l)[j]? := by rw [htake]
    rw [List.getElem?_take, if_pos (by omega)] at h2
    rw [← Array.getElem?_toList, h2]
    simp [vals, List.getD, hj]
/-- 'append' onto a list of the call's own, whatever is appended: nil, empty or not. -/
theorem wpList_append_own_any {P : Program} {w : World} {ops : Array Oper} {rest : List Oper} {o : Oper} {a : Act} {Q : Exit → Act → World → Prop} (hgd : o.guard = none) (s x : Operand) (t : TypeId)
    (ho : o.op = .call { callee := .builtin .append, args := #[s, x], argTypes := #[t, t] })
    (base : Nat) (e : TypeId) (i : TypeInfo) (z : Value) (size bytes : Nat) (ht : P.underlying t = some (.slice e)) (hi : P.info? e = some i) (hz : i.zero = some z)
    (hsize : i.size = size) (hby : i.bytes = bytes) (hzs : z.cells.size = size) (hsz : 0 < size)
    (v : Value) (n : Nat) (xs : List Value) (hs : a.eval s = v) (hown : w.ownsRow base e size v n xs)
    (ao : Option Addr) (m c : Nat) (news : List Value) (hx : a.eval x = .slice ao m c) (hl : news.length = m * size) (hnone : ao = none → m = 0 ∧ c = 0) (hnews : ∀ ad, ao = some ad → ∀ j u, news[j]? = some u → w.cell? (ad.add j) = some u) (h1 : ∀ u ∈ news, u.oneCell' = true)
    (h63 : n + m ≤ maxLen) (hbytes : (n + m) * bytes ≤ 140737488355328) (hbase : base ≤ w.heap.size)
    (h : ∀ v' w', w'.ownsRow base e size v' (n + m) (xs ++ news) → w.grownBy w' v.ownBlock → wpList P ops Q rest (a.put o.dst v') w') : wpList P ops Q (o :: rest) a w := by
  cases ao with
  | some ad => exact wpList_append_own w hgd s x t ho base e i z size bytes ht hi hz hsize hby hzs hsz v n xs hs hown ad m c news hx hl (hnews ad rfl) h1 h63 hbytes hbase fun v' w' h2 h3 _ => h v' w' h2 h3
  | none =>
    obtain ⟨rfl, rfl⟩ := hnone rfl
    have hn : news = [] := List.eq_nil_of_length_eq_zero (by simpa using hl)
    subst hn
    refine wpList_plain hgd fun K hK' => ?_
    have hrun := run_append_owned_none (P := P) (w := w) base t o.type e i size ht hi _ n xs hown
    unfold Oper.wp
    simp [execOp, ho, resolve, invoke, builtin, hs, hx, hrun, Result.andThen]
    exact hK' _ _ (by simpa using h v w (by simpa using hown) (World.grownBy.refl _ _))
/-- Cells of a list, as 'append' asks for them. -/
theorem news_of {w w' : World} {ao : Option Addr} {zs : List Int} (h : IntsAt ao zs w') (hw : w = w') : ∀ ad, ao = some ad → ∀ j u, (vals zs)[j]? = some u → w.cell? (ad.add j) = some u := by
  intro ad had j u hu
  subst hw
  have hj : j < zs.length := by simpa [vals] using (List.getElem?_eq_some_iff.1 hu).1
  obtain ⟨b, off, hao, _, c⟩ := h j hj
  rw [had] at hao
  cases hao
  have e : (vals zs)[j]? = some (.int .i64 (zs.getD j 0)) := by simp [vals, List.getD, hj]
  rw [e] at hu
  cases hu
  rw [Addr.add_lit]
  exact c
theorem one_vals (l : List Int) : ∀ u ∈ vals l, u.oneCell' = true := ints_oneCell .i64 l

set_option maxRecDepth 100000 in
set_option maxHeartbeats 4000000 in
theorem grow_nil (n : Nat) (hn : n ≤ 2000000) (w : World) :
    Calls Tryd.prog 65 #[.slice none 0 0, .int .i64 n] w fun e w' => ∃ v, e = .returned v ∧ w'.ownsRow w.heap.size 3 1 v 0 (vals []) ∧ Below w.heap.size w w' := by
  obtain ⟨i0, hi, hz0, hz1, hz2⟩ := info_parts info3
  by_cases h0 : n = 0
  · subst h0
    go_enter Tryd.func65, Tryd.ntmps65
    go_wp2_with fail
    go_ret
    exact ⟨_, rfl, World.ownsRow_nil _ _ _ _, bref _⟩
  · have hrz : ∀ ty, (Builtin.append_ #[22, 3] ty #[.slice none 0 0, .int .i64 n]).run Tryd.prog w =
        .ok (.slice (some ⟨w.heap.size, 0, none⟩) n (grownCap w n 0 3)) (w.drew.alloc (.cells (#[] ++ Builtin.zeroCells (Value.int .i64 0).cells n ++ Builtin.zeroCells (Value.int .i64 0).cells (grownCap w n 0 3 - n)) 3)) := fun ty => by
      have h := Lib.run_append_grow_zeros w 22 3 ty 3 i0 (.int .i64 0) .i64 .i64 Tryd.underlying22 Tryd.underlying3 hi hz0 none 0 0 [] (run_firstCells_none w.drew i0.size 0 0 0) n (by omega) (by omega) (by omega) (by omega) (by rw [hz2]; omega) (by
        rw [Nat.zero_add, hz2]
        exact growslice_fits (need := n) (old := 0) (bytes := 8) (by omega) (by omega))
      simpa using h
    have hGn : n ≤ grownCap w n 0 3 := grownCap_ge w _ _ _
    obtain ⟨G, hG⟩ : ∃ G, G = grownCap w n 0 3 := ⟨_, rfl⟩
    rw [← hG] at hrz hGn
    have hG63 : G ≤ 9223372036854775807 := by
      have := grownCap_le_maxLen w n 0 3 (by unfold maxLen; omega)
      rw [← hG] at this
      unfold maxLen at this
      omega
    have hn0 : 0 < n := by omega
    clear hG
    go_enter Tryd.func65, Tryd.ntmps65
    go_wp2_with (at_builtin; refine Lib.wpList_append_run _ rfl _ _ _ _ rfl _ _ rfl rfl _ _ (hrz _) ?_)
    go_ret
    refine ⟨_, rfl, ?_, bal (bdn (bref _) 1) _⟩
    exact World.ownsRow_made w.drew _ G (Nat.le_refl _) (by unfold maxLen; omega) (by simp [Builtin.zeroCells]; omega)

/-- Two lists in a block, as Concat is handed them. -/
def TwoAt (sb : Nat) (x y : Value) (W : World) : Prop := W.cell? ⟨sb, 0, none⟩ = some x ∧ W.cell? ⟨sb, 1, none⟩ = some y
theorem TwoAt.keep {sb : Nat} {x y : Value} {w w' : World} (h : TwoAt sb x y w) (hb : Below w.heap.size w w') : TwoAt sb x y w' := by
  have hl : sb < w.heap.size := World.block_lt_of_cell? w _ h.1
  exact ⟨(hb.cell (p := ⟨sb, 0, none⟩) hl).trans h.1, (hb.cell (p := ⟨sb, 1, none⟩) hl).trans h.2⟩
theorem info_at : ∃ i0 : TypeInfo, Tryd.prog.info? 3 = some i0 ∧ i0.zero = some (.int .i64 0) ∧ i0.size = 1 ∧ i0.bytes = 8 := by
  obtain ⟨i0, hi, hz0, hz1, hz2⟩ := info_parts info3
  exact ⟨i0, hi, hz0, hz1, hz2⟩

set_option maxRecDepth 100000 in
set_option maxHeartbeats 8000000 in
theorem concat_any (sb : Nat) (ao bo : Option Addr) (ca cb : Nat) (xs ys : List Int) (w : World) (h1 : xs.length ≤ 1000000) (h2 : ys.length ≤ 1000000) (ht : TwoAt sb (.slice ao xs.length ca) (.slice bo ys.length cb) w)
    (hx : IntsAt ao xs w) (hy : IntsAt bo ys w) (nx : ao = none → xs.length = 0 ∧ ca = 0) (ny : bo = none → ys.length = 0 ∧ cb = 0) :
    Calls Tryd.prog 58 #[.slice (some ⟨sb, 0, none⟩) 2 2] w fun e w' => ∃ v, e = .returned v ∧ w'.ownsRow w.heap.size 3 1 v (xs.length + ys.length) (vals (xs ++ ys)) ∧ Below w.heap.size w w' := by
  obtain ⟨i0, hi, hz0, hz1, hz2⟩ := info_at
  obtain ⟨t0, t1⟩ := ht
  have HT := Lib.hid (show TwoAt sb (.slice ao xs.length ca) (.slice bo ys.length cb) w from ⟨t0, t1⟩)
  have HX := Lib.hid hx
  have HY := Lib.hid hy
  have NX := Lib.hid nx
  have NY := Lib.hid ny
  have CG : Hid (∀ W, Calls Tryd.prog 65 #[.slice none 0 0, .int .i64 ((xs.length : Int) + (ys.length : Int))] W fun e w' => ∃ v, e = .returned v ∧ w'.ownsRow W.heap.size 3 1 v 0 (vals []) ∧ Below W.heap.size W w') := Lib.hid (fun W => by
    have h := grow_nil (xs.length + ys.length) (by omega) W
    rw [Int.natCast_add] at h
    exact h)
  clear hx hy nx ny
  go_enter Tryd.func58, Tryd.ntmps58
  go_wp2_with fail
  refine wp_loop_rounds 3 ?_
  rw [rounds_succ]
  go_wp2_with fail
  rw [rounds_succ]
  go_wp2_with fail
  rw [rounds_succ]
  go_wp2_with fail
  refine (CG.out _).mono ?_
  rintro e w1 ⟨v, rfl, ov, B1⟩
  have HO := Lib.hid ov
  have HB1 := Lib.hid B1
  obtain ⟨s0, s1⟩ := HT.out.keep B1
  have hs1 := B1.size
  clear ov B1 t0 t1 CG
  go_wp2_with fail
  refine wp_loop_rounds 3 ?_
  rw [rounds_succ]
  go_wp2_with (first | (at_builtin; refine wpList_append_own_any rfl (.tmp 31) (.tmp 32) 22 rfl w.heap.size 3 i0 (.int .i64 0) 1 8 Tryd.underlying22 hi hz0 hz1 hz2 rfl (by decide) _ _ _ rfl HO.out ao xs.length ca (vals xs) rfl (by simp [vals]) NX.out (news_of (HX.out.keep HB1.out) rfl) (one_vals xs) (by unfold maxLen; omega) (by omega) hs1 ?_; intro v2 w2 ox gx))
  have B2 := HB1.out.grown gx hs1 (fun b hb => (HO.out.lt b hb).1)
  have HO2 := Lib.hid ox
  have HB2 := Lib.hid B2
  obtain ⟨r0, r1⟩ := HT.out.keep B2
  have hs2 := B2.size
  clear ox gx B2 s0 s1
  rw [rounds_succ]
  go_wp2_with (first | (at_builtin; refine wpList_append_own_any rfl (.tmp 31) (.tmp 32) 22 rfl w.heap.size 3 i0 (.int .i64 0) 1 8 Tryd.underlying22 hi hz0 hz1 hz2 rfl (by decide) _ _ _ rfl HO2.out bo ys.length cb (vals ys) rfl (by simp [vals]) NY.out (news_of (HY.out.keep HB2.out) rfl) (one_vals ys) (by unfold maxLen; omega) (by omega) hs2 ?_; intro v3 w3 oy gy))
  have B3 := HB2.out.grown gy hs2 (fun b hb => (HO2.out.lt b hb).1)
  have HO3 := Lib.hid oy
  have HB3 := Lib.hid B3
  clear oy gy B3 r0 r1
  rw [rounds_succ]
  go_wp2_with fail
  go_ret
  refine ⟨_, rfl, ?_, HB3.out⟩
  have := HO3.out
  simpa [vals] using this
end Go.Proofs.YtgljaopnehdgdaaDoor
