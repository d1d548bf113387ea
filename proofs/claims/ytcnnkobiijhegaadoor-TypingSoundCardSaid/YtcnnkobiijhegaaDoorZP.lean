/-
  Expressions that lie in some blocks of a world alone; what the law's 'filled' keeps from round to round.
-/
import Derived.Test.YtcnnkobiijhegaaDoorZJ
namespace Go.Proofs.YtcnnkobiijhegaaDoor
open Go Go.RowKit Go.Lib Go.Shelf WM TM EM YM

/-- Some blocks of a world alone. -/
def mask (A : Nat → Bool) (w : World) : World := { w with heap := w.heap.mapIdx fun k o => if A k then o else .cells #[] 0 }
theorem mask_cell (A : Nat → Bool) (w : World) (p : Addr) : (mask A w).cell? p = if A p.block then w.cell? p else none := by
  unfold World.cell? mask
  simp only
  rw [Array.getElem?_mapIdx]
  cases h : w.heap[p.block]? with
  | none => simp
  | some o =>
    by_cases hA : A p.block = true
    · simp [hA]
    · simp [hA]
theorem exs_cells {w w' : World} (hc : ∀ p v, w.cell? p = some v → w'.cell? p = some v) : ∀ e : Ex, ∀ ao, ExprsAt ao e.args w → ExprsAt ao e.args w' := by
  refine ex_ind _ fun e ih ao h => ExprsAt.mk fun i hi => ?_
  obtain ⟨b, off, so, cap, h1, h2, h3, h4, h5, h6, h7, h8⟩ := h.at i hi
  exact ⟨b, off, so, cap, h1, World.block_lt_of_cell? w' _ (hc _ _ h3), hc _ _ h3, hc _ _ h4, hc _ _ h5, hc _ _ h6, ih _ (by simp [List.getD, hi]) so h7, h8⟩
theorem ExprsAt.cells {w w' : World} {ao : Option Addr} {l : List Ex} (h : ExprsAt ao l w) (hc : ∀ p v, w.cell? p = some v → w'.cell? p = some v) : ExprsAt ao l w' := exs_cells hc (.mk 0 0 [] l) ao h
/-- From some blocks of a world to some of another one. -/
theorem ExprsAt.go {A B : Nat → Bool} {w w' : World} {ao : Option Addr} {l : List Ex} (h : ExprsAt ao l (mask A w)) (hc : ∀ p v, A p.block = true → w.cell? p = some v → w'.cell? p = some v ∧ B p.block = true) : ExprsAt ao l (mask B w') := by
  refine h.cells fun p v hp => ?_
  rw [mask_cell] at hp ⊢
  by_cases hA : A p.block = true
  · rw [if_pos hA] at hp
    obtain ⟨h1, h2⟩ := hc p v hA hp
    rw [if_pos h2]
    exact h1
  · rw [if_neg hA] at hp
    cases hp
theorem Lies.go {A B : Nat → Bool} {w w' : World} {x : Nd} (h : Lies x (mask A w)) (hc : ∀ p v, A p.block = true → w.cell? p = some v → w'.cell? p = some v ∧ B p.block = true) : Lies x (mask B w') := ⟨h.1.go hc, h.2⟩
theorem Lies.all {x : Nd} {w : World} (h : Lies x w) : Lies x (mask (fun k => decide (k < w.heap.size)) w) := by
  refine ⟨h.1.cells fun p v hp => ?_, h.2⟩
  rw [mask_cell, if_pos (decide_eq_true (World.block_lt_of_cell? w p hp))]
  exact hp
theorem Lies.free {A : Nat → Bool} {x : Nd} {w : World} (h : Lies x (mask A w)) : Lies x w := by
  refine ⟨h.1.cells fun p v hp => ?_, h.2⟩
  rw [mask_cell] at hp
  by_cases hA : A p.block = true
  · rw [if_pos hA] at hp; exact hp
  · rw [if_neg hA] at hp; cases hp
theorem below_cell {n : Nat} {w w' : World} (hb : Below n w w') {p : Addr} {v : Value} (hp : p.block < n) (h : w.cell? p = some v) : w'.cell? p = some v := (hb.cell hp).trans h
/-- A row of expressions that the call owns. -/
theorem row_lies {w : World} {base n : Nat} {v : Value} {ks : List Nd} {B : Nat → Bool} (h : w.ownsRow base 33 4 v n (xrow ks)) (hk : ∀ x ∈ ks, Lies x (mask B w)) (hB : ∀ g, v.ownBlock = some g → B g = true) :
    ks.length = n ∧ ∃ ao cp, v = .slice ao n cp ∧ (ao = none → cp = 0) ∧ ExprsAt ao (ks.map (·.1)) (mask B w) := by
  have hl : ks.length = n := by have := h.1; rw [xrow_length] at this; omega
  refine ⟨hl, ?_⟩
  rcases h.2 with ⟨rfl, rfl⟩ | ⟨g, cap, cur, rfl, hb, hg, hnc, _, hcs, htake⟩
  · have : ks = [] := List.eq_nil_of_length_eq_zero hl
    subst this
    exact ⟨none, 0, rfl, fun _ => rfl, ExprsAt.nil _ _⟩
  · refine ⟨some ⟨g, 0, none⟩, cap, rfl, fun h => (by cases h), ExprsAt.mk fun i hi => ?_⟩
    rw [List.length_map] at hi
    have hBg : B g = true := hB g rfl
    have key : ∀ (j : Nat) (x : Value), (xrow ks)[j]? = some x → (mask B w).cell? ⟨g, 0 + j, none⟩ = some x := by
      intro j x hx
      rw [mask_cell, if_pos hBg, Nat.zero_add]
      exact own_cell h j x hx
    have hx := xrow_at ks i hi
    have hgd : (ks.map (·.1)).getD i E0 = ks[i].1 := by simp [List.getD, hi]
    rw [hgd]
    have hL := hk ks[i] (List.getElem_mem hi)
    have k0 := key _ _ (hx 0 (by omega))
    refine ⟨g, 0, ks[i].2.1, ks[i].2.2, rfl, World.block_lt_of_cell? _ _ k0, k0, key _ _ (hx 1 (by omega)), key _ _ (hx 2 (by omega)), key _ _ (hx 3 (by omega)), hL.1, hL.2⟩
/-- A fresh expression in its box. -/
def Zb (b : Nat) (W : World) : Prop := W.cell? ⟨b, 0, none⟩ = some (.int .i64 0) ∧ W.cell? ⟨b, 1, none⟩ = some (.int .i64 0) ∧ W.cell? ⟨b, 2, none⟩ = some (.string ⟨#[]⟩) ∧ W.cell? ⟨b, 3, none⟩ = some (.slice none 0 0) ∧ ∀ j, W.frozen? ⟨b, j, none⟩ = false
theorem Zb.of {b : Nat} {W W' : World} (h : Zb b W) (hb : W'.heap[b]? = W.heap[b]?) : Zb b W' := by
  obtain ⟨h0, h1, h2, h3, h4⟩ := h
  refine ⟨(World.cell?_of_block (a := ⟨b, 0, none⟩) hb).trans h0, (World.cell?_of_block (a := ⟨b, 1, none⟩) hb).trans h1, (World.cell?_of_block (a := ⟨b, 2, none⟩) hb).trans h2, (World.cell?_of_block (a := ⟨b, 3, none⟩) hb).trans h3, fun j => (World.frozen?_of_block (a := ⟨b, j, none⟩) hb).trans (h4 j)⟩
theorem Zb.keep {b : Nat} {W W' : World} (h : Zb b W) (hb : Below W.heap.size W W') : Zb b W' := h.of (hb.block b (World.block_lt_of_cell? _ _ h.1))
theorem st4 {W : World} {b : Nat} (z : Zb b W) (x0 x1 x2 x3 : Value) : ((((W.setCell ⟨b, 0, none⟩ x0).setCell ⟨b, 1, none⟩ x1).setCell ⟨b, 2, none⟩ x2).setCell ⟨b, 3, none⟩ x3).cell? ⟨b, 0, none⟩ = some x0 ∧
    ((((W.setCell ⟨b, 0, none⟩ x0).setCell ⟨b, 1, none⟩ x1).setCell ⟨b, 2, none⟩ x2).setCell ⟨b, 3, none⟩ x3).cell? ⟨b, 1, none⟩ = some x1 ∧
    ((((W.setCell ⟨b, 0, none⟩ x0).setCell ⟨b, 1, none⟩ x1).setCell ⟨b, 2, none⟩ x2).setCell ⟨b, 3, none⟩ x3).cell? ⟨b, 2, none⟩ = some x2 ∧
    ((((W.setCell ⟨b, 0, none⟩ x0).setCell ⟨b, 1, none⟩ x1).setCell ⟨b, 2, none⟩ x2).setCell ⟨b, 3, none⟩ x3).cell? ⟨b, 3, none⟩ = some x3 := by
  obtain ⟨z0, z1, z2, z3, _⟩ := z
  refine ⟨?_, ?_, ?_, ?_⟩ <;> simp [go_sem, z0, z1, z2, z3]
theorem st4_below {b n : Nat} {w W : World} (hb : Below n w W) (hn : n ≤ b) (x0 x1 x2 x3 : Value) : Below n w ((((W.setCell ⟨b, 0, none⟩ x0).setCell ⟨b, 1, none⟩ x1).setCell ⟨b, 2, none⟩ x2).setCell ⟨b, 3, none⟩ x3) :=
  (((hb.setCell (p := ⟨b, 0, none⟩) hn _).setCell (p := ⟨b, 1, none⟩) hn _).setCell (p := ⟨b, 2, none⟩) hn _).setCell (p := ⟨b, 3, none⟩) hn _
theorem st4_far {b : Nat} {W : World} {x0 x1 x2 x3 : Value} {p : Addr} (hp : p.block ≠ b) : ((((W.setCell ⟨b, 0, none⟩ x0).setCell ⟨b, 1, none⟩ x1).setCell ⟨b, 2, none⟩ x2).setCell ⟨b, 3, none⟩ x3).cell? p = W.cell? p := by
  have hp' : ∀ (V : World) (j : Nat) (x : Value), (V.setCell ⟨b, j, none⟩ x).cell? p = V.cell? p := fun V j x => World.cell?_setCell_other V _ _ _ (fun e => hp (by rw [← e]))
  rw [hp', hp', hp', hp']
/-- The result out of its box. -/
theorem res_ex {fn : Func} {p : Tmp} (h : fn.results = #[.cell p 33]) (tmps : Array Value) (w : World) (b : Nat) (hp : tmps.getD p undef = .pointer (some ⟨b, 0, none⟩)) (x0 x1 x2 x3 : Value)
    (hx : w.cell? ⟨b, 0, none⟩ = some x0 ∧ w.cell? ⟨b, 1, none⟩ = some x1 ∧ w.cell? ⟨b, 2, none⟩ = some x2 ∧ w.cell? ⟨b, 3, none⟩ = some x3) :
    (results fn tmps).run Tryd.prog w = .ok (.agg #[x0, x1, x2, x3]) w := by
  obtain ⟨h0, h1, h2, h3⟩ := hx
  rw [Array.getD_eq_getD_getElem?] at hp
  simp [results, h, hp, go_sem, h0, h1, h2, h3]
/-- The blocks in which the operands lie: those of before, and new ones but the row's own. -/
def PV (A : Nat → Bool) (B : Nat) (v : Value) (k : Nat) : Bool := A k || (decide (B + 3 ≤ k) && !decide (v.ownBlock = some k))
/-- What lies in the boxes. -/
def Out4 (B : Nat) (o en : Int) (X : ByteArray) (v : Value) (W : World) : Prop := W.cell? ⟨B, 0, none⟩ = some (.int .i64 o) ∧ W.cell? ⟨B, 1, none⟩ = some (.int .i64 en) ∧ W.cell? ⟨B, 2, none⟩ = some (.string X) ∧ W.cell? ⟨B, 3, none⟩ = some v ∧ ∀ j, W.frozen? ⟨B, j, none⟩ = false
theorem Out4.of {B : Nat} {o en : Int} {X : ByteArray} {v : Value} {W W' : World} (h : Out4 B o en X v W) (hb : W'.heap[B]? = W.heap[B]?) : Out4 B o en X v W' := by
  obtain ⟨h0, h1, h2, h3, h4⟩ := h
  exact ⟨(World.cell?_of_block (a := ⟨B, 0, none⟩) hb).trans h0, (World.cell?_of_block (a := ⟨B, 1, none⟩) hb).trans h1, (World.cell?_of_block (a := ⟨B, 2, none⟩) hb).trans h2, (World.cell?_of_block (a := ⟨B, 3, none⟩) hb).trans h3, fun j => (World.frozen?_of_block (a := ⟨B, j, none⟩) hb).trans (h4 j)⟩
/-- What holds behind k operands. -/
structure Fil (w : World) (A : Nat → Bool) (o en : Int) (X : ByteArray) (so : Option Addr) (n cap : Nat) (ks : List Nd) (v : Value) (W : World) : Prop where
  box : W.cell? ⟨w.heap.size, 3, none⟩ = some (.slice so n cap)
  res : Zb (w.heap.size + 1) W
  out : Out4 (w.heap.size + 2) o en X v W
  own : W.ownsRow (w.heap.size + 3) 33 4 v ks.length (xrow ks)
  lie : ∀ x ∈ ks, Lies x (mask (PV A w.heap.size v) W)
  size : w.heap.size + 3 ≤ W.heap.size
  below : Below w.heap.size w W
theorem Fil.start (w : World) (A : Nat → Bool) (o en : Int) (X : ByteArray) (so : Option Addr) (n cap : Nat) (t : TypeId) :
    Fil w A o en X so n cap [] (.slice none 0 0) (((w.alloc (.cells #[.int .i64 o, .int .i64 en, .string X, .slice so n cap] t)).alloc (.cells #[.int .i64 0, .int .i64 0, .string ⟨#[]⟩, .slice none 0 0] t)).alloc (.cells #[.int .i64 o, .int .i64 en, .string X, .slice none 0 0] t)) where
  box := by simp [go_sem]
  res := ⟨by simp [go_sem], by simp [go_sem], by simp [go_sem], by simp [go_sem], fun j => by simp [go_sem]⟩
  out := ⟨by simp [go_sem], by simp [go_sem], by simp [go_sem], by simp [go_sem], fun j => by simp [go_sem]⟩
  own := World.ownsRow_nil _ _ _ _
  lie := fun x hx => by cases hx
  size := by simp
  below := by repeat (first | exact bref _ | refine bdr ?_ | refine bal ?_ _)
/-- The next operand. -/
theorem Fil.next {w : World} {A : Nat → Bool} {o en : Int} {X : ByteArray} {so : Option Addr} {n cap : Nat} {ks : List Nd} {v : Value} {W w2 w5 : World} (h : Fil w A o en X so n cap ks v W) (hA : ∀ k, A k = true → k < w.heap.size)
    (x : Nd) (hb : Below W.heap.size W w2) (hx : Lies x (mask (fun k => A k || decide (W.heap.size ≤ k)) w2)) (c : Obj) (v5 : Value)
    (hO : w5.ownsRow (w.heap.size + 3) 33 4 v5 (ks.length + 1) (xrow ks ++ xcs x)) (hg : (w2.alloc c).grownBy w5 v.ownBlock) (hblk : v5.ownBlock = v.ownBlock ∨ v5.ownBlock = some (w2.alloc c).heap.size) :
    (w5.cell? ⟨w.heap.size + 2, 3, none⟩ = some v ∧ w5.frozen? ⟨w.heap.size + 2, 3, none⟩ = false) ∧ Fil w A o en X so n cap (ks ++ [x]) v5 (w5.setCell ⟨w.heap.size + 2, 3, none⟩ v5) := by
  have hsz := h.size
  have hs2 := hb.size
  have hs5 := hg.size
  have ha : (w2.alloc c).heap.size = w2.heap.size + 1 := by simp
  have hrow : ∀ g, v.ownBlock = some g → w.heap.size + 3 ≤ g ∧ g < W.heap.size := fun g e => h.own.lt g e
  have hrow5 : ∀ g, v5.ownBlock = some g → w.heap.size + 3 ≤ g ∧ g < w5.heap.size := fun g e => hO.lt g e
  -- a block of W but the row is as it was
  have blk : ∀ k, k < W.heap.size → v.ownBlock ≠ some k → w5.heap[k]? = W.heap[k]? := fun k hk hne => by
    rw [hg.block k (by omega) (fun e => hne e.symm), Below.heap_alloc w2 c k (by omega), hb.block k hk]
  have blk2 : ∀ k, k < w2.heap.size → v.ownBlock ≠ some k → w5.heap[k]? = w2.heap[k]? := fun k hk hne => by
    rw [hg.block k (by omega) (fun e => hne e.symm), Below.heap_alloc w2 c k (by omega)]
  have lo : ∀ k, k < w.heap.size + 3 → v.ownBlock ≠ some k := fun k hk e => by have := (hrow k e).1; omega
  have b0 := blk (w.heap.size) (by omega) (lo _ (by omega))
  have b1 := blk (w.heap.size + 1) (by omega) (lo _ (by omega))
  have b2 := blk (w.heap.size + 2) (by omega) (lo _ (by omega))
  have out5 := h.out.of b2
  have set : ∀ k, k ≠ w.heap.size + 2 → (w5.setCell ⟨w.heap.size + 2, 3, none⟩ v5).heap[k]? = w5.heap[k]? := fun k hk => Below.heap_setCell w5 ⟨w.heap.size + 2, 3, none⟩ v5 k hk
  have setc : ∀ p : Addr, p.block ≠ w.heap.size + 2 → (w5.setCell ⟨w.heap.size + 2, 3, none⟩ v5).cell? p = w5.cell? p := fun p hp => World.cell?_of_block (set p.block hp)
  refine ⟨⟨out5.2.2.2.1, out5.2.2.2.2 3⟩, ?_⟩
  refine { box := ?_, res := ?_, out := ?_, own := ?_, lie := ?_, size := ?_, below := ?_ }
  · rw [setc _ (by show w.heap.size ≠ _; omega)]
    exact (World.cell?_of_block (a := ⟨w.heap.size, 3, none⟩) b0).trans h.box
  · exact (h.res.of b1).of (set _ (by omega))
  · obtain ⟨q0, q1, q2, q3, q4⟩ := out5
    refine ⟨?_, ?_, ?_, ?_, fun j => by rw [World.frozen?_setCell]; exact q4 j⟩
    · rw [set_at q3]; simp [q0]
    · rw [set_at q3]; simp [q1]
    · rw [set_at q3]; simp [q2]
    · rw [set_at q3]; simp
  · have hx4 : xrow (ks ++ [x]) = xrow ks ++ xcs x := by
      rw [xrow_app]
      show xrow ks ++ (xcs x ++ []) = _
      rw [List.append_nil]
    rw [hx4, List.length_append]
    rcases own_lt hO with ⟨e1, e2⟩ | ⟨g, cg, e1, hgb, hgl⟩
    · simp at e2
    · have hO' := hO
      rw [e1] at hO'
      have h9 := own_same (w' := w5.setCell ⟨w.heap.size + 2, 3, none⟩ v5) hO' (set g (by omega))
      rw [← e1] at h9
      exact h9
  · intro y hy
    rcases List.mem_append.1 hy with hy | hy
    · refine (h.lie y hy).go fun p u hp hu => ?_
      have hlt := World.block_lt_of_cell? W p hu
      unfold PV at hp ⊢
      have hne : v.ownBlock ≠ some p.block := by
        rw [Bool.or_eq_true] at hp
        rcases hp with hp | hp
        · exact lo _ (by have := hA _ hp; omega)
        · simp only [Bool.and_eq_true, Bool.not_eq_true', decide_eq_false_iff_not] at hp
          exact hp.2
      have hn2 : p.block ≠ w.heap.size + 2 := by
        rw [Bool.or_eq_true] at hp
        rcases hp with hp | hp
        · have := hA _ hp; omega
        · simp only [Bool.and_eq_true, decide_eq_true_eq] at hp
          omega
      refine ⟨by rw [setc p hn2]; exact (World.cell?_of_block (blk p.block hlt hne)).trans hu, ?_⟩
      rw [Bool.or_eq_true] at hp ⊢
      rcases hp with hp | hp
      · exact Or.inl hp
      · refine Or.inr ?_
        simp only [Bool.and_eq_true, decide_eq_true_eq, Bool.not_eq_true', decide_eq_false_iff_not] at hp ⊢
        refine ⟨hp.1, fun e => ?_⟩
        rcases hblk with hbk | hbk
        · exact hp.2 (hbk ▸ e)
        · rw [hbk] at e
          injection e with e
          omega
    · simp only [List.mem_singleton] at hy
      subst hy
      refine hx.go fun p u hp hu => ?_
      have hlt := World.block_lt_of_cell? w2 p hu
      rw [Bool.or_eq_true, decide_eq_true_eq] at hp
      have hne : v.ownBlock ≠ some p.block := by
        rcases hp with hp | hp
        · exact lo _ (by have := hA _ hp; omega)
        · intro e; have := (hrow _ e).2; omega
      have hn2 : p.block ≠ w.heap.size + 2 := by
        rcases hp with hp | hp
        · have := hA _ hp; omega
        · omega
      refine ⟨by rw [setc p hn2]; exact (World.cell?_of_block (blk2 p.block hlt hne)).trans hu, ?_⟩
      unfold PV
      rw [Bool.or_eq_true]
      rcases hp with hp | hp
      · exact Or.inl hp
      · refine Or.inr ?_
        simp only [Bool.and_eq_true, decide_eq_true_eq, Bool.not_eq_true', decide_eq_false_iff_not]
        refine ⟨by omega, fun e => ?_⟩
        rcases hblk with hbk | hbk
        · exact hne (hbk ▸ e)
        · rw [hbk] at e
          injection e with e
          omega
  · have : (w5.setCell ⟨w.heap.size + 2, 3, none⟩ v5).heap.size = w5.heap.size := by simp [World.setCell]
    omega
  · have h1 : Below w.heap.size w (w2.alloc c) := bal (btr h.below hb) c
    have h2 : Below w.heap.size w w5 := h1.grown hg (by omega) (fun g e => by have := (hrow g e).1; omega)
    exact h2.setCell (p := ⟨w.heap.size + 2, 3, none⟩) (show w.heap.size ≤ w.heap.size + 2 by omega) _
/-- All operands are there. -/
theorem Fil.done {w : World} {A : Nat → Bool} {o en : Int} {X : ByteArray} {so : Option Addr} {n cap : Nat} {ks : List Nd} {v : Value} {W : World} (h : Fil w A o en X so n cap ks v W) (hA : ∀ k, A k = true → k < w.heap.size) (x0 x1 x2 x3 : Value) :
    ∃ ao cp, v = .slice ao ks.length cp ∧ (ao = none → cp = 0) ∧ ExprsAt ao (ks.map (·.1)) (mask (fun k => A k || decide (w.heap.size ≤ k)) ((((W.setCell ⟨w.heap.size + 1, 0, none⟩ x0).setCell ⟨w.heap.size + 1, 1, none⟩ x1).setCell ⟨w.heap.size + 1, 2, none⟩ x2).setCell ⟨w.heap.size + 1, 3, none⟩ x3)) := by
  have hw : ∀ x ∈ ks, Lies x (mask (fun k => A k || decide (w.heap.size + 3 ≤ k)) W) := fun x hx => (h.lie x hx).go fun p u hp hu => ⟨hu, by
    unfold PV at hp
    rw [Bool.or_eq_true] at hp ⊢
    rcases hp with hp | hp
    · exact Or.inl hp
    · simp only [Bool.and_eq_true] at hp
      exact Or.inr hp.1⟩
  obtain ⟨_, ao, cp, h1, h2, h3⟩ := row_lies h.own hw (fun g e => by
    have := (h.own.lt g e).1
    rw [decide_eq_true this, Bool.or_true])
  refine ⟨ao, cp, h1, h2, h3.go fun p u hp hu => ?_⟩
  rw [Bool.or_eq_true, decide_eq_true_eq] at hp
  have hne : p.block ≠ w.heap.size + 1 := by
    rcases hp with hp | hp
    · have := hA _ hp; omega
    · omega
  refine ⟨by rw [st4_far hne]; exact hu, ?_⟩
  rw [Bool.or_eq_true, decide_eq_true_eq]
  rcases hp with hp | hp
  · exact Or.inl hp
  · exact Or.inr (by omega)
/-! ### Variables replaced -/
theorem put_cons (v : Vr) (vs : List Vr) (n : Int) (s : List UInt8) (e : Ex) : YM.put (v :: vs) n s e = if v.1 = s then (if v.2 = 1 then .mk 1 n [] [] else if v.2 = 2 then .mk 2 n [] [] else if v.2 = 3 then .mk 3 n [] [] else e) else YM.put vs n s e := by
  unfold YM.put
  rw [List.find?_cons]
  by_cases h : v.1 = s
  · rw [if_pos h, decide_eq_true h]
  · rw [if_neg h, decide_eq_false h]
theorem put_hit : ∀ (vs : List Vr) (n : Int) (s : List UInt8) (e : Ex) (k : Nat), k < vs.length → (∀ j, j < k → (vs.getD j V0).1 ≠ s) → (vs.getD k V0).1 = s →
    YM.put vs n s e = if (vs.getD k V0).2 = 1 then .mk 1 n [] [] else if (vs.getD k V0).2 = 2 then .mk 2 n [] [] else if (vs.getD k V0).2 = 3 then .mk 3 n [] [] else e := by
  intro vs
  induction vs with
  | nil => intro n s e k hk; exact absurd hk (Nat.not_lt_zero _)
  | cons v vs ih =>
    intro n s e k hk h1 h2
    rw [put_cons]
    cases k with
    | zero => rw [if_pos (show v.1 = s from h2)]; rfl
    | succ k =>
      have h0 : v.1 ≠ s := h1 0 (by omega)
      rw [if_neg h0, ih n s e k (Nat.lt_of_succ_lt_succ hk) (fun j hj => h1 (j + 1) (by omega)) h2]
      rfl
theorem put_miss : ∀ (vs : List Vr) (n : Int) (s : List UInt8) (e : Ex), (∀ j, j < vs.length → (vs.getD j V0).1 ≠ s) → YM.put vs n s e = e := by
  intro vs
  induction vs with
  | nil => intro n s e _; rfl
  | cons v vs ih =>
    intro n s e h1
    have h0 : v.1 ≠ s := h1 0 (by simp)
    rw [put_cons, if_neg h0, ih n s e (fun j hj => h1 (j + 1) (by simp; omega))]
end Go.Proofs.YtcnnkobiijhegaaDoor
