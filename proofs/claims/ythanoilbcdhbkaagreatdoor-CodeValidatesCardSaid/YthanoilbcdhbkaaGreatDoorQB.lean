/-
  Merged: A loop over an iterator that keeps a list of its own; the iterator over all nodes of an expression. The iterator over all nodes of an expression: its list of nodes to come; all nodes, each once, in some order. The iterator over all nodes of an expression: its walk. Nodes: a loop over all nodes that counts.
-/
import Derived.Test.YthanoilbcdhbkaaGreatDoorQEA
import Derived.RangeFuncFrom
import Derived.RangeFuncCalls
import Derived.RangeFuncLeaves
import Derived.RangeFuncBound
import Derived.Shelf.Abstract
import Derived.OwnWalkIn
import Derived.TacticsInMore
import Derived.LoopNIn
import Derived.LoopIn
import Derived.Maps.AppendAt
namespace Go.Proofs.YthanoilbcdhbkaaGreatDoor
open Go Go.RowKit Go.Lib Go.Shelf WM TM EM

def Keep (n0 r : Nat) (W W' : World) : Prop := Below n0 W W' ∧ W'.heap[r]? = W.heap[r]?
theorem Keep.trans {n0 r : Nat} {A B C : World} (h : Keep n0 r A B) (k : Keep n0 r B C) : Keep n0 r A C := ⟨h.1.trans k.1, k.2.trans h.2⟩
theorem Keep.refl (n0 r : Nat) (A : World) : Keep n0 r A A := ⟨Below.refl _ _, rfl⟩
def Turn (r : Nat) (W W' : World) : Prop := W'.os = W.os ∧ W'.tape = W.tape ∧ W'.output = W.output ∧ W.heap.size ≤ W'.heap.size ∧ ∀ k, k < W.heap.size → k ≠ r → W'.heap[k]? = W.heap[k]?
def Abides {α : Type} (J : List α → Nat → World → Prop) : Prop := ∀ pre r W W' r', J pre r W → Turn r W W' → (r' = r ∨ W.heap.size ≤ r') → r' < W'.heap.size → J pre r' W'
def Seq {α : Type} (P : Program) (gf : Nat) (lb : Array Value) (encs : α → Array Value) (Lie : α → World → Prop) (n0 N : Nat) (S Sp : List α → Prop) (w : World) : Prop :=
 ∀ (l : Nat) (J : List α → Nat → World → Prop) (Jx : List α → World → Prop) (W : World), Below w.heap.size w W → Abides J →
  (∀ pre r x W1, J pre r W1 → Lie x W1 → r < W1.heap.size → n0 ≤ r → pre.length < N → YieldAt Fence.wide 0 P l (encs x) W1 fun e W' =>
   (e = .returned (.bool true) ∧ J (pre ++ [x]) r W' ∧ Keep n0 r W1 W') ∨ (e = .returned (.bool false) ∧ Jx (pre ++ [x]) W')) →
  (∀ r W', W.heap.size ≤ r → r < W'.heap.size → Below W.heap.size W W' → J [] r W') →
  CallsIn Fence.wide 0 P gf (#[.func (.yield l) #[] #[]] ++ lb) W fun e W' => (∃ v, e = .returned v) ∧ ((∃ xs r, S xs ∧ J xs r W') ∨ (∃ pre, Sp pre ∧ Jx pre W'))
def rPost {α : Type} (n0 r : Nat) (I : List α → Nat → World → Prop) (Ix : List α → World → Prop) (xs : List α) (W : World) : Exit → Act → World → Prop
 | .normal, _, W' => KeepsOthers W W' ∧ Keep n0 r W W' ∧ I xs r W'
 | .ret, _, W' => KeepsOthers W W' ∧ Ix xs W'
 | _, _, _ => False
def Books {α : Type} (B : Nat) (I : List α → Nat → World → Prop) : Prop := ∀ s r W l o o', I s r W → B ≤ l → W.heap[l]? = some o → o.isCells = false → r ≠ l → I s r (W.putObj l o')

theorem keep_put {n0 r l : Nat} {W : World} (o' : Obj) (hn : n0 ≤ l) (hr : r ≠ l) (hl : l < W.heap.size) : Keep n0 r W (W.putObj l o') :=
 ⟨(Below.refl n0 W).grown (grownBy_putObj' W l o') (by omega) (fun k e => by cases e; omega), World.putObj_heap_other (fun e => hr e)⟩

set_option maxRecDepth 100000 in
theorem wp_range {α : Type} {P : Program} {g : Operand} {ps : Array Tmp} {assign body : Code} {Q : Exit → Act → World → Prop} {a : Act} {w : World} {gf : Nat} {lb : Array Value} (hg : a.eval g = .func (.func gf) #[] lb)
  (eg : ∀ args w, (callFunc gf args).run P w = .ok (.enter gf args) w) {encs : α → Array Value} {Lie : α → World → Prop} {n0 N : Nat} {S Sp : List α → Prop} (hseq : Seq P gf lb encs Lie n0 N S Sp w) (hn0 : n0 ≤ w.heap.size) (hps : ∀ x, (encs x).size = ps.size)
  (I : List α → Nat → World → Prop) (Ix : List α → World → Prop) (A : List α → Nat → α → Act → World → Prop) (hI : Abides I) (hIb : Books w.heap.size I) (hIxb : Books w.heap.size (fun s (_ : Nat) W => Ix s W))
  (hAb : ∀ s r x a1 W l o o', A s r x a1 W → w.heap.size ≤ l → W.heap[l]? = some o → o.isCells = false → r ≠ l → A s r x a1 (W.putObj l o'))
  (h0 : ∀ r W', w.heap.size ≤ r → r < W'.heap.size → Below w.heap.size w W' → I [] r W')
  (hassign : ∀ (l r : Nat) (pre : List α) (x : α) (W : World), I pre r W → Lie x W → r < W.heap.size → pre.length < N →
   assign.wpIn (Fence.wide.inRound l) 0 P (Exit.then (fun a1 W1 => KeepsOthers W W1 ∧ Keep n0 r W W1 ∧ A pre r x a1 W1) (fun _ _ _ => False)) { tmps := (ps.zip (encs x)).foldl (fun t (p, v) => t.setIfInBounds p v) a.tmps, defers := [] } W)
  (hbody : ∀ (l r : Nat) (pre : List α) (x : α) (a1 : Act) (W : World), A pre r x a1 W → r < W.heap.size → body.wpIn (Fence.wide.inRound l) 0 P (rPost n0 r I Ix (pre ++ [x]) W) a1 W)
  (hdone : ∀ (D r : Nat) (xs : List α) (W : World), w.heap.size ≤ D → S xs → I xs r W → r ≠ D → W.heap[D]? = some (.deferred (some [])) → Q .normal { a with defers := { target := .collected D, args := #[] } :: a.defers } W)
  (hstop : ∀ (D : Nat) (pre : List α) (W : World), w.heap.size ≤ D → Sp pre → Ix pre W → W.heap[D]? = some (.deferred (some [])) → Code.ret.wpIn Fence.wide 0 P Q { a with defers := { target := .collected D, args := #[] } :: a.defers } W) :
  (Code.rangeFunc g ps assign body).wpIn Fence.wide 0 P Q a w := by
 refine wpIn_rangeFunc ?_
 intro fn hfn
 show ∃ (l : Nat) (mark : List Deferred) (w₁ : World) (d : Deferred) (w₁' : World) (f : FuncId) (args : Array Value) (w₂ : World), (Instr.enterLoop fn a.tmps ps assign body none).run P w = .ok (l, mark) w₁ ∧ _
 obtain ⟨rec, hrec⟩ : ∃ rec : LoopState → Option Code → Loop, rec = fun st pe => { state := st, pending := pe, fn, tmps := a.tmps, params := ps, assign, body, defers := w.heap.size } := ⟨_, rfl⟩
 obtain ⟨d, hd⟩ : ∃ d, w.heap.size = d := ⟨_, rfl⟩
 obtain ⟨W1, hW1⟩ : ∃ W1, (w.alloc (.deferred (some []))).alloc (.loop (rec .ready none)) = W1 := ⟨_, rfl⟩
 have hs1 : W1.heap.size = d + 2 := by rw [← hW1, ← hd]; simp
 have hL1 : W1.heap[d + 1]? = some (.loop (rec .ready none)) := by
  rw [← hW1, ← hd]
  have := World.alloc_heap_new (w.alloc (.deferred (some []))) (.loop (rec .ready none))
  rwa [World.size_alloc] at this
 have hD1 : W1.heap[d]? = some (.deferred (some [])) := by
  rw [← hW1, ← hd]; exact (Below.heap_alloc _ _ _ (by simp)).trans (World.alloc_heap_new w _)
 have hb1 : Below w.heap.size w W1 := by rw [← hW1]; exact bal (bal (bref w) _) _
 refine ⟨d + 1, [{ target := .collected d, args := #[] }], W1, { target := .fn (.func gf) lb, args := #[.func (.yield (d + 1)) #[] #[]] }, W1, gf, #[.func (.yield (d + 1)) #[] #[]] ++ lb, W1, ?_, ?_, fun _ _ => trivial, ?_, fun h => by simp [Fence.wide] at h, ?_⟩
 ·rw [← hW1, hrec, ← hd]; exact run_enterLoop_outer _ _ _ _ _
 ·simp only [resolve, hg]
  simp [go_sem]
 ·simp [invoke, go_sem, eg]
 refine (hseq (d + 1) (fun pre r W => I pre r W ∧ d + 2 ≤ r ∧ W.heap[d + 1]? = some (.loop (rec .ready none)) ∧ W.heap[d]? = some (.deferred (some [])))
  (fun pre W => Ix pre W ∧ W.heap[d + 1]? = some (.loop (rec .done (some .ret))) ∧ W.heap[d]? = some (.deferred (some []))) W1 hb1 ?_ ?_ ?_).mono ?_
 ·rintro pre r W W' r' ⟨h1, h2, h3, h4⟩ ht hr hr'
  have l3 := (Array.getElem?_eq_some_iff.1 h3).1
  exact ⟨hI pre r W W' r' h1 ht hr hr', by omega, (ht.2.2.2.2 _ l3 (by omega)).trans h3, (ht.2.2.2.2 _ (by omega) (by omega)).trans h4⟩
 ·-- one round
  rintro pre r x W ⟨h1, h2, h3, h4⟩ hx hr hnr hN
  have l3 := (Array.getElem?_eq_some_iff.1 h3).1
  have hy := run_yield (P := P) (args := encs x) h3 (by rw [hrec]; exact hps x)
  rw [hrec] at hy
  refine ⟨fn, _, assign, body, hy, roundIn_of_wpIn hfn (wpIn_mono (hassign (d + 1) r pre x W h1 hx hr hN) ?_)⟩
  rintro e a1 W2 hp
  cases e with
  | normal =>
   obtain ⟨k1, k2, k3⟩ := hp
   have h3' := k1.same _ _ h3 rfl
   have h4' := k1.same _ _ h4 rfl
   have l3' := (Array.getElem?_eq_some_iff.1 h3').1
   have hbr := run_beginRound (P := P) h3' (by rw [hrec])
   refine ⟨_, hbr, ?_⟩
   have hK2 : Keep n0 r W2 (W2.putObj (d + 1) (.loop { rec .ready none with state := .busy })) := keep_put _ (by omega) (by omega) l3'
   have A2 := hAb pre r x a1 W2 (d + 1) _ (.loop { rec .ready none with state := .busy }) k3 (by omega) h3' rfl (by omega)
   obtain ⟨W3, hW3⟩ : ∃ W3, W2.putObj (d + 1) (.loop { rec .ready none with state := .busy }) = W3 := ⟨_, rfl⟩
   have l5 : W3.heap[d + 1]? = some (.loop { rec .ready none with state := .busy }) := by rw [← hW3]; exact World.putObj_heap_same l3'
   have l6 : W3.heap[d]? = some (.deferred (some [])) := by rw [← hW3]; exact (World.putObj_heap_other (by omega)).trans h4'
   rw [hW3] at hK2 A2 ⊢
   have hr3 : r < W3.heap.size := by
    have e2 := k2.2; have e3 := hK2.2
    have : W3.heap[r]? = W.heap[r]? := e3.trans e2
    rw [Array.getElem?_eq_getElem hr] at this
    exact (Array.getElem?_eq_some_iff.1 this).1
   refine wpIn_mono (hbody (d + 1) r pre x a1 W3 A2 hr3) ?_
   rintro e a3 W4 hp
   cases e with
   | normal =>
    obtain ⟨q1, q2, q3⟩ := hp
    have m1 := q1.same _ _ l5 rfl
    have m2 := q1.same _ _ l6 rfl
    have lt := (Array.getElem?_eq_some_iff.1 m1).1
    have he := run_endRound (P := P) none m1
    rw [hrec] at he
    rw [hrec] at m1
    refine ⟨_, _, he, .inl ⟨rfl, ⟨hIb _ r W4 (d + 1) _ _ q3 (by omega) m1 rfl (by omega), h2, ?_, (World.putObj_heap_other (by omega)).trans m2⟩, (k2.trans hK2).trans (q2.trans (keep_put _ (by omega) (by omega) lt))⟩⟩
    rw [hrec]; exact World.putObj_heap_same lt
   | ret =>
    obtain ⟨q1, q3⟩ := hp
    have m1 := q1.same _ _ l5 rfl
    have m2 := q1.same _ _ l6 rfl
    have lt := (Array.getElem?_eq_some_iff.1 m1).1
    have he := run_endRound (P := P) (some .ret) m1
    rw [hrec] at he
    rw [hrec] at m1
    refine ⟨_, _, he, .inr ⟨rfl, hIxb _ 0 W4 (d + 1) _ _ q3 (by omega) m1 rfl (by omega), ?_, (World.putObj_heap_other (by omega)).trans m2⟩⟩
    rw [hrec]; exact World.putObj_heap_same lt
   | exit id => exact hp.elim
   | goto t => exact hp.elim
   | panic ch => exact hp.elim
   | outgrown => exact hp.elim
  | ret => exact hp.elim
  | exit id => exact hp.elim
  | goto t => exact hp.elim
  | panic ch => exact hp.elim
  | outgrown => exact hp.elim
 ·intro r W' hr hr' hb
  refine ⟨h0 r W' (by omega) hr' (hb1.trans (hb.mono (by omega))), by omega, (hb.block _ (by omega)).trans hL1, (hb.block _ (by omega)).trans hD1⟩
 ·rintro e W2 ⟨⟨v, rfl⟩, (⟨xs, r, hS, hi, hr2, hl, hk⟩ | ⟨pre, hSp, hi, hl, hk⟩)⟩
  ·refine ⟨none, _, by have := run_endLoop (P := P) hl (by rw [hrec]; simp); rw [hrec] at this; exact this, hdone d r xs _ (by omega) hS (hIb _ r W2 (d + 1) _ _ hi (by omega) hl rfl (by omega)) (by omega) ((World.putObj_heap_other (by omega)).trans hk)⟩
  ·refine ⟨some .ret, _, by have := run_endLoop (P := P) hl (by rw [hrec]; simp); rw [hrec] at this; exact this, hstop d pre _ (by omega) hSp (hIxb _ 0 W2 (d + 1) _ _ hi (by omega) hl rfl (by omega)) ((World.putObj_heap_other (by omega)).trans hk)⟩
end Go.Proofs.YthanoilbcdhbkaaGreatDoor

namespace Go.Proofs.YthanoilbcdhbkaaGreatDoor
open Go Go.RowKit Go.Lib Go.Shelf WM TM EM

attribute [local go_sem] Oper.semAt_some
abbrev Nd := Ex × Option Addr × Nat
def xv (x : Nd) : Value := .agg #[.int .i64 x.1.op, .int .i64 x.1.n, .string (str x.1.s), .slice x.2.1 x.1.args.length x.2.2]
def xcs (x : Nd) : List Value := [.int .i64 x.1.op, .int .i64 x.1.n, .string (str x.1.s), .slice x.2.1 x.1.args.length x.2.2]
def Lies (x : Nd) (w : World) : Prop := ExprsAt x.2.1 x.1.args w ∧ (x.2.1 = none → x.2.2 = 0)
theorem Lies.keep {x : Nd} {w w' : World} (h : Lies x w) (hb : Below w.heap.size w w') : Lies x w' := ⟨h.1.keep hb, h.2⟩
def xrow : List Nd → List Value
 | [] => []
 | x :: l => xcs x ++ xrow l
theorem xrow_length (l : List Nd) : (xrow l).length = l.length * 4 := by
 induction l with
 | nil => rfl
 | cons x l ih => show (xcs x ++ xrow l).length = _; rw [List.length_append, ih, List.length_cons]; show 4 + _ = _; omega
theorem xrow_app (l m : List Nd) : xrow (l ++ m) = xrow l ++ xrow m := by
 induction l with
 | nil => rfl
 | cons x l ih => show xcs x ++ xrow (l ++ m) = (xcs x ++ xrow l) ++ xrow m; rw [ih, List.append_assoc]
theorem xrow_one (l : List Nd) : ∀ u ∈ xrow l, u.oneCell' = true := by
 induction l with
 | nil => intro u hu; cases hu
 | cons x l ih =>
  intro u hu
  rcases List.mem_append.1 (show u ∈ xcs x ++ xrow l from hu) with h | h
  ·simp only [xcs, List.mem_cons, List.not_mem_nil, or_false] at h
   rcases h with rfl | rfl | rfl | rfl <;> rfl
  ·exact ih u h
theorem kids {w : World} {ao : Option Addr} : ∀ (l : List Ex), ExprsAt ao l w → ∃ ks : List Nd, ks.map (·.1) = l ∧ (∀ x ∈ ks, Lies x w) ∧ ∀ ad, ao = some ad → ∀ j u, (xrow ks)[j]? = some u → w.cell? (ad.add j) = some u := by
 have key : ∀ (l : List Ex) (i : Nat), InL w l ao i → ∃ ks : List Nd, ks.map (·.1) = l ∧ (∀ x ∈ ks, Lies x w) ∧ ∀ b off, ao = some ⟨b, off, none⟩ → ∀ j u, (xrow ks)[j]? = some u → w.cell? ⟨b, off + i * 4 + j, none⟩ = some u := by
  intro l
  induction l with
  | nil => intro i _; exact ⟨[], rfl, fun _ h => (by cases h), fun _ _ _ j u h => by simp [xrow] at h⟩
  | cons e l ih =>
   intro i h
   obtain ⟨⟨b, off, so, cap, h1, h2, h3, h4, h5, h6, h7, h8⟩, hl⟩ := h
   obtain ⟨ks, k1, k2, k3⟩ := ih (i + 1) hl
   refine ⟨(e, so, cap) :: ks, by simp [k1], ?_, ?_⟩
   ·intro x hx
    rcases List.mem_cons.1 hx with rfl | hx
    ·exact ⟨by rw [in1_eq] at h7; exact h7, h8⟩
    ·exact k2 x hx
   ·intro b' off' e1 j u hu
    rw [h1] at e1
    cases e1
    by_cases hj : j < 4
    ·have : (xcs (e, so, cap))[j]? = some u := by
      have hu' : (xcs (e, so, cap) ++ xrow ks)[j]? = some u := hu
      rwa [List.getElem?_append_left (by show j < 4; exact hj)] at hu'
     match j, hj, this with
     | 0, _, this => simp [xcs] at this; subst this; exact h3
     | 1, _, this => simp [xcs] at this; subst this; exact h4
     | 2, _, this => simp [xcs] at this; subst this; exact h5
     | 3, _, this => simp [xcs] at this; subst this; exact h6
    ·have hu' : (xcs (e, so, cap) ++ xrow ks)[j]? = some u := hu
     rw [List.getElem?_append_right (by show 4 ≤ j; omega)] at hu'
     have := k3 _ _ h1 _ _ hu'
     have e4 : (xcs (e, so, cap)).length = 4 := rfl
     rw [e4, show off + (i + 1) * 4 + (j - 4) = off + i * 4 + j by omega] at this
     exact this
 intro l h
 obtain ⟨ks, k1, k2, k3⟩ := key l 0 h
 refine ⟨ks, k1, k2, fun ad had j u hu => ?_⟩
 have hj := (List.getElem?_eq_some_iff.1 hu).1
 rw [xrow_length] at hj
 have hlen : 0 < l.length := by
  have : ks.length = l.length := by rw [← k1, List.length_map]
  omega
 obtain ⟨b, off, _, _, e1, _⟩ := h.at 0 hlen
 have had2 := had
 rw [e1] at had2
 cases had2
 have := k3 _ _ e1 _ _ hu
 rw [Addr.add_lit]
 simpa using this
theorem take_own {w : World} {base : Nat} {e : TypeId} {size g n cap k : Nat} {xs : List Value} (h : w.ownsRow base e size (.slice (some ⟨g, 0, none⟩) n cap) n xs) (hk : k ≤ n) : w.ownsRow base e size (.slice (some ⟨g, 0, none⟩) k cap) k (xs.take (k * size)) := by
 obtain ⟨h1, h2⟩ := h
 rcases h2 with ⟨h2, _⟩ | ⟨g', cap', cur, hv, hb, hg, h3, h4, h5, h6⟩
 ·cases h2
 ·cases hv
  have hks : k * size ≤ n * size := Nat.mul_le_mul_right _ hk
  refine ⟨by rw [List.length_take, h1]; omega, Or.inr ⟨g, cap, cur, rfl, hb, hg, by omega, h4, h5, ?_⟩⟩
  rw [← h6, List.take_take]
  congr 1
  omega
theorem own_cell {w : World} {base : Nat} {e : TypeId} {size g n cap : Nat} {xs : List Value} (h : w.ownsRow base e size (.slice (some ⟨g, 0, none⟩) n cap) n xs) (j : Nat) (u : Value) (hu : xs[j]? = some u) : w.cell? ⟨g, j, none⟩ = some u := by
 obtain ⟨h1, h2⟩ := h
 rcases h2 with ⟨h2, _⟩ | ⟨g', cap', cur, hv, hb, hg, h3, h4, h5, h6⟩
 ·cases h2
 ·cases hv
  have hj := (List.getElem?_eq_some_iff.1 hu).1
  rw [cell_of_row _ _ j cur _ (0, 0) hg, ← Array.getElem?_toList, ← hu, ← h6, List.getElem?_take, if_pos (by omega)]
theorem infoEx : (Tryz.prog.info? 24).map (fun i => (i.zero, i.size, i.bytes)) = some (some (.agg #[.int .i64 0, .int .i64 0, .string ⟨#[]⟩, .slice none 0 0]), 4, 56) := by kernel_rfl

set_option maxRecDepth 100000 in
theorem mall (e : Ex) (so : Option Addr) (cap : Nat) (w : World) :
  Calls Tryz.prog 75 #[.agg #[.int .i64 e.op, .int .i64 e.n, .string (str e.s), .slice so e.args.length cap]] w fun r w' =>
   r = .returned (.func (.func 96) #[] #[.pointer (some ⟨w.heap.size, 0, none⟩)]) ∧ w' = w.alloc (.cells (xcs (e, so, cap)).toArray 24) := by
 go_enter Tryz.func75, Tryz.ntmps75
 go_wp2_with fail
 go_ret
 exact ⟨rfl, rfl⟩
end Go.Proofs.YthanoilbcdhbkaaGreatDoor

namespace Go.Proofs.YthanoilbcdhbkaaGreatDoor
open Go Go.RowKit Go.Lib Go.Shelf WM TM EM

theorem append_any {P : Program} {w : World} (base : Nat) (t ty e : TypeId) (i : TypeInfo) (z : Value) (size bytes : Nat) (ht : P.underlying t = some (.slice e)) (hi : P.info? e = some i) (hz : i.zero = some z)
  (hsize : i.size = size) (hby : i.bytes = bytes) (hzs : z.cells.size = size) (hsz : 0 < size)
  (v : Value) (n : Nat) (xs : List Value) (hown : w.ownsRow base e size v n xs)
  (ao : Option Addr) (m c : Nat) (news : List Value) (hl : news.length = m * size) (hnone : ao = none → m = 0 ∧ c = 0) (hnews : ∀ ad, ao = some ad → ∀ j u, news[j]? = some u → w.cell? (ad.add j) = some u) (h1 : ∀ u ∈ news, u.oneCell' = true)
  (h63 : n + m ≤ maxLen) (hbytes : (n + m) * bytes ≤ 140737488355328) (hbase : base ≤ w.heap.size) :
  ∃ v' w', (Builtin.append_ #[t, t] ty #[v, .slice ao m c]).run P w = .ok v' w' ∧ w'.ownsRow base e size v' (n + m) (xs ++ news) ∧ w.grownBy w' v.ownBlock ∧ (v'.ownBlock = v.ownBlock ∨ v'.ownBlock = some w.heap.size) := by
 cases ao with
 | some ad =>
  obtain ⟨v', w', hr, h2, h3, _, h5⟩ := run_append_own_at (P := P) w base t ty e i z size bytes ht hi hz hsize hby hzs hsz v n xs hown ad m c news hl (hnews ad rfl) h1 h63 hbytes hbase
  exact ⟨v', w', hr, h2, h3, h5⟩
 | none =>
  obtain ⟨rfl, rfl⟩ := hnone rfl
  have hn : news = [] := List.eq_nil_of_length_eq_zero (by simpa using hl)
  subst hn
  refine ⟨v, w, run_append_owned_none (P := P) (w := w) base t ty e i size ht hi v n xs hown, by simpa using hown, World.grownBy.refl _ _, Or.inl rfl⟩
theorem perm_step (pre : List Ex) (ini : List Ex) (x : Ex) (a E : List Ex) (h : (pre ++ pres (ini ++ [x])).Perm E) (hx : EM.pre x = x :: pres a) : ((pre ++ [x]) ++ pres (ini ++ a)).Perm E := by
 refine List.Perm.trans ?_ h
 rw [pres_app, pres_app]
 simp only [pres, List.append_nil, hx, List.append_assoc]
 refine List.Perm.append_left _ ?_
 have : (x :: (pres ini ++ pres a)).Perm (pres ini ++ x :: pres a) := (List.perm_middle (l₁ := pres ini) (l₂ := pres a) (a := x)).symm
 simpa using this
theorem turn_of {r : Nat} {W W' : World} {row : Option Nat} (h : W.grownBy W' row) (hr : ∀ k, row = some k → k = r) : Turn r W W' :=
 ⟨h.os, h.tape, h.output, h.size, fun k hk hne => h.block k hk (fun e => hne (hr k e.symm))⟩
theorem Turn.trans {r : Nat} {A B C : World} (h : Turn r A B) (k : Turn r B C) : Turn r A C :=
 ⟨k.1.trans h.1, k.2.1.trans h.2.1, k.2.2.1.trans h.2.2.1, Nat.le_trans h.2.2.2.1 k.2.2.2.1, fun b hb hne => (k.2.2.2.2 b (Nat.lt_of_lt_of_le hb h.2.2.2.1) hne).trans (h.2.2.2.2 b hb hne)⟩
theorem turn_below {r : Nat} {A B : World} (h : Below A.heap.size A B) : Turn r A B := ⟨h.os, h.tape, h.output, h.size, fun k hk _ => h.block k hk⟩
theorem own_lt {w : World} {base : Nat} {e : TypeId} {size n : Nat} {v : Value} {xs : List Value} (h : w.ownsRow base e size v n xs) : (v = .slice none 0 0 ∧ n = 0) ∨ ∃ g cap, v = .slice (some ⟨g, 0, none⟩) n cap ∧ base ≤ g ∧ g < w.heap.size := by
 rcases h.2 with ⟨h1, h2⟩ | ⟨g, cap, cur, hv, hb, hg, _⟩
 ·exact Or.inl ⟨h1, h2⟩
 ·exact Or.inr ⟨g, cap, hv, hb, (Array.getElem?_eq_some_iff.1 hg).1⟩
theorem own_same {w w' : World} {base : Nat} {e : TypeId} {size g n cap : Nat} {xs : List Value} (h : w.ownsRow base e size (.slice (some ⟨g, 0, none⟩) n cap) n xs) (hb : w'.heap[g]? = w.heap[g]?) : w'.ownsRow base e size (.slice (some ⟨g, 0, none⟩) n cap) n xs := by
 refine ⟨h.1, ?_⟩
 rcases h.2 with ⟨h1, _⟩ | ⟨g', cap', cur, hv, hbg, hg, rest⟩
 ·cases h1
 ·cases hv
  exact Or.inr ⟨g, cap, cur, rfl, hbg, hb.trans hg, rest⟩

attribute [local go_sem] Oper.semAt_some
set_option maxRecDepth 100000 in
set_option maxHeartbeats 4000000 in
theorem mall1 (e : Ex) (so : Option Addr) (cap : Nat) (hsz : siz e ≤ 100000) (w0 w : World) (hb0 : Below w0.heap.size w0 w) (bx : Nat)
  (hcell : ∀ j u, (xcs (e, so, cap))[j]? = some u → w.cell? ⟨bx, j, none⟩ = some u) (hL : Lies (e, so, cap) w0) :
  Seq Tryz.prog 96 #[.pointer (some ⟨bx, 0, none⟩)] (fun x : Nd => #[xv x]) Lies w0.heap.size (siz e) (fun xs => (xs.map (·.1)).Perm (EM.pre e)) (fun xs => ∃ ys, (xs.map (·.1) ++ ys).Perm (EM.pre e)) w := by
 intro l J Jx W hW hJ hY h0
 obtain ⟨i0, hi, hz0, hz1, hz2⟩ := info_parts infoEx
 have c0 := keepc hW (hcell 0 _ rfl)
 have c1 := keepc hW (hcell 1 _ rfl)
 have c2 := keepc hW (hcell 2 _ rfl)
 have c3 := keepc hW (hcell 3 _ rfl)
 have hbW : Below w0.heap.size w0 W := hb0.trans (hW.mono hb0.size)
 have HBW := Lib.hid hbW
 have HLe := Lib.hid hL
 have HJ := Lib.hid hJ
 have HY := Lib.hid hY
 have H0 := Lib.hid h0
 have HSZ := Lib.hid hsz
 clear hcell hW hb0 hbW hL hJ hY h0 hsz
 refine callsIn_wide.2 ?_
 go_enter Tryz.func96, Tryz.ntmps96
 go_wp2_with fail
 clear c0 c1 c2 c3
 go_loopg [3] (siz e) (fun gk v wr => ∃ (pre stk : List Nd) (g : Nat), wr.ownsRow W.heap.size 24 4 v stk.length (xrow stk) ∧ (v.ownBlock = none ∨ v.ownBlock = some g) ∧ W.heap.size ≤ g ∧ g < wr.heap.size ∧ (∀ x ∈ stk, Lies x w0) ∧
   (pre.map (·.1) ++ pres (stk.map (·.1))).Perm (EM.pre e) ∧ gk = sizs (stk.map (·.1)) ∧ J pre g wr ∧ Below w0.heap.size w0 wr)
 case atStart =>
  obtain ⟨W1, hW1⟩ : ∃ W1, (W.alloc (.cells #[.int .i64 e.op, .int .i64 e.n, .string (str e.s), .slice so e.args.length cap] 24)) = W1 := ⟨_, rfl⟩
  have hb1 : Below W.heap.size W W1 := by rw [← hW1]; exact bal (bref _) _
  have hs1 : W1.heap.size = W.heap.size + 1 := by rw [← hW1]; simp
  refine ⟨[], [(e, so, cap)], W.heap.size, ?_, Or.inr rfl, Nat.le_refl _, ?_, ?_, ?_, ?_, ?_, ?_⟩
  ·exact World.ownsRow_lit W #[.int .i64 e.op, .int .i64 e.n, .string (str e.s), .slice so e.args.length cap] 1 (Nat.le_refl _) (by unfold maxLen; omega) rfl
  ·rw [hW1]; omega
  ·intro x hx; simp only [List.mem_singleton] at hx; subst hx; exact HLe.out
  ·simp [pres]
  ·simp [sizs_cons, sizs_nil]
  ·rw [hW1]; exact H0.out _ _ (Nat.le_refl _) (by omega) hb1
  ·rw [hW1]; exact HBW.out.trans (hb1.mono HBW.out.size)
 case round =>
  obtain ⟨pre, stk, g, hO, hvg, hg0, hg1, hLs, hP, rfl, hJs, hB⟩ := hrel
  rcases List.eq_nil_or_concat stk with rfl | ⟨ini, x, hst⟩
  ·have hP' : (pre.map (·.1)).Perm (EM.pre e) := by simpa [pres] using hP
   have HP := Lib.hid hP'
   have HJs := Lib.hid hJs
   rcases own_lt hO with ⟨rfl, _⟩ | ⟨g', cap', rfl, _, _⟩
   ·clear hP hP' hJs hO
    go_wp2_with fail
    go_end0
    exact ⟨⟨_, rfl⟩, Or.inl ⟨pre, HP.out, g, HJs.out⟩⟩
   ·clear hP hP' hJs hO
    go_wp2_with fail
    go_end0
    exact ⟨⟨_, rfl⟩, Or.inl ⟨pre, HP.out, g, HJs.out⟩⟩
  ·rw [List.concat_eq_append] at hst
   subst hst
   have hlen : (ini ++ [x]).length = ini.length + 1 := by simp
   have hLx : Lies x w0 := hLs x (by simp)
   have hcx : ∀ j u, (xcs x)[j]? = some u → ∀ g2 cap2, u3 = .slice (some ⟨g2, 0, none⟩) (ini ++ [x]).length cap2 → wr.cell? ⟨g2, ini.length * 4 + j, none⟩ = some u := by
    intro j u hu g' cap' hv
    rw [hv] at hO
    refine own_cell hO _ u ?_
    rw [xrow_app, List.getElem?_append_right (by rw [xrow_length]; omega), xrow_length, show ini.length * 4 + j - ini.length * 4 = j by omega]
    show (xcs x ++ [])[j]? = some u
    rw [List.append_nil]; exact hu
   rcases own_lt hO with ⟨_, h0⟩ | ⟨g', cap', hv, _, _⟩
   ·omega
   have hgg : g' = g := by
    rcases hvg with h | h
    ·rw [hv] at h; cases h
    ·rw [hv] at h; injection h
   subst hgg
   subst hv
   have c0 := hcx 0 _ rfl _ _ rfl
   have c1 := hcx 1 _ rfl _ _ rfl
   have c2 := hcx 2 _ rfl _ _ rfl
   have c3 := hcx 3 _ rfl _ _ rfl
   have HO := Lib.hid hO
   have HLs := Lib.hid hLs
   have HP := Lib.hid hP
   have HJs := Lib.hid hJs
   have HB := Lib.hid hB
   have HLx := Lib.hid hLx
   have hle : ini.length + 1 ≤ 100000 := by
    have h1 := hP.length_eq
    have h2 := sizs_len ((ini ++ [x]).map (·.1))
    have h3 := HSZ.out
    rw [List.length_map, hlen] at h2
    rw [List.length_append, List.length_map] at h1
    unfold siz at h3
    unfold sizs at h2
    omega
   obtain ⟨k, hk⟩ : ∃ k, ini.length = k := ⟨_, rfl⟩
   rw [hlen, hk]
   rw [hk] at c0 c1 c2 c3 hle
   rw [Nat.add_zero] at c0
   have HK := Lib.hid hk
   have hcap : k + 1 ≤ cap' := by
    rcases hO.2 with ⟨h, _⟩ | ⟨_, _, _, hh, _, _, h3, _⟩
    ·cases h
    ·cases hh; rw [hlen, hk] at h3; exact h3
   obtain ⟨xe, xo, xc⟩ := x
   obtain ⟨m, hm⟩ : ∃ m, xe.args.length = m := ⟨_, rfl⟩
   obtain ⟨XS, hXS⟩ : ∃ X, str xe.s = X := ⟨_, rfl⟩
   simp only [hm, hXS] at c0 c1 c2 c3
   have HM := Lib.hid hm
   have HXS := Lib.hid hXS
   clear hcx hO hLs hP hJs hB hLx hk hlen hvg hm hXS
   go_wp2_with fail
   obtain ⟨W2, hW2⟩ : ∃ W2, wr.alloc (.cells #[.int .i64 xe.op, .int .i64 xe.n, .string XS, .slice xo m xc] 24) = W2 := ⟨_, rfl⟩
   have hb2 : Below wr.heap.size wr W2 := by rw [← hW2]; exact bal (bref _) _
   have hs2 : W2.heap.size = wr.heap.size + 1 := by rw [← hW2]; simp
   have d0 : W2.cell? ⟨wr.heap.size, 0, none⟩ = some (.int .i64 xe.op) := by rw [← hW2]; simp [go_sem]
   have d1 : W2.cell? ⟨wr.heap.size, 1, none⟩ = some (.int .i64 xe.n) := by rw [← hW2]; simp [go_sem]
   have d2 : W2.cell? ⟨wr.heap.size, 2, none⟩ = some (.string XS) := by rw [← hW2]; simp [go_sem]
   have d3 : W2.cell? ⟨wr.heap.size, 3, none⟩ = some (.slice xo m xc) := by rw [← hW2]; simp [go_sem]
   have hkc : k ≤ cap' := by omega
   rw [hW2]
   clear hW2 c0 c1 c2 c3
   have hKk := HK.out
   have B2 : Below wr.heap.size wr W2.drew := bdr hb2
   have B2d : Below w0.heap.size w0 W2.drew := HB.out.trans (B2.mono HB.out.size)
   have hsd : W2.drew.heap.size = wr.heap.size + 1 := hs2
   have hwW : w0.heap.size ≤ W.heap.size := HBW.out.size
   obtain ⟨ks, kk1, kk2, kk3⟩ := kids xe.args HLx.out.1
   have hkl : ks.length = m := by rw [← HM.out, ← kk1, List.length_map]
   have hnone : xo = none → m = 0 ∧ xc = 0 := by
    intro hn
    refine ⟨?_, HLx.out.2 hn⟩
    rcases Nat.eq_zero_or_pos m with h | h
    ·exact h
    ·obtain ⟨b, off, _, _, e1, _⟩ := HLx.out.1.at 0 (by rw [HM.out]; exact h)
     simp only at e1
     rw [hn] at e1
     cases e1
   have hO2 : W2.drew.ownsRow W.heap.size 24 4 (.slice (some ⟨g', 0, none⟩) k cap') k (xrow ini) := by
    have h1 := own_same (w' := W2.drew) HO.out (B2.block g' hg1)
    have h2 := take_own h1 (k := k) (by simp; omega)
    rw [xrow_app, List.take_left' (by rw [xrow_length, hKk])] at h2
    exact h2
   have hpl : pre.length < siz e := by
    have h1 := HP.out.length_eq
    have h2 := sizs_len ((ini ++ [(xe, xo, xc)]).map (·.1))
    rw [List.length_map] at h2
    rw [List.length_append, List.length_map] at h1
    unfold siz
    unfold sizs at h2
    simp only [List.length_append, List.length_singleton] at h2
    omega
   have hml : m ≤ 100000 := by
    have h1 := HP.out.length_eq
    have h2 := sizs_len ((xe.args))
    have h3 := HSZ.out
    have h4 : siz xe ≤ sizs ((ini ++ [(xe, xo, xc)]).map (·.1)) := siz_mem (by simp)
    rw [siz_eq] at h4
    rw [HM.out] at h2
    rw [List.length_append, List.length_map] at h1
    unfold siz at h3
    unfold sizs at h2 h4
    omega
   obtain ⟨v1, w3, hr, hO3, hg3, hblk⟩ := append_any (P := Tryz.prog) (w := W2.drew) W.heap.size 22 22 24 i0 _ 4 56 Tryz.underlying22 hi hz0 hz1 hz2 rfl (by decide) (.slice (some ⟨g', 0, none⟩) k cap') k (xrow ini) hO2 xo m xc (xrow ks) (by rw [xrow_length, hkl]) hnone
    (fun ad had j u hu => keepc B2d (kk3 ad had j u hu)) (xrow_one ks) (by unfold maxLen; omega) (by omega) (by omega)
   have hT : Turn g' wr w3 := Turn.trans (turn_below B2) (turn_of hg3 (fun q e => by cases e; rfl))
   obtain ⟨g3, hv3, hg3a, hg3b⟩ : ∃ g3, (v1.ownBlock = some g3) ∧ (g3 = g' ∨ wr.heap.size ≤ g3) ∧ g3 < w3.heap.size := by
    rcases own_lt hO3 with ⟨e1, _⟩ | ⟨q, cq, e1, _, hq⟩
    ·rw [e1] at hblk
     rcases hblk with h | h <;> cases h
    ·refine ⟨q, by rw [e1]; rfl, ?_, hq⟩
     rw [e1] at hblk
     rcases hblk with h | h
     ·injection h with h; exact Or.inl h
     ·injection h with h
      exact Or.inr (by have h' : q = W2.drew.heap.size := h; omega)
   have hJ3 := HJ.out pre g' wr w3 g3 HJs.out hT hg3a hg3b
   have B3 : Below w0.heap.size w0 w3 := B2d.grown hg3 (by omega) (fun q e => by cases e; exact Nat.le_trans hwW hg0)
   have hbk : w3.heap[wr.heap.size]? = W2.drew.heap[wr.heap.size]? := hg3.block _ (by omega) (fun e => by injection e with e; exact absurd (show wr.heap.size = g' from e) (by omega))
   have f0 : w3.cell? ⟨wr.heap.size, 0, none⟩ = some (.int .i64 xe.op) := (World.cell?_of_block (a := ⟨wr.heap.size, 0, none⟩) hbk).trans d0
   have f1 : w3.cell? ⟨wr.heap.size, 1, none⟩ = some (.int .i64 xe.n) := (World.cell?_of_block (a := ⟨wr.heap.size, 1, none⟩) hbk).trans d1
   have f2 : w3.cell? ⟨wr.heap.size, 2, none⟩ = some (.string XS) := (World.cell?_of_block (a := ⟨wr.heap.size, 2, none⟩) hbk).trans d2
   have f3 : w3.cell? ⟨wr.heap.size, 3, none⟩ = some (.slice xo m xc) := (World.cell?_of_block (a := ⟨wr.heap.size, 3, none⟩) hbk).trans d3
   have hY3 := HY.out pre g3 (xe, xo, xc) w3 hJ3 (by have := HLx.out; exact ⟨this.1.keep B3, this.2⟩) hg3b (by omega) hpl
   simp only [xv, HM.out, HXS.out] at hY3
   have HO3 := Lib.hid hO3
   have HB3 := Lib.hid B3
   have HY3 := Lib.hid hY3
   have HV3 := Lib.hid hv3
   have HKS := Lib.hid kk2
   have HKM := Lib.hid kk1
   have HGA := Lib.hid hg3a
   have HGB := Lib.hid hg3b
   have HG3 := Lib.hid hg3
   have HKL := Lib.hid hkl
   clear hpl hKk B2d hwW kk1 kk2 kk3 hkl hnone hO2 hml hT hJ3 B3 hbk hY3 hO3 hblk hv3 hg3a hg3b B2
   refine wp_region_held_drew (S := (fun W => W.cell? ⟨wr.heap.size, 3, none⟩ = some (.slice xo m xc))) (by kernel_rfl) d3 (fun hH0 => ?_)
   refine wpAnyH_take (i := 0) (oi := _) (v := ?_) rfl (by kernel_rfl) (by kernel_rfl) (by kernel_rfl) (fun _ _ _ h => h) (Or.inl ⟨?_, ?_⟩) hH0 ?_
   rotate_left
   ·kernel_rfl
   ·(intro W' hSw; have f9 := hSw; go_simp; (try rw [if_pos hkc]); (try with_reducible rfl))
   (try simp only [List.getElem_toArray])
   (try simp only [List.getElem_cons_succ])
   (try simp only [List.getElem_cons_zero])
   (try simp only [Act.put])
   (try simp only [List.setIfInBounds_toArray])
   (try simp only [List.set_cons_succ])
   (try simp only [List.set_cons_zero])
   refine wpAnyH_take (i := 1) (oi := _) (v := ?_) rfl (by kernel_rfl) (by kernel_rfl) (by kernel_rfl) (fun _ _ _ h => h) (Or.inl ⟨?_, ?_⟩) hH0 ?_
   rotate_left
   ·kernel_rfl
   ·(intro W' hSw; have f9 := hSw; go_simp; (try rw [if_pos hkc]); (try with_reducible rfl))
   (try simp only [List.getElem_toArray])
   (try simp only [List.getElem_cons_succ])
   (try simp only [List.getElem_cons_zero])
   (try simp only [Act.put])
   (try simp only [List.setIfInBounds_toArray])
   (try simp only [List.set_cons_succ])
   (try simp only [List.set_cons_zero])
   refine wpAnyH_take (i := 2) (oi := _) (v := ?_) rfl (by kernel_rfl) (by kernel_rfl) (by kernel_rfl) (fun _ _ _ h => h) (Or.inl ⟨?_, ?_⟩) hH0 ?_
   rotate_left
   ·kernel_rfl
   ·(intro W' hSw; have f9 := hSw; go_simp; (try rw [if_pos hkc]); (try with_reducible rfl))
   (try simp only [List.getElem_toArray])
   (try simp only [List.getElem_cons_succ])
   (try simp only [List.getElem_cons_zero])
   (try simp only [Act.put])
   (try simp only [List.setIfInBounds_toArray])
   (try simp only [List.set_cons_succ])
   (try simp only [List.set_cons_zero])
   refine wpAnyH_take (i := 3) (oi := _) (v := ?_) rfl (by kernel_rfl) (by kernel_rfl) (by kernel_rfl) (fun _ _ _ h => h) (Or.inl ⟨?_, ?_⟩) hH0 ?_
   rotate_left
   ·kernel_rfl
   ·(intro W' hSw; have f9 := hSw; go_simp; (try rw [if_pos hkc]); (try with_reducible rfl))
   (try simp only [List.getElem_toArray])
   (try simp only [List.getElem_cons_succ])
   (try simp only [List.getElem_cons_zero])
   (try simp only [Act.put])
   (try simp only [List.setIfInBounds_toArray])
   (try simp only [List.set_cons_succ])
   (try simp only [List.set_cons_zero])
   refine wpAnyH_take (i := 4) (oi := _) (v := ?_) rfl (by kernel_rfl) (by kernel_rfl) (by kernel_rfl) (fun _ _ _ h => h) (Or.inl ⟨?_, ?_⟩) hH0 ?_
   rotate_left
   ·kernel_rfl
   ·(intro W' hSw; have f9 := hSw; go_simp; (try rw [if_pos hkc]); (try with_reducible rfl))
   (try simp only [List.getElem_toArray])
   (try simp only [List.getElem_cons_succ])
   (try simp only [List.getElem_cons_zero])
   (try simp only [Act.put])
   (try simp only [List.setIfInBounds_toArray])
   (try simp only [List.set_cons_succ])
   (try simp only [List.set_cons_zero])
   refine wpAnyH_ready (rs := [5]) (by kernel_rfl) (by simp) ?_
   refine AllReadyH.cons (o := _) rfl (fun K hK => ?_) AllReadyH.nil
   rw [if_pos (by kernel_rfl)]
   unfold Oper.wp execOp
   simp only [List.getElem_toArray, List.getElem_cons_succ, List.getElem_cons_zero, resolve, invoke, builtin, Sem.run_bind, Sem.run_pure, Result.andThen_ok, List.map_toArray, List.map_cons, List.map_nil, Act.eval]
   erw [hr]
   refine hK.out _ _ f3 (fun hH1 => ?_)
   clear hK K
   (try skip)
   (try skip)
   (try skip)
   (try simp only [Act.put])
   (try simp only [List.setIfInBounds_toArray])
   (try simp only [List.set_cons_succ])
   (try simp only [List.set_cons_zero])
   refine wpAnyH_take (i := 6) (oi := _) (v := ?_) rfl (by kernel_rfl) (by kernel_rfl) (by kernel_rfl) (fun _ _ _ h => h) (Or.inl ⟨?_, ?_⟩) hH1 ?_
   rotate_left
   ·kernel_rfl
   ·(intro W' hSw; have f9 := hSw; go_simp; (try with_reducible rfl))
   (try simp only [List.getElem_toArray])
   (try simp only [List.getElem_cons_succ])
   (try simp only [List.getElem_cons_zero])
   (try simp only [Act.put])
   (try simp only [List.setIfInBounds_toArray])
   (try simp only [List.set_cons_succ])
   (try simp only [List.set_cons_zero])
   refine wpAnyH_done (by kernel_rfl) ?_ _
   rename_i Kz hKz
   refine hKz _ _ ?_
   refine (wpIn_wide (n := 0)).1 ?_
   obtain ⟨fn, tmps, assign, body, hy, hR⟩ := HY3.out
   gi_wp2
   refine ⟨rfl, hR.mono ?_⟩
   rintro r w4 (⟨rfl, hJ4, hk4⟩ | ⟨rfl, hJx4⟩)
   ·have HJ4 := Lib.hid hJ4
    have HK4 := Lib.hid hk4
    clear hJ4 hk4 hy hR
    gi_wp2
    go_roundg (sizs ((ini ++ ks).map (·.1)))
    case rel =>
     have hmk : (ini ++ ks).length = k + m := by rw [List.length_append, HK.out, HKL.out]
     refine ⟨pre ++ [(xe, xo, xc)], ini ++ ks, g3, ?_, Or.inr HV3.out, ?_, ?_, ?_, ?_, rfl, HJ4.out, HB3.out.trans HK4.out.1⟩
     ·rw [hmk, xrow_app]
      have hO3 := HO3.out
      rcases own_lt hO3 with ⟨e1, _⟩ | ⟨q, cq, e1, _, hq⟩
      ·have := HV3.out; rw [e1] at this; cases this
      ·have hv3 := HV3.out
       rw [e1] at hv3 hO3 ⊢
       injection hv3 with hv3
       have hv3' : q = g3 := hv3
       exact own_same hO3 (by rw [hv3']; exact HK4.out.2)
     ·rcases HGA.out with h | h
      ·omega
      ·omega
     ·have h1 := HK4.out.2
      have h2 := HGB.out
      rw [Array.getElem?_eq_getElem h2] at h1
      exact (Array.getElem?_eq_some_iff.1 h1).1
     ·intro y hy
      rcases List.mem_append.1 hy with hy | hy
      ·exact HLs.out y (by simp [hy])
      ·exact HKS.out y hy
     ·have hp := HP.out
      rw [List.map_append, List.map_append, HKM.out]
      rw [List.map_append] at hp
      exact perm_step _ _ _ _ _ hp (by cases xe; rfl)
    case measure =>
     rw [List.map_append, List.map_append, sizs_app, sizs_app, HKM.out]
     simp only [List.map_cons, List.map_nil, sizs_cons, sizs_nil]
     rw [siz_eq xe]
     omega
   ·have HJx := Lib.hid hJx4
    clear hJx4 hy hR
    gi_wp2
    refine bodyPost_ret (results_none rfl _ _ _) rfl ?_
    have hp := HP.out
    rw [List.map_append] at hp
    have := perm_step _ _ _ xe.args _ hp (by cases xe; rfl)
    refine ⟨⟨_, rfl⟩, Or.inr ⟨pre ++ [(xe, xo, xc)], ⟨pres (ini.map (·.1) ++ xe.args), ?_⟩, HJx.out⟩⟩
    rw [List.map_append]
    exact this
end Go.Proofs.YthanoilbcdhbkaaGreatDoor

namespace Go.Proofs.YthanoilbcdhbkaaGreatDoor
open Go Go.RowKit Go.Lib Go.Shelf WM TM EM

attribute [local go_sem] Oper.semAt_some
theorem Turn.cell {r : Nat} {W W' : World} (h : Turn r W W') {p : Addr} {x : Value} (hne : p.block ≠ r) (hc : W.cell? p = some x) : W'.cell? p = some x :=
 (World.cell?_of_block (h.2.2.2.2 p.block (World.block_lt_of_cell? W _ hc) hne)).trans hc
theorem Turn.frozen {r : Nat} {W W' : World} (h : Turn r W W') {p : Addr} {x : Value} (hne : p.block ≠ r) (hc : W.cell? p = some x) : W'.frozen? p = W.frozen? p :=
 World.frozen?_of_block (h.2.2.2.2 p.block (World.block_lt_of_cell? W _ hc) hne)
theorem Turn.below {r n : Nat} {w W W' : World} (h : Turn r W W') (hb : Below n w W) (hn : n ≤ w.heap.size) (hr : n ≤ r) : Below n w W' :=
 ⟨h.1.trans hb.os, h.2.1.trans hb.tape, h.2.2.1.trans hb.output, Nat.le_trans hb.size h.2.2.2.1, fun k hk => (h.2.2.2.2 k (by have := hb.size; omega) (by omega)).trans (hb.block k hk)⟩
theorem put_cell {W : World} {l : Nat} {o' : Obj} {p : Addr} {x : Value} (hne : p.block ≠ l) (hc : W.cell? p = some x) : (W.putObj l o').cell? p = some x :=
 (World.cell?_of_block (World.putObj_heap_other hne)).trans hc
theorem put_frozen {W : World} {l : Nat} {o' : Obj} {p : Addr} (hne : p.block ≠ l) : (W.putObj l o').frozen? p = W.frozen? p :=
 World.frozen?_of_block (World.putObj_heap_other hne)
theorem put_below {n l : Nat} {w W : World} {o' : Obj} (hb : Below n w W) (hn : n ≤ w.heap.size) (hl : n ≤ l) : Below n w (W.putObj l o') :=
 hb.grown (grownBy_putObj' W l o') (Nat.le_trans hn hb.size) (fun k e => by cases e; omega)
def B1 (b : Nat) (v : Value) (W : World) : Prop := W.cell? ⟨b, 0, none⟩ = some v ∧ W.frozen? ⟨b, 0, none⟩ = false
theorem B1.turn {r b : Nat} {v : Value} {W W' : World} (h : B1 b v W) (ht : Turn r W W') (hne : b ≠ r) : B1 b v W' :=
 ⟨ht.cell (p := ⟨b, 0, none⟩) hne h.1, (ht.frozen (p := ⟨b, 0, none⟩) hne h.1).trans h.2⟩
theorem B1.put {l b : Nat} {v : Value} {W : World} {o' : Obj} (h : B1 b v W) (hne : b ≠ l) : B1 b v (W.putObj l o') :=
 ⟨put_cell (p := ⟨b, 0, none⟩) hne h.1, (put_frozen (p := ⟨b, 0, none⟩) hne).trans h.2⟩
theorem B1.keep {b : Nat} {v : Value} {W W' : World} (h : B1 b v W) (hb : Below W.heap.size W W') : B1 b v W' := ⟨keepc hb h.1, keepf hb h.1 h.2⟩
end Go.Proofs.YthanoilbcdhbkaaGreatDoor
