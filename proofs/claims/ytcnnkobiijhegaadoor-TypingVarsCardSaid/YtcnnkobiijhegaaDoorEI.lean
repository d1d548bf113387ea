/-
  A loop over an iterator that keeps a list of its own; the iterator over all nodes of an expression.
-/
import Derived.Test.YtcnnkobiijhegaaDoorEA
import Derived.RangeFuncFrom
import Derived.RangeFuncCalls
import Derived.RangeFuncLeaves
import Derived.RangeFuncBound
import Derived.Shelf.Abstract
import Derived.OwnWalkIn
import Derived.TacticsInMore
import Derived.LoopNIn
import Derived.LoopIn
namespace Go.Proofs.YtcnnkobiijhegaaDoor
open Go Go.RowKit Go.Lib Go.Shelf WM TM EM

/-- What a round keeps for the iterator: what lay below n0, and the block of its own list. -/
def Keep (n0 r : Nat) (W W' : World) : Prop := Below n0 W W' ∧ W'.heap[r]? = W.heap[r]?
theorem Keep.trans {n0 r : Nat} {A B C : World} (h : Keep n0 r A B) (k : Keep n0 r B C) : Keep n0 r A C := ⟨h.1.trans k.1, k.2.trans h.2⟩
theorem Keep.refl (n0 r : Nat) (A : World) : Keep n0 r A A := ⟨Below.refl _ _, rfl⟩
/-- A step of the iterator's own: new blocks, and a turn of its own list. -/
def Turn (r : Nat) (W W' : World) : Prop := W'.os = W.os ∧ W'.tape = W.tape ∧ W'.output = W.output ∧ W.heap.size ≤ W'.heap.size ∧ ∀ k, k < W.heap.size → k ≠ r → W'.heap[k]? = W.heap[k]?
def Abides {α : Type} (J : List α → Nat → World → Prop) : Prop := ∀ pre r W W' r', J pre r W → Turn r W W' → (r' = r ∨ W.heap.size ≤ r') → r' < W'.heap.size → J pre r' W'
/-- The iterator's contract: it hands on elements that lie, till all have come or a round says no. -/
def Seq {α : Type} (P : Program) (gf : Nat) (lb : Array Value) (encs : α → Array Value) (Lie : α → World → Prop) (n0 N : Nat) (S Sp : List α → Prop) (w : World) : Prop :=
  ∀ (l : Nat) (J : List α → Nat → World → Prop) (Jx : List α → World → Prop) (W : World), Below w.heap.size w W → Abides J →
    (∀ pre r x W1, J pre r W1 → Lie x W1 → r < W1.heap.size → n0 ≤ r → pre.length < N → YieldAt Fence.wide 0 P l (encs x) W1 fun e W' =>
      (e = .returned (.bool true) ∧ J (pre ++ [x]) r W' ∧ Keep n0 r W1 W') ∨ (e = .returned (.bool false) ∧ Jx (pre ++ [x]) W')) →
    (∀ r W', W.heap.size ≤ r → r < W'.heap.size → Below W.heap.size W W' → J [] r W') →
    CallsIn Fence.wide 0 P gf (#[.func (.yield l) #[] #[]] ++ lb) W fun e W' => (∃ v, e = .returned v) ∧ ((∃ xs r, S xs ∧ J xs r W') ∨ (∃ pre, Sp pre ∧ Jx pre W'))
/-- How a round may end. -/
def rPost {α : Type} (n0 r : Nat) (I : List α → Nat → World → Prop) (Ix : List α → World → Prop) (xs : List α) (W : World) : Exit → Act → World → Prop
  | .normal, _, W' => KeepsOthers W W' ∧ Keep n0 r W W' ∧ I xs r W'
  | .ret, _, W' => KeepsOthers W W' ∧ Ix xs W'
  | _, _, _ => False
/-- The turn of a block that is no cells, laid since. -/
def Books {α : Type} (B : Nat) (I : List α → Nat → World → Prop) : Prop := ∀ s r W l o o', I s r W → B ≤ l → W.heap[l]? = some o → o.isCells = false → r ≠ l → I s r (W.putObj l o')

theorem keep_put {n0 r l : Nat} {W : World} (o' : Obj) (hn : n0 ≤ l) (hr : r ≠ l) (hl : l < W.heap.size) : Keep n0 r W (W.putObj l o') :=
  ⟨(Below.refl n0 W).grown (grownBy_putObj' W l o') (by omega) (fun k e => by cases e; omega), World.putObj_heap_other (fun e => hr e)⟩

set_option maxRecDepth 100000 in
theorem wp_range {α : Type} {P : Program} {g : Operand} {ps : Array Tmp} {assign body : Code} {Q : Exit → Act → World → Prop} {a : Act} {w : World} {gf : Nat} {lb : Array Value} (hg : a.eval g = .func (.func gf) #[] lb)
    (eg : ∀ args w, (callFunc gf args).run P w = .ok (.enter gf args) w) {encs : α → Array Value} {Lie : α → World → Prop} {n0 N : Nat} {S Sp : List α → Prop} (hseq : Seq P gf lb encs Lie n0 N S Sp w) (hn0 : n0 ≤ w.heap.size) (hps : ∀ x, (encs x).size = ps.size)
    (I : List α → Nat → World → Prop) (Ix : List α → World → Prop) (A : List α → Nat → α → Act → World → Prop) (hI : Abides I) (hIb : Books w.heap.size I) (hIxb : Books w.heap.size (fun s (_ : Nat) W => Ix s W))
    (hAb : ∀ s r x a1 W l o o', A s r x a1 W → w.heap.size ≤ l → W.heap[l]? = some o → o.isCells = false → r ≠ l → A s r x a1 (W.putObj l o'))
    (h0 : ∀ r W', w.heap.size ≤ r → r < W'.heap.size → Below w.heap.size w W' → I [] r W')
    (hassign : ∀ (l r : Nat) (pre : List α) (x : α) (W : World), I pre r W → Lie x W → r < W.heap.size → pre.length < N →
      assign.wpIn (Fence.wide.inRound l) 0 P (Exit.then (fun a1 W1 => KeepsOthers W W1 ∧ Keep n0 r W W1 ∧ A pre r x a1 W1) (fun _ _ _ => False)) { tmps := (ps.zip (encs x)).foldl (fun t (p, v) => t.setIfInBounds p v) a.tmps, defers := [] } W)
    (hbody : ∀ (l r : Nat) (pre : List α) (x : α) (a1 : Act) (W : World), A pre r x a1 W → r < W.heap.size → body.wpIn (Fence.wide.inRound l) 0 P (rPost n0 r I Ix (pre ++ [x]) W) a1 W)
    (hdone : ∀ (D r : Nat) (xs : List α) (W : World), w.heap.size ≤ D → S xs → I xs r W → r ≠ D → W.heap[D]? = some (.deferred (some [])) → Q .normal { a with defers := { target := .collected D, args := #[] } :: a.defers } W)
    (hstop : ∀ (D : Nat) (pre : List α) (W : World), w.heap.size ≤ D → Sp pre → Ix pre W → W.heap[D]? = some (.deferred (some [])) → Code.ret.wpIn Fence.wide 0 P Q { a with defers := { target := .collected D, args := #[] } :: a.defers } W) :
    (Code.rangeFunc g ps assign body).wpIn Fence.wide 0 P Q a w := by
  refine wpIn_rangeFunc ?_
  intro fn hfn
  show ∃ (l : Nat) (mark : List Deferred) (w₁ : World) (d : Deferred) (w₁' : World) (f : FuncId) (args : Array Value) (w₂ : World), (Instr.enterLoop fn a.tmps ps assign body none).run P w = .ok (l, mark) w₁ ∧ _
  obtain ⟨rec, hrec⟩ : ∃ rec : LoopState → Option Code → Loop, rec = fun st pe => { state := st, pending := pe, fn, tmps := a.tmps, params := ps, assign, body, defers := w.heap.size } := ⟨_, rfl⟩
  obtain ⟨d, hd⟩ : ∃ d, w.heap.size = d := ⟨_, rfl⟩
  obtain ⟨W1, hW1⟩ : ∃ W1, (w.alloc (.deferred (some []))).alloc (.loop (rec .ready none)) = W1 := ⟨_, rfl⟩
  have hs1 : W1.heap.size = d + 2 := by rw [← hW1, ← hd]; simp
  have hL1 : W1.heap[d + 1]? = some (.loop (rec .ready none)) := by
    rw [← hW1, ← hd]
    have := World.alloc_heap_new (w.alloc (.deferred (some []))) (.loop (rec .ready none))
    rwa [World.size_alloc] at this
  have hD1 : W1.heap[d]? = some (.deferred (some [])) := by
    rw [← hW1, ← hd]; exact (Below.heap_alloc _ _ _ (by simp)).trans (World.alloc_heap_new w _)
  have hb1 : Below w.heap.size w W1 := by rw [← hW1]; exact bal (bal (bref w) _) _
  refine ⟨d + 1, [{ target := .collected d, args := #[] }], W1, { target := .fn (.func gf) lb, args := #[.func (.yield (d + 1)) #[] #[]] }, W1, gf, #[.func (.yield (d + 1)) #[] #[]] ++ lb, W1, ?_, ?_, fun _ _ => trivial, ?_, fun h => by simp [Fence.wide] at h, ?_⟩
  · rw [← hW1, hrec, ← hd]; exact run_enterLoop_outer _ _ _ _ _
  · simp only [resolve, hg]
    simp [go_sem]
  · simp [invoke, go_sem, eg]
  refine (hseq (d + 1) (fun pre r W => I pre r W ∧ d + 2 ≤ r ∧ W.heap[d + 1]? = some (.loop (rec .ready none)) ∧ W.heap[d]? = some (.deferred (some [])))
    (fun pre W => Ix pre W ∧ W.heap[d + 1]? = some (.loop (rec .done (some .ret))) ∧ W.heap[d]? = some (.deferred (some []))) W1 hb1 ?_ ?_ ?_).mono ?_
  · rintro pre r W W' r' ⟨h1, h2, h3, h4⟩ ht hr hr'
    have l3 := (Array.getElem?_eq_some_iff.1 h3).1
    exact ⟨hI pre r W W' r' h1 ht hr hr', by omega, (ht.2.2.2.2 _ l3 (by omega)).trans h3, (ht.2.2.2.2 _ (by omega) (by omega)).trans h4⟩
  · -- one round
    rintro pre r x W ⟨h1, h2, h3, h4⟩ hx hr hnr hN
    have l3 := (Array.getElem?_eq_some_iff.1 h3).1
    have hy := run_yield (P := P) (args := encs x) h3 (by rw [hrec]; exact hps x)
    rw [hrec] at hy
    refine ⟨fn, _, assign, body, hy, roundIn_of_wpIn hfn (wpIn_mono (hassign (d + 1) r pre x W h1 hx hr hN) ?_)⟩
    rintro e a1 W2 hp
    cases e with
    | normal =>
      obtain ⟨k1, k2, k3⟩ := hp
      have h3' := k1.same _ _ h3 rfl
      have h4' := k1.same _ _ h4 rfl
      have l3' := (Array.getElem?_eq_some_iff.1 h3').1
      have hbr := run_beginRound (P := P) h3' (by rw [hrec])
      refine ⟨_, hbr, ?_⟩
      have hK2 : Keep n0 r W2 (W2.putObj (d + 1) (.loop { rec .ready none with state := .busy })) := keep_put _ (by omega) (by omega) l3'
      have A2 := hAb pre r x a1 W2 (d + 1) _ (.loop { rec .ready none with state := .busy }) k3 (by omega) h3' rfl (by omega)
      obtain ⟨W3, hW3⟩ : ∃ W3, W2.putObj (d + 1) (.loop { rec .ready none with state := .busy }) = W3 := ⟨_, rfl⟩
      have l5 : W3.heap[d + 1]? = some (.loop { rec .ready none with state := .busy }) := by rw [← hW3]; exact World.putObj_heap_same l3'
      have l6 : W3.heap[d]? = some (.deferred (some [])) := by rw [← hW3]; exact (World.putObj_heap_other (by omega)).trans h4'
      rw [hW3] at hK2 A2 ⊢
      have hr3 : r < W3.heap.size := by
        have e2 := k2.2; have e3 := hK2.2
        have : W3.heap[r]? = W.heap[r]? := e3.trans e2
        rw [Array.getElem?_eq_getElem hr] at this
        exact (Array.getElem?_eq_some_iff.1 this).1
      refine wpIn_mono (hbody (d + 1) r pre x a1 W3 A2 hr3) ?_
      rintro e a3 W4 hp
      cases e with
      | normal =>
        obtain ⟨q1, q2, q3⟩ := hp
        have m1 := q1.same _ _ l5 rfl
        have m2 := q1.same _ _ l6 rfl
        have lt := (Array.getElem?_eq_some_iff.1 m1).1
        have he := run_endRound (P := P) none m1
        rw [hrec] at he
        rw [hrec] at m1
        refine ⟨_, _, he, .inl ⟨rfl, ⟨hIb _ r W4 (d + 1) _ _ q3 (by omega) m1 rfl (by omega), h2, ?_, (World.putObj_heap_other (by omega)).trans m2⟩, (k2.trans hK2).trans (q2.trans (keep_put _ (by omega) (by omega) lt))⟩⟩
        rw [hrec]; exact World.putObj_heap_same lt
      | ret =>
        obtain ⟨q1, q3⟩ := hp
        have m1 := q1.same _ _ l5 rfl
        have m2 := q1.same _ _ l6 rfl
        have lt := (Array.getElem?_eq_some_iff.1 m1).1
        have he := run_endRound (P := P) (some .ret) m1
        rw [hrec] at he
        rw [hrec] at m1
        refine ⟨_, _, he, .inr ⟨rfl, hIxb _ 0 W4 (d + 1) _ _ q3 (by omega) m1 rfl (by omega), ?_, (World.putObj_heap_other (by omega)).trans m2⟩⟩
        rw [hrec]; exact World.putObj_heap_same lt
      | exit id => exact hp.elim
      | goto t => exact hp.elim
      | panic ch => exact hp.elim
      | outgrown => exact hp.elim
    | ret => exact hp.elim
    | exit id => exact hp.elim
    | goto t => exact hp.elim
    | panic ch => exact hp.elim
    | outgrown => exact hp.elim
  · intro r W' hr hr' hb
    refine ⟨h0 r W' (by omega) hr' (hb1.trans (hb.mono (by omega))), by omega, (hb.block _ (by omega)).trans hL1, (hb.block _ (by omega)).trans hD1⟩
  · rintro e W2 ⟨⟨v, rfl⟩, (⟨xs, r, hS, hi, hr2, hl, hk⟩ | ⟨pre, hSp, hi, hl, hk⟩)⟩
    · refine ⟨none, _, by have := run_endLoop (P := P) hl (by rw [hrec]; simp); rw [hrec] at this; exact this, hdone d r xs _ (by omega) hS (hIb _ r W2 (d + 1) _ _ hi (by omega) hl rfl (by omega)) (by omega) ((World.putObj_heap_other (by omega)).trans hk)⟩
    · refine ⟨some .ret, _, by have := run_endLoop (P := P) hl (by rw [hrec]; simp); rw [hrec] at this; exact this, hstop d pre _ (by omega) hSp (hIxb _ 0 W2 (d + 1) _ _ hi (by omega) hl rfl (by omega)) ((World.putObj_heap_other (by omega)).trans hk)⟩
end Go.Proofs.YtcnnkobiijhegaaDoor
