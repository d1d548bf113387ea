/-
  Merged: Code in memory: lists of instructions, owned or not; what a call turns and what it keeps. Equality of lists: the library's Equal at ints, variables and instructions; Same of codes on both sides; few. Code, plain: the program's way of examining code (the depth behind each instruction), forms, what is left; equal codes.
-/
import Derived.Test.YthanoilbcdhbkaaGreatDoorQF
import Derived.Test.YthanoilbcdhbkaaGreatDoorQZH
import Derived.Lib.BufferMore
import Derived.Maps.AppendAt
import Derived.ArgAppend
import Derived.Test.YthanoilbcdhbkaaGreatDoorQG
namespace Go.Proofs.YthanoilbcdhbkaaGreatDoor
open Go Go.RowKit Go.Lib Go.Shelf WM TM EM YM

def I0 : Ins := (0, 0, 0)
def InsAt (ao : Option Addr) (l : List Ins) (w : World) : Prop := ∀ i, i < l.length → ∃ b off, ao = some ⟨b, off, none⟩ ∧ b < w.heap.size ∧
 w.cell? ⟨b, off + i * 3, none⟩ = some (.int .i64 (l.getD i I0).1) ∧ w.cell? ⟨b, off + i * 3 + 1, none⟩ = some (.int .i64 (l.getD i I0).2.1) ∧ w.cell? ⟨b, off + i * 3 + 2, none⟩ = some (.int .i64 (l.getD i I0).2.2)
theorem InsAt.keep {ao : Option Addr} {l : List Ins} {w w' : World} (h : InsAt ao l w) (hb : Below w.heap.size w w') : InsAt ao l w' := by
 intro i hi
 obtain ⟨b, off, e, hbw, c1, c2, c3⟩ := h i hi
 exact ⟨b, off, e, by have := hb.size; omega, keepc hb c1, keepc hb c2, keepc hb c3⟩
theorem InsAt.nil (ao : Option Addr) (w : World) : InsAt ao [] w := fun _ hi => absurd hi (Nat.not_lt_zero _)
def icell (x : Ins) : List Value := [.int .i64 x.1, .int .i64 x.2.1, .int .i64 x.2.2]
def icells : List Ins → List Value
 | [] => []
 | x :: r => icell x ++ icells r
theorem icells_length (l : List Ins) : (icells l).length = l.length * 3 := by
 induction l with
 | nil => rfl
 | cons t r ih => show (icell t ++ icells r).length = _; rw [List.length_append, ih, List.length_cons]; show 3 + _ = _; omega
theorem icells_app (l m : List Ins) : icells (l ++ m) = icells l ++ icells m := by
 induction l with
 | nil => rfl
 | cons u r ih => show icell u ++ icells (r ++ m) = (icell u ++ icells r) ++ icells m; rw [ih, List.append_assoc]
theorem icells_mem (m : List Ins) : ∀ u ∈ icells m, u.oneCell' = true := by
 induction m with
 | nil => intro u hu; cases hu
 | cons t m ih =>
  intro u hu
  rcases List.mem_append.1 (show u ∈ icell t ++ icells m from hu) with h | h
  ·simp only [icell, List.mem_cons, List.not_mem_nil, or_false] at h
   rcases h with rfl | rfl | rfl <;> rfl
  ·exact ih u h
theorem icells_at (l : List Ins) : ∀ i, i < l.length → (icells l)[i * 3]? = some (.int .i64 (l.getD i I0).1) ∧ (icells l)[i * 3 + 1]? = some (.int .i64 (l.getD i I0).2.1) ∧ (icells l)[i * 3 + 2]? = some (.int .i64 (l.getD i I0).2.2) := by
 induction l with
 | nil => intro i hi; exact absurd hi (Nat.not_lt_zero _)
 | cons t r ih =>
  intro i hi
  cases i with
  | zero => exact ⟨rfl, rfl, rfl⟩
  | succ i =>
   obtain ⟨h1, h2, h3⟩ := ih i (Nat.lt_of_succ_lt_succ hi)
   have e : ∀ j, (icells (t :: r))[(i + 1) * 3 + j]? = (icells r)[i * 3 + j]? := by
    intro j
    show (icell t ++ icells r)[(i + 1) * 3 + j]? = _
    rw [List.getElem?_append_right (by show 3 ≤ _; omega)]
    congr 1
    show (i + 1) * 3 + j - 3 = _
    omega
   exact ⟨(e 0).trans h1, (e 1).trans h2, (e 2).trans h3⟩
def setA (x : Ins) (a : Int) : Ins := (x.1, a, x.2.2)
theorem icells_set (l : List Ins) (a : Int) : ∀ i, i < l.length → icells (l.set i (setA (l.getD i I0) a)) = (icells l).set (i * 3 + 1) (.int .i64 a) := by
 induction l with
 | nil => intro i hi; exact absurd hi (Nat.not_lt_zero _)
 | cons t r ih =>
  intro i hi
  cases i with
  | zero => rfl
  | succ i =>
   have := ih i (Nat.lt_of_succ_lt_succ hi)
   rw [List.set_cons_succ]
   show icell t ++ icells (r.set i (setA (r.getD i I0) a)) = (icell t ++ icells r).set _ _
   rw [this, List.set_append_right _ _ (by show 3 ≤ _; omega)]
   congr 2
   show _ = (i + 1) * 3 + 1 - 3
   omega
theorem infoIns : (Tryz.prog.info? 47).map (fun i => (i.zero, i.size, i.bytes)) = some (some (.agg #[.int .i64 0, .int .i64 0, .int .i64 0]), 3, 24) := by kernel_rfl
def OI (base : Nat) (v : Value) (l : List Ins) (W : World) : Prop := W.ownsRow base 47 3 v l.length (icells l)
theorem OI.nil (base : Nat) (W : World) : OI base (.slice none 0 0) [] W := World.ownsRow_nil _ _ _ _
theorem OI.shape {base : Nat} {v : Value} {l : List Ins} {W : World} (h : OI base v l W) : ∃ ao c, v = .slice ao l.length c ∧ l.length ≤ c ∧ InsAt ao l W ∧ (ao = none → l.length = 0 ∧ c = 0) := by
 rcases h.2 with ⟨rfl, h2⟩ | ⟨g, cap, cur, rfl, hb, hg, hnc, _, hcs, htake⟩
 ·exact ⟨none, 0, by rw [h2], by omega, fun i hi => absurd hi (by omega), fun _ => ⟨h2, rfl⟩⟩
 ·refine ⟨some ⟨g, 0, none⟩, cap, rfl, hnc, fun i hi => ⟨g, 0, rfl, (Array.getElem?_eq_some_iff.1 hg).1, ?_⟩, fun h => by cases h⟩
  obtain ⟨t1, t2, t3⟩ := icells_at l i hi
  have key : ∀ (j : Nat) (x : Value), (icells l)[j]? = some x → W.cell? ⟨g, 0 + j, none⟩ = some x := by
   intro j x hx
   have hj : j < (icells l).length := (List.getElem?_eq_some_iff.1 hx).1
   rw [icells_length] at hj
   rw [Nat.zero_add, cell_of_row _ _ j cur _ (0, 0) hg, ← Array.getElem?_toList, ← hx, ← htake, List.getElem?_take, if_pos (by omega)]
  exact ⟨key _ _ t1, key _ _ t2, key _ _ t3⟩
theorem OI.pos {base : Nat} {v : Value} {l : List Ins} {W : World} (h : OI base v l W) (hl : 0 < l.length) : ∃ g c, v = .slice (some ⟨g, 0, none⟩) l.length c ∧ base ≤ g ∧ g < W.heap.size := by
 rcases h.2 with ⟨rfl, h2⟩ | ⟨g, cap, cur, rfl, hb, hg, hnc, _, hcs, htake⟩
 ·omega
 ·exact ⟨g, cap, rfl, hb, (Array.getElem?_eq_some_iff.1 hg).1⟩
theorem OI.set {base g c n : Nat} {l : List Ins} {W : World} (h : OI base (.slice (some ⟨g, 0, none⟩) n c) l W) (i : Nat) (hi : i < l.length) (a : Int) :
  OI base (.slice (some ⟨g, 0, none⟩) n c) (l.set i (setA (l.getD i I0) a)) (W.setCell ⟨g, i * 3 + 1, none⟩ (.int .i64 a)) := by
 refine ⟨by rw [icells_length], ?_⟩
 rcases h.2 with ⟨h1, _⟩ | ⟨g', cap, cur, hv, hb, hg, hnc, hm, hcs, htake⟩
 ·cases h1
 ·cases hv
  refine Or.inr ⟨g, c, cur.setIfInBounds (i * 3 + 1) (.int .i64 a), ?_, hb, Lib.heap_setCell_same hg _, ?_, hm, by simpa using hcs, ?_⟩
  ·rw [List.length_set]
  ·rw [List.length_set]; exact hnc
  ·rw [List.length_set, icells_set l a i hi, ← htake, Array.toList_setIfInBounds, List.take_set]

/-! ### What a call turns -/
structure Sav (X : Nat → Prop) (w w' : World) : Prop where
 os : w'.os = w.os
 tape : w'.tape = w.tape
 output : w'.output = w.output
 size : w.heap.size ≤ w'.heap.size
 block : ∀ k, k < w.heap.size → ¬ X k → w'.heap[k]? = w.heap[k]?
theorem Sav.of_below {X : Nat → Prop} {w w' : World} (h : Below w.heap.size w w') : Sav X w w' := ⟨h.os, h.tape, h.output, h.size, fun k hk _ => h.block k hk⟩
theorem Sav.refl (X : Nat → Prop) (w : World) : Sav X w w := Sav.of_below (bref w)
theorem Sav.trans {X Y : Nat → Prop} {a b c : World} (h : Sav X a b) (k : Sav Y b c) (hXY : ∀ n, n < a.heap.size → Y n → X n) : Sav X a c :=
 ⟨k.os.trans h.os, k.tape.trans h.tape, k.output.trans h.output, Nat.le_trans h.size k.size, fun n hn hx => (k.block n (Nat.lt_of_lt_of_le hn h.size) (fun y => hx (hXY n hn y))).trans (h.block n hn hx)⟩
theorem Sav.next {X : Nat → Prop} {a b c : World} (h : Sav X a b) (k : Below b.heap.size b c) : Sav X a c := h.trans (Sav.of_below (X := X) k) (fun _ _ h => h)
theorem Sav.below {X : Nat → Prop} {w w' : World} (h : Sav X w w') {B : Nat} (hX : ∀ k, X k → B ≤ k) (hB : B ≤ w.heap.size) : Below B w w' :=
 ⟨h.os, h.tape, h.output, h.size, fun k hk => h.block k (by omega) (fun x => by have := hX k x; omega)⟩
theorem Sav.grown {w w' : World} {row : Option Nat} (g : w.grownBy w' row) : Sav (fun k => row = some k) w w' :=
 ⟨g.os, g.tape, g.output, g.size, fun k hk hx => g.block k hk (fun e => hx e.symm)⟩
theorem Sav.setCell (w : World) (p : Addr) (u : Value) : Sav (fun k => k = p.block) w (w.setCell p u) :=
 ⟨rfl, rfl, rfl, by simp [World.setCell], fun _ _ hx => Below.heap_setCell _ _ _ _ hx⟩
theorem Sav.cell {X : Nat → Prop} {w w' : World} (h : Sav X w w') {p : Addr} {x : Value} (hc : w.cell? p = some x) (hX : ¬ X p.block) : w'.cell? p = some x :=
 (World.cell?_of_block (h.block p.block (World.block_lt_of_cell? w _ hc) hX)).trans hc
theorem Sav.frozen {X : Nat → Prop} {w w' : World} (h : Sav X w w') {p : Addr} {f : Bool} (hl : p.block < w.heap.size) (hc : w.frozen? p = f) (hX : ¬ X p.block) : w'.frozen? p = f :=
 (World.frozen?_of_block (h.block p.block hl hX)).trans hc
theorem OI.sav {X : Nat → Prop} {base : Nat} {v : Value} {l : List Ins} {w w' : World} (h : OI base v l w) (hs : Sav X w w') (hX : ∀ g, v.ownBlock = some g → ¬ X g) : OI base v l w' := by
 refine ⟨h.1, ?_⟩
 rcases h.2 with hn | ⟨g, cap, cur, rfl, hbg, hg, rest⟩
 ·exact Or.inl hn
 ·refine Or.inr ⟨g, cap, cur, rfl, hbg, ?_, rest⟩
  rw [hs.block g (Array.getElem?_eq_some_iff.1 hg).1 (hX g rfl)]
  exact hg
theorem OI.keep {base : Nat} {v : Value} {l : List Ins} {W W' : World} (h : OI base v l W) (hb : Below W.heap.size W W') : OI base v l W' := own_below h hb
theorem IntsAt.sav {X : Nat → Prop} {ao : Option Addr} {l : List Int} {w w' : World} (h : IntsAt ao l w) (hs : Sav X w w') (hX : ∀ a, ao = some a → ¬ X a.block) : IntsAt ao l w' := by
 intro i hi
 obtain ⟨b, off, e, hbw, c⟩ := h i hi
 exact ⟨b, off, e, by have := hs.size; omega, hs.cell c (hX ⟨b, off, none⟩ e)⟩
def New (w : World) (v v' : Value) : Prop := v'.ownBlock = v.ownBlock ∨ ∃ g, v'.ownBlock = some g ∧ w.heap.size ≤ g
theorem New.refl (w : World) (v : Value) : New w v v := Or.inl rfl
theorem New.trans {a b : World} {u v x : Value} (h : New a u v) (k : New b v x) (hs : a.heap.size ≤ b.heap.size) : New a u x := by
 rcases k with k | ⟨g, k1, k2⟩
 ·rcases h with h | ⟨g, h1, h2⟩
  ·exact Or.inl (k.trans h)
  ·exact Or.inr ⟨g, k.trans h1, h2⟩
 ·exact Or.inr ⟨g, k1, by omega⟩
theorem New.old {a : World} {u v : Value} (h : New a u v) {n : Nat} (hn : n < a.heap.size) (e : v.ownBlock = some n) : u.ownBlock = some n := by
 rcases h with h | ⟨g, h1, h2⟩
 ·exact h ▸ e
 ·rw [h1] at e; cases e; omega
theorem wpList_app_ins {w : World} {ops : Array Oper} {rest : List Oper} {o : Oper} {a : Act} {Q : Exit → Act → World → Prop} (hgd : o.guard = none) (s x : Operand)
  (ho : o.op = .call { callee := .builtin .append, args := #[s, x], argTypes := #[28, 28] })
  (base : Nat) (v : Value) (l : List Ins) (hs : a.eval s = v) (hown : OI base v l w) (g : Nat) (y : Ins) (hx : a.eval x = .slice (some ⟨g, 0, none⟩) 1 1)
  (c0 : w.cell? ⟨g, 0, none⟩ = some (.int .i64 y.1)) (c1 : w.cell? ⟨g, 1, none⟩ = some (.int .i64 y.2.1)) (c2 : w.cell? ⟨g, 2, none⟩ = some (.int .i64 y.2.2))
  (hl : l.length + 1 ≤ 10000000) (hbase : base ≤ w.heap.size)
  (h : ∀ v' w', OI base v' (l ++ [y]) w' → Sav (fun k => v.ownBlock = some k) w w' → New w v v' → wpList Tryz.prog ops Q rest (a.put o.dst v') w') : wpList Tryz.prog ops Q (o :: rest) a w := by
 obtain ⟨i, hi, hz, hz1, hz2⟩ := info_parts infoIns
 refine wpList_plain hgd fun K hK' => ?_
 obtain ⟨v', w', hrun, r1, r2, _, r4⟩ := run_append_own_at (P := Tryz.prog) w base 28 o.type 47 i _ 3 24 Tryz.underlying28 hi hz hz1 hz2 rfl (by decide) v l.length (icells l) hown ⟨g, 0, none⟩ 1 1 (icells [y]) rfl (by
  intro j u hj
  match j, hj with
  | 0, hj => simp [icells, icell] at hj; subst hj; simpa [Addr.add] using c0
  | 1, hj => simp [icells, icell] at hj; subst hj; simpa [Addr.add] using c1
  | 2, hj => simp [icells, icell] at hj; subst hj; simpa [Addr.add] using c2) (icells_mem [y]) (by unfold maxLen; omega) (by omega) hbase
 unfold Oper.wp
 simp [execOp, ho, resolve, invoke, builtin, hs, hx, hrun, Result.andThen]
 refine hK' _ _ (h v' w' ?_ (Sav.grown r2) ?_)
 ·unfold OI
  rw [icells_app, List.length_append]
  exact r1
 ·rcases r4 with h4 | h4
  ·exact Or.inl h4
  ·exact Or.inr ⟨_, h4, Nat.le_refl _⟩
end Go.Proofs.YthanoilbcdhbkaaGreatDoor

namespace Go.Proofs.YthanoilbcdhbkaaGreatDoor
open Go Go.RowKit Go.Lib Go.Shelf WM TM EM YM

theorem take_neK {α : Type} (d : α) (l m : List α) (k : Nat) (hne : l.getD k d ≠ m.getD k d) : l ≠ m := by
 intro e; subst e; exact hne rfl
theorem beq_no {α : Type} [BEq α] [LawfulBEq α] {a b : α} (h : a ≠ b) : (a == b) = false := beq_eq_false_iff_ne.2 h
theorem bne_yes {α : Type} [BEq α] [LawfulBEq α] {a b : α} (h : a ≠ b) : (a != b) = true := bne_iff_ne.2 h
set_option maxRecDepth 100000 in
set_option maxHeartbeats 4000000 in
theorem mEqI (ao bo : Option Addr) (xs ys : List Int) (ca cb : Nat) (w : World) (hxl : xs.length ≤ 1000000) (h : IntsAt ao xs w) (h2 : IntsAt bo ys w) :
  Calls Tryz.prog 61 #[.slice ao xs.length ca, .slice bo ys.length cb] w fun e w' => e = .returned (.bool (decide (xs = ys))) ∧ Below w.heap.size w w' := by
 have HA := Lib.hid h
 have HB := Lib.hid h2
 obtain ⟨n, hn⟩ : ∃ n, xs.length = n := ⟨_, rfl⟩
 obtain ⟨m, hm⟩ : ∃ m, ys.length = m := ⟨_, rfl⟩
 have HN := Lib.hid hn
 have HM := Lib.hid hm
 rw [hn] at hxl
 rw [hn, hm]
 clear h h2 hn hm
 by_cases hnm : n = m
 ·subst hnm
  go_enter Tryz.func61, Tryz.ntmps61
  go_wp2_with fail
  go_loopw [13] (fun i wr => ∃ (k : Nat), k ≤ n ∧ i = .int .i64 k ∧ xs.take k = ys.take k ∧ Below w.heap.size w wr) (fun i _ => n - (RowKit.intOf i).toNat)
  case atStart => exact ⟨0, by omega, rfl, rfl, bref _⟩
  case round =>
   obtain ⟨k, hk, rfl, hE, hBw⟩ := hrel
   have HE := Lib.hid hE
   have HBw := Lib.hid hBw
   clear hE hBw
   by_cases hlt : k < n
   ·obtain ⟨b, off, rfl, hb, c0⟩ := (HA.out.keep HBw.out) k (by rw [HN.out]; exact hlt)
    obtain ⟨b2, off2, rfl, hb2, d0⟩ := (HB.out.keep HBw.out) k (by rw [HM.out]; exact hlt)
    have ht := take_g (0 : Int) xs k (by rw [HN.out]; exact hlt)
    have ht2 := take_g (0 : Int) ys k (by rw [HM.out]; exact hlt)
    have hne := take_neK (0 : Int) xs ys k
    obtain ⟨x, hx⟩ : ∃ x, xs.getD k (0 : Int) = x := ⟨_, rfl⟩
    obtain ⟨y, hy⟩ : ∃ y, ys.getD k (0 : Int) = y := ⟨_, rfl⟩
    rw [hx] at c0 ht hne
    rw [hy] at d0 ht2 hne
    have hkz : (k : Int) < (n : Int) := by omega
    by_cases hq : x = y
    ·subst hq
     have HQ : Hid (xs.take (k + 1) = ys.take (k + 1)) := Lib.hid (by rw [ht, ht2, HE.out])
     clear hx hy ht ht2 hne
     go_wp2_with fail
     (try (go_quiet (fail); go_wp2_with fail))
     go_roundw
     case rel => exact ⟨k + 1, by omega, by go_num, HQ.out, btr HBw.out (by first | exact bref _ | exact bdr (bref _) | exact bdn (bref _) _)⟩
     case measure => simp [RowKit.intOf]; omega
    ·have hqb : (x != y) = true := bne_yes hq
     have hqc : (x == y) = false := beq_no hq
     have HR : Hid (decide (xs = ys) = false) := Lib.hid (by rw [decide_eq_false_iff_not]; exact hne hq)
     clear hx hy ht ht2 hne
     go_wp2_with fail
     (try (go_quiet (fail); go_wp2_with fail))
     go_ret
     exact ⟨by rw [HR.out]; rfl, btr HBw.out (by repeat (first | exact bref _ | refine bdr ?_ | refine bdn ?_ _ | refine bal ?_ _))⟩
   ·have he : k = n := by omega
    subst he
    have HR : Hid (decide (xs = ys) = true) := Lib.hid (by
     rw [decide_eq_true_eq]
     have := HE.out
     rwa [List.take_of_length_le (by rw [HN.out]; exact Nat.le_refl _), List.take_of_length_le (by rw [HM.out]; exact Nat.le_refl _)] at this)
    go_wp2_with fail
    go_ret
    exact ⟨by rw [HR.out]; rfl, HBw.out⟩
 ·have HR : Hid (decide (xs = ys) = false) := Lib.hid (by
   rw [decide_eq_false_iff_not]; intro e; exact hnm (by rw [← HN.out, ← HM.out, e]))
  have hz : ¬ (n : Int) = (m : Int) := by omega
  have hz2 : ((n : Int) != (m : Int)) = true := by rw [bne_iff_ne]; exact hz
  clear hnm
  go_enter Tryz.func61, Tryz.ntmps61
  go_wp2_with fail
  go_ret
  exact ⟨by rw [HR.out]; rfl, bref _⟩
set_option maxRecDepth 100000 in
set_option maxHeartbeats 4000000 in
theorem mEqV (ao bo : Option Addr) (xs ys : List Vr) (ca cb : Nat) (w : World) (hxl : xs.length ≤ 1000000) (h : VarsAt ao xs w) (h2 : VarsAt bo ys w) :
  Calls Tryz.prog 41 #[.slice ao xs.length ca, .slice bo ys.length cb] w fun e w' => e = .returned (.bool (decide (xs = ys))) ∧ Below w.heap.size w w' := by
 have HA := Lib.hid h
 have HB := Lib.hid h2
 obtain ⟨n, hn⟩ : ∃ n, xs.length = n := ⟨_, rfl⟩
 obtain ⟨m, hm⟩ : ∃ m, ys.length = m := ⟨_, rfl⟩
 have HN := Lib.hid hn
 have HM := Lib.hid hm
 rw [hn] at hxl
 rw [hn, hm]
 clear h h2 hn hm
 by_cases hnm : n = m
 ·subst hnm
  go_enter Tryz.func41, Tryz.ntmps41
  go_wp2_with fail
  go_loopw [13] (fun i wr => ∃ (k : Nat), k ≤ n ∧ i = .int .i64 k ∧ xs.take k = ys.take k ∧ Below w.heap.size w wr) (fun i _ => n - (RowKit.intOf i).toNat)
  case atStart => exact ⟨0, by omega, rfl, rfl, bref _⟩
  case round =>
   obtain ⟨k, hk, rfl, hE, hBw⟩ := hrel
   have HE := Lib.hid hE
   have HBw := Lib.hid hBw
   clear hE hBw
   by_cases hlt : k < n
   ·obtain ⟨b, off, rfl, hb, c0, c1⟩ := (HA.out.keep HBw.out) k (by rw [HN.out]; exact hlt)
    obtain ⟨b2, off2, rfl, hb2, d0, d1⟩ := (HB.out.keep HBw.out) k (by rw [HM.out]; exact hlt)
    have ht := take_g V0 xs k (by rw [HN.out]; exact hlt)
    have ht2 := take_g V0 ys k (by rw [HM.out]; exact hlt)
    have hne := take_neK V0 xs ys k
    obtain ⟨x, hx⟩ : ∃ x, xs.getD k V0 = x := ⟨_, rfl⟩
    obtain ⟨y, hy⟩ : ∃ y, ys.getD k V0 = y := ⟨_, rfl⟩
    rw [hx] at c0 c1 ht hne
    rw [hy] at d0 d1 ht2 hne
    have hkz : (k : Int) < (n : Int) := by omega
    obtain ⟨x0, x1⟩ := x
    obtain ⟨y0, y1⟩ := y
    by_cases hq0 : x0 = y0
    ·subst hq0
     by_cases hq1 : x1 = y1
     ·subst hq1
      obtain ⟨X, hX⟩ : ∃ X, str x0 = X := ⟨_, rfl⟩
      simp only [hX] at c0 c1 d0 d1
      clear hX
      have HQ : Hid (xs.take (k + 1) = ys.take (k + 1)) := Lib.hid (by rw [ht, ht2, HE.out])
      clear hx hy ht ht2 hne
      go_wp2_with fail
      (try (go_quiet (fail); go_wp2_with fail))
      go_roundw
      case rel => exact ⟨k + 1, by omega, by go_num, HQ.out, btr HBw.out (by first | exact bref _ | exact bdr (bref _) | exact bdn (bref _) _)⟩
      case measure => simp [RowKit.intOf]; omega
     ·have hq1b : (x1 != y1) = true := bne_yes hq1
      have hq1c : (x1 == y1) = false := beq_no hq1
      obtain ⟨X, hX⟩ : ∃ X, str x0 = X := ⟨_, rfl⟩
      simp only [hX] at c0 c1 d0 d1
      clear hX
      have HR : Hid (decide (xs = ys) = false) := Lib.hid (by rw [decide_eq_false_iff_not]; exact hne (fun e => hq1 (congrArg Prod.snd e)))
      clear hx hy ht ht2 hne
      go_wp2_with fail
      (try (go_quiet (fail); go_wp2_with fail))
      go_ret
      exact ⟨by rw [HR.out]; rfl, btr HBw.out (by repeat (first | exact bref _ | refine bdr ?_ | refine bdn ?_ _ | refine bal ?_ _))⟩
    ·obtain ⟨X, hX⟩ : ∃ X, str x0 = X := ⟨_, rfl⟩
     obtain ⟨Y, hY⟩ : ∃ X, str y0 = X := ⟨_, rfl⟩
     have hXY := str_ne hq0
     rw [hX, hY] at hXY
     simp only [hX] at c0 c1
     simp only [hY] at d0 d1
     clear hX hY
     have HR : Hid (decide (xs = ys) = false) := Lib.hid (by rw [decide_eq_false_iff_not]; exact hne (fun e => hq0 (congrArg Prod.fst e)))
     clear hx hy ht ht2 hne
     go_wp2_with fail
     (try (go_quiet (fail); go_wp2_with fail))
     go_ret
     exact ⟨by rw [HR.out]; rfl, btr HBw.out (by repeat (first | exact bref _ | refine bdr ?_ | refine bdn ?_ _ | refine bal ?_ _))⟩
   ·have he : k = n := by omega
    subst he
    have HR : Hid (decide (xs = ys) = true) := Lib.hid (by
     rw [decide_eq_true_eq]
     have := HE.out
     rwa [List.take_of_length_le (by rw [HN.out]; exact Nat.le_refl _), List.take_of_length_le (by rw [HM.out]; exact Nat.le_refl _)] at this)
    go_wp2_with fail
    go_ret
    exact ⟨by rw [HR.out]; rfl, HBw.out⟩
 ·have HR : Hid (decide (xs = ys) = false) := Lib.hid (by
   rw [decide_eq_false_iff_not]; intro e; exact hnm (by rw [← HN.out, ← HM.out, e]))
  have hz : ¬ (n : Int) = (m : Int) := by omega
  have hz2 : ((n : Int) != (m : Int)) = true := by rw [bne_iff_ne]; exact hz
  clear hnm
  go_enter Tryz.func41, Tryz.ntmps41
  go_wp2_with fail
  go_ret
  exact ⟨by rw [HR.out]; rfl, bref _⟩
set_option maxRecDepth 100000 in
set_option maxHeartbeats 4000000 in
theorem mEqC (ao bo : Option Addr) (xs ys : List Ins) (ca cb : Nat) (w : World) (hxl : xs.length ≤ 1000000) (h : InsAt ao xs w) (h2 : InsAt bo ys w) :
  Calls Tryz.prog 42 #[.slice ao xs.length ca, .slice bo ys.length cb] w fun e w' => e = .returned (.bool (decide (xs = ys))) ∧ Below w.heap.size w w' := by
 have HA := Lib.hid h
 have HB := Lib.hid h2
 obtain ⟨n, hn⟩ : ∃ n, xs.length = n := ⟨_, rfl⟩
 obtain ⟨m, hm⟩ : ∃ m, ys.length = m := ⟨_, rfl⟩
 have HN := Lib.hid hn
 have HM := Lib.hid hm
 rw [hn] at hxl
 rw [hn, hm]
 clear h h2 hn hm
 by_cases hnm : n = m
 ·subst hnm
  go_enter Tryz.func42, Tryz.ntmps42
  go_wp2_with fail
  go_loopw [13] (fun i wr => ∃ (k : Nat), k ≤ n ∧ i = .int .i64 k ∧ xs.take k = ys.take k ∧ Below w.heap.size w wr) (fun i _ => n - (RowKit.intOf i).toNat)
  case atStart => exact ⟨0, by omega, rfl, rfl, bref _⟩
  case round =>
   obtain ⟨k, hk, rfl, hE, hBw⟩ := hrel
   have HE := Lib.hid hE
   have HBw := Lib.hid hBw
   clear hE hBw
   by_cases hlt : k < n
   ·obtain ⟨b, off, rfl, hb, c0, c1, c2⟩ := (HA.out.keep HBw.out) k (by rw [HN.out]; exact hlt)
    obtain ⟨b2, off2, rfl, hb2, d0, d1, d2⟩ := (HB.out.keep HBw.out) k (by rw [HM.out]; exact hlt)
    have ht := take_g I0 xs k (by rw [HN.out]; exact hlt)
    have ht2 := take_g I0 ys k (by rw [HM.out]; exact hlt)
    have hne := take_neK I0 xs ys k
    obtain ⟨x, hx⟩ : ∃ x, xs.getD k I0 = x := ⟨_, rfl⟩
    obtain ⟨y, hy⟩ : ∃ y, ys.getD k I0 = y := ⟨_, rfl⟩
    rw [hx] at c0 c1 c2 ht hne
    rw [hy] at d0 d1 d2 ht2 hne
    have hkz : (k : Int) < (n : Int) := by omega
    obtain ⟨x0, x1, x2⟩ := x
    obtain ⟨y0, y1, y2⟩ := y
    by_cases hq0 : x0 = y0
    ·subst hq0
     by_cases hq1 : x1 = y1
     ·subst hq1
      by_cases hq2 : x2 = y2
      ·subst hq2
       simp only at c0 c1 c2 d0 d1 d2
       have HQ : Hid (xs.take (k + 1) = ys.take (k + 1)) := Lib.hid (by rw [ht, ht2, HE.out])
       clear hx hy ht ht2 hne
       go_wp2_with fail
       (try (go_quiet (fail); go_wp2_with fail))
       go_roundw
       case rel => exact ⟨k + 1, by omega, by go_num, HQ.out, btr HBw.out (by first | exact bref _ | exact bdr (bref _) | exact bdn (bref _) _)⟩
       case measure => simp [RowKit.intOf]; omega
      ·have hqb : (x2 != y2) = true := bne_yes hq2
       have hqc : (x2 == y2) = false := beq_no hq2
       simp only at c0 c1 c2 d0 d1 d2
       have HR : Hid (decide (xs = ys) = false) := Lib.hid (by rw [decide_eq_false_iff_not]; exact hne (fun e => hq2 (congrArg (fun z => z.2.2) e)))
       clear hx hy ht ht2 hne
       go_wp2_with fail
       (try (go_quiet (fail); go_wp2_with fail))
       go_ret
       exact ⟨by rw [HR.out]; rfl, btr HBw.out (by repeat (first | exact bref _ | refine bdr ?_ | refine bdn ?_ _ | refine bal ?_ _))⟩
     ·have hqb : (x1 != y1) = true := bne_yes hq1
      have hqc : (x1 == y1) = false := beq_no hq1
      simp only at c0 c1 c2 d0 d1 d2
      have HR : Hid (decide (xs = ys) = false) := Lib.hid (by rw [decide_eq_false_iff_not]; exact hne (fun e => hq1 (congrArg (fun z => z.2.1) e)))
      clear hx hy ht ht2 hne
      go_wp2_with fail
      (try (go_quiet (fail); go_wp2_with fail))
      go_ret
      exact ⟨by rw [HR.out]; rfl, btr HBw.out (by repeat (first | exact bref _ | refine bdr ?_ | refine bdn ?_ _ | refine bal ?_ _))⟩
    ·have hqb : (x0 != y0) = true := bne_yes hq0
     have hqc : (x0 == y0) = false := beq_no hq0
     simp only at c0 c1 c2 d0 d1 d2
     have HR : Hid (decide (xs = ys) = false) := Lib.hid (by rw [decide_eq_false_iff_not]; exact hne (fun e => hq0 (congrArg (fun z => z.1) e)))
     clear hx hy ht ht2 hne
     go_wp2_with fail
     (try (go_quiet (fail); go_wp2_with fail))
     go_ret
     exact ⟨by rw [HR.out]; rfl, btr HBw.out (by repeat (first | exact bref _ | refine bdr ?_ | refine bdn ?_ _ | refine bal ?_ _))⟩
   ·have he : k = n := by omega
    subst he
    have HR : Hid (decide (xs = ys) = true) := Lib.hid (by
     rw [decide_eq_true_eq]
     have := HE.out
     rwa [List.take_of_length_le (by rw [HN.out]; exact Nat.le_refl _), List.take_of_length_le (by rw [HM.out]; exact Nat.le_refl _)] at this)
    go_wp2_with fail
    go_ret
    exact ⟨by rw [HR.out]; rfl, HBw.out⟩
 ·have HR : Hid (decide (xs = ys) = false) := Lib.hid (by
   rw [decide_eq_false_iff_not]; intro e; exact hnm (by rw [← HN.out, ← HM.out, e]))
  have hz : ¬ (n : Int) = (m : Int) := by omega
  have hz2 : ((n : Int) != (m : Int)) = true := by rw [bne_iff_ne]; exact hz
  clear hnm
  go_enter Tryz.func42, Tryz.ntmps42
  go_wp2_with fail
  go_ret
  exact ⟨by rw [HR.out]; rfl, bref _⟩
set_option maxRecDepth 100000 in
set_option maxHeartbeats 4000000 in
theorem rEqI (ao bo : Option Addr) (xs ys : List Int) (ca cb : Nat) (w : World) (hxl : xs.length ≤ 1000000) (h : IntsAt ao xs w) (h2 : IntsAt bo ys w) :
  Calls Tryz.prog 64 #[.slice ao xs.length ca, .slice bo ys.length cb] w fun e w' => e = .returned (.bool (decide (xs = ys))) ∧ Below w.heap.size w w' := by
 have HA := Lib.hid h
 have HB := Lib.hid h2
 obtain ⟨n, hn⟩ : ∃ n, xs.length = n := ⟨_, rfl⟩
 obtain ⟨m, hm⟩ : ∃ m, ys.length = m := ⟨_, rfl⟩
 have HN := Lib.hid hn
 have HM := Lib.hid hm
 rw [hn] at hxl
 rw [hn, hm]
 clear h h2 hn hm
 by_cases hnm : n = m
 ·subst hnm
  go_enter Tryz.func64, Tryz.ntmps64
  go_wp2_with fail
  go_loopw [5] (fun i wr => ∃ (k : Nat), k ≤ n ∧ i = .int .i64 k ∧ xs.take k = ys.take k ∧ Below w.heap.size w wr) (fun i _ => n - (RowKit.intOf i).toNat)
  case atStart => exact ⟨0, by omega, rfl, rfl, bref _⟩
  case round =>
   obtain ⟨k, hk, rfl, hE, hBw⟩ := hrel
   have HE := Lib.hid hE
   have HBw := Lib.hid hBw
   clear hE hBw
   by_cases hlt : k < n
   ·obtain ⟨b, off, rfl, hb, c0⟩ := (HA.out.keep HBw.out) k (by rw [HN.out]; exact hlt)
    obtain ⟨b2, off2, rfl, hb2, d0⟩ := (HB.out.keep HBw.out) k (by rw [HM.out]; exact hlt)
    have ht := take_g (0 : Int) xs k (by rw [HN.out]; exact hlt)
    have ht2 := take_g (0 : Int) ys k (by rw [HM.out]; exact hlt)
    have hne := take_neK (0 : Int) xs ys k
    obtain ⟨x, hx⟩ : ∃ x, xs.getD k (0 : Int) = x := ⟨_, rfl⟩
    obtain ⟨y, hy⟩ : ∃ y, ys.getD k (0 : Int) = y := ⟨_, rfl⟩
    rw [hx] at c0 ht hne
    rw [hy] at d0 ht2 hne
    have hkz : (k : Int) < (n : Int) := by omega
    by_cases hq : x = y
    ·subst hq
     have HQ : Hid (xs.take (k + 1) = ys.take (k + 1)) := Lib.hid (by rw [ht, ht2, HE.out])
     clear hx hy ht ht2 hne
     go_wp2_with fail
     (try (go_quiet (fail); go_wp2_with fail))
     go_roundw
     case rel => exact ⟨k + 1, by omega, by go_num, HQ.out, btr HBw.out (by first | exact bref _ | exact bdr (bref _) | exact bdn (bref _) _)⟩
     case measure => simp [RowKit.intOf]; omega
    ·have hqb : (x != y) = true := bne_yes hq
     have hqc : (x == y) = false := beq_no hq
     have HR : Hid (decide (xs = ys) = false) := Lib.hid (by rw [decide_eq_false_iff_not]; exact hne hq)
     clear hx hy ht ht2 hne
     go_wp2_with fail
     (try (go_quiet (fail); go_wp2_with fail))
     go_ret
     exact ⟨by rw [HR.out]; rfl, btr HBw.out (by repeat (first | exact bref _ | refine bdr ?_ | refine bdn ?_ _ | refine bal ?_ _))⟩
   ·have he : k = n := by omega
    subst he
    have HR : Hid (decide (xs = ys) = true) := Lib.hid (by
     rw [decide_eq_true_eq]
     have := HE.out
     rwa [List.take_of_length_le (by rw [HN.out]; exact Nat.le_refl _), List.take_of_length_le (by rw [HM.out]; exact Nat.le_refl _)] at this)
    go_wp2_with fail
    go_ret
    exact ⟨by rw [HR.out]; rfl, HBw.out⟩
 ·have HR : Hid (decide (xs = ys) = false) := Lib.hid (by
   rw [decide_eq_false_iff_not]; intro e; exact hnm (by rw [← HN.out, ← HM.out, e]))
  have hz : ¬ (n : Int) = (m : Int) := by omega
  have hz2 : ((n : Int) != (m : Int)) = true := by rw [bne_iff_ne]; exact hz
  clear hnm
  go_enter Tryz.func64, Tryz.ntmps64
  go_wp2_with fail
  go_ret
  exact ⟨by rw [HR.out]; rfl, bref _⟩

/-! ### Codes -/
structure Cd where
 t : Int
 vs : List Vr
 c : List Ins
deriving DecidableEq
structure CodeAt (a : Cd) (vo : Option Addr) (vc : Nat) (io : Option Addr) (ic : Nat) (w : World) : Prop where
 vars : VarsAt vo a.vs w
 ins : InsAt io a.c w
 cap : a.vs.length ≤ vc
 vnil : vo = none → a.vs.length = 0 ∧ vc = 0
 inil : io = none → a.c.length = 0 ∧ ic = 0
theorem CodeAt.keep {a : Cd} {vo io : Option Addr} {vc ic : Nat} {w w' : World} (h : CodeAt a vo vc io ic w) (hb : Below w.heap.size w w') : CodeAt a vo vc io ic w' := ⟨h.vars.keep hb, h.ins.keep hb, h.cap, h.vnil, h.inil⟩
def same3 (a b : Cd) : Bool := decide (a.t = b.t) && (decide (a.vs = b.vs) && decide (a.c = b.c))
theorem same3_eq (a b : Cd) : same3 a b = decide (a = b) := by
 obtain ⟨t, v, c⟩ := a
 obtain ⟨t2, v2, c2⟩ := b
 unfold same3
 rw [← Bool.decide_and, ← Bool.decide_and]
 simp
set_option maxRecDepth 100000 in
set_option maxHeartbeats 4000000 in
theorem mSame (a b : Cd) (vo io vo2 io2 : Option Addr) (vc ic vc2 ic2 : Nat) (w : World) (hv1 : a.vs.length ≤ 1000000) (hv2 : a.c.length ≤ 1000000) (h : CodeAt a vo vc io ic w) (h2 : CodeAt b vo2 vc2 io2 ic2 w) :
  Calls Tryz.prog 22 #[.agg #[.int .i64 a.t, .slice vo a.vs.length vc, .slice io a.c.length ic], .agg #[.int .i64 b.t, .slice vo2 b.vs.length vc2, .slice io2 b.c.length ic2]] w fun e w' => e = .returned (.bool (same3 a b)) ∧ Below w.heap.size w w' := by
 have EV := Lib.hid (fun W (hW : Below w.heap.size w W) => mEqV vo vo2 a.vs b.vs vc vc2 W hv1 (h.vars.keep hW) (h2.vars.keep hW))
 have EC := Lib.hid (fun W (hW : Below w.heap.size w W) => mEqC io io2 a.c b.c ic ic2 W hv2 (h.ins.keep hW) (h2.ins.keep hW))
 obtain ⟨at', av, ac⟩ := a
 obtain ⟨bt, bv, bc⟩ := b
 unfold same3
 simp only at EV EC ⊢
 obtain ⟨n1, hn1⟩ : ∃ n, av.length = n := ⟨_, rfl⟩
 obtain ⟨n2, hn2⟩ : ∃ n, ac.length = n := ⟨_, rfl⟩
 obtain ⟨n3, hn3⟩ : ∃ n, bv.length = n := ⟨_, rfl⟩
 obtain ⟨n4, hn4⟩ : ∃ n, bc.length = n := ⟨_, rfl⟩
 obtain ⟨R1, hR1⟩ : ∃ R, decide (av = bv) = R := ⟨_, rfl⟩
 obtain ⟨R2, hR2⟩ : ∃ R, decide (ac = bc) = R := ⟨_, rfl⟩
 rw [hn1, hn3, hR1] at EV
 rw [hn2, hn4, hR2] at EC
 rw [hn1, hn2, hn3, hn4, hR1, hR2]
 clear h h2 hn1 hn2 hn3 hn4 hR1 hR2 hv1 hv2
 have HB0 := Lib.hid (show Below w.heap.size w ((w.alloc (.cells #[.int .i64 at', .slice vo n1 vc, .slice io n2 ic] 30)).alloc (.cells #[.int .i64 bt, .slice vo2 n3 vc2, .slice io2 n4 ic2] 30)) from bal (bal (bref w) _) _)
 by_cases ht : at' = bt
 ·subst ht
  rw [decide_eq_true rfl, Bool.true_and]
  cases R1 with
  | true =>
   go_enter Tryz.func22, Tryz.ntmps22
   go_wp2_with fail
   refine (EV.out _ HB0.out).mono ?_
   rintro r w1 ⟨rfl, hb1⟩
   have HB1 := Lib.hid (btr HB0.out hb1)
   have a2 := keepc hb1 (show ((w.alloc (.cells #[.int .i64 at', .slice vo n1 vc, .slice io n2 ic] 30)).alloc (.cells #[.int .i64 at', .slice vo2 n3 vc2, .slice io2 n4 ic2] 30)).cell? ⟨w.heap.size, 2, none⟩ = some (.slice io n2 ic) by simp [go_sem])
   have b2 := keepc hb1 (show ((w.alloc (.cells #[.int .i64 at', .slice vo n1 vc, .slice io n2 ic] 30)).alloc (.cells #[.int .i64 at', .slice vo2 n3 vc2, .slice io2 n4 ic2] 30)).cell? ⟨w.heap.size + 1, 2, none⟩ = some (.slice io2 n4 ic2) by simp [go_sem])
   clear hb1
   go_wp2_with fail
   refine (EC.out _ HB1.out).mono ?_
   rintro r w2 ⟨rfl, hb2⟩
   go_wp2_with fail
   go_ret
   exact ⟨rfl, btr HB1.out hb2⟩
  | false =>
   go_enter Tryz.func22, Tryz.ntmps22
   go_wp2_with fail
   refine (EV.out _ HB0.out).mono ?_
   rintro r w1 ⟨rfl, hb1⟩
   go_wp2_with fail
   go_ret
   exact ⟨rfl, btr HB0.out hb1⟩
 ·have hb : (at' == bt) = false := beq_no ht
  rw [decide_eq_false ht, Bool.false_and]
  go_enter Tryz.func22, Tryz.ntmps22
  go_wp2_with fail
  go_ret
  exact ⟨by first | rfl | simp [hb], HB0.out⟩
end Go.Proofs.YthanoilbcdhbkaaGreatDoor

namespace Go.Proofs.YthanoilbcdhbkaaGreatDoor.YM
open Go Go.Lib WM TM EM

theorem ixN_nth (s : List UInt8) (vs : List Vr) : ixN s vs = nth vs s := by
  induction vs with
  | nil => rfl
  | cons v l ih => rw [ixN, nth_cons, ih]
theorem ix_fix (vs : List Vr) (s : List UInt8) : ix vs s = fixI vs s := by unfold ix fixI; rw [ixN_nth]

/-! ### An instruction, by the program -/
def grtC (a : Int) : Int := if a = 1 then 9223372036854775807 else if a = 2 then 1000000000000 else if a = 3 then 1000000 else -1
def formB (k n i : Nat) (x : Ins) : Bool :=
  if x.1 ≠ 1 ∧ x.2.2 ≠ 0 then false
  else if x.1 = 1 then decide (0 ≤ x.2.2) && decide (x.2.2 ≤ grtC x.2.1)
  else if x.1 = 2 then decide (0 ≤ x.2.1) && decide (x.2.1 < k)
  else if x.1 = 3 then decide (5 ≤ x.2.1) && decide (x.2.1 ≤ 18)
  else (decide (x.1 = 4) || decide (x.1 = 5)) && (decide ((i : Int) < x.2.1) && decide (x.2.1 ≤ n))
def ar (o : Int) : Nat := if o = 9 ∨ o = 16 then 1 else 2
def opd (o : Int) (l : List Int) : Option (List Int) :=
  if l.length < ar o then none else (resO o (l.drop (l.length - ar o))).map fun t => l.take (l.length - ar o) ++ [t]
def leftO (vs : List Vr) (x : Ins) (l : List Int) : Option (List Int) :=
  if x.1 = 1 then some (l ++ [x.2.1])
  else if x.1 = 2 then some (l ++ [(vs.getD x.2.1.toNat ([], 0)).2])
  else if x.1 = 3 then opd x.2.1 l
  else if x.1 = 5 then (if l.getLast? = some 5 then some l.dropLast else none)
  else some l
def Fits (c : List Ins) : Prop := ∀ x ∈ c, x.2.2 ≤ 9223372036854775807
theorem aft_split {vs : List Vr} {n i : Nat} {x : Ins} {l : List Int} (hN : x.2.2 ≤ 9223372036854775807) : aft vs n i x l = if formB vs.length n i x then leftO vs x l else none := by
  unfold aft formB leftO
  by_cases h1 : x.1 = 1
  · have hc : ¬ (x.1 ≠ 1 ∧ x.2.2 ≠ 0) := fun h => h.1 h1
    simp only [if_pos h1, if_neg hc]
    unfold pushB grtC
    by_cases a1 : x.2.1 = 1
    · simp only [a1]
      simp [hN]
    · by_cases a2 : x.2.1 = 2
      · simp [a2]
      · by_cases a3 : x.2.1 = 3
        · simp [a3]
        · have : (decide (0 ≤ x.2.2) && decide (x.2.2 ≤ -1)) = false := by
            rw [Bool.and_eq_false_iff]
            by_cases h : 0 ≤ x.2.2
            · exact Or.inr (decide_eq_false (by omega))
            · exact Or.inl (decide_eq_false h)
          simp [a1, a2, a3]
          intro h; omega
  · simp only [if_neg h1]
    by_cases h0 : x.2.2 = 0
    · have hc : ¬ (x.1 ≠ 1 ∧ x.2.2 ≠ 0) := fun h => h.2 h0
      have hc2 : ¬ (x.2.2 ≠ 0) := fun h => h h0
      simp only [if_neg hc, if_neg hc2]
      by_cases h2 : x.1 = 2
      · simp only [if_pos h2, Bool.and_eq_true, decide_eq_true_eq]
      · simp only [if_neg h2]
        by_cases h3 : x.1 = 3
        · simp only [if_pos h3, Bool.and_eq_true, decide_eq_true_eq]
          unfold opd ar
          by_cases h4 : 5 ≤ x.2.1 ∧ x.2.1 ≤ 18
          · rw [if_pos h4, if_neg (by omega)]
          · rw [if_neg h4, if_pos (by omega)]
        · simp only [if_neg h3]
          by_cases h4 : x.1 = 4
          · simp [h4]
          · by_cases h5 : x.1 = 5
            · simp only [if_neg h4, if_pos h5, Bool.and_eq_true, Bool.or_eq_true, decide_eq_true_eq]
              by_cases hl : l.getLast? = some 5 <;> by_cases hb : (i : Int) < x.2.1 ∧ x.2.1 ≤ n <;> simp [hl, hb, h5]
            · simp [h4, h5]
    · have hc : x.1 ≠ 1 ∧ x.2.2 ≠ 0 := ⟨h1, h0⟩
      have hc2 : x.2.2 ≠ 0 := h0
      simp only [if_pos hc, if_pos hc2]
      simp

/-! ### The places -/
theorem meet_idem (s : St) (m : List Int) : meet (meet s m) m = meet s m := by
  unfold meet
  match s with
  | none => simp
  | some none => rfl
  | some (some l) => by_cases h : l = m <;> simp [h]
def stepP (x : Ins) (i : Nat) (m : List Int) (S : Nat → St) : Nat → St :=
  if x.1 = 4 then upd S x.2.1.toNat (meet (S x.2.1.toNat) m)
  else if x.1 = 5 then upd (upd S (i + 1) (meet (S (i + 1)) m)) x.2.1.toNat (meet ((upd S (i + 1) (meet (S (i + 1)) m)) x.2.1.toNat) m)
  else upd S (i + 1) (meet (S (i + 1)) m)
theorem step_same (x : Ins) (i : Nat) (m : List Int) (S : Nat → St) : stepP x i m S = step x i m S := by
  unfold stepP step
  by_cases h4 : x.1 = 4
  · rw [if_pos h4, if_pos h4]
  · rw [if_neg h4, if_neg h4]
    by_cases h5 : x.1 = 5
    · rw [if_pos h5, if_pos h5]
      funext j
      by_cases e : x.2.1.toNat = i + 1
      · rw [e]
      · by_cases a : j = x.2.1.toNat
        · subst a; rw [upd_same, upd_ne _ _ e, upd_ne _ _ e, upd_same]
        · by_cases b : j = i + 1
          · subst b; rw [upd_ne _ _ a, upd_same, upd_same, upd_ne _ _ (by omega)]
          · rw [upd_ne _ _ a, upd_ne _ _ b, upd_ne _ _ b, upd_ne _ _ a]
    · rw [if_neg h5, if_neg h5]
def goP (t : Int) (vs : List Vr) (c : List Ins) : Nat → Nat → (Nat → St) → Nat → Int × Int
  | 0, _, _, _ => (0, 9)
  | f + 1, i, S, d =>
    match S i with
    | some (some l) =>
      if c.length ≤ i then (if l = [t] then ((d : Int), 0) else (0, 9))
      else match aft vs c.length i (c.getD i (0, 0, 0)) l with
        | none => (0, 9)
        | some m => if 16 < m.length then (0, 5) else goP t vs c f (i + 1) (step (c.getD i (0, 0, 0)) i m S) (max d m.length)
    | _ => (0, 9)
theorem meet_len {s : St} {m l : List Int} (h : meet s m = some (some l)) : l = m ∨ s = some (some l) := by
  unfold meet at h
  match s, h with
  | none, h => cases h; exact Or.inl rfl
  | some none, h => cases h
  | some (some x), h =>
    by_cases e : x = m
    · simp only [if_pos e] at h; cases h; exact Or.inr rfl
    · simp only [if_neg e] at h; cases h
theorem meet_any (s : St) (m : List Int) : meet s m = some none ∨ meet s m = some (some m) := by
  unfold meet
  match s with
  | none => exact Or.inr rfl
  | some none => exact Or.inl rfl
  | some (some x) =>
    by_cases e : x = m
    · simp only [if_pos e]; exact Or.inr (by rw [e])
    · exact Or.inl (by simp only [if_neg e])
theorem upd_meet (S : Nat → St) (q : Nat) (m : List Int) (j : Nat) : upd S q (meet (S q) m) j = S j ∨ (upd S q (meet (S q) m) j = meet (S j) m ∧ j = q) := by
  by_cases h : j = q
  · subst h; exact Or.inr ⟨upd_same _ _ _, rfl⟩
  · exact Or.inl (upd_ne _ _ h)
theorem step_at (x : Ins) (i : Nat) (m : List Int) (S : Nat → St) (j : Nat) : step x i m S j = S j ∨ step x i m S j = meet (S j) m := by
  unfold step
  by_cases h4 : x.1 = 4
  · rw [if_pos h4]
    rcases upd_meet S x.2.1.toNat m j with h | ⟨h, _⟩
    · exact Or.inl h
    · exact Or.inr h
  · rw [if_neg h4]
    by_cases h5 : x.1 = 5
    · rw [if_pos h5]
      generalize hT : upd S x.2.1.toNat (meet (S x.2.1.toNat) m) = T
      have k : T j = S j ∨ T j = meet (S j) m := by
        rw [← hT]
        rcases upd_meet S x.2.1.toNat m j with h | ⟨h, _⟩
        · exact Or.inl h
        · exact Or.inr h
      rcases upd_meet T (i + 1) m j with h | ⟨h, _⟩
      · rw [h]; exact k
      · rw [h]
        rcases k with k | k
        · rw [k]; exact Or.inr rfl
        · rw [k, meet_idem]; exact Or.inr rfl
    · rw [if_neg h5]
      rcases upd_meet S (i + 1) m j with h | ⟨h, _⟩
      · exact Or.inl h
      · exact Or.inr h
theorem step_hits {vs : List Vr} {n i : Nat} {x : Ins} {l m : List Int} {S : Nat → St} (h : aft vs n i x l = some m) (hi : i < n) : ∃ j, i < j ∧ j ≤ n ∧ step x i m S j = meet (S j) m := by
  have hf := aft_form h
  unfold step
  by_cases h4 : x.1 = 4
  · rw [if_pos h4]
    unfold Form at hf
    refine ⟨x.2.1.toNat, by omega, by omega, upd_same _ _ _⟩
  · rw [if_neg h4]
    by_cases h5 : x.1 = 5
    · rw [if_pos h5]
      refine ⟨i + 1, by omega, by omega, ?_⟩
      rw [upd_same]
      rcases upd_meet S x.2.1.toNat m (i + 1) with h | ⟨h, _⟩
      · rw [h]
      · rw [h, meet_idem]
    · rw [if_neg h5]
      exact ⟨i + 1, by omega, by omega, upd_same _ _ _⟩
theorem go_any {t : Int} {vs : List Vr} {c : List Ins} : ∀ (f i : Nat) (S : Nat → St) (d d' : Nat), (go t vs c f i S d).2 ≠ 0 → go t vs c f i S d' = go t vs c f i S d := by
  intro f
  induction f with
  | zero => intro i S d d' _; rfl
  | succ f ihf =>
    intro i S d d' h
    rw [go] at h
    rw [go, go]
    split at h
    · rename_i l hl
      try rw [hl]
      try dsimp only
      by_cases q1 : c.length ≤ i
      · rw [if_pos q1] at h ⊢
        rw [if_pos q1]
        by_cases q2 : l = [t]
        · rw [if_pos q2] at h; exact absurd rfl h
        · rw [if_neg q2, if_neg q2]
      · rw [if_neg q1] at h ⊢
        rw [if_neg q1]
        split at h
        · rename_i q3; first | rfl | (rw [q3]; rfl) | rw [q3]
        · rename_i m q3
          try rw [q3]
          try dsimp only
          by_cases q4 : 16 < m.length
          · rw [if_pos q4, if_pos q4]
          · rw [if_neg q4] at h ⊢
            rw [if_neg q4]
            exact ihf _ _ _ _ h
    · rename_i hl
      first
      | rfl
      | (split
         · rename_i l q; exact absurd q (hl l)
         · rfl)
theorem go_bad {t : Int} {vs : List Vr} {c : List Ins} : ∀ (f i : Nat) (S : Nat → St) (d : Nat), c.length < i + f → (∃ j, i ≤ j ∧ j ≤ c.length ∧ S j = some none) → go t vs c f i S d = goP t vs c f i S d ∧ (go t vs c f i S d).2 ≠ 0 := by
  intro f
  induction f with
  | zero => intro i S d hf ⟨j, h1, h2, _⟩; omega
  | succ f ih =>
    intro i S d hf ⟨j, h1, h2, h3⟩
    rw [go, goP]
    cases hS : S i with
    | none => exact ⟨rfl, fun h => by cases h⟩
    | some s =>
      cases s with
      | none => exact ⟨rfl, fun h => by cases h⟩
      | some l =>
        dsimp only
        have hij : i ≠ j := by rintro rfl; rw [hS] at h3; cases h3
        rw [if_neg (by omega), if_neg (by omega)]
        cases ha : aft vs c.length i (c.getD i (0, 0, 0)) l with
        | none => exact ⟨rfl, fun h => by cases h⟩
        | some m =>
          dsimp only
          by_cases hm : 16 < m.length
          · rw [if_pos hm, if_pos hm]; exact ⟨rfl, fun h => by cases h⟩
          · rw [if_neg hm, if_neg hm]
            have hb : ∃ j, i + 1 ≤ j ∧ j ≤ c.length ∧ step (c.getD i (0, 0, 0)) i m S j = some none := by
              refine ⟨j, by omega, h2, ?_⟩
              rcases step_at (c.getD i (0, 0, 0)) i m S j with h | h
              · rw [h]; exact h3
              · rw [h, h3]; rfl
            have k1 := ih (i + 1) _ (max d l.length) (by omega) hb
            have k2 := ih (i + 1) (step (c.getD i (0, 0, 0)) i m S) (max d m.length) (by omega) hb
            refine ⟨?_, k1.2⟩
            rw [← go_any _ _ _ _ (max d m.length) k1.2]
            exact k2.1
theorem goP_eq {t : Int} {vs : List Vr} {c : List Ins} : ∀ (f i : Nat) (S : Nat → St) (d dp : Nat), c.length < i + f → i ≤ c.length → d ≤ dp → (∀ j l, i ≤ j → j ≤ c.length → S j = some (some l) → l.length ≤ dp) →
    (dp ≤ d ∨ ∃ j, i ≤ j ∧ j ≤ c.length ∧ (S j = some none ∨ ∃ l, S j = some (some l) ∧ l.length = dp)) → goP t vs c f i S dp = go t vs c f i S d := by
  intro f
  induction f with
  | zero => intro i S d dp hf hi; omega
  | succ f ih =>
    intro i S d dp hf hi hd hA hE
    by_cases hbad : ∃ j, i ≤ j ∧ j ≤ c.length ∧ S j = some none
    · have k := go_bad (t := t) (vs := vs) (c := c) (f + 1) i S d hf hbad
      have k2 := go_bad (t := t) (vs := vs) (c := c) (f + 1) i S dp hf hbad
      rw [← k2.1]
      exact go_any _ _ _ _ _ k.2
    · rw [go, goP]
      cases hS : S i with
      | none => rfl
      | some s =>
        cases s with
        | none => rfl
        | some l =>
          dsimp only
          have hl := hA i l (Nat.le_refl _) hi hS
          by_cases hend : c.length ≤ i
          · rw [if_pos hend, if_pos hend]
            have hdp : dp = max d l.length := by
              rcases hE with h | ⟨j, h1, h2, h3⟩
              · omega
              · obtain rfl : j = i := by omega
                rcases h3 with h3 | ⟨l', h3, h4⟩
                · rw [hS] at h3; cases h3
                · rw [hS] at h3; cases h3; omega
            rw [hdp]
          · rw [if_neg hend, if_neg hend]
            cases ha : aft vs c.length i (c.getD i (0, 0, 0)) l with
            | none => rfl
            | some m =>
              dsimp only
              by_cases hm : 16 < m.length
              · rw [if_pos hm, if_pos hm]
              · rw [if_neg hm, if_neg hm]
                refine ih (i + 1) _ (max d l.length) (max dp m.length) (by omega) (by omega) (by omega) ?_ ?_
                · intro j l' h1 h2 h3
                  rcases step_at (c.getD i (0, 0, 0)) i m S j with h | h
                  · rw [h] at h3; have := hA j l' (by omega) h2 h3; omega
                  · rw [h] at h3
                    rcases meet_len h3 with rfl | h3
                    · omega
                    · have := hA j l' (by omega) h2 h3; omega
                · by_cases hmd : dp < m.length
                  · obtain ⟨j, h1, h2, h3⟩ := step_hits (S := S) ha (by omega)
                    refine Or.inr ⟨j, by omega, h2, ?_⟩
                    rcases meet_any (S j) m with h | h
                    · exact Or.inl (by rw [h3, h])
                    · exact Or.inr ⟨m, by rw [h3, h], by omega⟩
                  · rcases hE with h | ⟨j, h1, h2, h3⟩
                    · exact Or.inl (by omega)
                    · by_cases hj : j = i
                      · subst hj
                        rcases h3 with h3 | ⟨l', h3, h4⟩
                        · rw [hS] at h3; cases h3
                        · rw [hS] at h3; cases h3; exact Or.inl (by omega)
                      · refine Or.inr ⟨j, by omega, h2, ?_⟩
                        rcases h3 with h3 | ⟨l', h3, h4⟩
                        · exact absurd ⟨j, h1, h2, h3⟩ hbad
                        · rcases step_at (c.getD i (0, 0, 0)) i m S j with h | h
                          · exact Or.inr ⟨l', by rw [h, h3], by omega⟩
                          · rw [h, h3]
                            unfold meet
                            by_cases e : l' = m
                            · exact Or.inr ⟨l', by simp only [if_pos e], by omega⟩
                            · exact Or.inl (by simp only [if_neg e])
def runP (t : Int) (vs : List Vr) (c : List Ins) : Int × Int :=
  if 128 < c.length then (0, 5) else if vsE vs ≠ 0 then (0, vsE vs) else goP t vs c (c.length + 1) 0 S0 0
theorem runP_eq (t : Int) (vs : List Vr) (c : List Ins) : runP t vs c = runC t vs c := by
  unfold runP runC
  rw [goP_eq (c.length + 1) 0 S0 0 0 (by omega) (by omega) (Nat.le_refl _) ?_ (Or.inl (Nat.le_refl _))]
  intro j l _ _ h
  unfold S0 at h
  by_cases e : j = 0
  · subst e; rw [upd_same] at h; cases h; simp
  · rw [upd_ne _ _ e] at h; cases h
end Go.Proofs.YthanoilbcdhbkaaGreatDoor.YM
