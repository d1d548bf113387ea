/-
  Merged: The parser: where it lies; next, sees, accepts, begins, fail, requires. The parser: sees, accepts, begins, fail, requires.
-/
import Derived.Test.YtplkphihmfhciaaGreatDoorMP
/- The parser: where it lies; next, sees, accepts, begins, fail, requires. -/
namespace Go.Proofs.YtplkphihmfhciaaGreatDoor
open Go Go.RowKit Go.Lib Go.Shelf WM TM EM

structure Kp (pb : Nat) (W W' : World) : Prop where
 os : W'.os = W.os
 tape : W'.tape = W.tape
 output : W'.output = W.output
 size : W.heap.size ≤ W'.heap.size
 keeps : ∀ q, q < W.heap.size → q ≠ pb → W'.heap[q]? = W.heap[q]?
theorem Kp.refl (pb : Nat) (W : World) : Kp pb W W := ⟨rfl, rfl, rfl, Nat.le_refl _, fun _ _ _ => rfl⟩
theorem Kp.trans {pb : Nat} {A B C : World} (h : Kp pb A B) (k : Kp pb B C) : Kp pb A C :=
 ⟨k.os.trans h.os, k.tape.trans h.tape, k.output.trans h.output, Nat.le_trans h.size k.size, fun q hq hp => (k.keeps q (Nat.lt_of_lt_of_le hq h.size) hp).trans (h.keeps q hq hp)⟩
theorem Kp.of_below {pb : Nat} {W W' : World} (h : Below W.heap.size W W') : Kp pb W W' :=
 ⟨h.os, h.tape, h.output, h.size, fun q hq _ => h.block q hq⟩
theorem Kp.below {pb n : Nat} {w W W' : World} (h : Kp pb W W') (hb : Below n w W) (hn : n ≤ w.heap.size) (hp : n ≤ pb) : Below n w W' :=
 ⟨h.os.trans hb.os, h.tape.trans hb.tape, h.output.trans hb.output, Nat.le_trans hb.size h.size, fun q hq => (h.keeps q (by have := hb.size; omega) (by omega)).trans (hb.block q hq)⟩
theorem Kp.cell {pb : Nat} {W W' : World} (h : Kp pb W W') {p : Addr} {x : Value} (hp : p.block ≠ pb) (hc : W.cell? p = some x) : W'.cell? p = some x :=
 (World.cell?_of_block (h.keeps p.block (World.block_lt_of_cell? W _ hc) hp)).trans hc
theorem Kp.set (pb : Nat) (W : World) (j : Nat) (v : Value) : Kp pb W (W.setCell ⟨pb, j, none⟩ v) :=
 have h := (Below.refl pb W).setCell (p := ⟨pb, j, none⟩) (Nat.le_refl _) v
 ⟨h.os, h.tape, h.output, h.size, fun q _ hp => Below.heap_setCell W ⟨pb, j, none⟩ v q (show q ≠ pb from hp)⟩
mutual
theorem In1.kp {pb : Nat} {W W' : World} (hi : ∀ j, 2 ≤ j → W.cell? ⟨pb, j, none⟩ = none) (k : Kp pb W W') : ∀ (e : Ex) (so : Option Addr), In1 W e so → In1 W' e so
 | .mk _ _ _ a, so => fun h => InL.kp hi k a so 0 h
theorem InL.kp {pb : Nat} {W W' : World} (hi : ∀ j, 2 ≤ j → W.cell? ⟨pb, j, none⟩ = none) (k : Kp pb W W') : ∀ (l : List Ex) (ao : Option Addr) (i : Nat), InL W l ao i → InL W' l ao i
 | [], _, _ => fun _ => trivial
 | e :: l, ao, i => fun h => by
  obtain ⟨⟨b, off, so, cap, h1, h2, h3, h4, h5, h6, h7, h8⟩, h9⟩ := h
  have hne : b ≠ pb := by
   intro hb
   subst hb
   rw [hi _ (by omega)] at h6
   cases h6
  exact ⟨⟨b, off, so, cap, h1, by have := k.size; omega, k.cell hne h3, k.cell hne h4, k.cell hne h5, k.cell hne h6, In1.kp hi k e so h7, h8⟩, InL.kp hi k l ao (i + 1) h9⟩
end
theorem ExprsAt.kp {pb : Nat} {W W' : World} {ao : Option Addr} {l : List Ex} (h : ExprsAt ao l W) (hi : ∀ j, 2 ≤ j → W.cell? ⟨pb, j, none⟩ = none) (k : Kp pb W W') : ExprsAt ao l W' := InL.kp hi k l ao 0 h

def Es (w : World) : Prop := ∃ tp p, w.var? Tryz.prog "strconv.ErrSyntax" = some #[.iface tp p]
theorem gEs : ∃ g, Tryz.prog.globalNamed "strconv.ErrSyntax" = some g := ⟨4, by kernel_rfl⟩
theorem Es.keep {w w' : World} (h : Es w) (hb : Below w.heap.size w w') : Es w' := by
 obtain ⟨tp, p, h⟩ := h
 obtain ⟨g, hg⟩ := gEs
 refine ⟨tp, p, ?_⟩
 unfold World.var? at *
 rw [hg] at h ⊢
 simp only [Option.bind_some] at h ⊢
 have hlt : g < w.heap.size := by
  rcases Nat.lt_or_ge g w.heap.size with c | c
  ·exact c
  ·rw [Array.getElem?_eq_none c] at h; simp at h
 rw [hb.block _ hlt]
 exact h
structure Ga (wb : World) (pb : Nat) (ao : Option Addr) (c : Nat) (l : List Tok) : Prop where
 gf : Gf wb
 es : Es wb
 tok : TokensAt ao l wb
 up : wb.heap.size ≤ pb
 len : l.length ≤ 1000000
 txt : ∀ t ∈ l, t.2.2.length ≤ 1000000
structure Pa (wb : World) (pb : Nat) (ao : Option Addr) (c : Nat) (l : List Tok) (k : Nat) (W : World) : Prop where
 b : Below wb.heap.size wb W
 c0 : W.cell? ⟨pb, 0, none⟩ = some (.slice ao l.length c)
 c1 : W.cell? ⟨pb, 1, none⟩ = some (.int .i64 (k : Int))
 fr : W.frozen? ⟨pb, 1, none⟩ = false
 hi : ∀ j, 2 ≤ j → W.cell? ⟨pb, j, none⟩ = none
 le : k ≤ l.length
theorem Pa.lt {wb : World} {pb : Nat} {ao : Option Addr} {c : Nat} {l : List Tok} {k : Nat} {W : World} (h : Pa wb pb ao c l k W) : pb < W.heap.size := World.block_lt_of_cell? W _ h.c0
theorem Pa.keep {wb : World} {pb : Nat} {ao : Option Addr} {c : Nat} {l : List Tok} {k : Nat} {W W' : World} (h : Pa wb pb ao c l k W) (hb : Below W.heap.size W W') : Pa wb pb ao c l k W' :=
 have hs : W'.heap[pb]? = W.heap[pb]? := hb.block pb h.lt
 ⟨h.b.trans (hb.mono h.b.size), keepc hb h.c0, keepc hb h.c1, keepf hb h.c1 h.fr, fun j hj => (World.cell?_of_block (a := ⟨pb, j, none⟩) hs).trans (h.hi j hj), h.le⟩
theorem Pa.step {wb : World} {pb : Nat} {ao : Option Addr} {c : Nat} {l : List Tok} {k : Nat} {W : World} (h : Pa wb pb ao c l k W) (hp : wb.heap.size ≤ pb) (hk : k < l.length) : Pa wb pb ao c l (k + 1) (W.setCell ⟨pb, 1, none⟩ (.int .i64 ((k + 1 : Nat) : Int))) := by
 refine ⟨(Kp.set pb W 1 _).below h.b (Nat.le_refl _) hp, ?_, World.cell?_setCell_same' _ _ _ (by rw [h.c1]; rfl), by rw [World.frozen?_setCell]; exact h.fr, fun j hj => ?_, hk⟩
 ·exact (World.cell?_setCell_other _ _ _ _ (by simp)).trans h.c0
 ·exact (World.cell?_setCell_other _ _ _ _ (by intro e; injection e with _ e2; omega)).trans (h.hi j hj)
theorem Ga.at {wb : World} {pb : Nat} {ao : Option Addr} {c : Nat} {l : List Tok} (g : Ga wb pb ao c l) {k : Nat} {W : World} (hb : Below wb.heap.size wb W) (hk : k < l.length) : ∃ b off, ao = some ⟨b, off, none⟩ ∧
  W.cell? ⟨b, off + k * 3, none⟩ = some (.int .i64 (l.getD k T0).1) ∧ W.cell? ⟨b, off + k * 3 + 1, none⟩ = some (.int .i64 (l.getD k T0).2.1) ∧ W.cell? ⟨b, off + k * 3 + 2, none⟩ = some (.string (str (l.getD k T0).2.2)) := by
 obtain ⟨b, off, e, _, c1, c2, c3⟩ := g.tok k hk
 exact ⟨b, off, e, keepc hb c1, keepc hb c2, keepc hb c3⟩
def tv (t : Tok) : Value := .agg #[.int .i64 t.1, .int .i64 t.2.1, .string (str t.2.2)]

set_option maxRecDepth 100000 in
set_option maxHeartbeats 4000000 in
theorem mnext (wb : World) (pb : Nat) (ao : Option Addr) (c : Nat) (l : List Tok) (g : Ga wb pb ao c l) (k : Nat) (w : World) (h : Pa wb pb ao c l k w) :
  Calls Tryz.prog 102 #[.pointer (some ⟨pb, 0, none⟩)] w fun r w' => r = .returned (tv (l.getD k T0)) ∧ Below w.heap.size w w' := by
 have hle := g.len
 have hp := h.keep (bal (bref w) (.cells #[.int .i64 0, .int .i64 0, .string ⟨#[]⟩] 44))
 have c0 := hp.c0
 have c1 := hp.c1
 have b0 := h.c0
 have b1 := h.c1
 have HP := Lib.hid hp
 have HG := Lib.hid g
 by_cases hk : k < l.length
 ·have hne : ((k : Int) == ((l.length : Nat) : Int)) = false := by rw [beq_eq_false_iff_ne]; omega
  have hne' : ¬ ((k : Int) = ((l.length : Nat) : Int)) := by omega
  obtain ⟨b, off, rfl, s1, s2, s3⟩ := g.at h.b hk
  generalize hT : l.getD k T0 = T at s1 s2 s3 ⊢
  clear h hp g
  go_enter Tryz.func102, Tryz.ntmps102
  go_wp2_with fail
  obtain ⟨u0, hu0⟩ : ∃ u0, w.alloc (.cells #[.int .i64 0, .int .i64 0, .string ⟨#[]⟩] 44) = u0 := ⟨_, rfl⟩
  have hbu : Below w.heap.size w u0 := by rw [← hu0]; exact bal (bref _) _
  have n1 : u0.cell? ⟨w.heap.size, 0, none⟩ = some (.int .i64 0) := by rw [← hu0]; simp [go_sem]
  have n2 : u0.cell? ⟨w.heap.size, 1, none⟩ = some (.int .i64 0) := by rw [← hu0]; simp [go_sem]
  have n3 : u0.cell? ⟨w.heap.size, 2, none⟩ = some (.string ⟨#[]⟩) := by rw [← hu0]; simp [go_sem]
  have n4 : ∀ j, u0.frozen? ⟨w.heap.size, j, none⟩ = false := by intro j; rw [← hu0]; simp [go_sem]
  have HBU := Lib.hid hbu
  simp only [hu0] at *
  clear hu0 hbu
  refine wp_region_held_drew (S := (fun W => Below u0.heap.size u0 W)) (by kernel_rfl) (bdr (bref _)) (fun hH0 => ?_)
  refine wpAnyH_take (i := 0) (oi := _) (v := ?_) rfl (by kernel_rfl) (by kernel_rfl) (by kernel_rfl) (fun _ _ _ h => h) (Or.inl ⟨?_, ?_⟩) hH0 ?_
  rotate_left
  ·kernel_rfl
  ·(intro W' hSw; have f0 := keepc hSw c0; have f1 := keepc hSw c1; go_simp; (try with_reducible rfl))
  (try simp only [List.getElem_toArray])
  (try simp only [List.getElem_cons_succ])
  (try simp only [List.getElem_cons_zero])
  (try simp only [Act.put])
  (try simp only [List.setIfInBounds_toArray])
  (try simp only [List.set_cons_succ])
  (try simp only [List.set_cons_zero])
  refine wpAnyH_take (i := 1) (oi := _) (v := ?_) rfl (by kernel_rfl) (by kernel_rfl) (by kernel_rfl) (fun _ _ _ h => h) (Or.inl ⟨?_, ?_⟩) hH0 ?_
  rotate_left
  ·kernel_rfl
  ·(intro W' hSw; have f0 := keepc hSw c0; have f1 := keepc hSw c1; go_simp; (try with_reducible rfl))
  (try simp only [List.getElem_toArray])
  (try simp only [List.getElem_cons_succ])
  (try simp only [List.getElem_cons_zero])
  (try simp only [Act.put])
  (try simp only [List.setIfInBounds_toArray])
  (try simp only [List.set_cons_succ])
  (try simp only [List.set_cons_zero])
  refine wpAnyH_take (i := 2) (oi := _) (v := ?_) rfl (by kernel_rfl) (by kernel_rfl) (by kernel_rfl) (fun _ _ _ h => h) (Or.inl ⟨?_, ?_⟩) hH0 ?_
  rotate_left
  ·kernel_rfl
  ·(intro W' hSw; have f0 := keepc hSw c0; have f1 := keepc hSw c1; go_simp; (try with_reducible rfl))
  (try simp only [List.getElem_toArray])
  (try simp only [List.getElem_cons_succ])
  (try simp only [List.getElem_cons_zero])
  (try simp only [Act.put])
  (try simp only [List.setIfInBounds_toArray])
  (try simp only [List.set_cons_succ])
  (try simp only [List.set_cons_zero])
  refine wpAnyH_take (i := 3) (oi := _) (v := ?_) rfl (by kernel_rfl) (by kernel_rfl) (by kernel_rfl) (fun _ _ _ h => h) (Or.inl ⟨?_, ?_⟩) hH0 ?_
  rotate_left
  ·kernel_rfl
  ·(intro W' hSw; have f0 := keepc hSw c0; have f1 := keepc hSw c1; go_simp; (try with_reducible rfl))
  (try simp only [List.getElem_toArray])
  (try simp only [List.getElem_cons_succ])
  (try simp only [List.getElem_cons_zero])
  (try simp only [Act.put])
  (try simp only [List.setIfInBounds_toArray])
  (try simp only [List.set_cons_succ])
  (try simp only [List.set_cons_zero])
  refine wpAnyH_take (i := 4) (oi := _) (v := ?_) rfl (by kernel_rfl) (by kernel_rfl) (by kernel_rfl) (fun _ _ _ h => h) (Or.inl ⟨?_, ?_⟩) hH0 ?_
  rotate_left
  ·kernel_rfl
  ·(intro W' hSw; have f0 := keepc hSw c0; have f1 := keepc hSw c1; go_simp; (try with_reducible rfl))
  (try simp only [List.getElem_toArray])
  (try simp only [List.getElem_cons_succ])
  (try simp only [List.getElem_cons_zero])
  (try simp only [Act.put])
  (try simp only [List.setIfInBounds_toArray])
  (try simp only [List.set_cons_succ])
  (try simp only [List.set_cons_zero])
  refine wpAnyH_take (i := 5) (oi := _) (v := ?_) rfl (by kernel_rfl) (by kernel_rfl) (by kernel_rfl) (fun _ _ _ h => h) (Or.inl ⟨?_, ?_⟩) hH0 ?_
  rotate_left
  ·kernel_rfl
  ·(intro W' hSw; have f0 := keepc hSw c0; have f1 := keepc hSw c1; go_simp; (try with_reducible rfl))
  (try simp only [List.getElem_toArray])
  (try simp only [List.getElem_cons_succ])
  (try simp only [List.getElem_cons_zero])
  (try simp only [Act.put])
  (try simp only [List.setIfInBounds_toArray])
  (try simp only [List.set_cons_succ])
  (try simp only [List.set_cons_zero])
  refine wpAnyH_take (i := 6) (oi := _) (v := ?_) rfl (by kernel_rfl) (by kernel_rfl) (by kernel_rfl) (fun _ _ _ h => h) (Or.inl ⟨?_, ?_⟩) hH0 ?_
  rotate_left
  ·kernel_rfl
  ·(intro W' hSw; have f0 := keepc hSw c0; have f1 := keepc hSw c1; go_simp; (try with_reducible rfl))
  (try simp only [List.getElem_toArray])
  (try simp only [List.getElem_cons_succ])
  (try simp only [List.getElem_cons_zero])
  (try simp only [Act.put])
  (try simp only [List.setIfInBounds_toArray])
  (try simp only [List.set_cons_succ])
  (try simp only [List.set_cons_zero])
  refine wpAnyH_take (i := 7) (oi := _) (v := ?_) rfl (by kernel_rfl) (by kernel_rfl) (by kernel_rfl) (fun _ _ _ h => h) (Or.inl ⟨?_, ?_⟩) hH0 ?_
  rotate_left
  ·kernel_rfl
  ·(intro W' hSw; have f0 := keepc hSw c0; have f1 := keepc hSw c1; go_simp; (try with_reducible rfl))
  (try simp only [List.getElem_toArray])
  (try simp only [List.getElem_cons_succ])
  (try simp only [List.getElem_cons_zero])
  (try simp only [Act.put])
  (try simp only [List.setIfInBounds_toArray])
  (try simp only [List.set_cons_succ])
  (try simp only [List.set_cons_zero])
  refine wpAnyH_take (i := 8) (oi := _) (v := ?_) rfl (by kernel_rfl) (by kernel_rfl) (by kernel_rfl) (fun _ _ _ h => h) (Or.inl ⟨?_, ?_⟩) hH0 ?_
  rotate_left
  ·kernel_rfl
  ·(intro W' hSw; have f0 := keepc hSw c0; have f1 := keepc hSw c1; go_simp; (try with_reducible rfl))
  (try simp only [List.getElem_toArray])
  (try simp only [List.getElem_cons_succ])
  (try simp only [List.getElem_cons_zero])
  (try simp only [Act.put])
  (try simp only [List.setIfInBounds_toArray])
  (try simp only [List.set_cons_succ])
  (try simp only [List.set_cons_zero])
  refine wpAnyH_take (i := 9) (oi := _) (v := ?_) rfl (by kernel_rfl) (by kernel_rfl) (by kernel_rfl) (fun _ _ _ h => h) (Or.inl ⟨?_, ?_⟩) hH0 ?_
  rotate_left
  ·kernel_rfl
  ·(intro W' hSw; have f0 := keepc hSw c0; have f1 := keepc hSw c1; go_simp; (try with_reducible rfl))
  (try simp only [List.getElem_toArray])
  (try simp only [List.getElem_cons_succ])
  (try simp only [List.getElem_cons_zero])
  (try simp only [Act.put])
  (try simp only [List.setIfInBounds_toArray])
  (try simp only [List.set_cons_succ])
  (try simp only [List.set_cons_zero])
  refine wpAnyH_done (by kernel_rfl) ?_ _
  clear hH0
  go_wp2_with fail
  refine wp_region_held_drew (S := (fun W => Below w.heap.size w W)) (by kernel_rfl) (bdr (bdr HBU.out)) (fun hH0 => ?_)
  refine wpAnyH_take (i := 0) (oi := _) (v := ?_) rfl (by kernel_rfl) (by kernel_rfl) (by kernel_rfl) (fun _ _ _ h => h) (Or.inl ⟨?_, ?_⟩) hH0 ?_
  rotate_left
  ·kernel_rfl
  ·(intro W' hSw; have f0 := keepc hSw b0; have f1 := keepc hSw b1; have f2 := keepc hSw s1; have f3 := keepc hSw s2; have f4 := keepc hSw s3; go_simp; (try with_reducible rfl))
  (try simp only [List.getElem_toArray])
  (try simp only [List.getElem_cons_succ])
  (try simp only [List.getElem_cons_zero])
  (try simp only [Act.put])
  (try simp only [List.setIfInBounds_toArray])
  (try simp only [List.set_cons_succ])
  (try simp only [List.set_cons_zero])
  refine wpAnyH_take (i := 1) (oi := _) (v := ?_) rfl (by kernel_rfl) (by kernel_rfl) (by kernel_rfl) (fun _ _ _ h => h) (Or.inl ⟨?_, ?_⟩) hH0 ?_
  rotate_left
  ·kernel_rfl
  ·(intro W' hSw; have f0 := keepc hSw b0; have f1 := keepc hSw b1; have f2 := keepc hSw s1; have f3 := keepc hSw s2; have f4 := keepc hSw s3; go_simp; (try with_reducible rfl))
  (try simp only [List.getElem_toArray])
  (try simp only [List.getElem_cons_succ])
  (try simp only [List.getElem_cons_zero])
  (try simp only [Act.put])
  (try simp only [List.setIfInBounds_toArray])
  (try simp only [List.set_cons_succ])
  (try simp only [List.set_cons_zero])
  refine wpAnyH_take (i := 2) (oi := _) (v := ?_) rfl (by kernel_rfl) (by kernel_rfl) (by kernel_rfl) (fun _ _ _ h => h) (Or.inl ⟨?_, ?_⟩) hH0 ?_
  rotate_left
  ·kernel_rfl
  ·(intro W' hSw; have f0 := keepc hSw b0; have f1 := keepc hSw b1; have f2 := keepc hSw s1; have f3 := keepc hSw s2; have f4 := keepc hSw s3; go_simp; (try with_reducible rfl))
  (try simp only [List.getElem_toArray])
  (try simp only [List.getElem_cons_succ])
  (try simp only [List.getElem_cons_zero])
  (try simp only [Act.put])
  (try simp only [List.setIfInBounds_toArray])
  (try simp only [List.set_cons_succ])
  (try simp only [List.set_cons_zero])
  refine wpAnyH_take (i := 3) (oi := _) (v := ?_) rfl (by kernel_rfl) (by kernel_rfl) (by kernel_rfl) (fun _ _ _ h => h) (Or.inl ⟨?_, ?_⟩) hH0 ?_
  rotate_left
  ·kernel_rfl
  ·(intro W' hSw; have f0 := keepc hSw b0; have f1 := keepc hSw b1; have f2 := keepc hSw s1; have f3 := keepc hSw s2; have f4 := keepc hSw s3; go_simp; (try with_reducible rfl))
  (try simp only [List.getElem_toArray])
  (try simp only [List.getElem_cons_succ])
  (try simp only [List.getElem_cons_zero])
  (try simp only [Act.put])
  (try simp only [List.setIfInBounds_toArray])
  (try simp only [List.set_cons_succ])
  (try simp only [List.set_cons_zero])
  refine wpAnyH_take (i := 4) (oi := _) (v := ?_) rfl (by kernel_rfl) (by kernel_rfl) (by kernel_rfl) (fun _ _ _ h => h) (Or.inl ⟨?_, ?_⟩) hH0 ?_
  rotate_left
  ·kernel_rfl
  ·(intro W' hSw; have f0 := keepc hSw b0; have f1 := keepc hSw b1; have f2 := keepc hSw s1; have f3 := keepc hSw s2; have f4 := keepc hSw s3; go_simp; (try with_reducible rfl))
  (try simp only [List.getElem_toArray])
  (try simp only [List.getElem_cons_succ])
  (try simp only [List.getElem_cons_zero])
  (try simp only [Act.put])
  (try simp only [List.setIfInBounds_toArray])
  (try simp only [List.set_cons_succ])
  (try simp only [List.set_cons_zero])
  refine wpAnyH_take (i := 5) (oi := _) (v := ?_) rfl (by kernel_rfl) (by kernel_rfl) (by kernel_rfl) (fun _ _ _ h => h) (Or.inl ⟨?_, ?_⟩) hH0 ?_
  rotate_left
  ·kernel_rfl
  ·(intro W' hSw; have f0 := keepc hSw b0; have f1 := keepc hSw b1; have f2 := keepc hSw s1; have f3 := keepc hSw s2; have f4 := keepc hSw s3; go_simp; (try with_reducible rfl))
  (try simp only [List.getElem_toArray])
  (try simp only [List.getElem_cons_succ])
  (try simp only [List.getElem_cons_zero])
  (try simp only [Act.put])
  (try simp only [List.setIfInBounds_toArray])
  (try simp only [List.set_cons_succ])
  (try simp only [List.set_cons_zero])
  refine wpAnyH_take (i := 6) (oi := _) (v := ?_) rfl (by kernel_rfl) (by kernel_rfl) (by kernel_rfl) (fun _ _ _ h => h) (Or.inl ⟨?_, ?_⟩) hH0 ?_
  rotate_left
  ·kernel_rfl
  ·(intro W' hSw; have f0 := keepc hSw b0; have f1 := keepc hSw b1; have f2 := keepc hSw s1; have f3 := keepc hSw s2; have f4 := keepc hSw s3; go_simp; (try with_reducible rfl))
  (try simp only [List.getElem_toArray])
  (try simp only [List.getElem_cons_succ])
  (try simp only [List.getElem_cons_zero])
  (try simp only [Act.put])
  (try simp only [List.setIfInBounds_toArray])
  (try simp only [List.set_cons_succ])
  (try simp only [List.set_cons_zero])
  refine wpAnyH_take (i := 7) (oi := _) (v := ?_) rfl (by kernel_rfl) (by kernel_rfl) (by kernel_rfl) (fun _ _ _ h => h) (Or.inl ⟨?_, ?_⟩) hH0 ?_
  rotate_left
  ·kernel_rfl
  ·(intro W' hSw; have f0 := keepc hSw b0; have f1 := keepc hSw b1; have f2 := keepc hSw s1; have f3 := keepc hSw s2; have f4 := keepc hSw s3; go_simp; (try with_reducible rfl))
  (try simp only [List.getElem_toArray])
  (try simp only [List.getElem_cons_succ])
  (try simp only [List.getElem_cons_zero])
  (try simp only [Act.put])
  (try simp only [List.setIfInBounds_toArray])
  (try simp only [List.set_cons_succ])
  (try simp only [List.set_cons_zero])
  refine wpAnyH_take (i := 8) (oi := _) (v := ?_) rfl (by kernel_rfl) (by kernel_rfl) (by kernel_rfl) (fun _ _ _ h => h) (Or.inl ⟨?_, ?_⟩) hH0 ?_
  rotate_left
  ·kernel_rfl
  ·(intro W' hSw; have f0 := keepc hSw b0; have f1 := keepc hSw b1; have f2 := keepc hSw s1; have f3 := keepc hSw s2; have f4 := keepc hSw s3; go_simp; (try with_reducible rfl))
  (try simp only [List.getElem_toArray])
  (try simp only [List.getElem_cons_succ])
  (try simp only [List.getElem_cons_zero])
  (try simp only [Act.put])
  (try simp only [List.setIfInBounds_toArray])
  (try simp only [List.set_cons_succ])
  (try simp only [List.set_cons_zero])
  refine wpAnyH_take (i := 9) (oi := _) (v := ?_) rfl (by kernel_rfl) (by kernel_rfl) (by kernel_rfl) (fun _ _ _ h => h) (Or.inl ⟨?_, ?_⟩) hH0 ?_
  rotate_left
  ·kernel_rfl
  ·(intro W' hSw; have f0 := keepc hSw b0; have f1 := keepc hSw b1; have f2 := keepc hSw s1; have f3 := keepc hSw s2; have f4 := keepc hSw s3; go_simp; (try with_reducible rfl))
  (try simp only [List.getElem_toArray])
  (try simp only [List.getElem_cons_succ])
  (try simp only [List.getElem_cons_zero])
  (try simp only [Act.put])
  (try simp only [List.setIfInBounds_toArray])
  (try simp only [List.set_cons_succ])
  (try simp only [List.set_cons_zero])
  refine wpAnyH_ready (rs := [10]) (by kernel_rfl) (by simp) ?_
  refine AllReadyH.cons (o := _) rfl (fun K hK => ?_) AllReadyH.nil
  have m1 := keepc (bdr (bdr (bref u0))) n1
  have m2 := keepc (bdr (bdr (bref u0))) n2
  have m3 := keepc (bdr (bdr (bref u0))) n3
  have m4 := n4
  go_simp
  refine hK.out _ _ (bdr (bdr (((HBU.out.setCell (p := ⟨w.heap.size, 0, none⟩) (Nat.le_refl _) _).setCell (p := ⟨w.heap.size, 1, none⟩) (Nat.le_refl _) _).setCell (p := ⟨w.heap.size, 2, none⟩) (Nat.le_refl _) _))) (fun hH1 => ?_)
  clear hK K
  (try simp only [List.getElem_toArray])
  (try simp only [List.getElem_cons_succ])
  (try simp only [List.getElem_cons_zero])
  (try simp only [Act.put])
  (try simp only [List.setIfInBounds_toArray])
  (try simp only [List.set_cons_succ])
  (try simp only [List.set_cons_zero])
  refine wpAnyH_done (by kernel_rfl) ?_ _
  go_wp2_with fail
  refine bodyPost_ret (by simp [results, Tryz.results102, go_sem, n1, n2, n3]; rfl) rfl ?_
  exact ⟨rfl, by repeat (first | exact HBU.out | refine bdr ?_ | refine Below.setCell ?_ (by exact Nat.le_refl _) _)⟩
 ·have hk' : k = l.length := by have := h.le; omega
  have hT : l.getD k T0 = T0 := by rw [List.getD_eq_getElem?_getD, List.getElem?_eq_none (by omega)]; rfl
  have hne : ((k : Int) == ((l.length : Nat) : Int)) = true := by rw [beq_iff_eq]; omega
  have hne' : ((k : Int) = ((l.length : Nat) : Int)) := by omega
  rw [hT]
  clear h hp g hT
  go_enter Tryz.func102, Tryz.ntmps102
  go_wp2_with fail
  obtain ⟨u0, hu0⟩ : ∃ u0, w.alloc (.cells #[.int .i64 0, .int .i64 0, .string ⟨#[]⟩] 44) = u0 := ⟨_, rfl⟩
  have hbu : Below w.heap.size w u0 := by rw [← hu0]; exact bal (bref _) _
  have n1 : u0.cell? ⟨w.heap.size, 0, none⟩ = some (.int .i64 0) := by rw [← hu0]; simp [go_sem]
  have n2 : u0.cell? ⟨w.heap.size, 1, none⟩ = some (.int .i64 0) := by rw [← hu0]; simp [go_sem]
  have n3 : u0.cell? ⟨w.heap.size, 2, none⟩ = some (.string ⟨#[]⟩) := by rw [← hu0]; simp [go_sem]
  have n4 : ∀ j, u0.frozen? ⟨w.heap.size, j, none⟩ = false := by intro j; rw [← hu0]; simp [go_sem]
  have HBU := Lib.hid hbu
  simp only [hu0] at *
  clear hu0 hbu
  refine wp_region_held_drew (S := (fun W => Below u0.heap.size u0 W)) (by kernel_rfl) (bdr (bref _)) (fun hH0 => ?_)
  refine wpAnyH_take (i := 0) (oi := _) (v := ?_) rfl (by kernel_rfl) (by kernel_rfl) (by kernel_rfl) (fun _ _ _ h => h) (Or.inl ⟨?_, ?_⟩) hH0 ?_
  rotate_left
  ·kernel_rfl
  ·(intro W' hSw; have f0 := keepc hSw c0; have f1 := keepc hSw c1; go_simp; (try with_reducible rfl))
  (try simp only [List.getElem_toArray])
  (try simp only [List.getElem_cons_succ])
  (try simp only [List.getElem_cons_zero])
  (try simp only [Act.put])
  (try simp only [List.setIfInBounds_toArray])
  (try simp only [List.set_cons_succ])
  (try simp only [List.set_cons_zero])
  refine wpAnyH_take (i := 1) (oi := _) (v := ?_) rfl (by kernel_rfl) (by kernel_rfl) (by kernel_rfl) (fun _ _ _ h => h) (Or.inl ⟨?_, ?_⟩) hH0 ?_
  rotate_left
  ·kernel_rfl
  ·(intro W' hSw; have f0 := keepc hSw c0; have f1 := keepc hSw c1; go_simp; (try with_reducible rfl))
  (try simp only [List.getElem_toArray])
  (try simp only [List.getElem_cons_succ])
  (try simp only [List.getElem_cons_zero])
  (try simp only [Act.put])
  (try simp only [List.setIfInBounds_toArray])
  (try simp only [List.set_cons_succ])
  (try simp only [List.set_cons_zero])
  refine wpAnyH_take (i := 2) (oi := _) (v := ?_) rfl (by kernel_rfl) (by kernel_rfl) (by kernel_rfl) (fun _ _ _ h => h) (Or.inl ⟨?_, ?_⟩) hH0 ?_
  rotate_left
  ·kernel_rfl
  ·(intro W' hSw; have f0 := keepc hSw c0; have f1 := keepc hSw c1; go_simp; (try with_reducible rfl))
  (try simp only [List.getElem_toArray])
  (try simp only [List.getElem_cons_succ])
  (try simp only [List.getElem_cons_zero])
  (try simp only [Act.put])
  (try simp only [List.setIfInBounds_toArray])
  (try simp only [List.set_cons_succ])
  (try simp only [List.set_cons_zero])
  refine wpAnyH_take (i := 3) (oi := _) (v := ?_) rfl (by kernel_rfl) (by kernel_rfl) (by kernel_rfl) (fun _ _ _ h => h) (Or.inl ⟨?_, ?_⟩) hH0 ?_
  rotate_left
  ·kernel_rfl
  ·(intro W' hSw; have f0 := keepc hSw c0; have f1 := keepc hSw c1; go_simp; (try with_reducible rfl))
  (try simp only [List.getElem_toArray])
  (try simp only [List.getElem_cons_succ])
  (try simp only [List.getElem_cons_zero])
  (try simp only [Act.put])
  (try simp only [List.setIfInBounds_toArray])
  (try simp only [List.set_cons_succ])
  (try simp only [List.set_cons_zero])
  refine wpAnyH_take (i := 4) (oi := _) (v := ?_) rfl (by kernel_rfl) (by kernel_rfl) (by kernel_rfl) (fun _ _ _ h => h) (Or.inl ⟨?_, ?_⟩) hH0 ?_
  rotate_left
  ·kernel_rfl
  ·(intro W' hSw; have f0 := keepc hSw c0; have f1 := keepc hSw c1; go_simp; (try with_reducible rfl))
  (try simp only [List.getElem_toArray])
  (try simp only [List.getElem_cons_succ])
  (try simp only [List.getElem_cons_zero])
  (try simp only [Act.put])
  (try simp only [List.setIfInBounds_toArray])
  (try simp only [List.set_cons_succ])
  (try simp only [List.set_cons_zero])
  refine wpAnyH_take (i := 5) (oi := _) (v := ?_) rfl (by kernel_rfl) (by kernel_rfl) (by kernel_rfl) (fun _ _ _ h => h) (Or.inl ⟨?_, ?_⟩) hH0 ?_
  rotate_left
  ·kernel_rfl
  ·(intro W' hSw; have f0 := keepc hSw c0; have f1 := keepc hSw c1; go_simp; (try with_reducible rfl))
  (try simp only [List.getElem_toArray])
  (try simp only [List.getElem_cons_succ])
  (try simp only [List.getElem_cons_zero])
  (try simp only [Act.put])
  (try simp only [List.setIfInBounds_toArray])
  (try simp only [List.set_cons_succ])
  (try simp only [List.set_cons_zero])
  refine wpAnyH_take (i := 6) (oi := _) (v := ?_) rfl (by kernel_rfl) (by kernel_rfl) (by kernel_rfl) (fun _ _ _ h => h) (Or.inl ⟨?_, ?_⟩) hH0 ?_
  rotate_left
  ·kernel_rfl
  ·(intro W' hSw; have f0 := keepc hSw c0; have f1 := keepc hSw c1; go_simp; (try with_reducible rfl))
  (try simp only [List.getElem_toArray])
  (try simp only [List.getElem_cons_succ])
  (try simp only [List.getElem_cons_zero])
  (try simp only [Act.put])
  (try simp only [List.setIfInBounds_toArray])
  (try simp only [List.set_cons_succ])
  (try simp only [List.set_cons_zero])
  refine wpAnyH_take (i := 7) (oi := _) (v := ?_) rfl (by kernel_rfl) (by kernel_rfl) (by kernel_rfl) (fun _ _ _ h => h) (Or.inl ⟨?_, ?_⟩) hH0 ?_
  rotate_left
  ·kernel_rfl
  ·(intro W' hSw; have f0 := keepc hSw c0; have f1 := keepc hSw c1; go_simp; (try with_reducible rfl))
  (try simp only [List.getElem_toArray])
  (try simp only [List.getElem_cons_succ])
  (try simp only [List.getElem_cons_zero])
  (try simp only [Act.put])
  (try simp only [List.setIfInBounds_toArray])
  (try simp only [List.set_cons_succ])
  (try simp only [List.set_cons_zero])
  refine wpAnyH_take (i := 8) (oi := _) (v := ?_) rfl (by kernel_rfl) (by kernel_rfl) (by kernel_rfl) (fun _ _ _ h => h) (Or.inl ⟨?_, ?_⟩) hH0 ?_
  rotate_left
  ·kernel_rfl
  ·(intro W' hSw; have f0 := keepc hSw c0; have f1 := keepc hSw c1; go_simp; (try with_reducible rfl))
  (try simp only [List.getElem_toArray])
  (try simp only [List.getElem_cons_succ])
  (try simp only [List.getElem_cons_zero])
  (try simp only [Act.put])
  (try simp only [List.setIfInBounds_toArray])
  (try simp only [List.set_cons_succ])
  (try simp only [List.set_cons_zero])
  refine wpAnyH_take (i := 9) (oi := _) (v := ?_) rfl (by kernel_rfl) (by kernel_rfl) (by kernel_rfl) (fun _ _ _ h => h) (Or.inl ⟨?_, ?_⟩) hH0 ?_
  rotate_left
  ·kernel_rfl
  ·(intro W' hSw; have f0 := keepc hSw c0; have f1 := keepc hSw c1; go_simp; (try with_reducible rfl))
  (try simp only [List.getElem_toArray])
  (try simp only [List.getElem_cons_succ])
  (try simp only [List.getElem_cons_zero])
  (try simp only [Act.put])
  (try simp only [List.setIfInBounds_toArray])
  (try simp only [List.set_cons_succ])
  (try simp only [List.set_cons_zero])
  refine wpAnyH_done (by kernel_rfl) ?_ _
  clear hH0
  have m1 := keepc (bdr (bref u0)) n1
  have m2 := keepc (bdr (bref u0)) n2
  have m3 := keepc (bdr (bref u0)) n3
  go_wp2_with fail
  refine bodyPost_ret (by simp [results, Tryz.results102, go_sem, n1, n2, n3]; rfl) rfl ?_
  exact ⟨rfl, by repeat (first | exact HBU.out | refine bdr ?_ | refine Below.setCell ?_ (by exact Nat.le_refl _) _)⟩
end Go.Proofs.YtplkphihmfhciaaGreatDoor

/- The parser: sees, accepts, begins, fail, requires. -/
namespace Go.Proofs.YtplkphihmfhciaaGreatDoor
open Go Go.RowKit Go.Lib Go.Shelf WM TM EM

theorem isT_getD {kind : Int} (hk : kind ≠ 0) (x : List UInt8) (l : List Tok) (k : Nat) : isT kind x (l.drop k) = (decide ((l.getD k T0).1 = kind) && decide ((l.getD k T0).2.2 = x)) := by
 by_cases h : k < l.length
 ·rw [List.drop_eq_getElem_cons h]
  have : l.getD k T0 = l[k] := by simp [List.getD, h]
  rw [this]
  simp only [isT]
  rw [Bool.eq_iff_iff]
  simp
 ·rw [List.drop_eq_nil_of_le (by omega)]
  have : l.getD k T0 = T0 := by rw [List.getD_eq_getElem?_getD, List.getElem?_eq_none (by omega)]; rfl
  rw [this]
  have h0 : ¬ (T0.1 = kind) := fun h => hk h.symm
  rw [decide_eq_false h0]
  rfl
theorem isT_lt {kind : Int} {x : List UInt8} {l : List Tok} {k : Nat} (h : isT kind x (l.drop k) = true) : k < l.length := by
 rcases Nat.lt_or_ge k l.length with h' | h'
 ·exact h'
 ·rw [List.drop_eq_nil_of_le h'] at h; cases h
set_option maxRecDepth 100000 in
set_option maxHeartbeats 1000000 in
theorem msees (wb : World) (pb : Nat) (ao : Option Addr) (c : Nat) (l : List Tok) (g : Ga wb pb ao c l) (k : Nat) (w : World) (h : Pa wb pb ao c l k w) (kind : Int) (hk : kind ≠ 0) (x : List UInt8) :
  Calls Tryz.prog 74 #[.pointer (some ⟨pb, 0, none⟩), .int .i64 kind, .string (str x)] w fun r w' => r = .returned (.bool (isT kind x (l.drop k))) ∧ Below w.heap.size w w' := by
 rw [isT_getD hk]
 have NX := Lib.hid (fun W h => mnext wb pb ao c l g k W h)
 have H := Lib.hid h
 generalize hT : l.getD k T0 = T at NX ⊢
 clear hT h
 by_cases h1 : T.1 = kind
 ·have h1' : (T.1 == kind) = true := by rw [beq_iff_eq]; exact h1
  rw [decide_eq_true h1]
  by_cases h2 : T.2.2 = x
  ·rw [decide_eq_true h2, ← h2]
   go_enter Tryz.func74, Tryz.ntmps74
   go_wp2_with fail
   refine (NX.out _ H.out).mono ?_
   rintro r w1 ⟨rfl, hb1⟩
   have HB1 := Lib.hid hb1
   clear hb1
   unfold tv
   go_wp2_with fail
   go_ret
   exact ⟨by first | rfl | simp [h1, h2], by repeat (first | exact HB1.out | refine bdr ?_ | refine bal ?_ _)⟩
  ·have h2' := str_ne h2
   rw [decide_eq_false h2]
   go_enter Tryz.func74, Tryz.ntmps74
   go_wp2_with fail
   refine (NX.out _ H.out).mono ?_
   rintro r w1 ⟨rfl, hb1⟩
   have HB1 := Lib.hid hb1
   clear hb1
   unfold tv
   go_wp2_with fail
   go_ret
   exact ⟨by first | rfl | simp [h1, h2'], by repeat (first | exact HB1.out | refine bdr ?_ | refine bal ?_ _)⟩
 ·have h1' : (T.1 == kind) = false := by rw [beq_eq_false_iff_ne]; exact h1
  rw [decide_eq_false h1]
  go_enter Tryz.func74, Tryz.ntmps74
  go_wp2_with fail
  refine (NX.out _ H.out).mono ?_
  rintro r w1 ⟨rfl, hb1⟩
  have HB1 := Lib.hid hb1
  clear hb1
  unfold tv
  go_wp2_with fail
  go_ret
  exact ⟨by first | rfl | simp [h1'], by repeat (first | exact HB1.out | refine bdr ?_ | refine bal ?_ _)⟩
theorem wrap_at (k : Nat) (h : k < 1000000000) : wrap64 ((k : Int) + 1) = ((k + 1 : Nat) : Int) := by unfold wrap64; omega
set_option maxRecDepth 100000 in
set_option maxHeartbeats 1000000 in
theorem maccepts (wb : World) (pb : Nat) (ao : Option Addr) (c : Nat) (l : List Tok) (g : Ga wb pb ao c l) (k : Nat) (w : World) (h : Pa wb pb ao c l k w) (kind : Int) (hk : kind ≠ 0) (x : List UInt8) (B : Bool) (hB : isT kind x (l.drop k) = B) :
  Calls Tryz.prog 97 #[.pointer (some ⟨pb, 0, none⟩), .int .i64 kind, .string (str x)] w fun r w' => r = .returned (.bool B) ∧ Pa wb pb ao c l (if B then k + 1 else k) w' ∧ Kp pb w w' := by
 have SE := Lib.hid (fun W h => msees wb pb ao c l g k W h kind hk x)
 rw [hB] at SE
 have H := Lib.hid h
 cases B with
 | true =>
  have hlt := isT_lt hB
  clear h hB
  rw [if_pos rfl]
  go_enter Tryz.func97, Tryz.ntmps97
  go_wp2_with fail
  refine (SE.out _ H.out).mono ?_
  rintro r w1 ⟨rfl, hb1⟩
  have H1 := Lib.hid (H.out.keep hb1)
  have c1 := H1.out.c1
  have fr := H1.out.fr
  have HB1 := Lib.hid hb1
  clear hb1
  have hw := wrap_at k (by have := hlt; have := g.len; omega)
  go_wp2_with fail
  go_ret
  refine ⟨rfl, ?_, ?_⟩
  ·exact H1.out.step g.up hlt
  ·exact (Kp.of_below HB1.out).trans (Kp.set pb w1 1 _)
 | false =>
  clear h hB
  rw [if_neg (by decide)]
  go_enter Tryz.func97, Tryz.ntmps97
  go_wp2_with fail
  refine (SE.out _ H.out).mono ?_
  rintro r w1 ⟨rfl, hb1⟩
  have H1 := Lib.hid (H.out.keep hb1)
  have c1 := H1.out.c1
  have fr := H1.out.fr
  have HB1 := Lib.hid hb1
  clear hb1
  go_wp2_with fail
  go_ret
  exact ⟨rfl, H1.out, Kp.of_below HB1.out⟩
def Wr (k : Nat) : Ending := .panicked [{ v := .iface 49 (.int .i64 (k : Int)), recovered := false }]
set_option maxRecDepth 100000 in
set_option maxHeartbeats 1000000 in
theorem mfail (wb : World) (pb : Nat) (ao : Option Addr) (c : Nat) (l : List Tok) (g : Ga wb pb ao c l) (k : Nat) (w : World) (h : Pa wb pb ao c l k w) :
  Calls Tryz.prog 122 #[.pointer (some ⟨pb, 0, none⟩)] w fun r w' => r = Wr k ∧ Kp pb w w' := by
 have c1 := h.c1
 go_enter Tryz.func122, Tryz.ntmps122
 go_wp2_with fail
 exact ⟨rfl, rfl, Kp.refl _ _⟩
set_option maxRecDepth 100000 in
set_option maxHeartbeats 1000000 in
theorem mrequires (wb : World) (pb : Nat) (ao : Option Addr) (c : Nat) (l : List Tok) (g : Ga wb pb ao c l) (k : Nat) (w : World) (h : Pa wb pb ao c l k w) (kind : Int) (hk : kind ≠ 0) (x : List UInt8) (B : Bool) (hB : isT kind x (l.drop k) = B) :
  Calls Tryz.prog 98 #[.pointer (some ⟨pb, 0, none⟩), .int .i64 kind, .string (str x)] w fun r w' => (if B then r = .returned (.tuple #[]) ∧ Pa wb pb ao c l (k + 1) w' else r = Wr k) ∧ Kp pb w w' := by
 have AC := Lib.hid (fun W h => maccepts wb pb ao c l g k W h kind hk x B hB)
 have FA := Lib.hid (fun W h => mfail wb pb ao c l g k W h)
 have H := Lib.hid h
 cases B with
 | true =>
  clear h hB
  rw [if_pos rfl] at AC
  simp only [if_true]
  go_enter Tryz.func98, Tryz.ntmps98
  go_wp2_with fail
  refine (AC.out _ H.out).mono ?_
  rintro r w1 ⟨rfl, h1, k1⟩
  have H1 := Lib.hid h1
  have K1 := Lib.hid k1
  clear h1 k1
  go_wp2_with fail
  go_end0
  exact ⟨⟨rfl, H1.out⟩, K1.out⟩
 | false =>
  clear h hB
  rw [if_neg (by decide)] at AC
  simp only [Bool.false_eq_true, if_false]
  go_enter Tryz.func98, Tryz.ntmps98
  go_wp2_with fail
  refine (AC.out _ H.out).mono ?_
  rintro r w1 ⟨rfl, h1, k1⟩
  have H1 := Lib.hid h1
  have K1 := Lib.hid k1
  clear h1 k1
  go_wp2_with fail
  refine (FA.out _ H1.out).mono ?_
  rintro r w2 ⟨rfl, k2⟩
  unfold Wr
  exact ⟨rfl, rfl, K1.out.trans k2⟩
def To (o : Nat) (W : World) : Prop := W.cell? ⟨0, o * 4 + 2, none⟩ = some (.int .i64 (word o).1) ∧ W.cell? ⟨0, o * 4 + 3, none⟩ = some (.string (str (word o).2))
theorem To.keep {o : Nat} {W W' : World} (h : To o W) (hb : Below W.heap.size W W') : To o W' := ⟨keepc hb h.1, keepc hb h.2⟩
theorem To.kp {o : Nat} {W W' : World} {pb : Nat} (h : To o W) (k : Kp pb W W') (hne : 0 ≠ pb) : To o W' := ⟨k.cell hne h.1, k.cell hne h.2⟩
theorem Ga.to {wb : World} {pb : Nat} {ao : Option Addr} {c : Nat} {l : List Tok} (g : Ga wb pb ao c l) {W : World} (hb : Below wb.heap.size wb W) {o : Nat} (h : 5 ≤ o ∧ o ≤ 19) : To o W := by
 have T := g.gf.1.1.2 o (by omega)
 have hr : rowO o = (opn (o : Int), ((rk (o : Int) : Nat) : Int) + 1, (word (o : Int)).1, (word (o : Int)).2) := by unfold rowO; rw [if_neg (by omega), if_neg (by omega)]
 rw [hr] at T
 exact ⟨keepc hb T.2.2.1, keepc hb T.2.2.2⟩
theorem Ga.ne {wb : World} {pb : Nat} {ao : Option Addr} {c : Nat} {l : List Tok} (g : Ga wb pb ao c l) : 0 ≠ pb := by
 have h1 := g.gf.1.1.1
 have h2 := g.up
 omega
set_option maxRecDepth 100000 in
set_option maxHeartbeats 1000000 in
theorem mbegins (wb : World) (pb : Nat) (ao : Option Addr) (c : Nat) (l : List Tok) (g : Ga wb pb ao c l) (k : Nat) (w : World) (h : Pa wb pb ao c l k w) (o : Nat) (ho : 5 ≤ o ∧ o ≤ 19) (hk : (word o).1 ≠ 0) (B : Bool) (hB : isT (word o).1 (word o).2 (l.drop k) = B) :
  Calls Tryz.prog 71 #[.pointer (some ⟨pb, 0, none⟩), .int .i64 (o : Int)] w fun r w' => r = .returned (.bool B) ∧ Pa wb pb ao c l (if B then k + 1 else k) w' ∧ Kp pb w w' := by
 have AC := Lib.hid (fun W h => maccepts wb pb ao c l g k W h _ hk _ B hB)
 obtain ⟨k', hk'⟩ : ∃ k', (if B then k + 1 else k) = k' := ⟨_, rfl⟩
 rw [hk'] at AC ⊢
 have H := Lib.hid h
 have T20 := Lib.hid (g.to h.b ho)
 have HNE := Lib.hid g.ne
 have h0 : ¬ ((o : Int) < 0) := by omega
 have h1 : (o : Int) < 20 := by omega
 have h2 : ((o : Int)).toNat = o := by omega
 clear h hB hk'
 go_enter Tryz.func71, Tryz.ntmps71
 go_wp2_with fail
 refine wp_region_held_drew (S := (fun W => Kp pb w W ∧ To o W)) (by kernel_rfl) ⟨Kp.of_below (bdr (bref _)), T20.out.keep (bdr (bref _))⟩ (fun hH0 => ?_)
 refine wpAnyH_take (i := 0) (oi := _) (v := ?_) rfl (by kernel_rfl) (by kernel_rfl) (by kernel_rfl) (fun _ _ _ h => h) (Or.inl ⟨?_, ?_⟩) hH0 ?_
 rotate_left
 ·kernel_rfl
 ·(intro W' hSw; obtain ⟨s0, s1, s2⟩ := hSw; go_simp; (try with_reducible rfl))
 (try simp only [List.getElem_toArray])
 (try simp only [List.getElem_cons_succ])
 (try simp only [List.getElem_cons_zero])
 (try simp only [Act.put])
 (try simp only [List.setIfInBounds_toArray])
 (try simp only [List.set_cons_succ])
 (try simp only [List.set_cons_zero])
 refine wpAnyH_take (i := 1) (oi := _) (v := ?_) rfl (by kernel_rfl) (by kernel_rfl) (by kernel_rfl) (fun _ _ _ h => h) (Or.inl ⟨?_, ?_⟩) hH0 ?_
 rotate_left
 ·kernel_rfl
 ·(intro W' hSw; obtain ⟨s0, s1, s2⟩ := hSw; go_simp; (try with_reducible rfl))
 (try simp only [List.getElem_toArray])
 (try simp only [List.getElem_cons_succ])
 (try simp only [List.getElem_cons_zero])
 (try simp only [Act.put])
 (try simp only [List.setIfInBounds_toArray])
 (try simp only [List.set_cons_succ])
 (try simp only [List.set_cons_zero])
 refine wpAnyH_take (i := 2) (oi := _) (v := ?_) rfl (by kernel_rfl) (by kernel_rfl) (by kernel_rfl) (fun _ _ _ h => h) (Or.inl ⟨?_, ?_⟩) hH0 ?_
 rotate_left
 ·kernel_rfl
 ·(intro W' hSw; obtain ⟨s0, s1, s2⟩ := hSw; go_simp; (try with_reducible rfl))
 (try simp only [List.getElem_toArray])
 (try simp only [List.getElem_cons_succ])
 (try simp only [List.getElem_cons_zero])
 (try simp only [Act.put])
 (try simp only [List.setIfInBounds_toArray])
 (try simp only [List.set_cons_succ])
 (try simp only [List.set_cons_zero])
 refine wpAnyH_take (i := 3) (oi := _) (v := ?_) rfl (by kernel_rfl) (by kernel_rfl) (by kernel_rfl) (fun _ _ _ h => h) (Or.inl ⟨?_, ?_⟩) hH0 ?_
 rotate_left
 ·kernel_rfl
 ·(intro W' hSw; obtain ⟨s0, s1, s2⟩ := hSw; go_simp; (try with_reducible rfl))
 (try simp only [List.getElem_toArray])
 (try simp only [List.getElem_cons_succ])
 (try simp only [List.getElem_cons_zero])
 (try simp only [Act.put])
 (try simp only [List.setIfInBounds_toArray])
 (try simp only [List.set_cons_succ])
 (try simp only [List.set_cons_zero])
 refine wpAnyH_take (i := 4) (oi := _) (v := ?_) rfl (by kernel_rfl) (by kernel_rfl) (by kernel_rfl) (fun _ _ _ h => h) (Or.inl ⟨?_, ?_⟩) hH0 ?_
 rotate_left
 ·kernel_rfl
 ·(intro W' hSw; obtain ⟨s0, s1, s2⟩ := hSw; go_simp; (try with_reducible rfl))
 (try simp only [List.getElem_toArray])
 (try simp only [List.getElem_cons_succ])
 (try simp only [List.getElem_cons_zero])
 (try simp only [Act.put])
 (try simp only [List.setIfInBounds_toArray])
 (try simp only [List.set_cons_succ])
 (try simp only [List.set_cons_zero])
 refine wpAnyH_take (i := 5) (oi := _) (v := ?_) rfl (by kernel_rfl) (by kernel_rfl) (by kernel_rfl) (fun _ _ _ h => h) (Or.inl ⟨?_, ?_⟩) hH0 ?_
 rotate_left
 ·kernel_rfl
 ·(intro W' hSw; obtain ⟨s0, s1, s2⟩ := hSw; go_simp; (try with_reducible rfl))
 (try simp only [List.getElem_toArray])
 (try simp only [List.getElem_cons_succ])
 (try simp only [List.getElem_cons_zero])
 (try simp only [Act.put])
 (try simp only [List.setIfInBounds_toArray])
 (try simp only [List.set_cons_succ])
 (try simp only [List.set_cons_zero])
 refine wpAnyH_take (i := 6) (oi := _) (v := ?_) rfl (by kernel_rfl) (by kernel_rfl) (by kernel_rfl) (fun _ _ _ h => h) (Or.inl ⟨?_, ?_⟩) hH0 ?_
 rotate_left
 ·kernel_rfl
 ·(intro W' hSw; obtain ⟨s0, s1, s2⟩ := hSw; go_simp; (try with_reducible rfl))
 (try simp only [List.getElem_toArray])
 (try simp only [List.getElem_cons_succ])
 (try simp only [List.getElem_cons_zero])
 (try simp only [Act.put])
 (try simp only [List.setIfInBounds_toArray])
 (try simp only [List.set_cons_succ])
 (try simp only [List.set_cons_zero])
 refine wpAnyH_take (i := 7) (oi := _) (v := ?_) rfl (by kernel_rfl) (by kernel_rfl) (by kernel_rfl) (fun _ _ _ h => h) (Or.inl ⟨?_, ?_⟩) hH0 ?_
 rotate_left
 ·kernel_rfl
 ·(intro W' hSw; obtain ⟨s0, s1, s2⟩ := hSw; go_simp; (try with_reducible rfl))
 (try simp only [List.getElem_toArray])
 (try simp only [List.getElem_cons_succ])
 (try simp only [List.getElem_cons_zero])
 (try simp only [Act.put])
 (try simp only [List.setIfInBounds_toArray])
 (try simp only [List.set_cons_succ])
 (try simp only [List.set_cons_zero])
 refine wpAnyH_take (i := 8) (oi := _) (v := ?_) rfl (by kernel_rfl) (by kernel_rfl) (by kernel_rfl) (fun _ _ _ h => h) (Or.inl ⟨?_, ?_⟩) hH0 ?_
 rotate_left
 ·kernel_rfl
 ·(intro W' hSw; obtain ⟨s0, s1, s2⟩ := hSw; go_simp; (try with_reducible rfl))
 (try simp only [List.getElem_toArray])
 (try simp only [List.getElem_cons_succ])
 (try simp only [List.getElem_cons_zero])
 (try simp only [Act.put])
 (try simp only [List.setIfInBounds_toArray])
 (try simp only [List.set_cons_succ])
 (try simp only [List.set_cons_zero])
 refine wpAnyH_ready (rs := [9]) (by kernel_rfl) (by simp) ?_
 refine AllReadyH.cons (o := _) rfl (fun K hK => ?_) AllReadyH.nil
 go_simp
 refine (AC.out _ (H.out.keep (bdr (bref _)))).mono ?_
 rintro r w1 ⟨rfl, h1, k1⟩
 refine hK.out _ _ ⟨(Kp.of_below (bdr (bref _))).trans k1, (T20.out.keep (bdr (bref _))).kp k1 HNE.out⟩ (fun hH1 => ?_)
 clear hK K
 (try simp only [List.getElem_toArray])
 (try simp only [List.getElem_cons_succ])
 (try simp only [List.getElem_cons_zero])
 (try simp only [Act.put])
 (try simp only [List.setIfInBounds_toArray])
 (try simp only [List.set_cons_succ])
 (try simp only [List.set_cons_zero])
 refine wpAnyH_take (i := 10) (oi := _) (v := ?_) rfl (by kernel_rfl) (by kernel_rfl) (by kernel_rfl) (fun _ _ _ h => h) (Or.inl ⟨?_, ?_⟩) hH1 ?_
 rotate_left
 ·kernel_rfl
 ·(intro W' hSw; obtain ⟨s0, s1, s2⟩ := hSw; go_simp; (try with_reducible rfl))
 (try simp only [List.getElem_toArray])
 (try simp only [List.getElem_cons_succ])
 (try simp only [List.getElem_cons_zero])
 (try simp only [Act.put])
 (try simp only [List.setIfInBounds_toArray])
 (try simp only [List.set_cons_succ])
 (try simp only [List.set_cons_zero])
 refine wpAnyH_done (by kernel_rfl) ?_ _
 clear hH0 hH1
 have H1 := Lib.hid h1
 have K1 := Lib.hid k1
 clear h1 k1
 go_wp2_with fail
 go_ret
 exact ⟨rfl, H1.out, (Kp.of_below (bdr (bref _))).trans K1.out⟩
end Go.Proofs.YtplkphihmfhciaaGreatDoor
