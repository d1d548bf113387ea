/-
  Validate: two loops over all nodes.
-/
import Derived.Test.YthanoilbcdhbkaaGreatDoorQB
import Derived.Test.YthanoilbcdhbkaaGreatDoorQEH
import Derived.Test.YthanoilbcdhbkaaGreatDoorQEF
namespace Go.Proofs.YthanoilbcdhbkaaGreatDoor
open Go Go.RowKit Go.Lib Go.Shelf WM TM EM

attribute [local go_sem] Oper.semAt_some
def nameB (x : Ex) : Bool := !decide (x.op = 4) || varOk x.s
def vnames (e : Ex) : Bool := (EM.pre e).all nameB
def vE (e : Ex) : Int := if ¬ (dep e ≤ 8 ∧ siz e ≤ 64) then 5 else if right e = false then 1 else if vnames e = false then 4 else 0
def Ge (w : World) : Prop := Ot w ∧ Mk w ∧ Er w
theorem Ge.keep {w w' : World} (h : Ge w) (hb : Below w.heap.size w w') : Ge w' := ⟨h.1.keep hb, h.2.1.keep hb, h.2.2.keep hb⟩
theorem others_below {W W' : World} (h : Below W.heap.size W W') : KeepsOthers W W' := KeepsOthers.of_grownBy (row := none) ⟨h.os, h.tape, h.output, h.size, fun k hk _ => h.block k hk⟩ (fun j _ e => by cases e)
theorem keep_below {n0 r : Nat} {W W' : World} (h : Below W.heap.size W W') (hn : n0 ≤ W.heap.size) (hr : r < W.heap.size) : Keep n0 r W W' := ⟨h.mono hn, h.block r hr⟩
theorem all_perm {p : Ex → Bool} {l m : List Ex} (h : l.Perm m) : l.all p = m.all p := by
 rw [Bool.eq_iff_iff, List.all_eq_true, List.all_eq_true]
 exact ⟨fun k x hx => k x (h.mem_iff.2 hx), fun k x hx => k x (h.mem_iff.1 hx)⟩
theorem all_part {p : Ex → Bool} {l ys m : List Ex} (h : (l ++ ys).Perm m) (hl : l.all p = false) : m.all p = false := by
 rw [← all_perm h, List.all_append, hl]; rfl
def Bx (nb : Nat) (x : Nd) (W : World) : Prop := nb < W.heap.size ∧ W.cell? ⟨nb, 0, none⟩ = some (.int .i64 x.1.op) ∧ W.cell? ⟨nb, 1, none⟩ = some (.int .i64 x.1.n) ∧ W.cell? ⟨nb, 2, none⟩ = some (.string (str x.1.s)) ∧ W.cell? ⟨nb, 3, none⟩ = some (.slice x.2.1 x.1.args.length x.2.2)
theorem Bx.new (W : World) (x : Nd) (t : TypeId) : Bx W.heap.size x (W.alloc (.cells #[.int .i64 x.1.op, .int .i64 x.1.n, .string (str x.1.s), .slice x.2.1 x.1.args.length x.2.2] t)) := by
 refine ⟨by simp, ?_, ?_, ?_, ?_⟩ <;> simp [go_sem]
theorem Bx.keep {nb : Nat} {x : Nd} {W W' : World} (h : Bx nb x W) (hb : Below W.heap.size W W') : Bx nb x W' :=
 ⟨Nat.lt_of_lt_of_le h.1 hb.size, keepc hb h.2.1, keepc hb h.2.2.1, keepc hb h.2.2.2.1, keepc hb h.2.2.2.2⟩
theorem Bx.put {nb l : Nat} {x : Nd} {W : World} {o' : Obj} (h : Bx nb x W) (hne : nb ≠ l) : Bx nb x (W.putObj l o') :=
 ⟨by simpa using h.1, put_cell (p := ⟨nb, 0, none⟩) hne h.2.1, put_cell (p := ⟨nb, 1, none⟩) hne h.2.2.1, put_cell (p := ⟨nb, 2, none⟩) hne h.2.2.2.1, put_cell (p := ⟨nb, 3, none⟩) hne h.2.2.2.2⟩
theorem Bx.ne {nb l : Nat} {x : Nd} {W : World} {o : Obj} (h : Bx nb x W) (ho : W.heap[l]? = some o) (hc : o.isCells = false) : nb ≠ l := by
 rintro rfl
 have h1 := h.2.1
 unfold World.cell? at h1
 simp only [ho] at h1
 cases o <;> simp_all [Obj.isCells]

set_option maxRecDepth 100000 in
set_option maxHeartbeats 8000000 in
theorem mvalidate (e : Ex) (so : Option Addr) (cap : Nat) (w : World) (hG : Ge w) (hL : Lies (e, so, cap) w) :
  Calls Tryz.prog 47 #[.agg #[.int .i64 e.op, .int .i64 e.n, .string (str e.s), .slice so e.args.length cap]] w fun r w' => r = .returned (.int .i64 (vE e)) ∧ Below w.heap.size w w' := by
 refine (callsIn_wide (n := 0)).1 ?_
 refine callsIn_of_wp_marks Tryz.func47 rfl trivial ?_ rfl
 simp only [Tryz.ntmps47, List.size_toArray, List.length_cons, List.length_nil, Nat.reduceAdd, Nat.reduceSub, Array.replicate_succ, Array.replicate_zero, List.push_toArray, List.append_toArray, List.nil_append, List.cons_append]
 have MA := Lib.hid (fun W => mall e so cap W)
 have ML := Lib.hid (fun W (hW : Below w.heap.size w W) => mleft e 8 64 so cap W (by omega) (by omega) (hL.1.keep hW))
 have HL := Lib.hid hL
 have HG := Lib.hid hG
 obtain ⟨R, hR⟩ : ∃ R, vE e = R := ⟨_, rfl⟩
 rw [hR]
 clear hL hG
 gi_wp2
 obtain ⟨b, hb⟩ : ∃ b, w.heap.size = b := ⟨_, rfl⟩
 obtain ⟨w1, hw1⟩ : ∃ w1, (w.alloc (.cells #[.int .i64 e.op, .int .i64 e.n, .string (str e.s), .slice so e.args.length cap] 24)).alloc (.cells #[.int .i64 0] 31) = w1 := ⟨_, rfl⟩
 have hb1 : Below w.heap.size w w1 := by rw [← hw1]; exact bal (bal (bref _) _) _
 have hs1 : w1.heap.size = b + 2 := by rw [← hw1, ← hb]; simp
 have q0 : B1 (b + 1) (.int .i64 0) w1 := by rw [← hw1, ← hb]; constructor <;> simp [go_sem]
 have x0 : w1.cell? ⟨b, 0, none⟩ = some (.int .i64 e.op) := by rw [← hw1, ← hb]; simp [go_sem]
 have x1 : w1.cell? ⟨b, 1, none⟩ = some (.int .i64 e.n) := by rw [← hw1, ← hb]; simp [go_sem]
 have x2 : w1.cell? ⟨b, 2, none⟩ = some (.string (str e.s)) := by rw [← hw1, ← hb]; simp [go_sem]
 have x3 : w1.cell? ⟨b, 3, none⟩ = some (.slice so e.args.length cap) := by rw [← hw1, ← hb]; simp [go_sem]
 rw [hw1]
 simp only [hb]
 clear hw1
 refine ⟨trivial, rfl, (callsIn_wide.2 (ML.out _ hb1)).mono ?_⟩
 by_cases hlim : dep e ≤ 8 ∧ siz e ≤ 64
 rotate_left
 ·have hRl : R = 5 := by rw [← hR]; unfold vE; rw [if_pos hlim]
  subst hRl
  have hm : lft e 8 64 = -1 := by unfold lft; rw [if_neg hlim]
  rw [hm]
  rintro r w2 ⟨rfl, hb2⟩
  have q2 := q0.keep hb2
  obtain ⟨q2a, q2b⟩ := q2
  have hbb : Below b w w2 := by rw [← hb]; exact btr hb1 hb2
  gi_wp2
  have hsc : (w2.setCell ⟨b + 1, 0, none⟩ (.int .i64 5)).cell? ⟨b + 1, 0, none⟩ = some (.int .i64 5) := World.cell?_setCell_same' _ _ _ (by rw [q2a]; rfl)
  refine ⟨.int .i64 5, by simp [results, Tryz.results47, go_sem, hsc], rfl, ?_⟩
  rw [hb]
  exact hbb.setCell (p := ⟨b + 1, 0, none⟩) (show b ≤ b + 1 by omega) _
 have hm : ∃ q : Nat, lft e 8 64 = q := by unfold lft; rw [if_pos hlim]; exact ⟨_, rfl⟩
 obtain ⟨q, hq⟩ := hm
 have hR1 : R = if right e = false then 1 else if vnames e = false then 4 else 0 := by rw [← hR]; unfold vE; rw [if_neg (fun c => c hlim)]
 rw [hq]
 rintro r w2 ⟨rfl, hb2⟩
 have q2 := q0.keep hb2
 have y0 := keepc hb2 x0
 have y1 := keepc hb2 x1
 have y2 := keepc hb2 x2
 have y3 := keepc hb2 x3
 have hbw2 : Below w.heap.size w w2 := btr hb1 hb2
 have hs2 := hb2.size
 obtain ⟨q2a, q2b⟩ := q2
 clear q0 x0 x1 x2 x3 hq hR
 gi_wp2
 refine ⟨trivial, rfl, (callsIn_wide.2 (MA.out _)).mono ?_⟩
 rintro r w' ⟨rfl, rfl⟩
 gi_wp2
 obtain ⟨bx, hbx⟩ : ∃ bx, w2.heap.size = bx := ⟨_, rfl⟩
 obtain ⟨w3, hw3⟩ : ∃ w3, w2.alloc (.cells (xcs (e, so, cap)).toArray 24) = w3 := ⟨_, rfl⟩
 have hb3 : Below w2.heap.size w2 w3 := by rw [← hw3]; exact bal (bref _) _
 have hs3 : w3.heap.size = bx + 1 := by rw [← hw3, ← hbx]; simp
 have hx : ∀ j u, (xcs (e, so, cap))[j]? = some u → w3.cell? ⟨bx, j, none⟩ = some u := by
  intro j u hu
  rw [← hw3, ← hbx]
  match j, hu with
  | 0, hu => simp [xcs] at hu; subst hu; simp [go_sem, xcs]
  | 1, hu => simp [xcs] at hu; subst hu; simp [go_sem, xcs]
  | 2, hu => simp [xcs] at hu; subst hu; simp [go_sem, xcs]
  | 3, hu => simp [xcs] at hu; subst hu; simp [go_sem, xcs]
 rw [hw3]
 simp only [hbx]
 have q3 : B1 (b + 1) (.int .i64 0) w3 := (show B1 (b + 1) (.int .i64 0) w2 from ⟨q2a, q2b⟩).keep hb3
 have z0 := keepc hb3 y0
 have z1 := keepc hb3 y1
 have z2 := keepc hb3 y2
 have z3 := keepc hb3 y3
 have hbw3 : Below b w w3 := by rw [← hb]; exact btr hbw2 hb3
 have hsz : siz e ≤ 100000 := by omega
 have hbw3' : Below w.heap.size w w3 := btr hbw2 hb3
 clear hw3 y0 y1 y2 y3 q2a q2b
 refine wp_range (gf := 96) (lb := #[.pointer (some ⟨bx, 0, none⟩)]) rfl (enters_of Tryz.func96 (by kernel_rfl) rfl) (mall1 e so cap hsz w w3 hbw3' bx hx HL.out) (by omega) (fun _ => rfl)
  (fun pre r W => (B1 (b + 1) (.int .i64 0) W ∧ Bx b (e, so, cap) W ∧ Below b w W ∧ b + 2 ≤ r ∧ b + 2 ≤ W.heap.size) ∧ (pre.map (·.1)).all fmd = true)
  (fun pre W => B1 (b + 1) (.int .i64 1) W ∧ Below b w W ∧ b + 2 ≤ W.heap.size ∧ (pre.map (·.1)).all fmd = false)
  (fun pre r x a1 W => ((B1 (b + 1) (.int .i64 0) W ∧ Bx b (e, so, cap) W ∧ Below b w W ∧ b + 2 ≤ r ∧ b + 2 ≤ W.heap.size) ∧ (pre.map (·.1)).all fmd = true) ∧ ∃ nb, Bx nb x W ∧ a1 = { tmps := #[.agg #[.int .i64 e.op, .int .i64 e.n, .string (str e.s), .slice so e.args.length cap], .pointer (some ⟨b, 0, none⟩), .pointer (some ⟨b + 1, 0, none⟩), .pointer (some ⟨nb, 0, none⟩), undef, .agg #[.int .i64 e.op, .int .i64 e.n, .string (str e.s), .slice so e.args.length cap], .int .i64 q, .bool false, .agg #[.int .i64 e.op, .int .i64 e.n, .string (str e.s), .slice so e.args.length cap], .func (.func 96) #[] #[.pointer (some ⟨bx, 0, none⟩)], xv x, undef, undef, undef, undef, undef, undef, undef, undef, undef, undef, undef, undef, undef, undef, undef], defers := [] }) ?hI ?hIb ?hIx ?hA ?h0 ?hassign ?hbody ?hdone ?hstop
 case hI =>
  rintro pre r W W' r' ⟨⟨h1, hB, h2, h3, h4⟩, h5⟩ ht hr hr'
  exact ⟨⟨h1.turn ht (by omega), ⟨by have := ht.2.2.2.1; omega, ht.cell (p := ⟨b, 0, none⟩) (show b ≠ r by omega) hB.2.1, ht.cell (p := ⟨b, 1, none⟩) (show b ≠ r by omega) hB.2.2.1, ht.cell (p := ⟨b, 2, none⟩) (show b ≠ r by omega) hB.2.2.2.1, ht.cell (p := ⟨b, 3, none⟩) (show b ≠ r by omega) hB.2.2.2.2⟩, ht.below h2 (by omega) (by omega), by omega, by have := ht.2.2.2.1; omega⟩, h5⟩
 case hIb =>
  rintro pre r W l o o' ⟨⟨h1, hB, h2, h3, h4⟩, h5⟩ hl ho hc hr
  exact ⟨⟨h1.put (by omega), hB.put (by omega), put_below h2 (by omega) (by omega), h3, by simpa using h4⟩, h5⟩
 case hIx =>
  rintro pre _ W l o o' ⟨h1, h2, h4, h5⟩ hl ho hc _
  exact ⟨h1.put (by omega), put_below h2 (by omega) (by omega), by simpa using h4, h5⟩
 case hA =>
  rintro pre r x a1 W l o o' ⟨⟨⟨h1, hB, h2, h3, h4⟩, h5⟩, nb, hN, h6⟩ hl ho hc hr
  exact ⟨⟨⟨h1.put (by omega), hB.put (by omega), put_below h2 (by omega) (by omega), h3, by simpa using h4⟩, h5⟩, nb, hN.put (hN.ne ho hc), h6⟩
 case h0 =>
  intro r W' hr hr' hbe
  refine ⟨⟨q3.keep hbe, ⟨by have := hbe.size; omega, keepc hbe z0, keepc hbe z1, keepc hbe z2, keepc hbe z3⟩, hbw3.trans (hbe.mono (by omega)), by omega, by have := hbe.size; omega⟩, rfl⟩
 case hassign =>
  rintro l r pre x W ⟨⟨h1, hB, h2, h3, h4⟩, h5⟩ hx hr _
  have HI1 := Lib.hid (show ((B1 (b + 1) (.int .i64 0) W ∧ Bx b (e, so, cap) W ∧ Below b w W ∧ b + 2 ≤ r ∧ b + 2 ≤ W.heap.size) ∧ (pre.map (·.1)).all fmd = true) from ⟨⟨h1, hB, h2, h3, h4⟩, h5⟩)
  clear h1 hB h2 h3 h4 h5 hx
  simp only [xv]
  gi_wp2
  obtain ⟨h1, hB, h2, h3, h4⟩ := HI1.out.1
  have hbn : Below W.heap.size W (W.alloc (.cells #[.int .i64 x.1.op, .int .i64 x.1.n, .string (str x.1.s), .slice x.2.1 x.1.args.length x.2.2] 24)) := bal (bref _) _
  refine ⟨others_below hbn, keep_below hbn (by omega) hr, ⟨⟨h1.keep hbn, hB.keep hbn, h2.trans (hbn.mono (by omega)), h3, by have := hbn.size; omega⟩, HI1.out.2⟩, W.heap.size, Bx.new W x _, by simp⟩
 case hbody =>
  rintro l r pre x a1 W ⟨⟨⟨h1, hB, h2, h3, h4⟩, h5⟩, nb, hN, rfl⟩ hr
  have HI1 := Lib.hid (show ((B1 (b + 1) (.int .i64 0) W ∧ Bx b (e, so, cap) W ∧ Below b w W ∧ b + 2 ≤ r ∧ b + 2 ≤ W.heap.size) ∧ (pre.map (·.1)).all fmd = true) from ⟨⟨h1, hB, h2, h3, h4⟩, h5⟩)
  have MF := Lib.hid (fun W' (hW : Below W.heap.size W W') => mformed x.1 x.2.1 x.2.2 W' (((HG.out.keep (by rw [hb]; exact h2)).keep hW).1))
  obtain ⟨n1, n2, n3, n4, n5⟩ := hN
  obtain ⟨h1a, h1b⟩ := h1
  clear hB h2 h3 h4 h5
  by_cases hf : fmd x.1 = true
  ·rw [hf] at MF
   gi_wp2
   refine ⟨trivial, rfl, (CallsIn.inRound l (callsIn_wide.2 (MF.out _ (by repeat (first | exact bref _ | refine bdr ?_ | refine bal ?_ _))))).mono ?_⟩
   rintro r4 w4 ⟨rfl, hb4⟩
   gi_wp2
   obtain ⟨h1, hB, h2, h3, h4⟩ := HI1.out.1
   refine ⟨others_below hb4, keep_below hb4 (by omega) hr, ⟨h1.keep hb4, hB.keep hb4, h2.trans (hb4.mono (by omega)), h3, by have := hb4.size; omega⟩, ?_⟩
   rw [List.map_append, List.all_append, HI1.out.2]
   simp [hf]
  ·have hf' : fmd x.1 = false := by simpa using hf
   rw [hf'] at MF
   gi_wp2
   refine ⟨trivial, rfl, (CallsIn.inRound l (callsIn_wide.2 (MF.out _ (by repeat (first | exact bref _ | refine bdr ?_ | refine bal ?_ _))))).mono ?_⟩
   rintro r4 w4 ⟨rfl, hb4⟩
   have h1k := HI1.out.1.1.keep hb4
   obtain ⟨k1, k2⟩ := h1k
   gi_wp2
   obtain ⟨h1, hB, h2, h3, h4⟩ := HI1.out.1
   refine ⟨(others_below hb4).trans (KeepsOthers.setCell _ _ _), ⟨World.cell?_setCell_same' _ _ _ (by rw [k1]; rfl), by rw [World.frozen?_setCell]; exact k2⟩, (h2.trans (hb4.mono (by omega))).setCell (p := ⟨b + 1, 0, none⟩) (show b ≤ b + 1 by omega) _, by have := hb4.size; simp; omega, ?_⟩
   rw [List.map_append, List.all_append]
   simp [hf']
 case hdone =>
  rintro D r xs W hD hS ⟨⟨h1, hB, h2, h3, h4⟩, h5⟩ hrD hdef
  have hright : right e = true := by
   unfold right
   rw [← all_perm hS]; exact h5
  have hR2 : R = if vnames e = false then 4 else 0 := by rw [hR1, hright]; rfl
  have hDW := (Array.getElem?_eq_some_iff.1 hdef).1
  obtain ⟨g1, g2, g3, g4, g5⟩ := hB
  have HB := Lib.hid h2
  have HQ1 := Lib.hid h1
  have HDEF := Lib.hid hdef
  clear h1 h2 hS h5 q3 z0 z1 z2 z3 h3 hdef
  simp only at g2 g3 g4 g5
  gi_wp2
  refine ⟨trivial, rfl, (callsIn_wide.2 (MA.out _)).mono ?_⟩
  rintro r w' ⟨rfl, rfl⟩
  gi_wp2
  obtain ⟨bx2, hbx2⟩ : ∃ bx, W.heap.size = bx := ⟨_, rfl⟩
  obtain ⟨w5, hw5⟩ : ∃ w5, W.alloc (.cells (xcs (e, so, cap)).toArray 24) = w5 := ⟨_, rfl⟩
  have hb5 : Below W.heap.size W w5 := by rw [← hw5]; exact bal (bref _) _
  have hs5 : w5.heap.size = bx2 + 1 := by rw [← hw5, ← hbx2]; simp
  have hx5 : ∀ j u, (xcs (e, so, cap))[j]? = some u → w5.cell? ⟨bx2, j, none⟩ = some u := by
   intro j u hu
   rw [← hw5, ← hbx2]
   match j, hu with
   | 0, hu => simp [xcs] at hu; subst hu; simp [go_sem, xcs]
   | 1, hu => simp [xcs] at hu; subst hu; simp [go_sem, xcs]
   | 2, hu => simp [xcs] at hu; subst hu; simp [go_sem, xcs]
   | 3, hu => simp [xcs] at hu; subst hu; simp [go_sem, xcs]
  rw [hw5]
  simp only [hbx2]
  have q5 : B1 (b + 1) (.int .i64 0) w5 := HQ1.out.keep hb5
  have hbw5 : Below b w w5 := HB.out.trans (hb5.mono (by omega))
  have hbw5' : Below w.heap.size w w5 := by rw [hb]; exact hbw5
  have hD5 : w5.heap[D]? = some (.deferred (some [])) := (hb5.block D hDW).trans HDEF.out
  have hDb : b + 2 ≤ D := by omega
  clear hw5 g1 g2 g3 g4 g5
  refine wp_range (gf := 96) (lb := #[.pointer (some ⟨bx2, 0, none⟩)]) rfl (enters_of Tryz.func96 (by kernel_rfl) rfl) (mall1 e so cap hsz w w5 hbw5' bx2 hx5 HL.out) (by omega) (fun _ => rfl)
   (fun pre r W => (B1 (b + 1) (.int .i64 0) W ∧ Below b w W ∧ bx2 + 1 ≤ r ∧ bx2 + 1 ≤ W.heap.size ∧ W.heap[D]? = some (.deferred (some []))) ∧ (pre.map (·.1)).all nameB = true)
   (fun pre W => B1 (b + 1) (.int .i64 4) W ∧ Below b w W ∧ bx2 + 1 ≤ W.heap.size ∧ W.heap[D]? = some (.deferred (some [])) ∧ (pre.map (·.1)).all nameB = false)
   (fun pre r x a1 W => ((B1 (b + 1) (.int .i64 0) W ∧ Below b w W ∧ bx2 + 1 ≤ r ∧ bx2 + 1 ≤ W.heap.size ∧ W.heap[D]? = some (.deferred (some []))) ∧ (pre.map (·.1)).all nameB = true) ∧ ∃ nb, Bx nb x W ∧ a1 = { tmps := #[.agg #[.int .i64 e.op, .int .i64 e.n, .string (str e.s), .slice so e.args.length cap], .pointer (some ⟨b, 0, none⟩), .pointer (some ⟨b + 1, 0, none⟩), undef, .pointer (some ⟨nb, 0, none⟩), .agg #[.int .i64 e.op, .int .i64 e.n, .string (str e.s), .slice so e.args.length cap], .int .i64 q, .bool false, .agg #[.int .i64 e.op, .int .i64 e.n, .string (str e.s), .slice so e.args.length cap], .func (.func 96) #[] #[.pointer (some ⟨bx, 0, none⟩)], undef, undef, undef, undef, .agg #[.int .i64 e.op, .int .i64 e.n, .string (str e.s), .slice so e.args.length cap], .func (.func 96) #[] #[.pointer (some ⟨bx2, 0, none⟩)], xv x, undef, undef, undef, undef, undef, undef, undef, undef, undef], defers := [] }) ?hI2 ?hIb2 ?hIx2 ?hA2 ?h02 ?hassign2 ?hbody2 ?hdone2 ?hstop2
  case hI2 =>
   rintro pre r W W' r' ⟨⟨h1, h2, h3, h4, h6⟩, h5⟩ ht hr hr'
   exact ⟨⟨h1.turn ht (by omega), ht.below h2 (by omega) (by omega), by omega, by have := ht.2.2.2.1; omega, (ht.2.2.2.2 D (by omega) (by omega)).trans h6⟩, h5⟩
  case hIb2 =>
   rintro pre r W l o o' ⟨⟨h1, h2, h3, h4, h6⟩, h5⟩ hl ho hc hr
   exact ⟨⟨h1.put (by omega), put_below h2 (by omega) (by omega), h3, by simpa using h4, (World.putObj_heap_other (by omega)).trans h6⟩, h5⟩
  case hIx2 =>
   rintro pre _ W l o o' ⟨h1, h2, h4, h6, h5⟩ hl ho hc _
   exact ⟨h1.put (by omega), put_below h2 (by omega) (by omega), by simpa using h4, (World.putObj_heap_other (by omega)).trans h6, h5⟩
  case hA2 =>
   rintro pre r x a1 W l o o' ⟨⟨⟨h1, h2, h3, h4, h6⟩, h5⟩, nb, hN, h7⟩ hl ho hc hr
   exact ⟨⟨⟨h1.put (by omega), put_below h2 (by omega) (by omega), h3, by simpa using h4, (World.putObj_heap_other (by omega)).trans h6⟩, h5⟩, nb, hN.put (hN.ne ho hc), h7⟩
  case h02 =>
   intro r W' hr hr' hbe
   refine ⟨⟨q5.keep hbe, hbw5.trans (hbe.mono (by omega)), by omega, by have := hbe.size; omega, (hbe.block D (by omega)).trans hD5⟩, rfl⟩
  case hassign2 =>
   rintro l r pre x W ⟨⟨h1, h2, h3, h4, h6⟩, h5⟩ hx hr _
   have HI1 := Lib.hid (show ((B1 (b + 1) (.int .i64 0) W ∧ Below b w W ∧ bx2 + 1 ≤ r ∧ bx2 + 1 ≤ W.heap.size ∧ W.heap[D]? = some (.deferred (some []))) ∧ (pre.map (·.1)).all nameB = true) from ⟨⟨h1, h2, h3, h4, h6⟩, h5⟩)
   clear h1 h2 h3 h4 h5 h6 hx
   simp only [xv]
   gi_wp2
   obtain ⟨h1, h2, h3, h4, h6⟩ := HI1.out.1
   have hbn : Below W.heap.size W (W.alloc (.cells #[.int .i64 x.1.op, .int .i64 x.1.n, .string (str x.1.s), .slice x.2.1 x.1.args.length x.2.2] 24)) := bal (bref _) _
   refine ⟨others_below hbn, keep_below hbn (by omega) hr, ⟨⟨h1.keep hbn, h2.trans (hbn.mono (by omega)), h3, by have := hbn.size; omega, (hbn.block D (by omega)).trans h6⟩, HI1.out.2⟩, W.heap.size, Bx.new W x _, by simp⟩
  case hbody2 =>
   rintro l r pre x a1 W ⟨⟨⟨h1, h2, h3, h4, h6⟩, h5⟩, nb, hN, rfl⟩ hr
   have HI1 := Lib.hid (show ((B1 (b + 1) (.int .i64 0) W ∧ Below b w W ∧ bx2 + 1 ≤ r ∧ bx2 + 1 ≤ W.heap.size ∧ W.heap[D]? = some (.deferred (some []))) ∧ (pre.map (·.1)).all nameB = true) from ⟨⟨h1, h2, h3, h4, h6⟩, h5⟩)
   have MF := Lib.hid (fun W' (hW : Below W.heap.size W W') => mvariable (str x.1.s) W' ((HG.out.keep (by rw [hb]; exact h2)).keep hW).2.1 ((HG.out.keep (by rw [hb]; exact h2)).keep hW).2.2)
   rw [byt_str] at MF
   obtain ⟨n1, n2, n3, n4, n5⟩ := hN
   obtain ⟨h1a, h1b⟩ := h1
   have HI2 : Hid (nameB x.1 = (!decide (x.1.op = 4) || varOk x.1.s)) := Lib.hid rfl
   obtain ⟨o, ho⟩ : ∃ o, x.1.op = o := ⟨_, rfl⟩
   obtain ⟨X, hX⟩ : ∃ X, str x.1.s = X := ⟨_, rfl⟩
   rw [ho] at n2 HI2
   rw [hX] at n4 MF
   clear h2 h3 h4 h5 h6 ho hX
   by_cases ho4 : o = 4
   ·subst ho4
    by_cases hf : varOk x.1.s = true
    ·rw [hf] at MF
     have hnb : nameB x.1 = true := by rw [HI2.out, hf]; simp
     have HNB := Lib.hid hnb
     clear hnb
     gi_wp2
     refine ⟨trivial, rfl, (CallsIn.inRound l (callsIn_wide.2 (MF.out _ (by repeat (first | exact bref _ | refine bdr ?_ | refine bal ?_ _))))).mono ?_⟩
     rintro r4 w4 ⟨rfl, hb4⟩
     gi_wp2
     obtain ⟨h1, h2, h3, h4, h6⟩ := HI1.out.1
     refine ⟨others_below hb4, keep_below hb4 (by omega) hr, ⟨h1.keep hb4, h2.trans (hb4.mono (by omega)), h3, by have := hb4.size; omega, (hb4.block D (by omega)).trans h6⟩, ?_⟩
     rw [List.map_append, List.all_append, HI1.out.2]
     simp [HNB.out]
    ·have hf' : varOk x.1.s = false := by simpa using hf
     rw [hf'] at MF
     have hnb : nameB x.1 = false := by rw [HI2.out, hf']; rfl
     have HNB := Lib.hid hnb
     clear hnb hf hf'
     gi_wp2
     refine ⟨trivial, rfl, (CallsIn.inRound l (callsIn_wide.2 (MF.out _ (by repeat (first | exact bref _ | refine bdr ?_ | refine bal ?_ _))))).mono ?_⟩
     rintro r4 w4 ⟨rfl, hb4⟩
     have h1k := HI1.out.1.1.keep hb4
     obtain ⟨k1, k2⟩ := h1k
     gi_wp2
     obtain ⟨h1, h2, h3, h4, h6⟩ := HI1.out.1
     refine ⟨(others_below hb4).trans (KeepsOthers.setCell _ _ _), ⟨World.cell?_setCell_same' _ _ _ (by rw [k1]; rfl), by rw [World.frozen?_setCell]; exact k2⟩, (h2.trans (hb4.mono (by omega))).setCell (p := ⟨b + 1, 0, none⟩) (show b ≤ b + 1 by omega) _, by have := hb4.size; simp; omega, ?_, ?_⟩
     ·exact (Below.heap_setCell w4 ⟨b + 1, 0, none⟩ _ D (show D ≠ b + 1 by omega)).trans ((hb4.block D (by omega)).trans h6)
     ·rw [List.map_append, List.all_append]
      simp [HNB.out]
   ·have hnb : nameB x.1 = true := by rw [HI2.out, decide_eq_false ho4]; rfl
    have HNB := Lib.hid hnb
    have ho5 : (o == 4) = false := by rw [beq_eq_false_iff_ne]; exact ho4
    clear hnb
    gi_wp2
    refine ⟨trivial, ?_⟩
    gi_wp2
    obtain ⟨h1, h2, h3, h4, h6⟩ := HI1.out.1
    refine ⟨KeepsOthers.refl _, Keep.refl _ _ _, ⟨h1, h2, h3, h4, h6⟩, ?_⟩
    rw [List.map_append, List.all_append, HI1.out.2]
    simp [HNB.out]
  case hdone2 =>
   rintro D2 r xs W hD2 hS ⟨⟨⟨k1, k2⟩, h2, h3, h4, h6⟩, h5⟩ hrD hdef
   have hR3 : R = 0 := by
    rw [hR2]
    have : vnames e = true := by unfold vnames; rw [← all_perm hS]; exact h5
    rw [this]; rfl
   subst hR3
   have HB2 := Lib.hid h2
   have HD6 := Lib.hid h6
   clear h2 h6 hS h5 hR1 hR2
   gi_wp2
   have t1 : (W.setCell ⟨b + 1, 0, none⟩ (.int .i64 0)).heap[D2]? = some (.deferred (some [])) := (Below.heap_setCell W ⟨b + 1, 0, none⟩ _ D2 (show D2 ≠ b + 1 by omega)).trans hdef
   have t2 : ((W.setCell ⟨b + 1, 0, none⟩ (.int .i64 0)).putObj D2 (.deferred none)).heap[D]? = some (.deferred (some [])) := (World.putObj_heap_other (by omega)).trans ((Below.heap_setCell W ⟨b + 1, 0, none⟩ _ D (show D ≠ b + 1 by omega)).trans HD6.out)
   refine ⟨by simp, .inl ⟨_, _, rfl, run_takeDeferred t1, ?_⟩⟩
   refine ⟨by simp, .inl ⟨_, _, rfl, run_takeDeferred t2, ?_⟩⟩
   have hsc : (((W.setCell ⟨b + 1, 0, none⟩ (.int .i64 0)).putObj D2 (.deferred none)).putObj D (.deferred none)).cell? ⟨b + 1, 0, none⟩ = some (.int .i64 0) := put_cell (show b + 1 ≠ D by omega) (put_cell (show b + 1 ≠ D2 by omega) (World.cell?_setCell_same' _ _ _ (by rw [k1]; rfl)))
   refine ⟨.int .i64 0, by simp [results, Tryz.results47, go_sem, hsc], rfl, ?_⟩
   rw [hb]
   exact put_below (put_below (HB2.out.setCell (p := ⟨b + 1, 0, none⟩) (show b ≤ b + 1 by omega) _) (by omega) (by omega)) (by omega) (by omega)
  case hstop2 =>
   rintro D2 pre W hD2 ⟨ys, hS⟩ ⟨⟨k1, k2⟩, h2, h4, h6, h5⟩ hdef
   have hR3 : R = 4 := by
    rw [hR2]
    have : vnames e = false := all_part hS h5
    rw [this]; rfl
   subst hR3
   have HB2 := Lib.hid h2
   clear h2
   gi_wp2
   have t2 : (W.putObj D2 (.deferred none)).heap[D]? = some (.deferred (some [])) := (World.putObj_heap_other (by omega)).trans h6
   refine ⟨by simp, .inl ⟨_, _, rfl, run_takeDeferred hdef, ?_⟩⟩
   refine ⟨by simp, .inl ⟨_, _, rfl, run_takeDeferred t2, ?_⟩⟩
   have hsc : ((W.putObj D2 (.deferred none)).putObj D (.deferred none)).cell? ⟨b + 1, 0, none⟩ = some (.int .i64 4) := put_cell (show b + 1 ≠ D by omega) (put_cell (show b + 1 ≠ D2 by omega) k1)
   refine ⟨.int .i64 4, by simp [results, Tryz.results47, go_sem, hsc], rfl, ?_⟩
   rw [hb]
   exact put_below (put_below HB2.out (by omega) (by omega)) (by omega) (by omega)
 case hstop =>
  rintro D pre W hD ⟨ys, hS⟩ ⟨⟨k1, k2⟩, h2, h4, h5⟩ hdef
  have hright : right e = false := all_part hS h5
  have hR2 : R = 1 := by rw [hR1, hright]; rfl
  subst hR2
  have HB := Lib.hid h2
  clear h2
  gi_wp2
  refine ⟨by simp, .inl ⟨_, _, rfl, run_takeDeferred hdef, ?_⟩⟩
  have hsc : (W.putObj D (.deferred none)).cell? ⟨b + 1, 0, none⟩ = some (.int .i64 1) := put_cell (show b + 1 ≠ D by omega) k1
  refine ⟨.int .i64 1, by simp [results, Tryz.results47, go_sem, hsc], rfl, ?_⟩
  exact put_below (by rw [hb]; exact HB.out) (Nat.le_refl _) (by omega)
end Go.Proofs.YthanoilbcdhbkaaGreatDoor
