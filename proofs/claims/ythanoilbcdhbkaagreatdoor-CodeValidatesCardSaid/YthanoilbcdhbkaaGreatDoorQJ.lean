/-
  Merged: What examining an instruction calls: greatest, operands, jumps, formed, with, operated, left. The forms of instructions; what an operator and an instruction leave. What an operator and an instruction leave.
-/
import Derived.Test.YthanoilbcdhbkaaGreatDoorQH
import Derived.Test.YthanoilbcdhbkaaGreatDoorQGP
import Derived.LoopN
import Derived.Lib.AppendZerosOnto
import Derived.Shelf.Spec.SlicesGrow
namespace Go.Proofs.YthanoilbcdhbkaaGreatDoor
open Go Go.RowKit Go.Lib Go.Shelf WM TM EM YM

structure LI (ao : Option Addr) (c : Nat) (l : List Int) (w : World) : Prop where
 ints : IntsAt ao l w
 cap : l.length ≤ c
 nil : ao = none → l.length = 0 ∧ c = 0
theorem LI.keep {ao : Option Addr} {c : Nat} {l : List Int} {w w' : World} (h : LI ao c l w) (hb : Below w.heap.size w w') : LI ao c l w' := ⟨h.ints.keep hb, h.cap, h.nil⟩
theorem LI.sav {X : Nat → Prop} {ao : Option Addr} {c : Nat} {l : List Int} {w w' : World} (h : LI ao c l w) (hs : Sav X w w') (hX : ∀ a, ao = some a → ¬ X a.block) : LI ao c l w' := ⟨h.ints.sav hs hX, h.cap, h.nil⟩
theorem LI.empty (w : World) : LI none 0 [] w := ⟨IntsAt.nil _ _, Nat.le_refl _, fun _ => ⟨rfl, rfl⟩⟩
theorem LI.spot {ao : Option Addr} {c : Nat} {l : List Int} {w : World} (h : LI ao c l w) (hl : 0 < l.length) : ∃ b off, ao = some ⟨b, off, none⟩ ∧ b < w.heap.size := by
 obtain ⟨b, off, e, hb, _⟩ := h.ints 0 hl
 exact ⟨b, off, e, hb⟩
theorem LI.take {b off c : Nat} {l : List Int} {w : World} (h : LI (some ⟨b, off, none⟩) c l w) (k : Nat) (hk : k ≤ l.length) : LI (some ⟨b, off, none⟩) c (l.take k) w := by
 refine ⟨fun i hi => ?_, by rw [List.length_take]; have := h.cap; omega, fun e => by cases e⟩
 rw [List.length_take] at hi
 obtain ⟨b', o', e, hb, c0⟩ := h.ints i (by omega)
 exact ⟨b', o', e, hb, by rw [getD_take (0 : Int) l k i (by omega)]; exact c0⟩
theorem LI.drop {b off c : Nat} {l : List Int} {w : World} (h : LI (some ⟨b, off, none⟩) c l w) (k : Nat) (hk : k ≤ l.length) : IntsAt (some ⟨b, off + k, none⟩) (l.drop k) w := by
 intro i hi
 rw [List.length_drop] at hi
 obtain ⟨b', o', e, hb, c0⟩ := h.ints (k + i) (by omega)
 cases e
 refine ⟨b, off + k, rfl, hb, ?_⟩
 rw [show (l.drop k).getD i 0 = l.getD (k + i) 0 by simp [List.getD], Nat.add_assoc]
 exact c0
def From (w : World) (ao ao' : Option Addr) : Prop := ∀ a, ao' = some a → w.heap.size ≤ a.block ∨ ∃ a0, ao = some a0 ∧ a0.block = a.block
theorem own_li {w : World} {base n : Nat} {v : Value} {l : List Int} (h : w.ownsRow base 3 1 v n (vals l)) : ∃ ao c, v = .slice ao l.length c ∧ LI ao c l w ∧ ∀ a, ao = some a → base ≤ a.block := by
 obtain ⟨h0, ao, cap, h1, h2, h3, h4, h5⟩ := own_cells h
 have h6 : l.length = n := by simpa [vals] using h0
 refine ⟨ao, cap, by rw [h1, h6], ⟨fun i hi => ?_, by omega, fun e => by have := h4 e; omega⟩, h3⟩
 obtain ⟨g, e1, e2, e3⟩ := h5 i (by simpa [vals] using hi)
 exact ⟨g, 0, e1, e2, by rw [e3]; simp [vals, List.getD, hi]⟩
theorem news_of {w w' : World} {ao : Option Addr} {zs : List Int} (h : IntsAt ao zs w') (hw : w = w') : ∀ ad, ao = some ad → ∀ j u, (vals zs)[j]? = some u → w.cell? (ad.add j) = some u := by
 intro ad had j u hu
 subst hw
 have hj : j < zs.length := by simpa [vals] using (List.getElem?_eq_some_iff.1 hu).1
 obtain ⟨b, off, hao, _, c⟩ := h j hj
 rw [had] at hao
 cases hao
 have e : (vals zs)[j]? = some (.int .i64 (zs.getD j 0)) := by simp [vals, List.getD, hj]
 rw [e] at hu
 cases hu
 rw [Addr.add_lit]
 exact c
theorem one_vals (l : List Int) : ∀ u ∈ vals l, u.oneCell' = true := ints_oneCell .i64 l

set_option maxRecDepth 100000 in
set_option maxHeartbeats 4000000 in
theorem grow_nil (n : Nat) (hn : n ≤ 2000000) (w : World) :
  Calls Tryz.prog 108 #[.slice none 0 0, .int .i64 n] w fun e w' => ∃ v, e = .returned v ∧ w'.ownsRow w.heap.size 3 1 v 0 (vals []) ∧ Below w.heap.size w w' := by
 obtain ⟨i0, hi, hz0, hz1, hz2⟩ := info_parts info3
 by_cases h0 : n = 0
 ·subst h0
  go_enter Tryz.func108, Tryz.ntmps108
  go_wp2_with fail
  go_ret
  exact ⟨_, rfl, World.ownsRow_nil _ _ _ _, bref _⟩
 ·have hrz : ∀ ty, (Builtin.append_ #[85, 3] ty #[.slice none 0 0, .int .i64 n]).run Tryz.prog w =
    .ok (.slice (some ⟨w.heap.size, 0, none⟩) n (grownCap w n 0 3)) (w.drew.alloc (.cells (#[] ++ Builtin.zeroCells (Value.int .i64 0).cells n ++ Builtin.zeroCells (Value.int .i64 0).cells (grownCap w n 0 3 - n)) 3)) := fun ty => by
   have h := Lib.run_append_grow_zeros w 85 3 ty 3 i0 (.int .i64 0) .i64 .i64 Tryz.underlying85 Tryz.underlying3 hi hz0 none 0 0 [] (run_firstCells_none w.drew i0.size 0 0 0) n (by omega) (by omega) (by omega) (by omega) (by rw [hz2]; omega) (by
    rw [Nat.zero_add, hz2]
    exact growslice_fits (need := n) (old := 0) (bytes := 8) (by omega) (by omega))
   simpa using h
  have hGn : n ≤ grownCap w n 0 3 := grownCap_ge w _ _ _
  obtain ⟨G, hG⟩ : ∃ G, G = grownCap w n 0 3 := ⟨_, rfl⟩
  rw [← hG] at hrz hGn
  have hG63 : G ≤ 9223372036854775807 := by
   have := grownCap_le_maxLen w n 0 3 (by unfold maxLen; omega)
   rw [← hG] at this
   unfold maxLen at this
   omega
  have hn0 : 0 < n := by omega
  clear hG
  go_enter Tryz.func108, Tryz.ntmps108
  go_wp2_with (at_builtin; refine Lib.wpList_append_run _ rfl _ _ _ _ rfl _ _ rfl rfl _ _ (hrz _) ?_)
  go_ret
  refine ⟨_, rfl, ?_, bal (bdn (bref _) 1) _⟩
  exact World.ownsRow_made w.drew _ G (Nat.le_refl _) (by unfold maxLen; omega) (by simp [Builtin.zeroCells]; omega)

def TwoAt (sb : Nat) (x y : Value) (W : World) : Prop := W.cell? ⟨sb, 0, none⟩ = some x ∧ W.cell? ⟨sb, 1, none⟩ = some y
theorem TwoAt.keep {sb : Nat} {x y : Value} {w w' : World} (h : TwoAt sb x y w) (hb : Below w.heap.size w w') : TwoAt sb x y w' := by
 have hl : sb < w.heap.size := World.block_lt_of_cell? w _ h.1
 exact ⟨(hb.cell (p := ⟨sb, 0, none⟩) hl).trans h.1, (hb.cell (p := ⟨sb, 1, none⟩) hl).trans h.2⟩
theorem info_at : ∃ i0 : TypeInfo, Tryz.prog.info? 3 = some i0 ∧ i0.zero = some (.int .i64 0) ∧ i0.size = 1 ∧ i0.bytes = 8 := by
 obtain ⟨i0, hi, hz0, hz1, hz2⟩ := info_parts info3
 exact ⟨i0, hi, hz0, hz1, hz2⟩

set_option maxRecDepth 100000 in
set_option maxHeartbeats 8000000 in
theorem concat_any (sb : Nat) (ao bo : Option Addr) (ca cb : Nat) (xs ys : List Int) (w : World) (h1 : xs.length ≤ 1000000) (h2 : ys.length ≤ 1000000) (ht : TwoAt sb (.slice ao xs.length ca) (.slice bo ys.length cb) w)
  (hx : IntsAt ao xs w) (hy : IntsAt bo ys w) (nx : ao = none → xs.length = 0 ∧ ca = 0) (ny : bo = none → ys.length = 0 ∧ cb = 0) :
  Calls Tryz.prog 100 #[.slice (some ⟨sb, 0, none⟩) 2 2] w fun e w' => ∃ v, e = .returned v ∧ w'.ownsRow w.heap.size 3 1 v (xs.length + ys.length) (vals (xs ++ ys)) ∧ Below w.heap.size w w' := by
 obtain ⟨i0, hi, hz0, hz1, hz2⟩ := info_at
 obtain ⟨t0, t1⟩ := ht
 have HT := Lib.hid (show TwoAt sb (.slice ao xs.length ca) (.slice bo ys.length cb) w from ⟨t0, t1⟩)
 have HX := Lib.hid hx
 have HY := Lib.hid hy
 have NX := Lib.hid nx
 have NY := Lib.hid ny
 have CG : Hid (∀ W, Calls Tryz.prog 108 #[.slice none 0 0, .int .i64 ((xs.length : Int) + (ys.length : Int))] W fun e w' => ∃ v, e = .returned v ∧ w'.ownsRow W.heap.size 3 1 v 0 (vals []) ∧ Below W.heap.size W w') := Lib.hid (fun W => by
  have h := grow_nil (xs.length + ys.length) (by omega) W
  rw [Int.natCast_add] at h
  exact h)
 clear hx hy nx ny
 go_enter Tryz.func100, Tryz.ntmps100
 go_wp2_with fail
 refine wp_loop_rounds 3 ?_
 rw [rounds_succ]
 go_wp2_with fail
 rw [rounds_succ]
 go_wp2_with fail
 rw [rounds_succ]
 go_wp2_with fail
 refine (CG.out _).mono ?_
 rintro e w1 ⟨v, rfl, ov, B1⟩
 have HO := Lib.hid ov
 have HB1 := Lib.hid B1
 obtain ⟨s0, s1⟩ := HT.out.keep B1
 have hs1 := B1.size
 clear ov B1 t0 t1 CG
 go_wp2_with fail
 refine wp_loop_rounds 3 ?_
 rw [rounds_succ]
 go_wp2_with (first | (at_builtin; refine wpList_append_own_any rfl (.tmp 31) (.tmp 32) 85 rfl w.heap.size 3 i0 (.int .i64 0) 1 8 Tryz.underlying85 hi hz0 hz1 hz2 rfl (by decide) _ _ _ rfl HO.out ao xs.length ca (vals xs) rfl (by simp [vals]) NX.out (news_of (HX.out.keep HB1.out) rfl) (one_vals xs) (by unfold maxLen; omega) (by omega) hs1 ?_; intro v2 w2 ox gx))
 have B2 := HB1.out.grown gx hs1 (fun b hb => (HO.out.lt b hb).1)
 have HO2 := Lib.hid ox
 have HB2 := Lib.hid B2
 obtain ⟨r0, r1⟩ := HT.out.keep B2
 have hs2 := B2.size
 clear ox gx B2 s0 s1
 rw [rounds_succ]
 go_wp2_with (first | (at_builtin; refine wpList_append_own_any rfl (.tmp 31) (.tmp 32) 85 rfl w.heap.size 3 i0 (.int .i64 0) 1 8 Tryz.underlying85 hi hz0 hz1 hz2 rfl (by decide) _ _ _ rfl HO2.out bo ys.length cb (vals ys) rfl (by simp [vals]) NY.out (news_of (HY.out.keep HB2.out) rfl) (one_vals ys) (by unfold maxLen; omega) (by omega) hs2 ?_; intro v3 w3 oy gy))
 have B3 := HB2.out.grown gy hs2 (fun b hb => (HO2.out.lt b hb).1)
 have HO3 := Lib.hid oy
 have HB3 := Lib.hid B3
 clear oy gy B3 r0 r1
 rw [rounds_succ]
 go_wp2_with fail
 go_ret
 refine ⟨_, rfl, ?_, HB3.out⟩
 have := HO3.out
 simpa [vals] using this

theorem ints_one (w : World) (z : Int) (t : TypeId) (o : Obj) : IntsAt (some ⟨w.heap.size, 0, none⟩) [z] ((w.alloc (.cells #[.int .i64 z] t)).alloc o) := by
 intro i hi
 have : i = 0 := by simp at hi; exact hi
 subst this
 exact ⟨w.heap.size, 0, rfl, by simp; omega, by simp [go_sem]⟩
set_option maxRecDepth 100000 in
theorem mgreatestC (a : Int) (w : World) : Calls Tryz.prog 84 #[.int .i64 a] w fun r w' => r = .returned (.int .i64 (grtC a)) ∧ w = w' := by
 unfold grtC
 by_cases h1 : a = 1
 ·subst h1
  go_enter Tryz.func84, Tryz.ntmps84
  go_wp2_with fail
  go_ret
  exact ⟨rfl, rfl⟩
 have e1 : (a == 1) = false := beq_no h1
 by_cases h2 : a = 2
 ·subst h2
  go_enter Tryz.func84, Tryz.ntmps84
  go_wp2_with fail
  go_ret
  exact ⟨rfl, rfl⟩
 have e2 : (a == 2) = false := beq_no h2
 by_cases h3 : a = 3
 ·subst h3
  go_enter Tryz.func84, Tryz.ntmps84
  go_wp2_with fail
  go_ret
  exact ⟨rfl, rfl⟩
 have e3 : (a == 3) = false := beq_no h3
 rw [if_neg h1, if_neg h2, if_neg h3]
 clear h1 h2 h3
 go_enter Tryz.func84, Tryz.ntmps84
 go_wp2_with fail
 go_ret
 exact ⟨rfl, rfl⟩
set_option maxRecDepth 100000 in
theorem moperands (a : Int) (w : World) : Calls Tryz.prog 101 #[.int .i64 a] w fun r w' => r = .returned (.int .i64 (ar a : Nat)) ∧ w = w' := by
 unfold ar
 by_cases h1 : a = 9
 ·subst h1
  go_enter Tryz.func101, Tryz.ntmps101
  go_wp2_with fail
  go_ret
  exact ⟨rfl, rfl⟩
 have e1 : (a == 9) = false := beq_no h1
 by_cases h2 : a = 16
 ·subst h2
  go_enter Tryz.func101, Tryz.ntmps101
  go_wp2_with fail
  go_ret
  exact ⟨rfl, rfl⟩
 have e2 : (a == 16) = false := beq_no h2
 rw [if_neg (by omega)]
 clear h1 h2
 go_enter Tryz.func101, Tryz.ntmps101
 go_wp2_with fail
 go_ret
 exact ⟨rfl, rfl⟩
def jmpB (o : Int) : Bool := decide (o = 4) || decide (o = 5)
set_option maxRecDepth 100000 in
theorem mjumps (o a n : Int) (w : World) : Calls Tryz.prog 60 #[.agg #[.int .i64 o, .int .i64 a, .int .i64 n]] w fun r w' => r = .returned (.bool (jmpB o)) ∧ Below w.heap.size w w' := by
 unfold jmpB
 by_cases h1 : o = 4
 ·subst h1
  go_enter Tryz.func60, Tryz.ntmps60
  go_wp2_with fail
  go_ret
  exact ⟨rfl, by repeat (first | exact bref _ | refine bdr ?_ | refine bdn ?_ _ | refine bal ?_ _)⟩
 have e1 : (o == 4) = false := beq_no h1
 by_cases h2 : o = 5
 ·subst h2
  go_enter Tryz.func60, Tryz.ntmps60
  go_wp2_with fail
  go_ret
  exact ⟨rfl, by repeat (first | exact bref _ | refine bdr ?_ | refine bdn ?_ _ | refine bal ?_ _)⟩
 have e2 : (o == 5) = false := beq_no h2
 rw [decide_eq_false h1, decide_eq_false h2]
 clear h1 h2
 go_enter Tryz.func60, Tryz.ntmps60
 go_wp2_with fail
 go_ret
 exact ⟨rfl, by repeat (first | exact bref _ | refine bdr ?_ | refine bdn ?_ _ | refine bal ?_ _)⟩
set_option maxRecDepth 100000 in
set_option maxHeartbeats 2000000 in
theorem mwith (ao : Option Addr) (c : Nat) (l : List Int) (z : Int) (w : World) (hl : l.length ≤ 1000) (h : LI ao c l w) :
  Calls Tryz.prog 85 #[.slice ao l.length c, .int .i64 z] w fun r w' => ∃ ao' c', r = .returned (.slice ao' (l ++ [z]).length c') ∧ LI ao' c' (l ++ [z]) w' ∧ (∀ a, ao' = some a → w.heap.size ≤ a.block) ∧ Below w.heap.size w w' := by
 have CC := Lib.hid (fun W (hW : Below w.heap.size w W) sb bo (ht : TwoAt sb (.slice ao l.length c) (.slice bo 1 1) W) (hy : IntsAt bo [z] W) hn => concat_any sb ao bo c 1 l [z] W (by omega) (by simp) ht (h.ints.keep hW) hy h.nil hn)
 have HB := Lib.hid (show Below w.heap.size w ((w.alloc (.cells #[.int .i64 z] 3)).alloc (.cells #[.slice ao l.length c, .slice (some ⟨w.heap.size, 0, none⟩) 1 1] 85)) from bal (bal (bref w) _) _)
 obtain ⟨n, hn⟩ : ∃ n, l.length = n := ⟨_, rfl⟩
 rw [hn] at CC HB
 rw [hn]
 have HN := Lib.hid hn
 clear h hn hl
 go_enter Tryz.func85, Tryz.ntmps85
 go_wp2_with fail
 refine (CC.out _ HB.out (w.heap.size + 1) (some ⟨w.heap.size, 0, none⟩) ⟨by simp [go_sem], by simp [go_sem]⟩ (ints_one _ _ _ _) (fun e => by cases e)).mono ?_
 rintro r w1 ⟨v, rfl, ov, hb⟩
 obtain ⟨ao', c', rfl, hLI, hbl⟩ := own_li ov
 have HL := Lib.hid hLI
 have HX := Lib.hid (show ∀ a, ao' = some a → w.heap.size ≤ a.block from fun a e => by have := hbl a e; simp at this; omega)
 have HB1 := Lib.hid (btr HB.out hb)
 clear ov hLI hbl hb
 go_wp2_with fail
 go_ret
 exact ⟨ao', c', by first | rfl | simp, HL.out, HX.out, HB1.out⟩
end Go.Proofs.YthanoilbcdhbkaaGreatDoor

namespace Go.Proofs.YthanoilbcdhbkaaGreatDoor
open Go Go.RowKit Go.Lib Go.Shelf WM TM EM YM

set_option maxRecDepth 100000 in
set_option maxHeartbeats 4000000 in
theorem cformed (cd : Cd) (vo io : Option Addr) (vc ic i : Nat) (w : World) (h : CodeAt cd vo vc io ic w) (hi : i < cd.c.length) :
  Calls Tryz.prog 58 #[.agg #[.int .i64 cd.t, .slice vo cd.vs.length vc, .slice io cd.c.length ic], .int .i64 i] w fun r w' => r = .returned (.bool (formB cd.vs.length cd.c.length i (cd.c.getD i I0))) ∧ Below w.heap.size w w' := by
 obtain ⟨b, off, rfl, hb, c0, c1, c2⟩ := h.ins i hi
 obtain ⟨t, vs, c⟩ := cd
 simp only at hi c0 c1 c2 ⊢
 obtain ⟨x, hx⟩ : ∃ x, c.getD i I0 = x := ⟨_, rfl⟩
 rw [hx] at c0 c1 c2 ⊢
 obtain ⟨o, a, n⟩ := x
 simp only at c0 c1 c2
 obtain ⟨vn, hvn⟩ : ∃ n, vs.length = n := ⟨_, rfl⟩
 obtain ⟨cn, hcn⟩ : ∃ n, c.length = n := ⟨_, rfl⟩
 rw [hvn, hcn]
 rw [hcn] at hi
 have hiz : (i : Int) < (cn : Int) := by omega
 have HB0 := Lib.hid (show Below w.heap.size w ((w.alloc (.cells #[.int .i64 t, .slice vo vn vc, .slice (some ⟨b, off, none⟩) cn ic] 30)).alloc (.cells #[.int .i64 o, .int .i64 a, .int .i64 n] 47)) from bal (bal (bref w) _) _)
 clear h hx hvn hcn
 by_cases h1 : o = 1
 ·subst h1
  have hF : formB vn cn i (1, a, n) = (decide (0 ≤ n) && decide (n ≤ grtC a)) := by unfold formB; simp
  rw [hF]
  clear hF
  by_cases dn : 0 ≤ n
  ·rw [decide_eq_true dn, Bool.true_and]
   go_enter Tryz.func58, Tryz.ntmps58
   go_wp2_with fail
   obtain ⟨W1, hW1⟩ : ∃ W1, ((w.alloc (.cells #[.int .i64 t, .slice vo vn vc, .slice (some ⟨b, off, none⟩) cn ic] 30)).alloc (.cells #[.int .i64 1, .int .i64 a, .int .i64 n] 47)) = W1 := ⟨_, rfl⟩
   have b0 : W1.cell? ⟨w.heap.size + 1, 0, none⟩ = some (.int .i64 1) := by rw [← hW1]; simp [go_sem]
   have b1 : W1.cell? ⟨w.heap.size + 1, 1, none⟩ = some (.int .i64 a) := by rw [← hW1]; simp [go_sem]
   have b2 : W1.cell? ⟨w.heap.size + 1, 2, none⟩ = some (.int .i64 n) := by rw [← hW1]; simp [go_sem]
   rw [hW1] at HB0
   simp only [hW1]
   clear hW1
   refine wp_region_held_drew (S := (fun W => Below W1.heap.size W1 W)) (by kernel_rfl) (bdr (bref _)) (fun hH0 => ?_)
   refine wpAnyH_take (i := 0) (oi := _) (v := ?_) rfl (by kernel_rfl) (by kernel_rfl) (by kernel_rfl) (fun _ _ _ h => h) (Or.inl ⟨?_, ?_⟩) hH0 ?_
   rotate_left
   ·kernel_rfl
   ·(intro W' _; go_simp; (try with_reducible rfl))
   (try simp only [List.getElem_toArray, List.getElem_cons_zero, Act.put, List.setIfInBounds_toArray, List.set_cons_succ, List.set_cons_zero])
   refine wpAnyH_take (i := 1) (oi := _) (v := ?_) rfl (by kernel_rfl) (by kernel_rfl) (by kernel_rfl) (fun _ _ _ h => h) (Or.inl ⟨?_, ?_⟩) hH0 ?_
   rotate_left
   ·kernel_rfl
   ·(intro W' hSw; have f0 := keepc hSw b0; have f1 := keepc hSw b1; have f2 := keepc hSw b2; go_simp; (try with_reducible rfl))
   (try simp only [List.getElem_toArray, List.getElem_cons_succ, List.getElem_cons_zero, Act.put, List.setIfInBounds_toArray, List.set_cons_succ, List.set_cons_zero])
   refine wpAnyH_take (i := 2) (oi := _) (v := ?_) rfl (by kernel_rfl) (by kernel_rfl) (by kernel_rfl) (fun _ _ _ h => h) (Or.inl ⟨?_, ?_⟩) hH0 ?_
   rotate_left
   ·kernel_rfl
   ·(intro W' _; go_simp; (try simp only [dn, decide_true, if_true]); (try with_reducible rfl))
   (try simp only [List.getElem_toArray, List.getElem_cons_succ, List.getElem_cons_zero, Act.put, List.setIfInBounds_toArray, List.set_cons_succ, List.set_cons_zero])
   refine wpAnyH_take (i := 3) (oi := _) (v := ?_) rfl (by kernel_rfl) (by kernel_rfl) (by kernel_rfl) (fun _ _ _ h => h) (Or.inl ⟨?_, ?_⟩) hH0 ?_
   rotate_left
   ·kernel_rfl
   ·(intro W' _; go_simp; (try with_reducible rfl))
   (try simp only [List.getElem_toArray, List.getElem_cons_succ, List.getElem_cons_zero, Act.put, List.setIfInBounds_toArray, List.set_cons_succ, List.set_cons_zero])
   refine wpAnyH_take (i := 4) (oi := _) (v := ?_) rfl (by kernel_rfl) (by kernel_rfl) (by kernel_rfl) (fun _ _ _ h => h) (Or.inl ⟨?_, ?_⟩) hH0 ?_
   rotate_left
   ·kernel_rfl
   ·(intro W' _; go_simp; (try with_reducible rfl))
   (try simp only [List.getElem_toArray, List.getElem_cons_succ, List.getElem_cons_zero, Act.put, List.setIfInBounds_toArray, List.set_cons_succ, List.set_cons_zero])
   refine wpAnyH_take (i := 5) (oi := _) (v := ?_) rfl (by kernel_rfl) (by kernel_rfl) (by kernel_rfl) (fun _ _ _ h => h) (Or.inl ⟨?_, ?_⟩) hH0 ?_
   rotate_left
   ·kernel_rfl
   ·(intro W' hSw; have f0 := keepc hSw b0; have f1 := keepc hSw b1; have f2 := keepc hSw b2; go_simp; (try with_reducible rfl))
   (try simp only [List.getElem_toArray, List.getElem_cons_succ, List.getElem_cons_zero, Act.put, List.setIfInBounds_toArray, List.set_cons_succ, List.set_cons_zero])
   refine wpAnyH_take (i := 6) (oi := _) (v := ?_) rfl (by kernel_rfl) (by kernel_rfl) (by kernel_rfl) (fun _ _ _ h => h) (Or.inl ⟨?_, ?_⟩) hH0 ?_
   rotate_left
   ·kernel_rfl
   ·(intro W' _; go_simp; (try with_reducible rfl))
   (try simp only [List.getElem_toArray, List.getElem_cons_succ, List.getElem_cons_zero, Act.put, List.setIfInBounds_toArray, List.set_cons_succ, List.set_cons_zero])
   refine wpAnyH_take (i := 7) (oi := _) (v := ?_) rfl (by kernel_rfl) (by kernel_rfl) (by kernel_rfl) (fun _ _ _ h => h) (Or.inl ⟨?_, ?_⟩) hH0 ?_
   rotate_left
   ·kernel_rfl
   ·(intro W' hSw; have f0 := keepc hSw b0; have f1 := keepc hSw b1; have f2 := keepc hSw b2; go_simp; (try with_reducible rfl))
   (try simp only [List.getElem_toArray, List.getElem_cons_succ, List.getElem_cons_zero, Act.put, List.setIfInBounds_toArray, List.set_cons_succ, List.set_cons_zero])
   refine wpAnyH_ready (rs := [8]) (by kernel_rfl) (by simp) ?_
   refine AllReadyH.cons (o := _) rfl (fun K hK => ?_) AllReadyH.nil
   go_simp
   refine (mgreatestC a _).mono ?_
   rintro r w1 ⟨rfl, rfl⟩
   refine hK.out _ _ hH0 (fun hH1 => ?_)
   clear hK K
   (try simp only [List.getElem_toArray, List.getElem_cons_succ, List.getElem_cons_zero, Act.put, List.setIfInBounds_toArray, List.set_cons_succ, List.set_cons_zero])
   refine wpAnyH_take (i := 9) (oi := _) (v := ?_) rfl (by kernel_rfl) (by kernel_rfl) (by kernel_rfl) (fun _ _ _ h => h) (Or.inl ⟨?_, ?_⟩) hH1 ?_
   rotate_left
   ·kernel_rfl
   ·(intro W' _; go_simp; (try simp only [dn, decide_true, if_true]); (try with_reducible rfl))
   (try simp only [List.getElem_toArray, List.getElem_cons_succ, List.getElem_cons_zero, Act.put, List.setIfInBounds_toArray, List.set_cons_succ, List.set_cons_zero])
   refine wpAnyH_take (i := 10) (oi := _) (v := ?_) rfl (by kernel_rfl) (by kernel_rfl) (by kernel_rfl) (fun _ _ _ h => h) (Or.inl ⟨?_, ?_⟩) hH1 ?_
   rotate_left
   ·kernel_rfl
   ·(intro W' _; go_simp; (try simp only [dn, decide_true, if_true]); (try with_reducible rfl))
   (try simp only [List.getElem_toArray, List.getElem_cons_succ, List.getElem_cons_zero, Act.put, List.setIfInBounds_toArray, List.set_cons_succ, List.set_cons_zero])
   refine wpAnyH_take (i := 11) (oi := _) (v := ?_) rfl (by kernel_rfl) (by kernel_rfl) (by kernel_rfl) (fun _ _ _ h => h) (Or.inl ⟨?_, ?_⟩) hH1 ?_
   rotate_left
   ·kernel_rfl
   ·(intro W' _; go_simp; (try with_reducible rfl))
   (try simp only [List.getElem_toArray, List.getElem_cons_succ, List.getElem_cons_zero, Act.put, List.setIfInBounds_toArray, List.set_cons_succ, List.set_cons_zero])
   refine wpAnyH_done (by kernel_rfl) ?_ _
   go_wp2_with fail
   go_ret
   exact ⟨rfl, bdr HB0.out⟩
  ·have dd : decide (0 ≤ n) = false := decide_eq_false dn
   rw [dd, Bool.false_and]
   go_enter Tryz.func58, Tryz.ntmps58
   go_wp2_with fail
   obtain ⟨W1, hW1⟩ : ∃ W1, ((w.alloc (.cells #[.int .i64 t, .slice vo vn vc, .slice (some ⟨b, off, none⟩) cn ic] 30)).alloc (.cells #[.int .i64 1, .int .i64 a, .int .i64 n] 47)) = W1 := ⟨_, rfl⟩
   have b0 : W1.cell? ⟨w.heap.size + 1, 0, none⟩ = some (.int .i64 1) := by rw [← hW1]; simp [go_sem]
   have b1 : W1.cell? ⟨w.heap.size + 1, 1, none⟩ = some (.int .i64 a) := by rw [← hW1]; simp [go_sem]
   have b2 : W1.cell? ⟨w.heap.size + 1, 2, none⟩ = some (.int .i64 n) := by rw [← hW1]; simp [go_sem]
   rw [hW1] at HB0
   simp only [hW1]
   clear hW1
   refine wp_region_held_drew (S := (fun W => Below W1.heap.size W1 W)) (by kernel_rfl) (bdr (bref _)) (fun hH0 => ?_)
   refine wpAnyH_take (i := 0) (oi := _) (v := ?_) rfl (by kernel_rfl) (by kernel_rfl) (by kernel_rfl) (fun _ _ _ h => h) (Or.inl ⟨?_, ?_⟩) hH0 ?_
   rotate_left
   ·kernel_rfl
   ·(intro W' _; go_simp; (try with_reducible rfl))
   (try simp only [List.getElem_toArray, List.getElem_cons_zero, Act.put, List.setIfInBounds_toArray, List.set_cons_succ, List.set_cons_zero])
   refine wpAnyH_take (i := 1) (oi := _) (v := ?_) rfl (by kernel_rfl) (by kernel_rfl) (by kernel_rfl) (fun _ _ _ h => h) (Or.inl ⟨?_, ?_⟩) hH0 ?_
   rotate_left
   ·kernel_rfl
   ·(intro W' hSw; have f0 := keepc hSw b0; have f1 := keepc hSw b1; have f2 := keepc hSw b2; go_simp; (try with_reducible rfl))
   (try simp only [List.getElem_toArray, List.getElem_cons_succ, List.getElem_cons_zero, Act.put, List.setIfInBounds_toArray, List.set_cons_succ, List.set_cons_zero])
   refine wpAnyH_take (i := 2) (oi := _) (v := ?_) rfl (by kernel_rfl) (by kernel_rfl) (by kernel_rfl) (fun _ _ _ h => h) (Or.inl ⟨?_, ?_⟩) hH0 ?_
   rotate_left
   ·kernel_rfl
   ·(intro W' _; go_simp; (try simp only [dd]); (try with_reducible rfl))
   (try simp only [List.getElem_toArray, List.getElem_cons_succ, List.getElem_cons_zero, Act.put, List.setIfInBounds_toArray, List.set_cons_succ, List.set_cons_zero])
   refine wpAnyH_take (i := 3) (oi := _) (v := ?_) rfl (by kernel_rfl) (by kernel_rfl) (by kernel_rfl) (fun _ _ _ h => h) (Or.inl ⟨?_, ?_⟩) hH0 ?_
   rotate_left
   ·kernel_rfl
   ·(intro W' _; go_simp; (try with_reducible rfl))
   (try simp only [List.getElem_toArray, List.getElem_cons_succ, List.getElem_cons_zero, Act.put, List.setIfInBounds_toArray, List.set_cons_succ, List.set_cons_zero])
   refine wpAnyH_take (i := 4) (oi := _) (v := undef) rfl (by kernel_rfl) (by kernel_rfl) (by kernel_rfl) (fun _ _ _ h => h) (Or.inr ⟨?_, rfl⟩) hH0 ?_
   ·kernel_rfl
   (try simp only [List.getElem_toArray, List.getElem_cons_succ, List.getElem_cons_zero, Act.put, List.setIfInBounds_toArray, List.set_cons_succ, List.set_cons_zero])
   refine wpAnyH_take (i := 5) (oi := _) (v := undef) rfl (by kernel_rfl) (by kernel_rfl) (by kernel_rfl) (fun _ _ _ h => h) (Or.inr ⟨?_, rfl⟩) hH0 ?_
   ·kernel_rfl
   (try simp only [List.getElem_toArray, List.getElem_cons_succ, List.getElem_cons_zero, Act.put, List.setIfInBounds_toArray, List.set_cons_succ, List.set_cons_zero])
   refine wpAnyH_take (i := 6) (oi := _) (v := undef) rfl (by kernel_rfl) (by kernel_rfl) (by kernel_rfl) (fun _ _ _ h => h) (Or.inr ⟨?_, rfl⟩) hH0 ?_
   ·kernel_rfl
   (try simp only [List.getElem_toArray, List.getElem_cons_succ, List.getElem_cons_zero, Act.put, List.setIfInBounds_toArray, List.set_cons_succ, List.set_cons_zero])
   refine wpAnyH_take (i := 7) (oi := _) (v := undef) rfl (by kernel_rfl) (by kernel_rfl) (by kernel_rfl) (fun _ _ _ h => h) (Or.inr ⟨?_, rfl⟩) hH0 ?_
   ·kernel_rfl
   (try simp only [List.getElem_toArray, List.getElem_cons_succ, List.getElem_cons_zero, Act.put, List.setIfInBounds_toArray, List.set_cons_succ, List.set_cons_zero])
   refine wpAnyH_take (i := 8) (oi := _) (v := undef) rfl (by kernel_rfl) (by kernel_rfl) (by kernel_rfl) (fun _ _ _ h => h) (Or.inr ⟨?_, rfl⟩) hH0 ?_
   ·kernel_rfl
   (try simp only [List.getElem_toArray, List.getElem_cons_succ, List.getElem_cons_zero, Act.put, List.setIfInBounds_toArray, List.set_cons_succ, List.set_cons_zero])
   refine wpAnyH_take (i := 9) (oi := _) (v := undef) rfl (by kernel_rfl) (by kernel_rfl) (by kernel_rfl) (fun _ _ _ h => h) (Or.inr ⟨?_, rfl⟩) hH0 ?_
   ·kernel_rfl
   (try simp only [List.getElem_toArray, List.getElem_cons_succ, List.getElem_cons_zero, Act.put, List.setIfInBounds_toArray, List.set_cons_succ, List.set_cons_zero])
   refine wpAnyH_take (i := 10) (oi := _) (v := ?_) rfl (by kernel_rfl) (by kernel_rfl) (by kernel_rfl) (fun _ _ _ h => h) (Or.inl ⟨?_, ?_⟩) hH0 ?_
   rotate_left
   ·kernel_rfl
   ·(intro W' _; go_simp; (try simp only [dd]); (try with_reducible rfl))
   (try simp only [List.getElem_toArray, List.getElem_cons_succ, List.getElem_cons_zero, Act.put, List.setIfInBounds_toArray, List.set_cons_succ, List.set_cons_zero])
   refine wpAnyH_take (i := 11) (oi := _) (v := ?_) rfl (by kernel_rfl) (by kernel_rfl) (by kernel_rfl) (fun _ _ _ h => h) (Or.inl ⟨?_, ?_⟩) hH0 ?_
   rotate_left
   ·kernel_rfl
   ·(intro W' _; go_simp; (try with_reducible rfl))
   (try simp only [List.getElem_toArray, List.getElem_cons_succ, List.getElem_cons_zero, Act.put, List.setIfInBounds_toArray, List.set_cons_succ, List.set_cons_zero])
   refine wpAnyH_done (by kernel_rfl) ?_ _
   go_wp2_with fail
   go_ret
   exact ⟨rfl, bdr HB0.out⟩
 have e1 : (o != 1) = true := bne_yes h1
 have e1' : (o == 1) = false := beq_no h1
 by_cases hn : n = 0
 rotate_left
 ·have hF : formB vn cn i (o, a, n) = false := by unfold formB; simp [h1, hn]
  have en : (n != 0) = true := bne_yes hn
  rw [hF]
  clear hF h1 hn
  go_enter Tryz.func58, Tryz.ntmps58
  go_wp2_with fail
  go_ret
  exact ⟨rfl, HB0.out⟩
 subst hn
 by_cases h2 : o = 2
 ·subst h2
  have hF : formB vn cn i (2, a, 0) = (decide (0 ≤ a) && decide (a < vn)) := by unfold formB; simp
  rw [hF]
  clear hF h1
  by_cases dn : 0 ≤ a
  ·rw [decide_eq_true dn, Bool.true_and]
   by_cases dm : a < vn
   ·rw [decide_eq_true dm]
    go_enter Tryz.func58, Tryz.ntmps58
    go_wp2_with fail
    go_ret
    exact ⟨rfl, HB0.out⟩
   ·rw [decide_eq_false dm]
    go_enter Tryz.func58, Tryz.ntmps58
    go_wp2_with fail
    go_ret
    exact ⟨rfl, HB0.out⟩
  ·rw [decide_eq_false dn, Bool.false_and]
   go_enter Tryz.func58, Tryz.ntmps58
   go_wp2_with fail
   go_ret
   exact ⟨rfl, HB0.out⟩
 have e2 : (o == 2) = false := beq_no h2
 by_cases h3 : o = 3
 ·subst h3
  have hF : formB vn cn i (3, a, 0) = (decide (5 ≤ a) && decide (a ≤ 18)) := by unfold formB; simp
  rw [hF]
  clear hF h1 h2
  by_cases dn : 5 ≤ a
  ·rw [decide_eq_true dn, Bool.true_and]
   by_cases dm : a ≤ 18
   ·rw [decide_eq_true dm]
    go_enter Tryz.func58, Tryz.ntmps58
    go_wp2_with fail
    go_ret
    exact ⟨rfl, HB0.out⟩
   ·rw [decide_eq_false dm]
    go_enter Tryz.func58, Tryz.ntmps58
    go_wp2_with fail
    go_ret
    exact ⟨rfl, HB0.out⟩
  ·rw [decide_eq_false dn, Bool.false_and]
   go_enter Tryz.func58, Tryz.ntmps58
   go_wp2_with fail
   go_ret
   exact ⟨rfl, HB0.out⟩
 have e3 : (o == 3) = false := beq_no h3
 have hF : formB vn cn i (o, a, 0) = (jmpB o && (decide ((i : Int) < a) && decide (a ≤ cn))) := by unfold formB jmpB; simp [h1, h2, h3]
 rw [hF]
 have JU := Lib.hid (fun W => mjumps o a 0 W)
 obtain ⟨J, hJ⟩ : ∃ J, jmpB o = J := ⟨_, rfl⟩
 rw [hJ] at JU ⊢
 clear hF h1 h2 h3 hJ
 cases J with
 | false =>
  rw [Bool.false_and]
  go_enter Tryz.func58, Tryz.ntmps58
  go_wp2_with fail
  refine (JU.out _).mono ?_
  rintro r w1 ⟨rfl, hb1⟩
  have HB1 := Lib.hid (btr HB0.out hb1)
  clear hb1
  go_wp2_with fail
  go_ret
  exact ⟨rfl, HB1.out⟩
 | true =>
  rw [Bool.true_and]
  by_cases dn : (i : Int) < a
  ·rw [decide_eq_true dn, Bool.true_and]
   by_cases dm : a ≤ cn
   ·rw [decide_eq_true dm]
    go_enter Tryz.func58, Tryz.ntmps58
    go_wp2_with fail
    refine (JU.out _).mono ?_
    rintro r w1 ⟨rfl, hb1⟩
    have b1 := keepc hb1 (show ((w.alloc (.cells #[.int .i64 t, .slice vo vn vc, .slice (some ⟨b, off, none⟩) cn ic] 30)).alloc (.cells #[.int .i64 o, .int .i64 a, .int .i64 0] 47)).cell? ⟨w.heap.size + 1, 1, none⟩ = some (.int .i64 a) by simp [go_sem])
    have d2 := keepc hb1 (show ((w.alloc (.cells #[.int .i64 t, .slice vo vn vc, .slice (some ⟨b, off, none⟩) cn ic] 30)).alloc (.cells #[.int .i64 o, .int .i64 a, .int .i64 0] 47)).cell? ⟨w.heap.size, 2, none⟩ = some (.slice (some ⟨b, off, none⟩) cn ic) by simp [go_sem])
    have HB1 := Lib.hid (btr HB0.out hb1)
    clear hb1
    go_wp2_with fail
    go_ret
    exact ⟨rfl, HB1.out⟩
   ·rw [decide_eq_false dm]
    go_enter Tryz.func58, Tryz.ntmps58
    go_wp2_with fail
    refine (JU.out _).mono ?_
    rintro r w1 ⟨rfl, hb1⟩
    have b1 := keepc hb1 (show ((w.alloc (.cells #[.int .i64 t, .slice vo vn vc, .slice (some ⟨b, off, none⟩) cn ic] 30)).alloc (.cells #[.int .i64 o, .int .i64 a, .int .i64 0] 47)).cell? ⟨w.heap.size + 1, 1, none⟩ = some (.int .i64 a) by simp [go_sem])
    have d2 := keepc hb1 (show ((w.alloc (.cells #[.int .i64 t, .slice vo vn vc, .slice (some ⟨b, off, none⟩) cn ic] 30)).alloc (.cells #[.int .i64 o, .int .i64 a, .int .i64 0] 47)).cell? ⟨w.heap.size, 2, none⟩ = some (.slice (some ⟨b, off, none⟩) cn ic) by simp [go_sem])
    have HB1 := Lib.hid (btr HB0.out hb1)
    clear hb1
    go_wp2_with fail
    go_ret
    exact ⟨by first | rfl | simp [dm], HB1.out⟩
  ·rw [decide_eq_false dn, Bool.false_and]
   go_enter Tryz.func58, Tryz.ntmps58
   go_wp2_with fail
   refine (JU.out _).mono ?_
   rintro r w1 ⟨rfl, hb1⟩
   have b1 := keepc hb1 (show ((w.alloc (.cells #[.int .i64 t, .slice vo vn vc, .slice (some ⟨b, off, none⟩) cn ic] 30)).alloc (.cells #[.int .i64 o, .int .i64 a, .int .i64 0] 47)).cell? ⟨w.heap.size + 1, 1, none⟩ = some (.int .i64 a) by simp [go_sem])
   have HB1 := Lib.hid (btr HB0.out hb1)
   clear hb1
   go_wp2_with fail
   go_ret
   exact ⟨rfl, HB1.out⟩
end Go.Proofs.YthanoilbcdhbkaaGreatDoor

namespace Go.Proofs.YthanoilbcdhbkaaGreatDoor
open Go Go.RowKit Go.Lib Go.Shelf WM TM EM YM

set_option maxRecDepth 100000 in
set_option maxHeartbeats 4000000 in
theorem moperated (o : Int) (ao : Option Addr) (c : Nat) (l : List Int) (w : World) (hl : l.length ≤ 1000) (h : LI ao c l w) :
    Calls Tryz.prog 86 #[.int .i64 o, .slice ao l.length c] w fun r w' => ∃ v, r = .returned (.tuple #[v, .bool (opd o l).isSome]) ∧ (∀ m, opd o l = some m → ∃ ao' c', v = .slice ao' m.length c' ∧ LI ao' c' m w' ∧ ∀ a, ao' = some a → w.heap.size ≤ a.block) ∧ Below w.heap.size w w' := by
  have OP := Lib.hid (fun W => moperands o W)
  have har : ar o = 1 ∨ ar o = 2 := by unfold ar; split <;> simp
  obtain ⟨n, hn⟩ : ∃ n, l.length = n := ⟨_, rfl⟩
  have hopd : opd o l = if n < ar o then none else (resO o (l.drop (n - ar o))).map fun t => l.take (n - ar o) ++ [t] := by unfold opd; rw [hn]
  obtain ⟨q, hq⟩ : ∃ q, ar o = q := ⟨_, rfl⟩
  rw [hq] at OP har hopd
  by_cases hlt : n < q
  · rw [hopd, if_pos hlt, hn]
    have hz : (n : Int) - (q : Int) < 0 := by omega
    have hw : wrap64 ((n : Int) - (q : Int)) = (n : Int) - (q : Int) := by unfold wrap64; have := hl; omega
    clear h hn hq hopd
    go_enter Tryz.func86, Tryz.ntmps86
    go_wp2_with fail
    refine (OP.out _).mono ?_
    rintro r w0 ⟨rfl, rfl⟩
    go_wp2_with fail
    go_ret2
    exact ⟨_, rfl, (fun m hm => by cases hm), bref _⟩
  · obtain ⟨b, off, rfl, hb⟩ := h.spot (by omega)
    obtain ⟨k, hk⟩ : ∃ k, n = k + q := ⟨n - q, by omega⟩
    have hnk : n - q = k := by omega
    rw [hopd, if_neg hlt, hnk, hn]
    have hkl : k ≤ l.length := by omega
    have ht := h.take k hkl
    have hd := h.drop k hkl
    have hdl : (l.drop k).length = n - k := by rw [List.length_drop, hn]
    have htl : (l.take k).length = k := by rw [List.length_take]; omega
    have MR := Lib.hid (fun W (hW : Below w.heap.size w W) => mResult o (l.drop k) (some ⟨b, off + k, none⟩) (c - k) W (hd.keep hW))
    have MW := Lib.hid (fun z W (hW : Below w.heap.size w W) => mwith (some ⟨b, off, none⟩) c (l.take k) z W (by omega) (ht.keep hW))
    rw [hdl] at MR
    rw [htl] at MW
    have hcap := h.cap
    rw [hn] at hcap
    obtain ⟨Q, hQ⟩ : ∃ Q, resO o (l.drop k) = Q := ⟨_, rfl⟩
    rw [hQ] at MR ⊢
    obtain ⟨L, hL⟩ : ∃ L, l.take k = L := ⟨_, rfl⟩
    rw [hL] at MW ⊢
    have hz : (n : Int) - (q : Int) = (k : Int) := by omega
    have hw : wrap64 ((n : Int) - (q : Int)) = (k : Int) := by unfold wrap64; omega
    clear hz
    have hkn : (k : Int) ≤ (n : Int) := by omega
    have hnc : (n : Int) ≤ (c : Int) := by omega
    have hkc : (k : Int) ≤ (c : Int) := by omega
    have g0 : ¬ ((k : Int) < 0) := by omega
    have g1 : ¬ (c = k) := by omega
    have g2 : ¬ (k = c) := by omega
    have g3 : ¬ (c - k = 0) := by omega
    have g4 : ¬ ((k : Int) = (c : Int)) := by omega
    have g5 : ¬ ((c : Int) = (k : Int)) := by omega
    clear h hn hq hopd ht hd hdl htl hQ hL hk hnk hkl hl hlt hb
    go_enter Tryz.func86, Tryz.ntmps86
    go_wp2_with fail
    refine (OP.out _).mono ?_
    rintro r w0 ⟨rfl, rfl⟩
    go_wp2_with fail
    refine (MR.out _ (bref _)).mono ?_
    rintro r w1 ⟨rfl, hb1⟩
    have HB1 := Lib.hid hb1
    clear hb1
    go_wp2_with fail
    refine (MW.out _ _ HB1.out).mono ?_
    rintro r w2 ⟨ao', c', rfl, hLI, hbl, hb2⟩
    have HL := Lib.hid hLI
    have HX := Lib.hid (show ∀ a, ao' = some a → w.heap.size ≤ a.block from fun a e => by have := hbl a e; have := HB1.out.size; omega)
    have HB2 := Lib.hid (btr HB1.out hb2)
    clear hLI hbl hb2
    go_wp2_with fail
    go_ret2
    cases Q with
    | none => exact ⟨_, rfl, (fun m hm => by cases hm), HB2.out⟩
    | some t =>
      refine ⟨_, rfl, fun m hm => ?_, HB2.out⟩
      cases hm
      exact ⟨ao', c', by first | rfl | simp, HL.out, HX.out⟩
theorem wrap_small (k : Nat) (h : k ≤ 1000) : wrap64 (k : Int) = (k : Int) := by unfold wrap64; omega
theorem last_atI (l : List Int) (k : Nat) (h : l.length = k + 1) : l.getLast? = some (l.getD k 0) ∧ l.dropLast = l.take k := by
  refine ⟨?_, ?_⟩
  · rw [List.getLast?_eq_getElem?, h]
    simp [List.getD, h]
  · rw [List.dropLast_eq_take, h]; rfl
set_option maxRecDepth 100000 in
set_option maxHeartbeats 4000000 in
theorem cleft (vs : List Vr) (vo : Option Addr) (vc : Nat) (x : Ins) (ao : Option Addr) (c : Nat) (l : List Int) (w : World) (hv : VarsAt vo vs w) (hl : l.length ≤ 1000) (h : LI ao c l w) (hf : x.1 = 2 → 0 ≤ x.2.1 ∧ x.2.1 < vs.length) :
    Calls Tryz.prog 59 #[.agg #[.int .i64 x.1, .int .i64 x.2.1, .int .i64 x.2.2], .slice ao l.length c, .slice vo vs.length vc] w fun r w' => ∃ v, r = .returned (.tuple #[v, .bool (leftO vs x l).isSome]) ∧ (∀ m, leftO vs x l = some m → ∃ ao' c', v = .slice ao' m.length c' ∧ LI ao' c' m w' ∧ From w ao ao') ∧ Below w.heap.size w w' := by
  obtain ⟨o, a, z⟩ := x
  simp only at hf ⊢
  have MW := Lib.hid (fun z W (hW : Below w.heap.size w W) => mwith ao c l z W hl (h.keep hW))
  have HB0 := Lib.hid (show Below w.heap.size w (w.alloc (.cells #[.int .i64 o, .int .i64 a, .int .i64 z] 47)) from bal (bref w) _)
  by_cases h1 : o = 1
  · subst h1
    have hL : leftO vs (1, a, z) l = some (l ++ [a]) := by unfold leftO; simp
    rw [hL]
    obtain ⟨n, hn⟩ : ∃ n, l.length = n := ⟨_, rfl⟩
    obtain ⟨vn, hvn⟩ : ∃ n, vs.length = n := ⟨_, rfl⟩
    rw [hn] at MW ⊢
    rw [hvn]
    clear hf hv h hl hL hn hvn
    go_enter Tryz.func59, Tryz.ntmps59
    go_wp2_with fail
    refine (MW.out _ _ HB0.out).mono ?_
    rintro r w1 ⟨ao', c', rfl, hLI, hbl, hb1⟩
    have HL := Lib.hid hLI
    have HX := Lib.hid (show From w ao ao' from fun a e => Or.inl (by have := hbl a e; simp at this; omega))
    have HB1 := Lib.hid (btr HB0.out hb1)
    clear hLI hbl hb1
    go_wp2_with fail
    go_ret2
    refine ⟨_, rfl, fun m hm => ?_, HB1.out⟩
    cases hm
    exact ⟨ao', c', by first | rfl | simp, HL.out, HX.out⟩
  have e1 : (o == 1) = false := beq_no h1
  by_cases h2 : o = 2
  · subst h2
    have hL : leftO vs (2, a, z) l = some (l ++ [(vs.getD a.toNat ([], 0)).2]) := by unfold leftO; simp
    obtain ⟨f0, f1⟩ := hf rfl
    obtain ⟨k, rfl⟩ : ∃ k : Nat, a = (k : Int) := ⟨a.toNat, by omega⟩
    rw [Int.toNat_natCast] at hL
    rw [hL]
    obtain ⟨b, off, rfl, hbv, c0, c1⟩ := (hv.keep HB0.out) k (by omega)
    obtain ⟨y, hy⟩ : ∃ y, vs.getD k V0 = y := ⟨_, rfl⟩
    rw [show vs.getD k ([], 0) = y from hy]
    rw [hy] at c0 c1
    obtain ⟨y0, y1⟩ := y
    obtain ⟨n, hn⟩ : ∃ n, l.length = n := ⟨_, rfl⟩
    obtain ⟨vn, hvn⟩ : ∃ n, vs.length = n := ⟨_, rfl⟩
    rw [hn] at MW ⊢
    rw [hvn] at f1 ⊢
    simp only at c0 c1 ⊢
    clear hf hv h hl hL hn hvn hy h1
    go_enter Tryz.func59, Tryz.ntmps59
    go_wp2_with fail
    refine (MW.out _ _ HB0.out).mono ?_
    rintro r w1 ⟨ao', c', rfl, hLI, hbl, hb1⟩
    have HL := Lib.hid hLI
    have HX := Lib.hid (show From w ao ao' from fun a e => Or.inl (by have := hbl a e; simp at this; omega))
    have HB1 := Lib.hid (btr HB0.out hb1)
    clear hLI hbl hb1
    go_wp2_with fail
    go_ret2
    refine ⟨_, rfl, fun m hm => ?_, HB1.out⟩
    cases hm
    exact ⟨ao', c', by first | rfl | simp, HL.out, HX.out⟩
  have e2 : (o == 2) = false := beq_no h2
  by_cases h3 : o = 3
  · subst h3
    have hL : leftO vs (3, a, z) l = opd a l := by unfold leftO; simp
    rw [hL]
    have OD := Lib.hid (fun W (hW : Below w.heap.size w W) => moperated a ao c l W hl (h.keep hW))
    obtain ⟨n, hn⟩ : ∃ n, l.length = n := ⟨_, rfl⟩
    obtain ⟨vn, hvn⟩ : ∃ n, vs.length = n := ⟨_, rfl⟩
    obtain ⟨Q, hQ⟩ : ∃ Q, opd a l = Q := ⟨_, rfl⟩
    rw [hn, hQ] at OD
    rw [hn, hvn, hQ]
    clear hf hv h hl hL hn hvn hQ h1 h2 MW
    go_enter Tryz.func59, Tryz.ntmps59
    go_wp2_with fail
    refine (OD.out _ HB0.out).mono ?_
    rintro r w1 ⟨v, rfl, hm, hb1⟩
    have HM := Lib.hid (show ∀ m, Q = some m → ∃ ao' c', v = .slice ao' m.length c' ∧ LI ao' c' m w1 ∧ From w ao ao' from fun m e => by
      obtain ⟨ao', c', k1, k2, k3⟩ := hm m e
      exact ⟨ao', c', k1, k2, fun a ha => Or.inl (by have := k3 a ha; simp at this; omega)⟩)
    have HB1 := Lib.hid (btr HB0.out hb1)
    clear hm hb1
    go_wp2_with fail
    go_ret2
    exact ⟨v, rfl, HM.out, HB1.out⟩
  have e3 : (o == 3) = false := beq_no h3
  by_cases h5 : o = 5
  · subst h5
    have hL : leftO vs (5, a, z) l = if l.getLast? = some 5 then some l.dropLast else none := by unfold leftO; simp
    rw [hL]
    have h' := h.keep HB0.out
    obtain ⟨vn, hvn⟩ : ∃ n, vs.length = n := ⟨_, rfl⟩
    rw [hvn]
    cases hn : l.length with
    | zero =>
      have hl0 : l = [] := List.eq_nil_of_length_eq_zero hn
      subst hl0
      rw [show (if ([] : List Int).getLast? = some 5 then some ([] : List Int).dropLast else none) = (none : Option (List Int)) from rfl]
      clear hf hv h h' hl hL hn hvn MW
      go_enter Tryz.func59, Tryz.ntmps59
      go_wp2_with fail
      go_ret2
      first | exact ⟨⟨_, rfl⟩, HB0.out⟩ | exact ⟨_, rfl, (fun m hm => by cases hm), HB0.out⟩
    | succ k =>
      obtain ⟨q1, q2⟩ := last_atI l k hn
      rw [q1, q2]
      obtain ⟨b, off, rfl, hb, c0⟩ := h'.ints k (by omega)
      have ht := Lib.hid (h.take k (by omega))
      have htl : (l.take k).length = k := by rw [List.length_take]; omega
      have hcap := h.cap
      rw [hn] at hcap
      obtain ⟨L, hLl⟩ : ∃ L, l.take k = L := ⟨_, rfl⟩
      rw [hLl] at ht htl ⊢
      have HTL := Lib.hid htl
      obtain ⟨y, hy⟩ : ∃ y, l.getD k 0 = y := ⟨_, rfl⟩
      rw [hy] at c0 ⊢
      have g0 : ¬ ((k : Int) < 0) := by omega
      have g1 : (k : Int) ≤ (c : Int) := by omega
      have g2 : (k : Int) < (k : Int) + 1 := by omega
      have g3 : (k : Int) < ((k + 1 : Nat) : Int) := by omega
      have hk9 : k ≤ 1000 := by omega
      have hw3 := wrap_small k hk9
      by_cases hy5 : y = 5
      · subst hy5
        rw [if_pos rfl]
        clear hf hv h h' hl hL hn hvn MW q1 q2 hy hLl htl hb
        go_enter Tryz.func59, Tryz.ntmps59
        go_wp2_with fail
        go_ret2
        refine ⟨_, rfl, ?_, HB0.out⟩
        first
        | exact ⟨_, c, by rw [HTL.out]; rfl, ht.out.keep HB0.out, fun a ha => Or.inr ⟨a, ha, rfl⟩⟩
        | (intro m hm
           cases hm
           exact ⟨_, c, by rw [HTL.out]; rfl, ht.out.keep HB0.out, fun a ha => Or.inr ⟨a, ha, rfl⟩⟩)
      · have hyb : (y != 5) = true := bne_yes hy5
        have hif : (if some y = some 5 then some L else none) = none := by rw [if_neg]; intro e; injection e with e; exact hy5 e
        rw [hif]
        clear hf hv h h' hl hL hn hvn MW q1 q2 hy hLl htl hb hy5 hif
        go_enter Tryz.func59, Tryz.ntmps59
        go_wp2_with fail
        go_ret2
        first | exact ⟨⟨_, rfl⟩, HB0.out⟩ | exact ⟨_, rfl, (fun m hm => by cases hm), HB0.out⟩
  have e5 : (o == 5) = false := beq_no h5
  have hL : leftO vs (o, a, z) l = some l := by unfold leftO; simp [h1, h2, h3, h5]
  rw [hL]
  have HH := Lib.hid (h.keep HB0.out)
  obtain ⟨n, hn⟩ : ∃ n, l.length = n := ⟨_, rfl⟩
  obtain ⟨vn, hvn⟩ : ∃ n, vs.length = n := ⟨_, rfl⟩
  rw [hn, hvn]
  have HN := Lib.hid hn
  clear hf hv h hl hL hn hvn h1 h2 h3 h5 MW
  go_enter Tryz.func59, Tryz.ntmps59
  go_wp2_with fail
  go_ret2
  refine ⟨_, rfl, ?_, HB0.out⟩
  first
  | exact ⟨ao, c, by rw [HN.out]; rfl, HH.out, fun a ha => Or.inr ⟨a, ha, rfl⟩⟩
  | (intro m hm
     cases hm
     exact ⟨ao, c, by rw [HN.out]; rfl, HH.out, fun a ha => Or.inr ⟨a, ha, rfl⟩⟩)
end Go.Proofs.YthanoilbcdhbkaaGreatDoor
