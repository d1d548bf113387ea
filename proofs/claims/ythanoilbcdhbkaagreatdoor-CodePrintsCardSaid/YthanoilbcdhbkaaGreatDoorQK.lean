/-
  Merged: The places of examine: what is known of the stack; certain, reach. examine of the program: the loop over the instructions; Validate, Depth.
-/
import Derived.Test.YthanoilbcdhbkaaGreatDoorQJ
namespace Go.Proofs.YthanoilbcdhbkaaGreatDoor
open Go Go.RowKit Go.Lib Go.Shelf WM TM EM YM

def PlAt (b o : Nat) (s : St) (W : World) : Prop := ∃ (ao : Option Addr) (c : Nat) (l : List Int) (r m : Bool),
 W.cell? ⟨b, o, none⟩ = some (.slice ao l.length c) ∧ W.cell? ⟨b, o + 1, none⟩ = some (.bool r) ∧ W.cell? ⟨b, o + 2, none⟩ = some (.bool m) ∧
 W.frozen? ⟨b, o, none⟩ = false ∧ W.frozen? ⟨b, o + 1, none⟩ = false ∧ W.frozen? ⟨b, o + 2, none⟩ = false ∧
 LI ao c l W ∧ (∀ a, ao = some a → a.block ≠ b) ∧ l.length ≤ 1000 ∧ r = s.isSome ∧ m = decide (s = some none) ∧ (∀ l', s = some (some l') → l' = l)
theorem PlAt.lt {b o : Nat} {s : St} {W : World} (h : PlAt b o s W) : b < W.heap.size := by
 obtain ⟨ao, c, l, r, m, h0, _⟩ := h
 exact World.block_lt_of_cell? W _ h0
theorem PlAt.keep {b o : Nat} {s : St} {W W' : World} (h : PlAt b o s W) (hb : Below W.heap.size W W') : PlAt b o s W' := by
 obtain ⟨ao, c, l, r, m, h0, h1, h2, f0, f1, f2, hl, hx, h3⟩ := h
 exact ⟨ao, c, l, r, m, keepc hb h0, keepc hb h1, keepc hb h2, keepf hb h0 f0, keepf hb h1 f1, keepf hb h2 f2, hl.keep hb, hx, h3⟩
structure Rest (b o : Nat) (w w' : World) : Prop where
 sav : Sav (fun k => k = b) w w'
 cell : ∀ o', o' < o ∨ o + 3 ≤ o' → w'.cell? ⟨b, o', none⟩ = w.cell? ⟨b, o', none⟩
 froz : ∀ x : Addr, x.block = b → w'.frozen? x = w.frozen? x
theorem Rest.of_below {b o : Nat} {w w' : World} (h : Below w.heap.size w w') (hb : b < w.heap.size) : Rest b o w w' :=
 ⟨Sav.of_below h, fun o' _ => h.cell (p := ⟨b, o', none⟩) hb, fun x hx => h.frozen (by rw [hx]; exact hb)⟩
theorem Rest.set {b o : Nat} {w w' : World} (h : Rest b o w w') (j : Nat) (h1 : o ≤ j) (h2 : j < o + 3) (v : Value) : Rest b o w (w'.setCell ⟨b, j, none⟩ v) :=
 ⟨h.sav.trans (Sav.setCell w' ⟨b, j, none⟩ v) (fun _ _ e => e), fun o' ho => (World.cell?_setCell_other _ _ _ _ (by intro e; injection e with _ e; omega)).trans (h.cell o' ho), fun x hx => (World.frozen?_setCell _ _ _ _).trans (h.froz x hx)⟩
theorem PlAt.rest {b o o1 : Nat} {s : St} {W W' : World} (h : PlAt b o s W) (hr : Rest b o1 W W') (ho : o + 3 ≤ o1 ∨ o1 + 3 ≤ o) : PlAt b o s W' := by
 obtain ⟨ao, c, l, r, m, h0, h1, h2, f0, f1, f2, hl, hx, h3⟩ := h
 exact ⟨ao, c, l, r, m, (hr.cell o (by omega)).trans h0, (hr.cell (o + 1) (by omega)).trans h1, (hr.cell (o + 2) (by omega)).trans h2,
  (hr.froz ⟨b, o, none⟩ rfl).trans f0, (hr.froz ⟨b, o + 1, none⟩ rfl).trans f1, (hr.froz ⟨b, o + 2, none⟩ rfl).trans f2, hl.sav hr.sav (fun a ha e => hx a ha e), hx, h3⟩
def Pls (b n : Nat) (S : Nat → St) (W : World) : Prop := ∀ j, j ≤ n → PlAt b (j * 3) (S j) W
theorem Pls.keep {b n : Nat} {S : Nat → St} {W W' : World} (h : Pls b n S W) (hb : Below W.heap.size W W') : Pls b n S W' := fun j hj => (h j hj).keep hb
theorem Pls.reach {b n : Nat} {S : Nat → St} {W W' : World} (h : Pls b n S W) (j : Nat) {s : St} (hp : PlAt b (j * 3) s W') (hr : Rest b (j * 3) W W') : Pls b n (upd S j s) W' := by
 intro i hi
 by_cases e : i = j
 ·subst e; rw [upd_same]; exact hp
 ·rw [upd_ne _ _ e]; exact (h i hi).rest hr (by omega)
def certB (s : St) : Bool := match s with | some (some _) => true | _ => false
set_option maxRecDepth 100000 in
theorem mcertain (b o : Nat) (s : St) (w : World) (h : PlAt b o s w) :
  Calls Tryz.prog 57 #[.pointer (some ⟨b, o, none⟩)] w fun r w' => r = .returned (.bool (certB s)) ∧ w = w' := by
 obtain ⟨ao, c, l, r, m, h0, h1, h2, f0, f1, f2, hl, hx, _, hr, hm, _⟩ := h
 clear hl hx f0 f1 f2
 subst hr hm
 match s with
 | none =>
  have h1' : w.cell? ⟨b, o + 1, none⟩ = some (.bool false) := h1
  clear h1 h2
  go_enter Tryz.func57, Tryz.ntmps57
  go_wp2_with fail
  go_ret
  exact ⟨rfl, rfl⟩
 | some none =>
  have h1' : w.cell? ⟨b, o + 1, none⟩ = some (.bool true) := h1
  have h2' : w.cell? ⟨b, o + 2, none⟩ = some (.bool true) := h2
  clear h1 h2
  go_enter Tryz.func57, Tryz.ntmps57
  go_wp2_with fail
  go_ret
  exact ⟨rfl, rfl⟩
 | some (some q) =>
  have h1' : w.cell? ⟨b, o + 1, none⟩ = some (.bool true) := h1
  have h2' : w.cell? ⟨b, o + 2, none⟩ = some (.bool false) := h2.trans (by simp)
  clear h1 h2
  go_enter Tryz.func57, Tryz.ntmps57
  go_wp2_with fail
  go_ret
  exact ⟨rfl, rfl⟩
theorem reach_done {b o : Nat} {s : St} {w w1 : World} {ao : Option Addr} {c : Nat} {m : List Int} (h : PlAt b o s w) (hb : Below w.heap.size w w1) (hL : LI ao c m w) (hx : ∀ a, ao = some a → a.block ≠ b) (hm : m.length ≤ 1000) (mx : Bool) (w2 : World)
  (hw : (mx = true ∧ w2 = w1.setCell ⟨b, o + 2, none⟩ (.bool true)) ∨ (w2 = w1 ∧ mx = decide (s = some none))) (hs : (meet s m).isSome = true ∧ mx = decide (meet s m = some none)) :
  PlAt b o (meet s m) ((w2.setCell ⟨b, o, none⟩ (.slice ao m.length c)).setCell ⟨b, o + 1, none⟩ (.bool true)) ∧ Rest b o w ((w2.setCell ⟨b, o, none⟩ (.slice ao m.length c)).setCell ⟨b, o + 1, none⟩ (.bool true)) := by
 have hlt := h.lt
 obtain ⟨ao1, c1, l, r, q, h0, h1, h2, f0, f1, f2, hl, hx1, _, hr, hq, _⟩ := h.keep hb
 have R1 : Rest b o w w2 := by
  rcases hw with ⟨_, rfl⟩ | ⟨rfl, _⟩
  ·exact (Rest.of_below hb hlt).set (o + 2) (by omega) (by omega) _
  ·exact Rest.of_below hb hlt
 have R2 := (R1.set o (by omega) (by omega) (.slice ao m.length c)).set (o + 1) (by omega) (by omega) (.bool true)
 refine ⟨⟨ao, c, m, true, mx, ?_, ?_, ?_, ?_, ?_, ?_, hL.sav R2.sav (fun a ha e => hx a ha e), hx, hm, hs.1.symm, hs.2, fun l' e => ?_⟩, R2⟩
 ·rcases hw with ⟨_, rfl⟩ | ⟨rfl, _⟩ <;> simp [go_sem, h0]
 ·rcases hw with ⟨_, rfl⟩ | ⟨rfl, _⟩ <;> simp [go_sem, h1]
 ·rcases hw with ⟨e, rfl⟩ | ⟨rfl, e⟩
  ·simp [go_sem, h2, e]
  ·simp [go_sem, h2, e, hq]
 ·rcases hw with ⟨_, rfl⟩ | ⟨rfl, _⟩ <;> simp [go_sem, f0]
 ·rcases hw with ⟨_, rfl⟩ | ⟨rfl, _⟩ <;> simp [go_sem, f1]
 ·rcases hw with ⟨_, rfl⟩ | ⟨rfl, _⟩ <;> simp [go_sem, f2]
 ·rcases meet_any s m with h | h
  ·rw [h] at e; cases e
  ·rw [h] at e; cases e; rfl
theorem meet_some (s : St) (m : List Int) : (meet s m).isSome = true := by rcases meet_any s m with h | h <;> rw [h] <;> rfl
theorem reach_mix (s : St) (l m : List Int) (hl : ∀ l', s = some (some l') → l' = l) (hs : s.isSome = true) : decide (meet s m = some none) = (decide (s = some none) || !decide (l = m)) ∨ s = some none := by
 match s, hl, hs with
 | none, _, hs => cases hs
 | some none, _, _ => exact Or.inr rfl
 | some (some q), hl, _ =>
  have : q = l := hl q rfl
  subst this
  refine Or.inl ?_
  unfold meet
  by_cases e : q = m <;> simp [e]
set_option maxRecDepth 100000 in
set_option maxHeartbeats 4000000 in
theorem mreach (b o : Nat) (s : St) (ao : Option Addr) (c : Nat) (m : List Int) (w : World) (h : PlAt b o s w) (hL : LI ao c m w) (hx : ∀ a, ao = some a → a.block ≠ b) (hm : m.length ≤ 1000) :
  Calls Tryz.prog 56 #[.pointer (some ⟨b, o, none⟩), .slice ao m.length c] w fun r w' => r = .returned (.tuple #[]) ∧ PlAt b o (meet s m) w' ∧ Rest b o w w' := by
 have H := Lib.hid h
 have HL := Lib.hid hL
 have HX := Lib.hid hx
 have HM := Lib.hid hm
 obtain ⟨ao1, c1, l, r, q, h0, h1, h2, f0, f1, f2, hl, hx1, hl1, hr, hq, hll⟩ := h
 have EQ := Lib.hid (mEqI ao1 ao l m c1 c w (by omega) hl.ints hL.ints)
 have HQ := Lib.hid hq
 have HSM := Lib.hid (meet_some s m)
 obtain ⟨k, hk⟩ : ∃ k, m.length = k := ⟨_, rfl⟩
 have HK := Lib.hid hk
 obtain ⟨ln, hln⟩ : ∃ k, l.length = k := ⟨_, rfl⟩
 rw [hk, hln] at EQ
 rw [hln] at h0
 cases hs : s.isSome with
 | false =>
  have hsn : s = none := by cases s with | none => rfl | some _ => cases hs
  subst hsn
  rw [hs] at hr
  subst hr
  have D := Lib.hid (reach_done H.out (bref w) HL.out HX.out HM.out (decide ((none : St) = some none)) w (Or.inr ⟨rfl, rfl⟩) ⟨HSM.out, by simp [meet]⟩)
  rw [hk] at D ⊢
  clear hl hx1 hll hln hL hx hm hk HQ hq EQ
  go_enter Tryz.func56, Tryz.ntmps56
  go_wp2_with fail
  go_end0
  exact ⟨rfl, D.out⟩
 | true =>
  rw [hs] at hr
  subst hr
  have RM := reach_mix s l m hll hs
  obtain ⟨E, hE⟩ : ∃ E, decide (l = m) = E := ⟨_, rfl⟩
  rw [hE] at EQ RM
  cases E with
  | true =>
   have D := Lib.hid (fun w1 (hb : Below w.heap.size w w1) => reach_done H.out hb HL.out HX.out HM.out (decide (s = some none)) w1 (Or.inr ⟨rfl, rfl⟩) ⟨HSM.out, by
    rcases RM with e | e
    ·rw [e]; simp
    ·rw [e]; simp [meet]⟩)
   rw [hk] at D ⊢
   clear hl hx1 hll hln hL hx hm hk HQ hq hs hE RM
   go_enter Tryz.func56, Tryz.ntmps56
   go_wp2_with fail
   refine EQ.out.mono ?_
   rintro r w1 ⟨rfl, hb1⟩
   have z0 := keepc hb1 h0
   have z1 := keepc hb1 h1
   have z2 := keepf hb1 h0 f0
   have z3 := keepf hb1 h1 f1
   have D1 := Lib.hid (D.out w1 hb1)
   clear hb1
   go_wp2_with fail
   go_end0
   exact ⟨rfl, D1.out⟩
  | false =>
   have D := Lib.hid (fun w1 (hb : Below w.heap.size w w1) => reach_done H.out hb HL.out HX.out HM.out true _ (Or.inl ⟨rfl, rfl⟩) ⟨HSM.out, by
    rcases RM with e | e
    ·rw [e]; simp
    ·rw [e]; simp [meet]⟩)
   rw [hk] at D ⊢
   clear hl hx1 hll hln hL hx hm hk HQ hq hs hE RM
   go_enter Tryz.func56, Tryz.ntmps56
   go_wp2_with fail
   refine EQ.out.mono ?_
   rintro r w1 ⟨rfl, hb1⟩
   have z0 := keepc hb1 h0
   have z1 := keepc hb1 h1
   have z4 := keepc hb1 h2
   have z2 := keepf hb1 h0 f0
   have z3 := keepf hb1 h1 f1
   have z5 := keepf hb1 h2 f2
   have D1 := Lib.hid (D.out w1 hb1)
   clear hb1
   go_wp2_with fail
   go_end0
   exact ⟨rfl, D1.out⟩
end Go.Proofs.YthanoilbcdhbkaaGreatDoor

namespace Go.Proofs.YthanoilbcdhbkaaGreatDoor
open Go Go.RowKit Go.Lib Go.Shelf WM TM EM YM

theorem infoPl : (Tryz.prog.info? 87).map (fun i => (i.zero, i.size, i.bytes)) = some (some (.agg #[.slice none 0 0, .bool false, .bool false]), 3, 32) := by kernel_rfl
theorem made_at (a b c : Value) (n j : Nat) (hj : j < n) : (madeCells #[a, b, c] (n * 3))[j * 3]? = some a ∧ (madeCells #[a, b, c] (n * 3))[j * 3 + 1]? = some b ∧ (madeCells #[a, b, c] (n * 3))[j * 3 + 2]? = some c := by
 have e0 : j * 3 % 3 = 0 := by omega
 have e1 : (j * 3 + 1) % 3 = 1 := by omega
 have e2 : (j * 3 + 2) % 3 = 2 := by omega
 refine ⟨?_, ?_, ?_⟩
 ·simp [madeCells, e0, show j * 3 < n * 3 by omega]
 ·simp [madeCells, e1, show j * 3 + 1 < n * 3 by omega]
 ·simp [madeCells, e2, show j * 3 + 2 < n * 3 by omega]
theorem Pls.made {base b n : Nat} {W : World} (h : W.ownsRow base 87 3 (.slice (some ⟨b, 0, none⟩) (n + 1) (n + 1)) (n + 1) (madeCells #[.slice none 0 0, .bool false, .bool false] ((n + 1) * 3)).toList) : Pls b n (fun _ => none) W := by
 intro j hj
 obtain ⟨m0, m1, m2⟩ := made_at (.slice none 0 0) (.bool false) (.bool false) (n + 1) j (by omega)
 have fz : ∀ x : Nat, W.frozen? ⟨b, x, none⟩ = false := by
  intro x
  rcases h.2 with ⟨h1, _⟩ | ⟨g, cap, cur, hv, _, hg, _⟩
  ·cases h1
  ·cases hv
   unfold World.frozen?
   rw [hg]
   rfl
 refine ⟨none, 0, [], false, false, ?_, ?_, ?_, fz _, fz _, fz _, LI.empty W, (fun a e => by cases e), by simp, rfl, by simp, (fun l' e => by cases e)⟩
 ·rw [World.ownsRow.cellAt h _ (by omega), Array.getElem?_toList, m0]; rfl
 ·rw [World.ownsRow.cellAt h _ (by omega), Array.getElem?_toList, m1]
 ·rw [World.ownsRow.cellAt h _ (by omega), Array.getElem?_toList, m2]
theorem one_int (w : World) (z : Int) (t : TypeId) : IntsAt (some ⟨w.heap.size, 0, none⟩) [z] (w.alloc (.cells #[.int .i64 z] t)) := by
 intro i hi
 have : i = 0 := by simp at hi; exact hi
 subst this
 exact ⟨w.heap.size, 0, rfl, by simp, by simp [go_sem]⟩
theorem certB_some {s : St} (h : certB s = true) : ∃ l, s = some (some l) := by
 match s, h with
 | some (some l), _ => exact ⟨l, rfl⟩
theorem goP_bad {t : Int} {vs : List Vr} {c : List Ins} {f i : Nat} {S : Nat → St} {d : Nat} (h : certB (S i) = false) : goP t vs c f i S d = (0, 9) := by
 cases f with
 | zero => rfl
 | succ f =>
  rw [goP]
  match hS : S i with
  | none => rfl
  | some none => rfl
  | some (some l) => rw [hS] at h; cases h
theorem goP_end {t : Int} {vs : List Vr} {c : List Ins} {f i : Nat} {S : Nat → St} {d : Nat} {l : List Int} (hS : S i = some (some l)) (hi : c.length ≤ i) : goP t vs c (f + 1) i S d = if decide (l = [t]) = true then ((d : Int), 0) else (0, 9) := by
 rw [goP, hS]
 dsimp only
 rw [if_pos hi]
 by_cases e : l = [t] <;> simp [e]
theorem goP_step {t : Int} {vs : List Vr} {c : List Ins} {f i : Nat} {S : Nat → St} {d : Nat} {l : List Int} (hS : S i = some (some l)) (hi : i < c.length) (hN : (c.getD i I0).2.2 ≤ 9223372036854775807) : goP t vs c (f + 1) i S d =
  if formB vs.length c.length i (c.getD i I0) = false then (0, 9) else match leftO vs (c.getD i I0) l with
   | none => (0, 9)
   | some m => if 16 < m.length then (0, 5) else goP t vs c f (i + 1) (stepP (c.getD i I0) i m S) (max d m.length) := by
 rw [goP, hS]
 dsimp only
 rw [if_neg (by omega), aft_split (x := c.getD i (0, 0, 0)) hN]
 show _ = if formB vs.length c.length i (c.getD i (0, 0, 0)) = false then _ else _
 cases formB vs.length c.length i (c.getD i (0, 0, 0)) with
 | false => rfl
 | true =>
  simp only [if_true, Bool.true_eq_false, if_false]
  show (match leftO vs (c.getD i (0, 0, 0)) l with
   | none => (0, 9)
   | some m => if 16 < m.length then (0, 5) else goP t vs c f (i + 1) (YM.step (c.getD i (0, 0, 0)) i m S) (max d m.length)) = match leftO vs (c.getD i (0, 0, 0)) l with
   | none => (0, 9)
   | some m => if 16 < m.length then (0, 5) else goP t vs c f (i + 1) (stepP (c.getD i (0, 0, 0)) i m S) (max d m.length)
  cases leftO vs (c.getD i (0, 0, 0)) l with
  | none => rfl
  | some m =>
   simp only [step_same]
theorem formB_load {k n i : Nat} {x : Ins} (h : formB k n i x = true) : x.1 = 2 → 0 ≤ x.2.1 ∧ x.2.1 < k := by
 intro h2
 unfold formB at h
 by_cases c1 : x.1 ≠ 1 ∧ x.2.2 ≠ 0
 ·rw [if_pos c1] at h; cases h
 ·rw [if_neg c1, if_neg (by omega), if_pos h2] at h
  simpa using h
theorem formB_jump {k n i : Nat} {x : Ins} (h : formB k n i x = true) (hj : jmpB x.1 = true) : ∃ q : Nat, x.2.1 = (q : Int) ∧ i < q ∧ q ≤ n := by
 have hj' : x.1 = 4 ∨ x.1 = 5 := by simpa [jmpB] using hj
 unfold formB at h
 by_cases c1 : x.1 ≠ 1 ∧ x.2.2 ≠ 0
 ·rw [if_pos c1] at h; cases h
 ·rw [if_neg c1, if_neg (by omega), if_neg (by omega), if_neg (by omega)] at h
  simp only [Bool.and_eq_true, decide_eq_true_eq] at h
  exact ⟨x.2.1.toNat, by omega, by omega, by omega⟩
def Lp (M b n vn : Nat) (t : Int) (cd : Cd) (vo io : Option Addr) (vc ic : Nat) (w : World) (R : Int × Int) (k : Nat) (d : Nat) (W : World) : Prop :=
 ∃ S : Nat → St, Pls b n S W ∧ goP cd.t cd.vs cd.c (n + 1 - k) k S d = R ∧ d ≤ 16 ∧ Below w.heap.size w W ∧ M < b ∧
  W.cell? ⟨M, 0, none⟩ = some (.int .i64 t) ∧ W.cell? ⟨M, 1, none⟩ = some (.slice vo vn vc) ∧ W.cell? ⟨M, 2, none⟩ = some (.slice io n ic)

set_option maxRecDepth 100000 in
set_option maxHeartbeats 16000000 in
theorem mexamine (cd : Cd) (vo io : Option Addr) (vc ic : Nat) (w : World) (hG : Ge w) (h : CodeAt cd vo vc io ic w) (hfit : Fits cd.c) :
  Calls Tryz.prog 34 #[.agg #[.int .i64 cd.t, .slice vo cd.vs.length vc, .slice io cd.c.length ic]] w fun r w' => r = .returned (.tuple #[.int .i64 (runC cd.t cd.vs cd.c).1, .int .i64 (runC cd.t cd.vs cd.c).2]) ∧ Below w.heap.size w w' := by
 rw [← runP_eq]
 obtain ⟨i0, hi, hz0, hz1, hz2⟩ := info_parts infoPl
 obtain ⟨R, hR⟩ : ∃ R, runP cd.t cd.vs cd.c = R := ⟨_, rfl⟩
 have HR := Lib.hid hR
 rw [hR]
 have CV := Lib.hid (fun W (hW : Below w.heap.size w W) => mVars cd.vs vo vc W (hG.keep hW) h.cap (h.vars.keep hW))
 have HC := Lib.hid h
 have HF := Lib.hid hfit
 have CF := Lib.hid (fun i W (hW : Below w.heap.size w W) hi => cformed cd vo io vc ic i W (h.keep hW) hi)
 have CLE := Lib.hid (fun x ao c l W (hW : Below w.heap.size w W) hl hL hf => cleft cd.vs vo vc x ao c l W (h.vars.keep hW) hl hL hf)
 obtain ⟨t, ht⟩ : ∃ t, cd.t = t := ⟨_, rfl⟩
 obtain ⟨vn, hvn⟩ : ∃ n, cd.vs.length = n := ⟨_, rfl⟩
 obtain ⟨n, hn⟩ : ∃ n, cd.c.length = n := ⟨_, rfl⟩
 have HT := Lib.hid ht
 have HVN := Lib.hid hvn
 have HN := Lib.hid hn
 rw [hvn] at CV CF CLE
 rw [hn, ht] at CF
 rw [ht, hvn, hn]
 have HB0 := Lib.hid (show Below w.heap.size w (w.alloc (.cells #[.int .i64 t, .slice vo vn vc, .slice io n ic] 30)) from bal (bref w) _)
 by_cases h128 : 128 < n
 ·have hr : R = (0, 5) := by rw [← HR.out]; unfold runP; rw [if_pos (by rw [HN.out]; exact h128)]
  subst hr
  have hz : (128 : Int) < (n : Int) := by omega
  clear h hfit hG hR ht hvn hn h128
  go_enter Tryz.func34, Tryz.ntmps34
  go_wp2_with fail
  go_ret2
  exact ⟨rfl, HB0.out⟩
 have hz : ¬ ((128 : Int) < (n : Int)) := by omega
 by_cases hve : vsE cd.vs = 0
 rotate_left
 ·have hr : R = (0, vsE cd.vs) := by rw [← HR.out]; unfold runP; rw [if_neg (by rw [HN.out]; exact h128), if_pos hve]
  subst hr
  have hvb : (vsE cd.vs != 0) = true := bne_yes hve
  obtain ⟨z, hzz⟩ : ∃ z, vsE cd.vs = z := ⟨_, rfl⟩
  rw [hzz] at CV hvb ⊢
  clear h hfit hG hR ht hvn hn h128 hve hzz
  go_enter Tryz.func34, Tryz.ntmps34
  go_wp2_with fail
  refine (CV.out _ HB0.out).mono ?_
  rintro r w1 ⟨rfl, hb1⟩
  have HB1 := Lib.hid (btr HB0.out hb1)
  clear hb1
  go_wp2_with fail
  go_ret2
  exact ⟨rfl, HB1.out⟩
 rw [hve] at CV
 have HRG : Hid (goP cd.t cd.vs cd.c (n + 1) 0 S0 0 = R) := Lib.hid (by rw [← HR.out]; unfold runP; rw [if_neg (by rw [HN.out]; exact h128), if_neg (by omega), HN.out])
 have hn128 : n ≤ 128 := by omega
 clear h hfit hG hR ht hvn hn h128 hve HR
 go_enter Tryz.func34, Tryz.ntmps34
 go_wp2_with fail
 refine (CV.out _ HB0.out).mono ?_
 rintro r w1 ⟨rfl, hb1⟩
 have a0 := keepc hb1 (show (w.alloc (.cells #[.int .i64 t, .slice vo vn vc, .slice io n ic] 30)).cell? ⟨w.heap.size, 0, none⟩ = some (.int .i64 t) by simp [go_sem])
 have a1 := keepc hb1 (show (w.alloc (.cells #[.int .i64 t, .slice vo vn vc, .slice io n ic] 30)).cell? ⟨w.heap.size, 1, none⟩ = some (.slice vo vn vc) by simp [go_sem])
 have a2 := keepc hb1 (show (w.alloc (.cells #[.int .i64 t, .slice vo vn vc, .slice io n ic] 30)).cell? ⟨w.heap.size, 2, none⟩ = some (.slice io n ic) by simp [go_sem])
 have HB1 := Lib.hid (btr HB0.out hb1)
 have hMb : w.heap.size < w1.heap.size := by have := hb1.size; simp at this; omega
 clear hb1
 have hw1 : wrap64 ((n : Int) + 1) = ((n + 1 : Nat) : Int) := by unfold wrap64; omega
 go_wp2_with (at_make; refine wpList_make_full _ rfl _ _ _ rfl w1.heap.size 87 i0 (.agg #[.slice none 0 0, .bool false, .bool false]) 3 Tryz.underlying84 hi hz0 hz1 .i64 .i64 _ _ (n + 1) rfl rfl (by omega) (by omega) (by rw [hz2]; omega) (by unfold maxLen; omega) (Nat.le_refl _) ?_; intro w2 ho2 hg2; have HP2 := Lib.hid (Pls.made ho2); have hb2 := Lib.hid (show Below w1.heap.size w1 w2 from (Below.refl _ _).grown hg2 (Nat.le_refl _) (fun k h => by cases h)); clear ho2 hg2)
 have HB2 := Lib.hid (btr HB1.out hb2.out)
 replace a0 := keepc hb2.out a0
 replace a1 := keepc hb2.out a1
 replace a2 := keepc hb2.out a2
 clear hb2 HB0 CV hi hz0 hz1 hz2
 go_wp2_with fail
 refine (mreach w1.heap.size 0 none none 0 [] _ (HP2.out 0 (Nat.zero_le _)) (LI.empty _) (fun a e => by cases e) (by simp)).mono ?_
 rintro r w3 ⟨rfl, hp3, hr3⟩
 have hb3 : Below w.heap.size w2 w3 := hr3.sav.below (fun k e => by have e' : k = w1.heap.size := e; omega) (by have := HB2.out.size; omega)
 have hL0 : Lp w.heap.size w1.heap.size n vn t cd vo io vc ic w R 0 0 w3 := ⟨S0, HP2.out.reach 0 (s := some (some [])) hp3 hr3, HRG.out, by omega, HB2.out.trans hb3, hMb, hr3.sav.cell a0 (by show ¬ w.heap.size = w1.heap.size; omega), hr3.sav.cell a1 (by show ¬ w.heap.size = w1.heap.size; omega), hr3.sav.cell a2 (by show ¬ w.heap.size = w1.heap.size; omega)⟩
 have h32 : w3.cell? ⟨w.heap.size, 2, none⟩ = some (.slice io n ic) := hL0.choose_spec.2.2.2.2.2.2.2
 have HL0 := Lib.hid hL0
 clear hp3 hr3 hb3 a0 a1 a2 HP2 HB1 HB2 HRG hw1 hL0
 go_wp2_with fail
 go_loopw [7, 34] (fun x i wr => ∃ (k d : Nat), k ≤ n ∧ x = .int .i64 d ∧ i = .int .i64 k ∧ Lp w.heap.size w1.heap.size n vn t cd vo io vc ic w R k d wr) (fun _ i _ => n - (RowKit.intOf i).toNat)
 case atStart => exact ⟨0, 0, by omega, rfl, rfl, HL0.out⟩
 case round =>
  obtain ⟨k, d, hk, rfl, rfl, S, hP, hgo, hd, hB, _, b0, b1, b2⟩ := hrel
  have HP := Lib.hid hP
  have HGO := Lib.hid hgo
  have HB := Lib.hid hB
  have hbw : w1.heap.size < wr.heap.size := (hP 0 (Nat.zero_le _)).lt
  clear hP hgo hB h32 HL0
  by_cases hlt : k < n
  ·have hkz : (k : Int) < (n : Int) := by omega
   have hkc : k < cd.c.length := by rw [HN.out]; exact hlt
   obtain ⟨ib, off, rfl, hib, c0, c1, c2⟩ := (HC.out.keep HB.out).ins k hkc
   have FOk := Lib.hid (fun W (hW : Below w.heap.size w W) => CF.out k W hW hlt)
   have LEk := Lib.hid (CLE.out (cd.c.getD k I0))
   have GS := Lib.hid (fun l (hS : S k = some (some l)) => goP_step (t := cd.t) (vs := cd.vs) (c := cd.c) (f := n - k) (d := d) hS hkc (HF.out _ (getD_mem'' _ _ _ hkc)))
   have GB := Lib.hid (fun hS => goP_bad (t := cd.t) (vs := cd.vs) (c := cd.c) (f := n + 1 - k) (i := k) (S := S) (d := d) hS)
   rw [show n - k + 1 = n + 1 - k by omega, HGO.out, HN.out, HVN.out] at GS
   rw [HGO.out] at GB
   obtain ⟨x, hx⟩ : ∃ x, cd.c.getD k I0 = x := ⟨_, rfl⟩
   rw [hx] at c0 c1 c2 FOk LEk GS
   obtain ⟨o, a, z⟩ := x
   simp only at c0 c1 c2
   have HBi := Lib.hid (show Below wr.heap.size wr (wr.alloc (.cells #[.int .i64 o, .int .i64 a, .int .i64 z] 47)) from bal (bref wr) _)
   replace b0 := keepc HBi.out b0
   replace b1 := keepc HBi.out b1
   replace b2 := keepc HBi.out b2
   have i0 : (wr.alloc (.cells #[.int .i64 o, .int .i64 a, .int .i64 z] 47)).cell? ⟨wr.heap.size, 0, none⟩ = some (.int .i64 o) := by simp [go_sem]
   have i1 : (wr.alloc (.cells #[.int .i64 o, .int .i64 a, .int .i64 z] 47)).cell? ⟨wr.heap.size, 1, none⟩ = some (.int .i64 a) := by simp [go_sem]
   have i2 : (wr.alloc (.cells #[.int .i64 o, .int .i64 a, .int .i64 z] 47)).cell? ⟨wr.heap.size, 2, none⟩ = some (.int .i64 z) := by simp [go_sem]
   have CT := Lib.hid (mcertain w1.heap.size (k * 3) (S k) _ ((HP.out k hk).keep HBi.out))
   have hkn1 : (k : Int) < (n : Int) + 1 := by omega
   clear hx hkc hib
   cases hcb : certB (S k) with
   | false =>
    have hr := GB.out hcb
    subst hr
    rw [hcb] at CT
    clear hcb GB GS LEk FOk
    go_wp2_with fail
    refine CT.out.mono ?_
    rintro r w' ⟨rfl, rfl⟩
    go_wp2_with fail
    go_ret2
    exact ⟨rfl, btr HB.out HBi.out⟩
   | true =>
    obtain ⟨l, hS⟩ := certB_some hcb
    rw [hcb] at CT
    have GSl := GS.out l hS
    obtain ⟨FB, hFB⟩ : ∃ FB, formB vn n k (o, a, z) = FB := ⟨_, rfl⟩
    rw [hFB] at FOk GSl
    clear hcb GB GS
    cases FB with
    | false =>
     rw [if_pos rfl] at GSl
     subst GSl
     clear hFB LEk
     go_wp2_with fail
     refine CT.out.mono ?_
     rintro r w' ⟨rfl, rfl⟩
     go_wp2_with fail
     refine (FOk.out _ (btr HB.out HBi.out)).mono ?_
     rintro r w2 ⟨rfl, hb2⟩
     go_wp2_with fail
     go_ret2
     exact ⟨rfl, btr (btr HB.out HBi.out) hb2⟩
    | true =>
     rw [if_neg (by decide)] at GSl
     have HLD := Lib.hid (formB_load hFB)
     have HJP := Lib.hid (formB_jump hFB)
     have HG2 := Lib.hid GSl
     have HPL := HP.out k hk
     rw [hS] at HPL
     obtain ⟨ao, c, l', r', q', p0, p1, p2, f0, f1, f2, hLI, hxb, hl1, _, _, hll⟩ := HPL
     obtain rfl := hll l rfl
     have HLI := Lib.hid hLI
     have HXB := Lib.hid hxb
     have hl1 := Lib.hid hl1
     obtain ⟨ln, hln⟩ : ∃ q, l.length = q := ⟨_, rfl⟩
     have HLN := Lib.hid hln
     rw [hln] at p0
     clear hFB GSl hLI hxb p1 p2 f0 f1 f2 hln hS
     go_wp2_with fail
     refine CT.out.mono ?_
     rintro r w' ⟨rfl, rfl⟩
     go_wp2_with fail
     refine (FOk.out _ (btr HB.out HBi.out)).mono ?_
     rintro r w2 ⟨rfl, hb2⟩
     replace b0 := keepc hb2 b0
     replace b1 := keepc hb2 b1
     replace b2 := keepc hb2 b2
     replace i0 := keepc hb2 i0
     replace i1 := keepc hb2 i1
     replace i2 := keepc hb2 i2
     have hbr2 := btr HBi.out hb2
     replace p0 := keepc hbr2 p0
     have HBR2 := Lib.hid hbr2
     have HB2 := Lib.hid (btr HB.out hbr2)
     have LE := Lib.hid (fun W (hW : Below w.heap.size w W) (hl : LI ao c l W) => LEk.out ao c l W hW hl1.out hl HLD.out)
     rw [HLN.out] at LE
     have HLI2 := Lib.hid (HLI.out.keep hbr2)
     clear hb2 hbr2 c0 c1 c2
     go_wp2_with fail
     refine wp_region_held_drew (S := (fun W => Below w2.heap.size w2 W)) (by kernel_rfl) (bdr (bref _)) (fun hH0 => ?_)
     refine wpAnyH_take (i := 0) (oi := _) (v := ?_) rfl (by kernel_rfl) (by kernel_rfl) (by kernel_rfl) (fun _ _ _ h => h) (Or.inl ⟨?_, ?_⟩) hH0 ?_
     rotate_left
     ·kernel_rfl
     ·(intro W' hSw; have f0 := keepc hSw i0; have f1 := keepc hSw i1; have f2 := keepc hSw i2; have f3 := keepc hSw p0; have f4 := keepc hSw b1; go_simp; (try with_reducible rfl))
     (try simp only [List.getElem_toArray, List.getElem_cons_zero, Act.put, List.setIfInBounds_toArray, List.set_cons_succ, List.set_cons_zero])
     refine wpAnyH_take (i := 1) (oi := _) (v := ?_) rfl (by kernel_rfl) (by kernel_rfl) (by kernel_rfl) (fun _ _ _ h => h) (Or.inl ⟨?_, ?_⟩) hH0 ?_
     rotate_left
     ·kernel_rfl
     ·(intro W' _; go_simp; (try with_reducible rfl))
     (try simp only [List.getElem_toArray, List.getElem_cons_succ, List.getElem_cons_zero, Act.put, List.setIfInBounds_toArray, List.set_cons_succ, List.set_cons_zero])
     refine wpAnyH_take (i := 2) (oi := _) (v := ?_) rfl (by kernel_rfl) (by kernel_rfl) (by kernel_rfl) (fun _ _ _ h => h) (Or.inl ⟨?_, ?_⟩) hH0 ?_
     rotate_left
     ·kernel_rfl
     ·(intro W' _; go_simp; (try with_reducible rfl))
     (try simp only [List.getElem_toArray, List.getElem_cons_succ, List.getElem_cons_zero, Act.put, List.setIfInBounds_toArray, List.set_cons_succ, List.set_cons_zero])
     refine wpAnyH_take (i := 3) (oi := _) (v := ?_) rfl (by kernel_rfl) (by kernel_rfl) (by kernel_rfl) (fun _ _ _ h => h) (Or.inl ⟨?_, ?_⟩) hH0 ?_
     rotate_left
     ·kernel_rfl
     ·(intro W' _; go_simp; (try with_reducible rfl))
     (try simp only [List.getElem_toArray, List.getElem_cons_succ, List.getElem_cons_zero, Act.put, List.setIfInBounds_toArray, List.set_cons_succ, List.set_cons_zero])
     refine wpAnyH_take (i := 4) (oi := _) (v := ?_) rfl (by kernel_rfl) (by kernel_rfl) (by kernel_rfl) (fun _ _ _ h => h) (Or.inl ⟨?_, ?_⟩) hH0 ?_
     rotate_left
     ·kernel_rfl
     ·(intro W' _; go_simp; (try with_reducible rfl))
     (try simp only [List.getElem_toArray, List.getElem_cons_succ, List.getElem_cons_zero, Act.put, List.setIfInBounds_toArray, List.set_cons_succ, List.set_cons_zero])
     refine wpAnyH_take (i := 5) (oi := _) (v := ?_) rfl (by kernel_rfl) (by kernel_rfl) (by kernel_rfl) (fun _ _ _ h => h) (Or.inl ⟨?_, ?_⟩) hH0 ?_
     rotate_left
     ·kernel_rfl
     ·(intro W' hSw; have f0 := keepc hSw i0; have f1 := keepc hSw i1; have f2 := keepc hSw i2; have f3 := keepc hSw p0; have f4 := keepc hSw b1; go_simp; (try with_reducible rfl))
     (try simp only [List.getElem_toArray, List.getElem_cons_succ, List.getElem_cons_zero, Act.put, List.setIfInBounds_toArray, List.set_cons_succ, List.set_cons_zero])
     refine wpAnyH_take (i := 6) (oi := _) (v := ?_) rfl (by kernel_rfl) (by kernel_rfl) (by kernel_rfl) (fun _ _ _ h => h) (Or.inl ⟨?_, ?_⟩) hH0 ?_
     rotate_left
     ·kernel_rfl
     ·(intro W' _; go_simp; (try with_reducible rfl))
     (try simp only [List.getElem_toArray, List.getElem_cons_succ, List.getElem_cons_zero, Act.put, List.setIfInBounds_toArray, List.set_cons_succ, List.set_cons_zero])
     refine wpAnyH_take (i := 7) (oi := _) (v := ?_) rfl (by kernel_rfl) (by kernel_rfl) (by kernel_rfl) (fun _ _ _ h => h) (Or.inl ⟨?_, ?_⟩) hH0 ?_
     rotate_left
     ·kernel_rfl
     ·(intro W' hSw; have f0 := keepc hSw i0; have f1 := keepc hSw i1; have f2 := keepc hSw i2; have f3 := keepc hSw p0; have f4 := keepc hSw b1; go_simp; (try with_reducible rfl))
     (try simp only [List.getElem_toArray, List.getElem_cons_succ, List.getElem_cons_zero, Act.put, List.setIfInBounds_toArray, List.set_cons_succ, List.set_cons_zero])
     refine wpAnyH_ready (rs := [8]) (by kernel_rfl) (by simp) ?_
     refine AllReadyH.cons (o := _) rfl (fun K hK => ?_) AllReadyH.nil
     go_simp
     refine (LE.out _ (btr HB2.out hH0) (HLI2.out.keep hH0)).mono ?_
     rintro r w3 ⟨v, rfl, hlm, hb3⟩
     refine hK.out _ _ (btr hH0 hb3) (fun hH1 => ?_)
     clear hK K
     (try simp only [List.getElem_toArray, List.getElem_cons_succ, List.getElem_cons_zero, Act.put, List.setIfInBounds_toArray, List.set_cons_succ, List.set_cons_zero])
     refine wpAnyH_take (i := 9) (oi := _) (v := ?_) rfl (by kernel_rfl) (by kernel_rfl) (by kernel_rfl) (fun _ _ _ h => h) (Or.inl ⟨?_, ?_⟩) hH1 ?_
     rotate_left
     ·kernel_rfl
     ·(intro W' _; go_simp; (try with_reducible rfl))
     (try simp only [List.getElem_toArray, List.getElem_cons_succ, List.getElem_cons_zero, Act.put, List.setIfInBounds_toArray, List.set_cons_succ, List.set_cons_zero])
     refine wpAnyH_take (i := 10) (oi := _) (v := ?_) rfl (by kernel_rfl) (by kernel_rfl) (by kernel_rfl) (fun _ _ _ h => h) (Or.inl ⟨?_, ?_⟩) hH1 ?_
     rotate_left
     ·kernel_rfl
     ·(intro W' _; go_simp; (try with_reducible rfl))
     (try simp only [List.getElem_toArray, List.getElem_cons_succ, List.getElem_cons_zero, Act.put, List.setIfInBounds_toArray, List.set_cons_succ, List.set_cons_zero])
     refine wpAnyH_take (i := 11) (oi := _) (v := ?_) rfl (by kernel_rfl) (by kernel_rfl) (by kernel_rfl) (fun _ _ _ h => h) (Or.inl ⟨?_, ?_⟩) hH1 ?_
     rotate_left
     ·kernel_rfl
     ·(intro W' _; go_simp; (try with_reducible rfl))
     (try simp only [List.getElem_toArray, List.getElem_cons_succ, List.getElem_cons_zero, Act.put, List.setIfInBounds_toArray, List.set_cons_succ, List.set_cons_zero])
     refine wpAnyH_take (i := 12) (oi := _) (v := ?_) rfl (by kernel_rfl) (by kernel_rfl) (by kernel_rfl) (fun _ _ _ h => h) (Or.inl ⟨?_, ?_⟩) hH1 ?_
     rotate_left
     ·kernel_rfl
     ·(intro W' _; go_simp; (try with_reducible rfl))
     (try simp only [List.getElem_toArray, List.getElem_cons_succ, List.getElem_cons_zero, Act.put, List.setIfInBounds_toArray, List.set_cons_succ, List.set_cons_zero])
     refine wpAnyH_take (i := 13) (oi := _) (v := ?_) rfl (by kernel_rfl) (by kernel_rfl) (by kernel_rfl) (fun _ _ _ h => h) (Or.inl ⟨?_, ?_⟩) hH1 ?_
     rotate_left
     ·kernel_rfl
     ·(intro W' _; go_simp; (try with_reducible rfl))
     (try simp only [List.getElem_toArray, List.getElem_cons_succ, List.getElem_cons_zero, Act.put, List.setIfInBounds_toArray, List.set_cons_succ, List.set_cons_zero])
     refine wpAnyH_done (by kernel_rfl) ?_ _
     have hb3 := btr (bdr (bref w2)) hb3
     obtain ⟨Q, hQ⟩ : ∃ Q, leftO cd.vs (o, a, z) l = Q := ⟨_, rfl⟩
     rw [hQ] at hlm HG2 ⊢
     clear hQ LE CT LEk FOk p0
     cases Q with
     | none =>
      have hr : R = (0, 9) := HG2.out
      subst hr
      clear hlm
      go_wp2_with fail
      go_ret2
      exact ⟨rfl, btr HB2.out hb3⟩
     | some m =>
     obtain ⟨ao', c', rfl, hLm, hFr⟩ := hlm m rfl
     have hg : R = if 16 < m.length then (0, 5) else goP cd.t cd.vs cd.c (n - k) (k + 1) (stepP (o, a, z) k m S) (max d m.length) := HG2.out
     obtain ⟨mn, hmn⟩ : ∃ q, m.length = q := ⟨_, rfl⟩
     rw [hmn] at hg ⊢
     clear hlm
     by_cases hm16 : 16 < mn
     ·rw [if_pos hm16] at hg
      subst hg
      have hmz : (16 : Int) < (mn : Int) := by omega
      clear hLm hFr hmn
      go_wp2_with fail
      go_ret2
      exact ⟨rfl, btr HB2.out hb3⟩
     rw [if_neg hm16] at hg
     have hmz : ¬ ((16 : Int) < (mn : Int)) := by omega
     have HGN := Lib.hid (show goP cd.t cd.vs cd.c (n + 1 - (k + 1)) (k + 1) (stepP (o, a, z) k m S) (max d mn) = R by rw [show n + 1 - (k + 1) = n - k by omega]; exact hg.symm)
     have HNE := Lib.hid (show ∀ a', ao' = some a' → a'.block ≠ w1.heap.size from fun a' e => by
      rcases hFr a' e with h | ⟨a0, h1, h2⟩
      ·have h3 := HBR2.out.size; simp at h; omega
      ·rw [← h2]; exact HXB.out a0 h1)
     have HLM := Lib.hid hLm
     have HMN := Lib.hid hmn
     have HB3 := Lib.hid (btr HB2.out hb3)
     have HP3 := Lib.hid ((HP.out.keep HBR2.out).keep hb3)
     have hs3 : wr.heap.size < w3.heap.size := by have h3 := HBi.out.size; have h4 := HBR2.out.size; have h5 := hb3.size; have h6 : wr.heap.size < w2.heap.size := World.block_lt_of_cell? w2 _ i0; omega
     replace b0 := keepc hb3 b0
     replace b1 := keepc hb3 b1
     replace b2 := keepc hb3 b2
     replace i0 := keepc hb3 i0
     replace i1 := keepc hb3 i1
     replace i2 := keepc hb3 i2
     have RE := Lib.hid (fun (S : Nat → St) (j : Nat) (hj : j ≤ n) W (hW : Below w3.heap.size w3 W) (hPj : PlAt w1.heap.size (j * 3) (S j) W) => mreach w1.heap.size (j * 3) (S j) ao' c' m W hPj (HLM.out.keep hW) HNE.out (by rw [HMN.out]; omega))
     rw [HMN.out] at RE
     have hwk : wrap64 ((k : Int) + 1) = (k : Int) + 1 := by unfold wrap64; omega
     have hX1 : ¬ (w.heap.size = w1.heap.size) := by omega
     have hX2 : ¬ (wr.heap.size = w1.heap.size) := by omega
     clear hb3 hLm hFr hmn hg HG2 hm16
     by_cases h4 : o = 4
     ·subst h4
      go_wp2_with fail
      refine (mjumps 4 a z _).mono ?_
      rintro r w5 ⟨rfl, hb5⟩
      replace b0 := keepc hb5 b0
      replace b1 := keepc hb5 b1
      replace b2 := keepc hb5 b2
      replace i0 := keepc hb5 i0
      replace i1 := keepc hb5 i1
      replace i2 := keepc hb5 i2
      have HP5 := Lib.hid (HP3.out.keep hb5)
      have HB35 := Lib.hid hb5
      have HB5 := Lib.hid (btr HB3.out hb5)
      clear hb5
      rw [show jmpB 4 = true from rfl]
      obtain ⟨q, rfl, hq1, hq2⟩ := HJP.out rfl
      have hst : stepP (4, (q : Int), z) k m S = upd S q (meet (S q) m) := by unfold stepP; simp
      have hqn : (q : Int) < (n : Int) + 1 := by omega
      have g0 : ¬ ((q : Int) < 0) := by omega
      rw [hst] at HGN
      go_wp2_with fail
      refine (RE.out S q hq2 _ HB35.out (HP5.out q hq2)).mono ?_
      rintro r w6 ⟨rfl, hp6, hr6⟩
      have hL6 := Lib.hid (show Lp w.heap.size w1.heap.size n vn t cd vo (some ⟨ib, off, none⟩) vc ic w R (k + 1) (max d mn) w6 from ⟨_, HP5.out.reach q hp6 hr6, HGN.out, by omega, (HB5.out.trans (hr6.sav.below (fun k e => by have e' : k = w1.heap.size := e; omega) (by have := HB5.out.size; omega))), hMb, hr6.sav.cell b0 hX1, hr6.sav.cell b1 hX1, hr6.sav.cell b2 hX1⟩)
      clear hp6 hr6 i0 i1 i2 b0 b1 b2
      go_wp2_with fail
      go_roundw
      case rel => exact ⟨k + 1, max d mn, by omega, by first | rfl | (congr 1; omega) | go_num, by first | rfl | go_num, hL6.out⟩
      case measure => simp [RowKit.intOf]; omega
     ·have RE5 := Lib.hid (fun (S : Nat → St) (j : Nat) (hj : j ≤ n) W (hW : Sav (fun k => k = w1.heap.size) w3 W) (hPj : PlAt w1.heap.size (j * 3) (S j) W) => mreach w1.heap.size (j * 3) (S j) ao' c' m W hPj (HLM.out.sav hW (fun a ha e => HNE.out a ha e)) HNE.out (by rw [HMN.out]; omega))
      rw [HMN.out] at RE5
      have e4 : (o != 4) = true := bne_yes h4
      have e4b : (o == 4) = false := beq_no h4
      go_wp2_with fail
      refine (RE.out S (k + 1) (by omega) _ (bref _) (HP3.out (k + 1) (by omega))).mono ?_
      rintro r w4 ⟨rfl, hp4, hr4⟩
      obtain ⟨S1, hS1⟩ : ∃ S1, upd S (k + 1) (meet (S (k + 1)) m) = S1 := ⟨_, rfl⟩
      have HP4 := Lib.hid (HP3.out.reach (k + 1) hp4 hr4)
      rw [hS1] at HP4
      replace b0 := hr4.sav.cell b0 hX1
      replace b1 := hr4.sav.cell b1 hX1
      replace b2 := hr4.sav.cell b2 hX1
      replace i0 := hr4.sav.cell i0 hX2
      replace i1 := hr4.sav.cell i1 hX2
      replace i2 := hr4.sav.cell i2 hX2
      have HB4 := Lib.hid (HB3.out.trans (hr4.sav.below (fun k e => by have e' : k = w1.heap.size := e; omega) (by have := HB3.out.size; omega)))
      have HS4 := Lib.hid hr4.sav
      clear hp4 hr4
      go_wp2_with fail
      refine (mjumps o a z _).mono ?_
      rintro r w5 ⟨rfl, hb5⟩
      replace b0 := keepc hb5 b0
      replace b1 := keepc hb5 b1
      replace b2 := keepc hb5 b2
      replace i0 := keepc hb5 i0
      replace i1 := keepc hb5 i1
      replace i2 := keepc hb5 i2
      have HP5 := Lib.hid (HP4.out.keep hb5)
      have HS5 := Lib.hid (HS4.out.next hb5)
      have HB5 := Lib.hid (btr HB4.out hb5)
      clear hb5
      by_cases h5 : o = 5
      ·subst h5
       rw [show jmpB 5 = true from rfl]
       obtain ⟨q, rfl, hq1, hq2⟩ := HJP.out rfl
       have hst : stepP (5, (q : Int), z) k m S = upd S1 q (meet (S1 q) m) := by rw [← hS1]; unfold stepP; simp
       have hqn : (q : Int) < (n : Int) + 1 := by omega
       have g0 : ¬ ((q : Int) < 0) := by omega
       rw [hst] at HGN
       go_wp2_with fail
       refine (RE5.out S1 q hq2 _ HS5.out (HP5.out q hq2)).mono ?_
       rintro r w6 ⟨rfl, hp6, hr6⟩
       have hL6 := Lib.hid (show Lp w.heap.size w1.heap.size n vn t cd vo (some ⟨ib, off, none⟩) vc ic w R (k + 1) (max d mn) w6 from ⟨_, HP5.out.reach q hp6 hr6, HGN.out, by omega, (HB5.out.trans (hr6.sav.below (fun k e => by have e' : k = w1.heap.size := e; omega) (by have := HB5.out.size; omega))), hMb, hr6.sav.cell b0 hX1, hr6.sav.cell b1 hX1, hr6.sav.cell b2 hX1⟩)
       clear hp6 hr6 i0 i1 i2 b0 b1 b2
       go_wp2_with fail
       go_roundw
       case rel => exact ⟨k + 1, max d mn, by omega, by first | rfl | (congr 1; omega) | go_num, by first | rfl | go_num, hL6.out⟩
       case measure => simp [RowKit.intOf]; omega
      ·have hj : jmpB o = false := by unfold jmpB; simp [h4, h5]
       have hst : stepP (o, a, z) k m S = S1 := by rw [← hS1]; unfold stepP; simp [h4, h5]
       rw [hj]
       rw [hst] at HGN
       have hL6 := Lib.hid (show Lp w.heap.size w1.heap.size n vn t cd vo (some ⟨ib, off, none⟩) vc ic w R (k + 1) (max d mn) w5 from ⟨S1, HP5.out, HGN.out, by omega, HB5.out, hMb, b0, b1, b2⟩)
       clear hst hj i0 i1 i2 b0 b1 b2 h4 h5
       go_wp2_with fail
       go_roundw
       case rel => exact ⟨k + 1, max d mn, by omega, by first | rfl | (congr 1; omega) | go_num, by first | rfl | go_num, hL6.out⟩
       case measure => simp [RowKit.intOf]; omega
  ·have he : k = n := by omega
   subst he
   have HPk := Lib.hid (HP.out k (Nat.le_refl _))
   have GB := Lib.hid (fun hS => goP_bad (t := cd.t) (vs := cd.vs) (c := cd.c) (f := k + 1 - k) (i := k) (S := S) (d := d) hS)
   rw [HGO.out] at GB
   have CTE := Lib.hid (fun W (hW : Below wr.heap.size wr W) => mcertain w1.heap.size (k * 3) (S k) W (HPk.out.keep hW))
   have hkk : (k : Int) < (k : Int) + 1 := by omega
   cases hcb : certB (S k) with
   | false =>
    have hr := GB.out hcb
    subst hr
    rw [hcb] at CTE
    clear hcb GB HPk
    go_wp2_with fail
    refine wp_region_held_drew (S := (fun W => Below wr.heap.size wr W)) (by kernel_rfl) (bdr (bref _)) (fun hH0 => ?_)
    refine wpAnyH_take (i := 0) (oi := _) (v := ?_) rfl (by kernel_rfl) (by kernel_rfl) (by kernel_rfl) (fun _ _ _ h => h) (Or.inl ⟨?_, ?_⟩) hH0 ?_
    rotate_left
    ·kernel_rfl
    ·(intro W' _; go_simp; (try with_reducible rfl))
    (try simp only [List.getElem_toArray, List.getElem_cons_zero, Act.put, List.setIfInBounds_toArray, List.set_cons_succ, List.set_cons_zero])
    refine wpAnyH_take (i := 1) (oi := _) (v := ?_) rfl (by kernel_rfl) (by kernel_rfl) (by kernel_rfl) (fun _ _ _ h => h) (Or.inl ⟨?_, ?_⟩) hH0 ?_
    rotate_left
    ·kernel_rfl
    ·(intro W' _; go_simp; (try with_reducible rfl))
    (try simp only [List.getElem_toArray, List.getElem_cons_succ, List.getElem_cons_zero, Act.put, List.setIfInBounds_toArray, List.set_cons_succ, List.set_cons_zero])
    refine wpAnyH_take (i := 2) (oi := _) (v := ?_) rfl (by kernel_rfl) (by kernel_rfl) (by kernel_rfl) (fun _ _ _ h => h) (Or.inl ⟨?_, ?_⟩) hH0 ?_
    rotate_left
    ·kernel_rfl
    ·(intro W' _; go_simp; (try with_reducible rfl))
    (try simp only [List.getElem_toArray, List.getElem_cons_succ, List.getElem_cons_zero, Act.put, List.setIfInBounds_toArray, List.set_cons_succ, List.set_cons_zero])
    refine wpAnyH_ready (rs := [3]) (by kernel_rfl) (by simp) ?_
    refine AllReadyH.cons (o := _) rfl (fun K hK => ?_) AllReadyH.nil
    go_simp
    refine (CTE.out _ hH0).mono ?_
    rintro r w1 ⟨rfl, rfl⟩
    refine hK.out _ _ hH0 (fun hH1 => ?_)
    clear hK K
    (try simp only [List.getElem_toArray, List.getElem_cons_succ, List.getElem_cons_zero, Act.put, List.setIfInBounds_toArray, List.set_cons_succ, List.set_cons_zero])
    refine wpAnyH_take (i := 4) (oi := _) (v := ?_) rfl (by kernel_rfl) (by kernel_rfl) (by kernel_rfl) (fun _ _ _ h => h) (Or.inl ⟨?_, ?_⟩) hH1 ?_
    rotate_left
    ·kernel_rfl
    ·(intro W' _; go_simp; (try with_reducible rfl))
    (try simp only [List.getElem_toArray, List.getElem_cons_succ, List.getElem_cons_zero, Act.put, List.setIfInBounds_toArray, List.set_cons_succ, List.set_cons_zero])
    refine wpAnyH_take (i := 5) (oi := _) (v := ?_) rfl (by kernel_rfl) (by kernel_rfl) (by kernel_rfl) (fun _ _ _ h => h) (Or.inl ⟨?_, ?_⟩) hH1 ?_
    rotate_left
    ·kernel_rfl
    ·(intro W' _; go_simp; (try with_reducible rfl))
    (try simp only [List.getElem_toArray, List.getElem_cons_succ, List.getElem_cons_zero, Act.put, List.setIfInBounds_toArray, List.set_cons_succ, List.set_cons_zero])
    refine wpAnyH_take (i := 6) (oi := _) (v := undef) rfl (by kernel_rfl) (by kernel_rfl) (by kernel_rfl) (fun _ _ _ h => h) (Or.inr ⟨?_, rfl⟩) hH1 ?_
    ·kernel_rfl
    (try simp only [List.getElem_toArray, List.getElem_cons_succ, List.getElem_cons_zero, Act.put, List.setIfInBounds_toArray, List.set_cons_succ, List.set_cons_zero])
    refine wpAnyH_take (i := 7) (oi := _) (v := undef) rfl (by kernel_rfl) (by kernel_rfl) (by kernel_rfl) (fun _ _ _ h => h) (Or.inr ⟨?_, rfl⟩) hH1 ?_
    ·kernel_rfl
    (try simp only [List.getElem_toArray, List.getElem_cons_succ, List.getElem_cons_zero, Act.put, List.setIfInBounds_toArray, List.set_cons_succ, List.set_cons_zero])
    refine wpAnyH_take (i := 8) (oi := _) (v := undef) rfl (by kernel_rfl) (by kernel_rfl) (by kernel_rfl) (fun _ _ _ h => h) (Or.inr ⟨?_, rfl⟩) hH1 ?_
    ·kernel_rfl
    (try simp only [List.getElem_toArray, List.getElem_cons_succ, List.getElem_cons_zero, Act.put, List.setIfInBounds_toArray, List.set_cons_succ, List.set_cons_zero])
    refine wpAnyH_take (i := 9) (oi := _) (v := undef) rfl (by kernel_rfl) (by kernel_rfl) (by kernel_rfl) (fun _ _ _ h => h) (Or.inr ⟨?_, rfl⟩) hH1 ?_
    ·kernel_rfl
    (try simp only [List.getElem_toArray, List.getElem_cons_succ, List.getElem_cons_zero, Act.put, List.setIfInBounds_toArray, List.set_cons_succ, List.set_cons_zero])
    refine wpAnyH_take (i := 10) (oi := _) (v := undef) rfl (by kernel_rfl) (by kernel_rfl) (by kernel_rfl) (fun _ _ _ h => h) (Or.inr ⟨?_, rfl⟩) hH1 ?_
    ·kernel_rfl
    (try simp only [List.getElem_toArray, List.getElem_cons_succ, List.getElem_cons_zero, Act.put, List.setIfInBounds_toArray, List.set_cons_succ, List.set_cons_zero])
    refine wpAnyH_take (i := 11) (oi := _) (v := undef) rfl (by kernel_rfl) (by kernel_rfl) (by kernel_rfl) (fun _ _ _ h => h) (Or.inr ⟨?_, rfl⟩) hH1 ?_
    ·kernel_rfl
    (try simp only [List.getElem_toArray, List.getElem_cons_succ, List.getElem_cons_zero, Act.put, List.setIfInBounds_toArray, List.set_cons_succ, List.set_cons_zero])
    refine wpAnyH_take (i := 12) (oi := _) (v := undef) rfl (by kernel_rfl) (by kernel_rfl) (by kernel_rfl) (fun _ _ _ h => h) (Or.inr ⟨?_, rfl⟩) hH1 ?_
    ·kernel_rfl
    (try simp only [List.getElem_toArray, List.getElem_cons_succ, List.getElem_cons_zero, Act.put, List.setIfInBounds_toArray, List.set_cons_succ, List.set_cons_zero])
    refine wpAnyH_take (i := 13) (oi := _) (v := undef) rfl (by kernel_rfl) (by kernel_rfl) (by kernel_rfl) (fun _ _ _ h => h) (Or.inr ⟨?_, rfl⟩) hH1 ?_
    ·kernel_rfl
    (try simp only [List.getElem_toArray, List.getElem_cons_succ, List.getElem_cons_zero, Act.put, List.setIfInBounds_toArray, List.set_cons_succ, List.set_cons_zero])
    refine wpAnyH_take (i := 14) (oi := _) (v := undef) rfl (by kernel_rfl) (by kernel_rfl) (by kernel_rfl) (fun _ _ _ h => h) (Or.inr ⟨?_, rfl⟩) hH1 ?_
    ·kernel_rfl
    (try simp only [List.getElem_toArray, List.getElem_cons_succ, List.getElem_cons_zero, Act.put, List.setIfInBounds_toArray, List.set_cons_succ, List.set_cons_zero])
    refine wpAnyH_take (i := 15) (oi := _) (v := undef) rfl (by kernel_rfl) (by kernel_rfl) (by kernel_rfl) (fun _ _ _ h => h) (Or.inr ⟨?_, rfl⟩) hH1 ?_
    ·kernel_rfl
    (try simp only [List.getElem_toArray, List.getElem_cons_succ, List.getElem_cons_zero, Act.put, List.setIfInBounds_toArray, List.set_cons_succ, List.set_cons_zero])
    refine wpAnyH_take (i := 16) (oi := _) (v := ?_) rfl (by kernel_rfl) (by kernel_rfl) (by kernel_rfl) (fun _ _ _ h => h) (Or.inl ⟨?_, ?_⟩) hH1 ?_
    rotate_left
    ·kernel_rfl
    ·(intro W' _; go_simp; (try with_reducible rfl))
    (try simp only [List.getElem_toArray, List.getElem_cons_succ, List.getElem_cons_zero, Act.put, List.setIfInBounds_toArray, List.set_cons_succ, List.set_cons_zero])
    refine wpAnyH_done (by kernel_rfl) ?_ _
    go_wp2_with fail
    go_ret2
    exact ⟨rfl, bdr HB.out⟩
   | true =>
    obtain ⟨l, hS⟩ := certB_some hcb
    rw [hcb] at CTE
    have hge := goP_end (t := cd.t) (vs := cd.vs) (c := cd.c) (f := 0) (d := d) hS (by rw [HN.out]; exact Nat.le_refl _)
    rw [show 0 + 1 = k + 1 - k by omega, HGO.out, HT.out] at hge
    obtain ⟨ao, c, l', r', q', p0, p1, p2, f0, f1, f2, hLI, hxb, hl1, _, _, hll⟩ := HPk.out
    obtain rfl := hll l hS
    have EQ := Lib.hid (fun W (hW : Below wr.heap.size wr W) bo (hy : IntsAt bo [t] W) => mEqI ao bo l [t] c 1 W (by omega) (hLI.ints.keep hW) hy)
    obtain ⟨ln, hln⟩ : ∃ q, l.length = q := ⟨_, rfl⟩
    obtain ⟨E, hE⟩ : ∃ E, decide (l = [t]) = E := ⟨_, rfl⟩
    rw [hln, hE] at EQ
    rw [hln] at p0
    rw [hE] at hge
    clear hcb GB HPk hS hll hLI hxb hl1 p1 p2 f0 f1 f2 hln hE
    cases E with
    | true =>
     rw [if_pos rfl] at hge
     subst hge
     go_wp2_with fail
     refine wp_region_held_drew (S := (fun W => Below wr.heap.size wr W)) (by kernel_rfl) (bdr (bref _)) (fun hH0 => ?_)
     refine wpAnyH_take (i := 0) (oi := _) (v := ?_) rfl (by kernel_rfl) (by kernel_rfl) (by kernel_rfl) (fun _ _ _ h => h) (Or.inl ⟨?_, ?_⟩) hH0 ?_
     rotate_left
     ·kernel_rfl
     ·(intro W' _; go_simp; (try with_reducible rfl))
     (try simp only [List.getElem_toArray, List.getElem_cons_zero, Act.put, List.setIfInBounds_toArray, List.set_cons_succ, List.set_cons_zero])
     refine wpAnyH_take (i := 1) (oi := _) (v := ?_) rfl (by kernel_rfl) (by kernel_rfl) (by kernel_rfl) (fun _ _ _ h => h) (Or.inl ⟨?_, ?_⟩) hH0 ?_
     rotate_left
     ·kernel_rfl
     ·(intro W' _; go_simp; (try with_reducible rfl))
     (try simp only [List.getElem_toArray, List.getElem_cons_succ, List.getElem_cons_zero, Act.put, List.setIfInBounds_toArray, List.set_cons_succ, List.set_cons_zero])
     refine wpAnyH_take (i := 2) (oi := _) (v := ?_) rfl (by kernel_rfl) (by kernel_rfl) (by kernel_rfl) (fun _ _ _ h => h) (Or.inl ⟨?_, ?_⟩) hH0 ?_
     rotate_left
     ·kernel_rfl
     ·(intro W' _; go_simp; (try with_reducible rfl))
     (try simp only [List.getElem_toArray, List.getElem_cons_succ, List.getElem_cons_zero, Act.put, List.setIfInBounds_toArray, List.set_cons_succ, List.set_cons_zero])
     refine wpAnyH_ready (rs := [3]) (by kernel_rfl) (by simp) ?_
     refine AllReadyH.cons (o := _) rfl (fun K hK => ?_) AllReadyH.nil
     go_simp
     refine (CTE.out _ hH0).mono ?_
     rintro r w1 ⟨rfl, rfl⟩
     refine hK.out _ _ hH0 (fun hH1 => ?_)
     clear hK K
     (try simp only [List.getElem_toArray, List.getElem_cons_succ, List.getElem_cons_zero, Act.put, List.setIfInBounds_toArray, List.set_cons_succ, List.set_cons_zero])
     refine wpAnyH_take (i := 4) (oi := _) (v := ?_) rfl (by kernel_rfl) (by kernel_rfl) (by kernel_rfl) (fun _ _ _ h => h) (Or.inl ⟨?_, ?_⟩) hH1 ?_
     rotate_left
     ·kernel_rfl
     ·(intro W' _; go_simp; (try with_reducible rfl))
     (try simp only [List.getElem_toArray, List.getElem_cons_succ, List.getElem_cons_zero, Act.put, List.setIfInBounds_toArray, List.set_cons_succ, List.set_cons_zero])
     refine wpAnyH_take (i := 5) (oi := _) (v := ?_) rfl (by kernel_rfl) (by kernel_rfl) (by kernel_rfl) (fun _ _ _ h => h) (Or.inl ⟨?_, ?_⟩) hH1 ?_
     rotate_left
     ·kernel_rfl
     ·(intro W' _; go_simp; (try with_reducible rfl))
     (try simp only [List.getElem_toArray, List.getElem_cons_succ, List.getElem_cons_zero, Act.put, List.setIfInBounds_toArray, List.set_cons_succ, List.set_cons_zero])
     refine wpAnyH_take (i := 6) (oi := _) (v := ?_) rfl (by kernel_rfl) (by kernel_rfl) (by kernel_rfl) (fun _ _ _ h => h) (Or.inl ⟨?_, ?_⟩) hH1 ?_
     rotate_left
     ·kernel_rfl
     ·(intro W' _; go_simp; (try with_reducible rfl))
     (try simp only [List.getElem_toArray, List.getElem_cons_succ, List.getElem_cons_zero, Act.put, List.setIfInBounds_toArray, List.set_cons_succ, List.set_cons_zero])
     refine wpAnyH_take (i := 7) (oi := _) (v := ?_) rfl (by kernel_rfl) (by kernel_rfl) (by kernel_rfl) (fun _ _ _ h => h) (Or.inl ⟨?_, ?_⟩) hH1 ?_
     rotate_left
     ·kernel_rfl
     ·(intro W' _; go_simp; (try with_reducible rfl))
     (try simp only [List.getElem_toArray, List.getElem_cons_succ, List.getElem_cons_zero, Act.put, List.setIfInBounds_toArray, List.set_cons_succ, List.set_cons_zero])
     refine wpAnyH_take (i := 8) (oi := _) (v := ?_) rfl (by kernel_rfl) (by kernel_rfl) (by kernel_rfl) (fun _ _ _ h => h) (Or.inl ⟨?_, ?_⟩) hH1 ?_
     rotate_left
     ·kernel_rfl
     ·(intro W' _; go_simp; (try with_reducible rfl))
     (try simp only [List.getElem_toArray, List.getElem_cons_succ, List.getElem_cons_zero, Act.put, List.setIfInBounds_toArray, List.set_cons_succ, List.set_cons_zero])
     refine wpAnyH_take (i := 9) (oi := _) (v := ?_) rfl (by kernel_rfl) (by kernel_rfl) (by kernel_rfl) (fun _ _ _ h => h) (Or.inl ⟨?_, ?_⟩) hH1 ?_
     rotate_left
     ·kernel_rfl
     ·(intro W' _; go_simp; (try with_reducible rfl))
     (try simp only [List.getElem_toArray, List.getElem_cons_succ, List.getElem_cons_zero, Act.put, List.setIfInBounds_toArray, List.set_cons_succ, List.set_cons_zero])
     refine wpAnyH_take (i := 10) (oi := _) (v := ?_) rfl (by kernel_rfl) (by kernel_rfl) (by kernel_rfl) (fun _ _ _ h => h) (Or.inl ⟨?_, ?_⟩) hH1 ?_
     rotate_left
     ·kernel_rfl
     ·(intro W' hSw; have f0 := keepc hSw p0; have f3 := keepc hSw b0; go_simp; (try with_reducible rfl))
     (try simp only [List.getElem_toArray, List.getElem_cons_succ, List.getElem_cons_zero, Act.put, List.setIfInBounds_toArray, List.set_cons_succ, List.set_cons_zero])
     refine wpAnyH_take (i := 11) (oi := _) (v := ?_) rfl (by kernel_rfl) (by kernel_rfl) (by kernel_rfl) (fun _ _ _ h => h) (Or.inl ⟨?_, ?_⟩) hH1 ?_
     rotate_left
     ·kernel_rfl
     ·(intro W' _; go_simp; (try with_reducible rfl))
     (try simp only [List.getElem_toArray, List.getElem_cons_succ, List.getElem_cons_zero, Act.put, List.setIfInBounds_toArray, List.set_cons_succ, List.set_cons_zero])
     refine wpAnyH_take (i := 12) (oi := _) (v := ?_) rfl (by kernel_rfl) (by kernel_rfl) (by kernel_rfl) (fun _ _ _ h => h) (Or.inl ⟨?_, ?_⟩) hH1 ?_
     rotate_left
     ·kernel_rfl
     ·(intro W' hSw; have f0 := keepc hSw p0; have f3 := keepc hSw b0; go_simp; (try with_reducible rfl))
     (try simp only [List.getElem_toArray, List.getElem_cons_succ, List.getElem_cons_zero, Act.put, List.setIfInBounds_toArray, List.set_cons_succ, List.set_cons_zero])
     refine wpAnyH_ready (rs := [13]) (by kernel_rfl) (by simp) ?_
     refine AllReadyH.cons (o := _) rfl (fun K hK => ?_) AllReadyH.nil
     go_simp
     refine hK.out _ _ (bal hH1 _) (fun hH2 => ?_)
     clear hK K
     (try simp only [List.getElem_toArray, List.getElem_cons_succ, List.getElem_cons_zero, Act.put, List.setIfInBounds_toArray, List.set_cons_succ, List.set_cons_zero])
     refine wpAnyH_ready (rs := [14]) (by kernel_rfl) (by simp) ?_
     refine AllReadyH.cons (o := _) rfl (fun K hK => ?_) AllReadyH.nil
     go_simp
     refine (EQ.out _ (btr (bdr (bref _)) (bal (bref _) _)) _ (one_int _ _ _)).mono ?_
     rintro r w4 ⟨rfl, hb1⟩
     refine hK.out _ _ (btr hH2 hb1) (fun hH3 => ?_)
     clear hK K
     (try simp only [List.getElem_toArray, List.getElem_cons_succ, List.getElem_cons_zero, Act.put, List.setIfInBounds_toArray, List.set_cons_succ, List.set_cons_zero])
     refine wpAnyH_take (i := 15) (oi := _) (v := ?_) rfl (by kernel_rfl) (by kernel_rfl) (by kernel_rfl) (fun _ _ _ h => h) (Or.inl ⟨?_, ?_⟩) hH3 ?_
     rotate_left
     ·kernel_rfl
     ·(intro W' _; go_simp; (try with_reducible rfl))
     (try simp only [List.getElem_toArray, List.getElem_cons_succ, List.getElem_cons_zero, Act.put, List.setIfInBounds_toArray, List.set_cons_succ, List.set_cons_zero])
     refine wpAnyH_take (i := 16) (oi := _) (v := ?_) rfl (by kernel_rfl) (by kernel_rfl) (by kernel_rfl) (fun _ _ _ h => h) (Or.inl ⟨?_, ?_⟩) hH3 ?_
     rotate_left
     ·kernel_rfl
     ·(intro W' _; go_simp; (try with_reducible rfl))
     (try simp only [List.getElem_toArray, List.getElem_cons_succ, List.getElem_cons_zero, Act.put, List.setIfInBounds_toArray, List.set_cons_succ, List.set_cons_zero])
     refine wpAnyH_done (by kernel_rfl) ?_ _
     go_wp2_with fail
     go_ret2
     exact ⟨rfl, btr HB.out (btr (bal (bdr (bref _)) _) hb1)⟩
    | false =>
     rw [if_neg (by decide)] at hge
     subst hge
     go_wp2_with fail
     refine wp_region_held_drew (S := (fun W => Below wr.heap.size wr W)) (by kernel_rfl) (bdr (bref _)) (fun hH0 => ?_)
     refine wpAnyH_take (i := 0) (oi := _) (v := ?_) rfl (by kernel_rfl) (by kernel_rfl) (by kernel_rfl) (fun _ _ _ h => h) (Or.inl ⟨?_, ?_⟩) hH0 ?_
     rotate_left
     ·kernel_rfl
     ·(intro W' _; go_simp; (try with_reducible rfl))
     (try simp only [List.getElem_toArray, List.getElem_cons_zero, Act.put, List.setIfInBounds_toArray, List.set_cons_succ, List.set_cons_zero])
     refine wpAnyH_take (i := 1) (oi := _) (v := ?_) rfl (by kernel_rfl) (by kernel_rfl) (by kernel_rfl) (fun _ _ _ h => h) (Or.inl ⟨?_, ?_⟩) hH0 ?_
     rotate_left
     ·kernel_rfl
     ·(intro W' _; go_simp; (try with_reducible rfl))
     (try simp only [List.getElem_toArray, List.getElem_cons_succ, List.getElem_cons_zero, Act.put, List.setIfInBounds_toArray, List.set_cons_succ, List.set_cons_zero])
     refine wpAnyH_take (i := 2) (oi := _) (v := ?_) rfl (by kernel_rfl) (by kernel_rfl) (by kernel_rfl) (fun _ _ _ h => h) (Or.inl ⟨?_, ?_⟩) hH0 ?_
     rotate_left
     ·kernel_rfl
     ·(intro W' _; go_simp; (try with_reducible rfl))
     (try simp only [List.getElem_toArray, List.getElem_cons_succ, List.getElem_cons_zero, Act.put, List.setIfInBounds_toArray, List.set_cons_succ, List.set_cons_zero])
     refine wpAnyH_ready (rs := [3]) (by kernel_rfl) (by simp) ?_
     refine AllReadyH.cons (o := _) rfl (fun K hK => ?_) AllReadyH.nil
     go_simp
     refine (CTE.out _ hH0).mono ?_
     rintro r w1 ⟨rfl, rfl⟩
     refine hK.out _ _ hH0 (fun hH1 => ?_)
     clear hK K
     (try simp only [List.getElem_toArray, List.getElem_cons_succ, List.getElem_cons_zero, Act.put, List.setIfInBounds_toArray, List.set_cons_succ, List.set_cons_zero])
     refine wpAnyH_take (i := 4) (oi := _) (v := ?_) rfl (by kernel_rfl) (by kernel_rfl) (by kernel_rfl) (fun _ _ _ h => h) (Or.inl ⟨?_, ?_⟩) hH1 ?_
     rotate_left
     ·kernel_rfl
     ·(intro W' _; go_simp; (try with_reducible rfl))
     (try simp only [List.getElem_toArray, List.getElem_cons_succ, List.getElem_cons_zero, Act.put, List.setIfInBounds_toArray, List.set_cons_succ, List.set_cons_zero])
     refine wpAnyH_take (i := 5) (oi := _) (v := ?_) rfl (by kernel_rfl) (by kernel_rfl) (by kernel_rfl) (fun _ _ _ h => h) (Or.inl ⟨?_, ?_⟩) hH1 ?_
     rotate_left
     ·kernel_rfl
     ·(intro W' _; go_simp; (try with_reducible rfl))
     (try simp only [List.getElem_toArray, List.getElem_cons_succ, List.getElem_cons_zero, Act.put, List.setIfInBounds_toArray, List.set_cons_succ, List.set_cons_zero])
     refine wpAnyH_take (i := 6) (oi := _) (v := ?_) rfl (by kernel_rfl) (by kernel_rfl) (by kernel_rfl) (fun _ _ _ h => h) (Or.inl ⟨?_, ?_⟩) hH1 ?_
     rotate_left
     ·kernel_rfl
     ·(intro W' _; go_simp; (try with_reducible rfl))
     (try simp only [List.getElem_toArray, List.getElem_cons_succ, List.getElem_cons_zero, Act.put, List.setIfInBounds_toArray, List.set_cons_succ, List.set_cons_zero])
     refine wpAnyH_take (i := 7) (oi := _) (v := ?_) rfl (by kernel_rfl) (by kernel_rfl) (by kernel_rfl) (fun _ _ _ h => h) (Or.inl ⟨?_, ?_⟩) hH1 ?_
     rotate_left
     ·kernel_rfl
     ·(intro W' _; go_simp; (try with_reducible rfl))
     (try simp only [List.getElem_toArray, List.getElem_cons_succ, List.getElem_cons_zero, Act.put, List.setIfInBounds_toArray, List.set_cons_succ, List.set_cons_zero])
     refine wpAnyH_take (i := 8) (oi := _) (v := ?_) rfl (by kernel_rfl) (by kernel_rfl) (by kernel_rfl) (fun _ _ _ h => h) (Or.inl ⟨?_, ?_⟩) hH1 ?_
     rotate_left
     ·kernel_rfl
     ·(intro W' _; go_simp; (try with_reducible rfl))
     (try simp only [List.getElem_toArray, List.getElem_cons_succ, List.getElem_cons_zero, Act.put, List.setIfInBounds_toArray, List.set_cons_succ, List.set_cons_zero])
     refine wpAnyH_take (i := 9) (oi := _) (v := ?_) rfl (by kernel_rfl) (by kernel_rfl) (by kernel_rfl) (fun _ _ _ h => h) (Or.inl ⟨?_, ?_⟩) hH1 ?_
     rotate_left
     ·kernel_rfl
     ·(intro W' _; go_simp; (try with_reducible rfl))
     (try simp only [List.getElem_toArray, List.getElem_cons_succ, List.getElem_cons_zero, Act.put, List.setIfInBounds_toArray, List.set_cons_succ, List.set_cons_zero])
     refine wpAnyH_take (i := 10) (oi := _) (v := ?_) rfl (by kernel_rfl) (by kernel_rfl) (by kernel_rfl) (fun _ _ _ h => h) (Or.inl ⟨?_, ?_⟩) hH1 ?_
     rotate_left
     ·kernel_rfl
     ·(intro W' hSw; have f0 := keepc hSw p0; have f3 := keepc hSw b0; go_simp; (try with_reducible rfl))
     (try simp only [List.getElem_toArray, List.getElem_cons_succ, List.getElem_cons_zero, Act.put, List.setIfInBounds_toArray, List.set_cons_succ, List.set_cons_zero])
     refine wpAnyH_take (i := 11) (oi := _) (v := ?_) rfl (by kernel_rfl) (by kernel_rfl) (by kernel_rfl) (fun _ _ _ h => h) (Or.inl ⟨?_, ?_⟩) hH1 ?_
     rotate_left
     ·kernel_rfl
     ·(intro W' _; go_simp; (try with_reducible rfl))
     (try simp only [List.getElem_toArray, List.getElem_cons_succ, List.getElem_cons_zero, Act.put, List.setIfInBounds_toArray, List.set_cons_succ, List.set_cons_zero])
     refine wpAnyH_take (i := 12) (oi := _) (v := ?_) rfl (by kernel_rfl) (by kernel_rfl) (by kernel_rfl) (fun _ _ _ h => h) (Or.inl ⟨?_, ?_⟩) hH1 ?_
     rotate_left
     ·kernel_rfl
     ·(intro W' hSw; have f0 := keepc hSw p0; have f3 := keepc hSw b0; go_simp; (try with_reducible rfl))
     (try simp only [List.getElem_toArray, List.getElem_cons_succ, List.getElem_cons_zero, Act.put, List.setIfInBounds_toArray, List.set_cons_succ, List.set_cons_zero])
     refine wpAnyH_ready (rs := [13]) (by kernel_rfl) (by simp) ?_
     refine AllReadyH.cons (o := _) rfl (fun K hK => ?_) AllReadyH.nil
     go_simp
     refine hK.out _ _ (bal hH1 _) (fun hH2 => ?_)
     clear hK K
     (try simp only [List.getElem_toArray, List.getElem_cons_succ, List.getElem_cons_zero, Act.put, List.setIfInBounds_toArray, List.set_cons_succ, List.set_cons_zero])
     refine wpAnyH_ready (rs := [14]) (by kernel_rfl) (by simp) ?_
     refine AllReadyH.cons (o := _) rfl (fun K hK => ?_) AllReadyH.nil
     go_simp
     refine (EQ.out _ (btr (bdr (bref _)) (bal (bref _) _)) _ (one_int _ _ _)).mono ?_
     rintro r w4 ⟨rfl, hb1⟩
     refine hK.out _ _ (btr hH2 hb1) (fun hH3 => ?_)
     clear hK K
     (try simp only [List.getElem_toArray, List.getElem_cons_succ, List.getElem_cons_zero, Act.put, List.setIfInBounds_toArray, List.set_cons_succ, List.set_cons_zero])
     refine wpAnyH_take (i := 15) (oi := _) (v := ?_) rfl (by kernel_rfl) (by kernel_rfl) (by kernel_rfl) (fun _ _ _ h => h) (Or.inl ⟨?_, ?_⟩) hH3 ?_
     rotate_left
     ·kernel_rfl
     ·(intro W' _; go_simp; (try with_reducible rfl))
     (try simp only [List.getElem_toArray, List.getElem_cons_succ, List.getElem_cons_zero, Act.put, List.setIfInBounds_toArray, List.set_cons_succ, List.set_cons_zero])
     refine wpAnyH_take (i := 16) (oi := _) (v := ?_) rfl (by kernel_rfl) (by kernel_rfl) (by kernel_rfl) (fun _ _ _ h => h) (Or.inl ⟨?_, ?_⟩) hH3 ?_
     rotate_left
     ·kernel_rfl
     ·(intro W' _; go_simp; (try with_reducible rfl))
     (try simp only [List.getElem_toArray, List.getElem_cons_succ, List.getElem_cons_zero, Act.put, List.setIfInBounds_toArray, List.set_cons_succ, List.set_cons_zero])
     refine wpAnyH_done (by kernel_rfl) ?_ _
     go_wp2_with fail
     go_ret2
     exact ⟨rfl, btr HB.out (btr (bal (bdr (bref _)) _) hb1)⟩
end Go.Proofs.YthanoilbcdhbkaaGreatDoor
