/-
  Merged: The program's compiler: its box, next, put, index; an expression's instructions. The program's compiler: the instructions of an expression. The program's compiler: expressions of every kind.
-/
import Derived.Test.YthanoilbcdhbkaaGreatDoorQH
namespace Go.Proofs.YthanoilbcdhbkaaGreatDoor
open Go Go.RowKit Go.Lib Go.Shelf WM TM EM YM

def CB (B : Nat) (vsl v : Value) (l : List Ins) (W : World) : Prop :=
 W.cell? ⟨B, 0, none⟩ = some vsl ∧ W.cell? ⟨B, 1, none⟩ = some v ∧ W.frozen? ⟨B, 1, none⟩ = false ∧ OI (B + 1) v l W
def XB (B : Nat) (v : Value) (k : Nat) : Prop := k = B ∨ v.ownBlock = some k
theorem CB.lt {B : Nat} {vsl v : Value} {l : List Ins} {W : World} (h : CB B vsl v l W) : B < W.heap.size := World.block_lt_of_cell? W _ h.1
theorem OI.lt {b : Nat} {v : Value} {l : List Ins} {W : World} (h : OI b v l W) {g : Nat} (hg : v.ownBlock = some g) : b ≤ g ∧ g < W.heap.size := World.ownsRow.lt h g hg
theorem CB.keep {B : Nat} {vsl v : Value} {l : List Ins} {W W' : World} (h : CB B vsl v l W) (hb : Below W.heap.size W W') : CB B vsl v l W' :=
 ⟨keepc hb h.1, keepc hb h.2.1, keepf hb h.2.1 h.2.2.1, h.2.2.2.keep hb⟩
def Off (v : Value) (M n : Nat) : Prop := ∀ k, M ≤ k → k < M + n → v.ownBlock ≠ some k
theorem Off.new {b : Nat} {v : Value} {l : List Ins} {W : World} (h : OI b v l W) (n : Nat) : Off v W.heap.size n := fun k h1 _ e => by have := (h.lt e).2; omega
theorem Off.next {v v' : Value} {M n : Nat} {w : World} (h : Off v M n) (hn : New w v v') (hs : M + n ≤ w.heap.size) : Off v' M n := fun k h1 h2 e => h k h1 h2 (hn.old (by omega) e)
theorem Off.cell {v : Value} {B M n : Nat} {w w' : World} (h : Off v M n) (s : Sav (XB B v) w w') (hB : B < M) {k j : Nat} {x : Value} (hk : M ≤ k) (hk2 : k < M + n) (c : w.cell? ⟨k, j, none⟩ = some x) : w'.cell? ⟨k, j, none⟩ = some x :=
 s.cell c (fun e => e.elim (fun e => by have e' : k = B := e; omega) (h k hk hk2))
theorem sav_comp {B : Nat} {v v' : Value} {a b c : World} (h : Sav (XB B v) a b) (hn : New a v v') (k : Sav (XB B v') b c) : Sav (XB B v) a c :=
 h.trans k (fun _ hn' e => e.elim Or.inl (fun e => Or.inr (hn.old hn' e)))
theorem sav_below {B : Nat} {v vsl : Value} {l : List Ins} {w w' : World} (h : Sav (XB B v) w w') (hc : CB B vsl v l w) : Below B w w' :=
 h.below (fun k e => e.elim (fun e => by omega) (fun e => by have := (hc.2.2.2.lt e).1; omega)) (Nat.le_of_lt hc.lt)
theorem put_facts {B : Nat} {vsl v : Value} {l : List Ins} {w w0 w1 : World} (h : CB B vsl v l w) (hb : Below w.heap.size w w0) (s : Sav (fun k => v.ownBlock = some k) w0 w1) :
  w1.cell? ⟨B, 0, none⟩ = some vsl ∧ w1.cell? ⟨B, 1, none⟩ = some v ∧ w1.frozen? ⟨B, 1, none⟩ = false := by
 have hB := h.lt
 have hs := hb.size
 have hx : ¬ (fun k => v.ownBlock = some k) B := fun e => by have := (h.2.2.2.lt e).1; omega
 exact ⟨s.cell (keepc hb h.1) hx, s.cell (keepc hb h.2.1) hx, s.frozen (p := ⟨B, 1, none⟩) (by show B < _; omega) (keepf hb h.2.1 h.2.2.1) hx⟩
theorem put_done {B : Nat} {vsl v v1 : Value} {l : List Ins} {y : Ins} {w w0 w1 : World} (h : CB B vsl v l w) (hb : Below w.heap.size w w0) (o1 : OI (B + 1) v1 (l ++ [y]) w1) (s : Sav (fun k => v.ownBlock = some k) w0 w1) (hn : New w0 v v1) :
  CB B vsl v1 (l ++ [y]) (w1.setCell ⟨B, 1, none⟩ v1) ∧ Sav (XB B v) w (w1.setCell ⟨B, 1, none⟩ v1) ∧ New w v v1 := by
 obtain ⟨f0, f1, f2⟩ := put_facts h hb s
 have hs := hb.size
 refine ⟨⟨?_, World.cell?_setCell_same' _ _ _ (by rw [f1]; rfl), by rw [World.frozen?_setCell]; exact f2, o1.sav (Sav.setCell w1 ⟨B, 1, none⟩ v1) (fun g hg e => ?_)⟩, ?_, ?_⟩
 ·rw [World.cell?_setCell_other _ _ _ _ (by simp)]; exact f0
 ·have := (o1.lt hg).1
  have e' : g = B := e
  omega
 ·refine ((Sav.of_below hb).trans s (Y := fun k => v.ownBlock = some k) (fun _ _ e => Or.inr e)).trans (Sav.setCell w1 ⟨B, 1, none⟩ v1) (fun n _ e => Or.inl e)
 ·rcases hn with hn | ⟨g, h1, h2⟩
  ·exact Or.inl hn
  ·exact Or.inr ⟨g, h1, by omega⟩
theorem put_shape {b m : Nat} {v : Value} {l : List Ins} {y : Ins} {W : World} (hm : l.length = m) (h : OI b v (l ++ [y]) W) : ∃ g c, v = .slice (some ⟨g, 0, none⟩) (m + 1) c := by
 obtain ⟨g, c, hv, _⟩ := h.pos (by rw [List.length_append]; simp)
 rw [List.length_append, hm] at hv
 exact ⟨g, c, hv⟩

set_option maxRecDepth 100000 in
theorem mnext (B : Nat) (vsl v : Value) (l : List Ins) (w : World) (h : CB B vsl v l w) :
  Calls Tryz.prog 82 #[.pointer (some ⟨B, 0, none⟩)] w fun r w' => r = .returned (.int .i64 (l.length : Nat)) ∧ w = w' := by
 obtain ⟨c0, c1, hf, ho⟩ := h
 obtain ⟨ao, c, rfl, hc, hI, hz⟩ := ho.shape
 obtain ⟨n, hn⟩ : ∃ n, l.length = n := ⟨_, rfl⟩
 rw [hn] at c1 ⊢
 clear ho hI hz hf hc hn
 go_enter Tryz.func82, Tryz.ntmps82
 go_wp2_with fail
 go_ret
 exact ⟨rfl, rfl⟩
set_option maxRecDepth 100000 in
set_option maxHeartbeats 4000000 in
theorem mput (B : Nat) (vsl v : Value) (l : List Ins) (op a n : Int) (w : World) (h : CB B vsl v l w) (hl : l.length ≤ 1000000) :
  Calls Tryz.prog 51 #[.pointer (some ⟨B, 0, none⟩), .int .i64 op, .int .i64 a, .int .i64 n] w fun r w' => r = .returned (.int .i64 (l.length : Nat)) ∧ ∃ v', CB B vsl v' (l ++ [(op, a, n)]) w' ∧ Sav (XB B v) w w' ∧ New w v v' := by
 have H := Lib.hid h
 have HB0 := Lib.hid (show Below w.heap.size w (w.alloc (.cells #[.int .i64 op, .int .i64 a, .int .i64 n] 47)) from bal (bref w) _)
 have HO := Lib.hid (h.2.2.2.keep HB0.out)
 have hB := h.lt
 obtain ⟨c0, c1, hf, ho⟩ := h
 have NX := Lib.hid (fun v' W (hW : CB B vsl v' (l ++ [(op, a, n)]) W) => mnext B vsl v' (l ++ [(op, a, n)]) W hW)
 obtain ⟨m, hm⟩ : ∃ m, l.length = m := ⟨_, rfl⟩
 have hm1 : (l ++ [(op, a, n)]).length = m + 1 := by rw [List.length_append, hm]; rfl
 rw [hm1] at NX
 rw [hm]
 rw [hm] at hl
 have HM := Lib.hid hm
 clear hm1 ho hm
 go_enter Tryz.func51, Tryz.ntmps51
 go_wp2_with (at_builtin; refine wpList_app_ins rfl (.tmp 13) (.tmp 18) rfl (B + 1) v l rfl HO.out w.heap.size (op, a, n) rfl (by simp [go_sem]) (by simp [go_sem]) (by simp [go_sem]) (by rw [HM.out]; omega) (by simp; omega) ?_; intro v1 w1 o1 s1 n1; obtain ⟨f0, f1, f2⟩ := put_facts H.out HB0.out s1; have hd := Lib.hid (put_done H.out HB0.out o1 s1 n1); obtain ⟨g1, e1, rfl⟩ := put_shape HM.out o1; clear o1 s1 n1)
 refine (NX.out _ _ hd.out.1).mono ?_
 rintro r w2 ⟨rfl, rfl⟩
 go_wp2_with fail
 go_ret
 exact ⟨by first | rfl | go_num, _, hd.out⟩
set_option maxRecDepth 100000 in
theorem cfind1 (v : Vr) (s : List UInt8) (bx : Nat) (w : World) (hc : w.cell? ⟨bx, 0, none⟩ = some (.string (str s))) :
  Calls Tryz.prog 83 #[.agg #[.string (str v.1), .int .i64 v.2], .pointer (some ⟨bx, 0, none⟩)] w fun r w' => r = .returned (.bool (decide (v.1 = s))) ∧ Below w.heap.size w w' := by
 obtain ⟨x, t⟩ := v
 simp only
 have hlt : bx < w.heap.size := World.block_lt_of_cell? w _ hc
 by_cases h : x = s
 ·subst h
  obtain ⟨X, hX⟩ : ∃ X, str x = X := ⟨_, rfl⟩
  rw [hX] at hc ⊢
  rw [decide_eq_true rfl]
  clear hX
  go_enter Tryz.func83, Tryz.ntmps83
  go_wp2_with fail
  go_ret
  exact ⟨by simp, by repeat (first | exact bref _ | refine bdr ?_ | refine bal ?_ _)⟩
 ·have hs1 := str_ne h
  rw [decide_eq_false h]
  clear h
  obtain ⟨X, hX⟩ : ∃ X, str x = X := ⟨_, rfl⟩
  obtain ⟨Y, hY⟩ : ∃ X, str s = X := ⟨_, rfl⟩
  rw [hX, hY] at hs1
  rw [hX]
  rw [hY] at hc
  clear hX hY
  go_enter Tryz.func83, Tryz.ntmps83
  go_wp2_with fail
  go_ret
  exact ⟨by simp, by repeat (first | exact bref _ | refine bdr ?_ | refine bal ?_ _)⟩
set_option maxRecDepth 100000 in
set_option maxHeartbeats 2000000 in
theorem cindexF (vs : List Vr) (s : List UInt8) (bx : Nat) (ao : Option Addr) (cap : Nat) (w : World) (hvl : vs.length ≤ 100000) (hv : VarsAt ao vs w) (hc : w.cell? ⟨bx, 0, none⟩ = some (.string (str s))) :
  Calls Tryz.prog 78 #[.slice ao vs.length cap, .func (.func 83) #[] #[.pointer (some ⟨bx, 0, none⟩)]] w fun r w' => r = .returned (.int .i64 (fixI vs s)) ∧ Below w.heap.size w w' := by
 have HV := Lib.hid hv
 have HC := Lib.hid hc
 obtain ⟨n, hn⟩ : ∃ n, vs.length = n := ⟨_, rfl⟩
 have HN := Lib.hid hn
 obtain ⟨R, hR⟩ : ∃ R, fixI vs s = R := ⟨_, rfl⟩
 have HR := Lib.hid hR
 rw [hn, hR]
 rw [hn] at hvl
 clear hv hc hn hR
 go_enter Tryz.func78, Tryz.ntmps78
 go_wp2_with fail
 go_loopw [8] (fun i wr => ∃ (k : Nat), k ≤ n ∧ i = .int .i64 k ∧ (∀ j, j < k → (vs.getD j V0).1 ≠ s) ∧ Below w.heap.size w wr) (fun i _ => n - (RowKit.intOf i).toNat)
 case atStart => exact ⟨0, by omega, rfl, fun j hj => absurd hj (Nat.not_lt_zero _), bref _⟩
 case round =>
  obtain ⟨k, hk, rfl, hq, hB⟩ := hrel
  have HQ := Lib.hid hq
  have HB := Lib.hid hB
  clear hq hB
  by_cases hlt : k < n
  ·have hkz : (k : Int) < (n : Int) := by omega
   have g1 : k < vs.length := by rw [HN.out]; exact hlt
   obtain ⟨b, off, rfl, hb, c0, c1⟩ := (HV.out.keep HB.out) k g1
   have C0 := Lib.hid (fun W (hW : Below wr.heap.size wr W) => cfind1 (vs.getD k V0) s bx W (keepc hW (keepc HB.out HC.out)))
   obtain ⟨x, hx⟩ : ∃ x, vs.getD k V0 = x := ⟨_, rfl⟩
   rw [hx] at c0 c1 C0
   by_cases hxs : x.1 = s
   ·rw [decide_eq_true hxs] at C0
    have HRk : Hid (R = k) := Lib.hid (by rw [← HR.out]; exact fix_hit g1 HQ.out (by rw [hx]; exact hxs))
    clear hx hxs
    go_wp2_with (go_at_call 83; refine (C0.out _ (by repeat (first | exact bref _ | refine bdr ?_ | refine bal ?_ _))).mono ?_; rintro r w1 ⟨rfl, hb1⟩)
    go_ret
    exact ⟨by rw [HRk.out]; rfl, btr HB.out (btr (by repeat (first | exact bref _ | refine bdr ?_ | refine bal ?_ _)) hb1)⟩
   ·rw [decide_eq_false hxs] at C0
    have HX : Hid (∀ j, j < k + 1 → (vs.getD j V0).1 ≠ s) := Lib.hid (by
     intro j hj
     by_cases e : j = k
     ·subst e; rw [hx]; exact hxs
     ·exact HQ.out j (by omega))
    clear hx hxs
    go_wp2_with (go_at_call 83; refine (C0.out _ (by repeat (first | exact bref _ | refine bdr ?_ | refine bal ?_ _))).mono ?_; rintro r w1 ⟨rfl, hb1⟩)
    go_roundw
    case rel => exact ⟨k + 1, by omega, by go_num, HX.out, btr HB.out (btr (by repeat (first | exact bref _ | refine bdr ?_ | refine bal ?_ _)) hb1)⟩
    case measure => simp [RowKit.intOf]; omega
  ·have he : k = n := by omega
   subst he
   have HRk : Hid (R = -1) := Lib.hid (by rw [← HR.out]; exact fix_miss (by rw [HN.out]; exact HQ.out))
   go_wp2_with fail
   go_ret
   exact ⟨by rw [HRk.out]; rfl, HB.out⟩
set_option maxRecDepth 100000 in
theorem mcindex (vs : List Vr) (X : ByteArray) (vo : Option Addr) (vc B : Nat) (w : World) (hvl : vs.length ≤ 100000) (hv : VarsAt vo vs w) (hc : w.cell? ⟨B, 0, none⟩ = some (.slice vo vs.length vc)) :
  Calls Tryz.prog 52 #[.pointer (some ⟨B, 0, none⟩), .string X] w fun r w' => r = .returned (.int .i64 (fixI vs (byt X))) ∧ Below w.heap.size w w' := by
 have C0 := Lib.hid (fun W (hW : Below w.heap.size w W) (bx : Nat) (hc : W.cell? ⟨bx, 0, none⟩ = some (.string X)) => cindexF vs (byt X) bx vo vc W hvl (hv.keep hW) (by rw [str_byt]; exact hc))
 have c1 := keepc (show Below w.heap.size w (w.alloc (.cells #[.string X] 9)) from bal (bref w) _) hc
 obtain ⟨n, hn⟩ : ∃ n, vs.length = n := ⟨_, rfl⟩
 obtain ⟨R, hR⟩ : ∃ R, fixI vs (byt X) = R := ⟨_, rfl⟩
 rw [hn, hR] at C0
 rw [hR]
 rw [hn] at c1 hc
 clear hv hn hR
 go_enter Tryz.func52, Tryz.ntmps52
 go_wp2_with (go_at_call 78; refine (C0.out _ (by repeat (first | exact bref _ | refine bdr ?_ | refine bal ?_ _)) _ (by simp [go_sem])).mono ?_; rintro r w1 ⟨rfl, hb1⟩)
 go_ret
 exact ⟨rfl, btr (by repeat (first | exact bref _ | refine bdr ?_ | refine bal ?_ _)) hb1⟩
end Go.Proofs.YthanoilbcdhbkaaGreatDoor

namespace Go.Proofs.YthanoilbcdhbkaaGreatDoor
open Go Go.RowKit Go.Lib Go.Shelf WM TM EM YM

theorem ems_snoc (vs : List Vr) (x : Ex) : ∀ (l : List Ex) (p : Nat), ems vs 0 p (l ++ [x]) = ems vs 0 p l ++ em vs (p + (ems vs 0 p l).length) x := by
 intro l
 induction l with
 | nil => intro p; rw [List.nil_append, ems_zero, ems_nil, ems_nil, List.append_nil, List.nil_append]; rfl
 | cons y l ih =>
  intro p
  rw [List.cons_append, ems_zero, ems_zero, ih, List.append_assoc, List.length_append]
  congr 3
  omega
theorem ems_len (vs : List Vr) : ∀ (l : List Ex), (∀ x ∈ l, (EM.pre x).all okN = true) → ∀ p, (ems vs 0 p l).length ≤ 2 * sizs l := by
 intro l
 induction l with
 | nil => intro _ p; rw [ems_nil]; simp
 | cons x l ih =>
  intro h p
  rw [ems_zero, sizs_cons, List.length_append]
  have k1 := (em_len vs x (h x (by simp)) p).2
  have k2 := ih (fun y hy => h y (by simp [hy])) (p + (em vs p x).length)
  omega
theorem CB.at {B g n c : Nat} {vsl : Value} {l : List Ins} {u : World} (h : CB B vsl (.slice (some ⟨g, 0, none⟩) n c) l u) (q : Nat) (hq : q < l.length) :
  u.cell? ⟨g, q * 3 + 1, none⟩ = some (.int .i64 (l.getD q I0).2.1) ∧ u.frozen? ⟨g, q * 3 + 1, none⟩ = false ∧ g ≠ B := by
 have ho := h.2.2.2
 rcases ho.2 with ⟨h1, _⟩ | ⟨g', cap, cur, hv, hb, hg, hnc, hm, hcs, htake⟩
 ·cases h1
 ·cases hv
  refine ⟨?_, ?_, by omega⟩
  ·obtain ⟨_, t2, _⟩ := icells_at l q hq
   rw [cell_of_row _ _ (q * 3 + 1) cur _ (0, 0) hg, ← Array.getElem?_toList, ← t2, ← htake, List.getElem?_take, if_pos (by omega)]
  ·unfold World.frozen?
   rw [hg]
   rfl
theorem CB.patch {B g n c : Nat} {vsl : Value} {l : List Ins} {u : World} (h : CB B vsl (.slice (some ⟨g, 0, none⟩) n c) l u) (q : Nat) (hq : q < l.length) (a : Int) :
  CB B vsl (.slice (some ⟨g, 0, none⟩) n c) (l.set q (setA (l.getD q I0) a)) (u.setCell ⟨g, q * 3 + 1, none⟩ (.int .i64 a)) ∧ Sav (XB B (.slice (some ⟨g, 0, none⟩) n c)) u (u.setCell ⟨g, q * 3 + 1, none⟩ (.int .i64 a)) := by
 have hne := (h.at q hq).2.2
 obtain ⟨c0, c1, hf, ho⟩ := h
 refine ⟨⟨?_, ?_, ?_, ho.set q hq a⟩, (Sav.refl (XB B (.slice (some ⟨g, 0, none⟩) n c)) u).trans (Sav.setCell u ⟨g, q * 3 + 1, none⟩ _) (fun k _ e => Or.inr (by have e' : k = g := e; rw [e']; rfl))⟩
 ·rw [World.cell?_setCell_other _ _ _ _ (by intro e; injection e with e; exact hne e)]; exact c0
 ·rw [World.cell?_setCell_other _ _ _ _ (by intro e; injection e with e; exact hne e)]; exact c1
 ·rw [World.frozen?_setCell]; exact hf
theorem CB.pos {B : Nat} {vsl v : Value} {l : List Ins} {u : World} (h : CB B vsl v l u) (hl : 0 < l.length) : ∃ g c, v = .slice (some ⟨g, 0, none⟩) l.length c := by
 obtain ⟨g, c, hv, _⟩ := h.2.2.2.pos hl
 exact ⟨g, c, hv⟩
set_option maxRecDepth 100000 in
theorem mnextC (B n c : Nat) (ao : Option Addr) (w : World) (h : w.cell? ⟨B, 1, none⟩ = some (.slice ao n c)) :
  Calls Tryz.prog 82 #[.pointer (some ⟨B, 0, none⟩)] w fun r w' => r = .returned (.int .i64 (n : Nat)) ∧ w = w' := by
 go_enter Tryz.func82, Tryz.ntmps82
 go_wp2_with fail
 go_ret
 exact ⟨rfl, rfl⟩
def XC (vs : List Vr) (vo : Option Addr) (vc : Nat) (w0 : World) (e : Ex) : Prop := ∀ (so : Option Addr) (cap : Nat) (v : Value) (l : List Ins) (w : World), Below w0.heap.size w0 w → ExprsAt so e.args w0 → CB w0.heap.size (.slice vo vs.length vc) v l w → l.length + 2 * siz e ≤ 1000000 →
 Calls Tryz.prog 31 #[.pointer (some ⟨w0.heap.size, 0, none⟩), .agg #[.int .i64 e.op, .int .i64 e.n, .string (str e.s), .slice so e.args.length cap]] w fun r w' => r = .returned (.tuple #[]) ∧ ∃ v', CB w0.heap.size (.slice vo vs.length vc) v' (l ++ em vs l.length e) w' ∧ Sav (XB w0.heap.size v) w w' ∧ New w v v'
theorem choice_code (vs : List Vr) (a b c : Ex) (l : List Ins) : ∀ L1 L2 L3 L4 L5 L6 : List Ins, L1 = l ++ em vs l.length a → L2 = L1 ++ [(5, 0, 0)] → L3 = L2 ++ em vs L2.length b → L4 = L3 ++ [(4, 0, 0)] → L5 = L4.set L1.length (setA (L4.getD L1.length I0) L4.length) → L6 = L5 ++ em vs L5.length c →
  L6.set L3.length (setA (L6.getD L3.length I0) L6.length) = l ++ (em vs l.length a ++ (5, ((l.length + (em vs l.length a).length + 1 + (em vs (l.length + (em vs l.length a).length + 1) b).length + 1 : Nat) : Int), 0) :: (em vs (l.length + (em vs l.length a).length + 1) b ++
   (4, ((l.length + (em vs l.length a).length + 1 + (em vs (l.length + (em vs l.length a).length + 1) b).length + 1 + (em vs (l.length + (em vs l.length a).length + 1 + (em vs (l.length + (em vs l.length a).length + 1) b).length + 1) c).length : Nat) : Int), 0) ::
   em vs (l.length + (em vs l.length a).length + 1 + (em vs (l.length + (em vs l.length a).length + 1) b).length + 1) c)) := by
 intro L1 L2 L3 L4 L5 L6 h1 h2 h3 h4 h5 h6
 generalize hA : em vs l.length a = A at *
 have e1 : L1.length = l.length + A.length := by rw [h1, List.length_append]
 have e2 : L2.length = l.length + A.length + 1 := by rw [h2, List.length_append, e1]; rfl
 rw [e2] at h3
 generalize hB : em vs (l.length + A.length + 1) b = B at *
 have e3 : L3.length = l.length + A.length + 1 + B.length := by rw [h3, List.length_append, e2]
 have e4 : L4.length = l.length + A.length + 1 + B.length + 1 := by rw [h4, List.length_append, e3]; rfl
 have e5 : L5.length = l.length + A.length + 1 + B.length + 1 := by rw [h5, List.length_set, e4]
 rw [e5] at h6
 generalize hC : em vs (l.length + A.length + 1 + B.length + 1) c = C at *
 have e6 : L6.length = l.length + A.length + 1 + B.length + 1 + C.length := by rw [h6, List.length_append, e5]
 have g4 : L4 = L1 ++ (5, 0, 0) :: (B ++ [(4, 0, 0)]) := by rw [h4, h3, h2]; simp
 have g5 : L5 = L1 ++ (5, (L4.length : Int), 0) :: (B ++ [(4, 0, 0)]) := by
  rw [h5, g4, List.set_append_right _ _ (Nat.le_refl _)]
  simp [setA]
 have g6 : L6 = (L1 ++ (5, (L4.length : Int), 0) :: B) ++ (4, 0, 0) :: C := by rw [h6, g5]; simp
 have e7 : (L1 ++ (5, (L4.length : Int), 0) :: B).length = L3.length := by rw [List.length_append, List.length_cons, e1, e3]; omega
 have g7 : L6.set L3.length (setA (L6.getD L3.length I0) L6.length) = (L1 ++ (5, (L4.length : Int), 0) :: B) ++ (4, (L6.length : Int), 0) :: C := by
  conv => lhs; rw [g6]
  rw [List.set_append_right _ _ (by rw [e7]; exact Nat.le_refl _), ← e7]
  congr 1
  simp only [Nat.sub_self, List.set_cons_zero, setA]
  congr 1
  simp [List.getD, g6]
 rw [g7, h1, e4, e6]
 simp
theorem New.from {a b : World} {u v : Value} (h : New b u v) (hs : a.heap.size ≤ b.heap.size) : New a u v := by
 rcases h with h | ⟨g, h1, h2⟩
 ·exact Or.inl h
 ·exact Or.inr ⟨g, h1, by omega⟩
set_option maxRecDepth 100000 in
set_option maxHeartbeats 8000000 in
theorem mchoice (vs : List Vr) (vo : Option Addr) (vc : Nat) (w0 : World) (a b c : Ex) (ia : XC vs vo vc w0 a) (ib : XC vs vo vc w0 b) (ic : XC vs vo vc w0 c) (la : ∀ p, (em vs p a).length ≤ 2 * siz a) (lb : ∀ p, (em vs p b).length ≤ 2 * siz b) (lc : ∀ p, (em vs p c).length ≤ 2 * siz c)
  (sa sb sc : Option Addr) (ca cb cc : Nat) (v : Value) (l : List Ins) (w : World) (hb : Below w0.heap.size w0 w) (ha1 : ExprsAt sa a.args w0) (hb1 : ExprsAt sb b.args w0) (hc1 : ExprsAt sc c.args w0) (hc : CB w0.heap.size (.slice vo vs.length vc) v l w) (hl : l.length + 2 * (siz a + siz b + siz c + 1) ≤ 1000000) (R : List Ins)
  (hR : R = l ++ (em vs l.length a ++ (5, ((l.length + (em vs l.length a).length + 1 + (em vs (l.length + (em vs l.length a).length + 1) b).length + 1 : Nat) : Int), 0) :: (em vs (l.length + (em vs l.length a).length + 1) b ++
   (4, ((l.length + (em vs l.length a).length + 1 + (em vs (l.length + (em vs l.length a).length + 1) b).length + 1 + (em vs (l.length + (em vs l.length a).length + 1 + (em vs (l.length + (em vs l.length a).length + 1) b).length + 1) c).length : Nat) : Int), 0) ::
   em vs (l.length + (em vs l.length a).length + 1 + (em vs (l.length + (em vs l.length a).length + 1) b).length + 1) c))) :
  Calls Tryz.prog 53 #[.pointer (some ⟨w0.heap.size, 0, none⟩), .agg #[.int .i64 a.op, .int .i64 a.n, .string (str a.s), .slice sa a.args.length ca], .agg #[.int .i64 b.op, .int .i64 b.n, .string (str b.s), .slice sb b.args.length cb], .agg #[.int .i64 c.op, .int .i64 c.n, .string (str c.s), .slice sc c.args.length cc]] w fun r w' => r = .returned (.tuple #[]) ∧ ∃ v', CB w0.heap.size (.slice vo vs.length vc) v' R w' ∧ Sav (XB w0.heap.size v) w w' ∧ New w v v' := by
 obtain ⟨L1, h1⟩ : ∃ L1, L1 = l ++ em vs l.length a := ⟨_, rfl⟩
 obtain ⟨L2, h2⟩ : ∃ L2, L2 = L1 ++ [((5, 0, 0) : Ins)] := ⟨_, rfl⟩
 obtain ⟨L3, h3⟩ : ∃ L3, L3 = L2 ++ em vs L2.length b := ⟨_, rfl⟩
 obtain ⟨L4, h4⟩ : ∃ L4, L4 = L3 ++ [((4, 0, 0) : Ins)] := ⟨_, rfl⟩
 obtain ⟨L5, h5⟩ : ∃ L5, L5 = L4.set L1.length (setA (L4.getD L1.length I0) L4.length) := ⟨_, rfl⟩
 obtain ⟨L6, h6⟩ : ∃ L6, L6 = L5 ++ em vs L5.length c := ⟨_, rfl⟩
 have h7 := choice_code vs a b c l L1 L2 L3 L4 L5 L6 h1 h2 h3 h4 h5 h6
 rw [← hR] at h7
 have q1 := la l.length
 have q2 := lb L2.length
 have q3 := lc L5.length
 have e1 : L1.length = l.length + (em vs l.length a).length := by rw [h1, List.length_append]
 have e2 : L2.length = L1.length + 1 := by rw [h2, List.length_append]; rfl
 have e3 : L3.length = L2.length + (em vs L2.length b).length := by rw [h3, List.length_append]
 have e4 : L4.length = L3.length + 1 := by rw [h4, List.length_append]; rfl
 have e5 : L5.length = L4.length := by rw [h5, List.length_set]
 have e6 : L6.length = L5.length + (em vs L5.length c).length := by rw [h6, List.length_append]
 have z1 : L1.length ≤ 1000000 := by omega
 have z3 : L3.length ≤ 1000000 := by omega
 have IA := Lib.hid (fun W hW hC => ia sa ca v l W hW ha1 hC (by omega))
 have IB := Lib.hid (fun v2 W hW hC => ib sb cb v2 L2 W hW hb1 hC (by omega))
 have IC := Lib.hid (fun v5 W hW hC => ic sc cc v5 L5 W hW hc1 hC (by omega))
 have P1 := Lib.hid (fun v1 W hC => mput w0.heap.size (.slice vo vs.length vc) v1 L1 5 0 0 W hC z1)
 have P2 := Lib.hid (fun v3 W hC => mput w0.heap.size (.slice vo vs.length vc) v3 L3 4 0 0 W hC z3)
 rw [← h1] at IA
 rw [← h3] at IB
 rw [← h6] at IC
 rw [← h2] at P1
 rw [← h4] at P2
 obtain ⟨p1, hp1⟩ : ∃ n, L1.length = n := ⟨_, rfl⟩
 obtain ⟨p3, hp3⟩ : ∃ n, L3.length = n := ⟨_, rfl⟩
 obtain ⟨p4, hp4⟩ : ∃ n, L4.length = n := ⟨_, rfl⟩
 obtain ⟨p6, hp6⟩ : ∃ n, L6.length = n := ⟨_, rfl⟩
 have i1 : p1 < L4.length := by omega
 have i3 : p3 < L6.length := by omega
 have y1 : (p1 : Int) < (p4 : Int) := by omega
 have y3 : (p3 : Int) < (p6 : Int) := by omega
 have H5 := Lib.hid h5
 rw [hp1, hp4] at H5
 have H7 := Lib.hid h7
 rw [hp3, hp6] at H7
 have HP4 := Lib.hid hp4
 have HP6 := Lib.hid hp6
 have I1 := Lib.hid i1
 have I3 := Lib.hid i3
 have J4 := Lib.hid (show 0 < L4.length by omega)
 have J6 := Lib.hid (show 0 < L6.length by omega)
 rw [hp1] at P1
 rw [hp3] at P2
 have HBW := Lib.hid (show Below w.heap.size w (((w.alloc (.cells #[.int .i64 a.op, .int .i64 a.n, .string (str a.s), .slice sa a.args.length ca] 24)).alloc (.cells #[.int .i64 b.op, .int .i64 b.n, .string (str b.s), .slice sb b.args.length cb] 24)).alloc (.cells #[.int .i64 c.op, .int .i64 c.n, .string (str c.s), .slice sc c.args.length cc] 24)) from bal (bal (bal (bref w) _) _) _)
 have HC0 := Lib.hid (hc.keep HBW.out)
 have HB0 := Lib.hid (show Below w0.heap.size w0 (((w.alloc (.cells #[.int .i64 a.op, .int .i64 a.n, .string (str a.s), .slice sa a.args.length ca] 24)).alloc (.cells #[.int .i64 b.op, .int .i64 b.n, .string (str b.s), .slice sb b.args.length cb] 24)).alloc (.cells #[.int .i64 c.op, .int .i64 c.n, .string (str c.s), .slice sc c.args.length cc] 24)) from hb.trans (HBW.out.mono hb.size))
 have hBw := hc.lt
 have HO0 := Lib.hid (Off.new hc.2.2.2 3)
 have HC := Lib.hid hc
 clear h1 h2 h3 h4 h5 h6 h7 hR q1 q2 q3 e1 e2 e3 e4 e5 e6 z1 z3 ia ib ic la lb lc ha1 hb1 hc1 hl hb hc hp1 hp3 hp4 hp6 i1 i3
 go_enter Tryz.func53, Tryz.ntmps53
 go_wp2_with fail
 obtain ⟨M, hM⟩ : ∃ M, w.heap.size = M := ⟨_, rfl⟩
 obtain ⟨W1, hW1⟩ : ∃ W1, (((w.alloc (.cells #[.int .i64 a.op, .int .i64 a.n, .string (str a.s), .slice sa a.args.length ca] 24)).alloc (.cells #[.int .i64 b.op, .int .i64 b.n, .string (str b.s), .slice sb b.args.length cb] 24)).alloc (.cells #[.int .i64 c.op, .int .i64 c.n, .string (str c.s), .slice sc c.args.length cc] 24)) = W1 := ⟨_, rfl⟩
 have hBM : w0.heap.size < M := by omega
 have hs1 : M + 3 ≤ W1.heap.size := by rw [← hW1, ← hM]; simp
 have b0 : W1.cell? ⟨M + 1, 0, none⟩ = some (.int .i64 b.op) := by rw [← hW1, ← hM]; simp [go_sem]
 have b1 : W1.cell? ⟨M + 1, 1, none⟩ = some (.int .i64 b.n) := by rw [← hW1, ← hM]; simp [go_sem]
 have b2 : W1.cell? ⟨M + 1, 2, none⟩ = some (.string (str b.s)) := by rw [← hW1, ← hM]; simp [go_sem]
 have b3 : W1.cell? ⟨M + 1, 3, none⟩ = some (.slice sb b.args.length cb) := by rw [← hW1, ← hM]; simp [go_sem]
 have d0 : W1.cell? ⟨M + 2, 0, none⟩ = some (.int .i64 c.op) := by rw [← hW1, ← hM]; simp [go_sem]
 have d1 : W1.cell? ⟨M + 2, 1, none⟩ = some (.int .i64 c.n) := by rw [← hW1, ← hM]; simp [go_sem]
 have d2 : W1.cell? ⟨M + 2, 2, none⟩ = some (.string (str c.s)) := by rw [← hW1, ← hM]; simp [go_sem]
 have d3 : W1.cell? ⟨M + 2, 3, none⟩ = some (.slice sc c.args.length cc) := by rw [← hW1, ← hM]; simp [go_sem]
 rw [hW1] at HBW HC0 HB0
 rw [hM] at HO0
 simp only [hW1]
 clear hW1
 refine (IA.out _ HB0.out HC0.out).mono ?_
 rintro r u1 ⟨rfl, v1, k1, s1, n1⟩
 replace b0 := HO0.out.cell s1 hBM (by omega) (by omega) b0
 replace b1 := HO0.out.cell s1 hBM (by omega) (by omega) b1
 replace b2 := HO0.out.cell s1 hBM (by omega) (by omega) b2
 replace b3 := HO0.out.cell s1 hBM (by omega) (by omega) b3
 replace d0 := HO0.out.cell s1 hBM (by omega) (by omega) d0
 replace d1 := HO0.out.cell s1 hBM (by omega) (by omega) d1
 replace d2 := HO0.out.cell s1 hBM (by omega) (by omega) d2
 replace d3 := HO0.out.cell s1 hBM (by omega) (by omega) d3
 have hs2 : M + 3 ≤ u1.heap.size := Nat.le_trans hs1 s1.size
 have O1 := Lib.hid (HO0.out.next n1 hs1)
 have HB1 := Lib.hid (HB0.out.trans (sav_below s1 HC0.out))
 have S1 := Lib.hid s1
 have N1 := Lib.hid n1
 have K1 := Lib.hid k1
 clear s1 n1 k1
 go_wp2_with fail
 refine (P1.out v1 _ K1.out).mono ?_
 rintro r u2 ⟨rfl, v2, k2, s2, n2⟩
 replace b0 := O1.out.cell s2 hBM (by omega) (by omega) b0
 replace b1 := O1.out.cell s2 hBM (by omega) (by omega) b1
 replace b2 := O1.out.cell s2 hBM (by omega) (by omega) b2
 replace b3 := O1.out.cell s2 hBM (by omega) (by omega) b3
 replace d0 := O1.out.cell s2 hBM (by omega) (by omega) d0
 replace d1 := O1.out.cell s2 hBM (by omega) (by omega) d1
 replace d2 := O1.out.cell s2 hBM (by omega) (by omega) d2
 replace d3 := O1.out.cell s2 hBM (by omega) (by omega) d3
 have hs3 : M + 3 ≤ u2.heap.size := Nat.le_trans hs2 s2.size
 have O2 := Lib.hid (O1.out.next n2 hs2)
 have HB2 := Lib.hid (HB1.out.trans (sav_below s2 K1.out))
 have S2 := Lib.hid (sav_comp S1.out N1.out s2)
 have N2 := Lib.hid (N1.out.trans n2 S1.out.size)
 have K2 := Lib.hid k2
 clear s2 n2 k2
 go_wp2_with fail
 refine (IB.out v2 _ HB2.out K2.out).mono ?_
 rintro r u3 ⟨rfl, v3, k3, s3, n3⟩
 replace d0 := O2.out.cell s3 hBM (by omega) (by omega) d0
 replace d1 := O2.out.cell s3 hBM (by omega) (by omega) d1
 replace d2 := O2.out.cell s3 hBM (by omega) (by omega) d2
 replace d3 := O2.out.cell s3 hBM (by omega) (by omega) d3
 have hs4 : M + 3 ≤ u3.heap.size := Nat.le_trans hs3 s3.size
 have O3 := Lib.hid (O2.out.next n3 hs3)
 have HB3 := Lib.hid (HB2.out.trans (sav_below s3 K2.out))
 have S3 := Lib.hid (sav_comp S2.out N2.out s3)
 have N3 := Lib.hid (N2.out.trans n3 S2.out.size)
 have K3 := Lib.hid k3
 clear s3 n3 k3
 go_wp2_with fail
 refine (P2.out v3 _ K3.out).mono ?_
 rintro r u4 ⟨rfl, v4, k4, s4, n4⟩
 replace d0 := O3.out.cell s4 hBM (by omega) (by omega) d0
 replace d1 := O3.out.cell s4 hBM (by omega) (by omega) d1
 replace d2 := O3.out.cell s4 hBM (by omega) (by omega) d2
 replace d3 := O3.out.cell s4 hBM (by omega) (by omega) d3
 have hs5 : M + 3 ≤ u4.heap.size := Nat.le_trans hs4 s4.size
 have O4 := Lib.hid (O3.out.next n4 hs4)
 have HB4 := Lib.hid (HB3.out.trans (sav_below s4 K3.out))
 have S4 := Lib.hid (sav_comp S3.out N3.out s4)
 have N4 := Lib.hid (N3.out.trans n4 S3.out.size)
 obtain ⟨g, cp, rfl⟩ := k4.pos J4.out
 rw [HP4.out] at k4 O4 N4
 obtain ⟨ka1, ka2, ka3⟩ := k4.at p1 I1.out
 have kc1 := k4.2.1
 have K4 := Lib.hid k4
 clear s4 n4 k4
 go_wp2_with fail
 refine wp_region_held_drew (S := (fun W => W.cell? ⟨w0.heap.size, 1, none⟩ = some (.slice (some ⟨g, 0, none⟩) p4 cp))) (by kernel_rfl) (keepc (bdr (bref _)) kc1) (fun hH0 => ?_)
 refine wpAnyH_take (i := 0) (oi := _) (v := ?_) rfl (by kernel_rfl) (by kernel_rfl) (by kernel_rfl) (fun _ _ _ h => h) (Or.inl ⟨?_, ?_⟩) hH0 ?_
 rotate_left
 ·kernel_rfl
 ·(intro W' _; go_simp; (try with_reducible rfl))
 (try simp only [List.getElem_toArray, List.getElem_cons_zero, Act.put, List.setIfInBounds_toArray, List.set_cons_succ, List.set_cons_zero])
 refine wpAnyH_take (i := 1) (oi := _) (v := ?_) rfl (by kernel_rfl) (by kernel_rfl) (by kernel_rfl) (fun _ _ _ h => h) (Or.inl ⟨?_, ?_⟩) hH0 ?_
 rotate_left
 ·kernel_rfl
 ·(intro W' _; go_simp; (try with_reducible rfl))
 (try simp only [List.getElem_toArray, List.getElem_cons_succ, List.getElem_cons_zero, Act.put, List.setIfInBounds_toArray, List.set_cons_succ, List.set_cons_zero])
 refine wpAnyH_take (i := 2) (oi := _) (v := ?_) rfl (by kernel_rfl) (by kernel_rfl) (by kernel_rfl) (fun _ _ _ h => h) (Or.inl ⟨?_, ?_⟩) hH0 ?_
 rotate_left
 ·kernel_rfl
 ·(intro W' _; go_simp; (try with_reducible rfl))
 (try simp only [List.getElem_toArray, List.getElem_cons_succ, List.getElem_cons_zero, Act.put, List.setIfInBounds_toArray, List.set_cons_succ, List.set_cons_zero])
 refine wpAnyH_take (i := 3) (oi := _) (v := ?_) rfl (by kernel_rfl) (by kernel_rfl) (by kernel_rfl) (fun _ _ _ h => h) (Or.inl ⟨?_, ?_⟩) hH0 ?_
 rotate_left
 ·kernel_rfl
 ·(intro W' hSw; have f0 := hSw; go_simp; (try with_reducible rfl))
 (try simp only [List.getElem_toArray, List.getElem_cons_succ, List.getElem_cons_zero, Act.put, List.setIfInBounds_toArray, List.set_cons_succ, List.set_cons_zero])
 refine wpAnyH_take (i := 4) (oi := _) (v := ?_) rfl (by kernel_rfl) (by kernel_rfl) (by kernel_rfl) (fun _ _ _ h => h) (Or.inl ⟨?_, ?_⟩) hH0 ?_
 rotate_left
 ·kernel_rfl
 ·(intro W' _; go_simp; (try with_reducible rfl))
 (try simp only [List.getElem_toArray, List.getElem_cons_succ, List.getElem_cons_zero, Act.put, List.setIfInBounds_toArray, List.set_cons_succ, List.set_cons_zero])
 refine wpAnyH_take (i := 5) (oi := _) (v := ?_) rfl (by kernel_rfl) (by kernel_rfl) (by kernel_rfl) (fun _ _ _ h => h) (Or.inl ⟨?_, ?_⟩) hH0 ?_
 rotate_left
 ·kernel_rfl
 ·(intro W' _; go_simp; (try with_reducible rfl))
 (try simp only [List.getElem_toArray, List.getElem_cons_succ, List.getElem_cons_zero, Act.put, List.setIfInBounds_toArray, List.set_cons_succ, List.set_cons_zero])
 refine wpAnyH_ready (rs := [6]) (by kernel_rfl) (by simp) ?_
 refine AllReadyH.cons (o := _) rfl (fun K hK => ?_) AllReadyH.nil
 go_simp
 refine (mnextC w0.heap.size p4 cp (some ⟨g, 0, none⟩) _ hH0).mono ?_
 rintro r w1 ⟨rfl, rfl⟩
 refine hK.out _ _ hH0 (fun hH1 => ?_)
 clear hK K
 (try simp only [List.getElem_toArray, List.getElem_cons_succ, List.getElem_cons_zero, Act.put, List.setIfInBounds_toArray, List.set_cons_succ, List.set_cons_zero])
 refine wpAnyH_take (i := 7) (oi := _) (v := ?_) rfl (by kernel_rfl) (by kernel_rfl) (by kernel_rfl) (fun _ _ _ h => h) (Or.inl ⟨?_, ?_⟩) hH1 ?_
 rotate_left
 ·kernel_rfl
 ·(intro W' _; go_simp; (try with_reducible rfl))
 (try simp only [List.getElem_toArray, List.getElem_cons_succ, List.getElem_cons_zero, Act.put, List.setIfInBounds_toArray, List.set_cons_succ, List.set_cons_zero])
 refine wpAnyH_take (i := 8) (oi := _) (v := ?_) rfl (by kernel_rfl) (by kernel_rfl) (by kernel_rfl) (fun _ _ _ h => h) (Or.inl ⟨?_, ?_⟩) hH1 ?_
 rotate_left
 ·kernel_rfl
 ·(intro W' _; go_simp; (try with_reducible rfl))
 (try simp only [List.getElem_toArray, List.getElem_cons_succ, List.getElem_cons_zero, Act.put, List.setIfInBounds_toArray, List.set_cons_succ, List.set_cons_zero])
 refine wpAnyH_ready (rs := [9]) (by kernel_rfl) (by simp) ?_
 refine AllReadyH.cons (o := _) rfl (fun K hK => ?_) AllReadyH.nil
 have m1 := keepc (bdr (bref u4)) ka1
 have m2 := keepf (bdr (bref u4)) ka1 ka2
 go_simp
 refine hK.out _ _ (keepc (bdr (bref _)) (show (u4.setCell ⟨g, p1 * 3 + 1, none⟩ (.int .i64 (p4 : Int))).cell? ⟨w0.heap.size, 1, none⟩ = some (.slice (some ⟨g, 0, none⟩) p4 cp) by rw [World.cell?_setCell_other _ _ _ _ (by intro e; injection e with e; exact ka3 e)]; exact kc1)) (fun hH2 => ?_)
 clear hK K
 (try simp only [List.getElem_toArray, List.getElem_cons_succ, List.getElem_cons_zero, Act.put, List.setIfInBounds_toArray, List.set_cons_succ, List.set_cons_zero])
 refine wpAnyH_done (by kernel_rfl) ?_ _
 obtain ⟨k5, s5⟩ := K4.out.patch p1 I1.out (p4 : Int)
 rw [← H5.out] at k5
 replace k5 := k5.keep (bdr (bref _))
 replace s5 := s5.next (bdr (bref _))
 replace d0 := O4.out.cell s5 hBM (by omega) (by omega) d0
 replace d1 := O4.out.cell s5 hBM (by omega) (by omega) d1
 replace d2 := O4.out.cell s5 hBM (by omega) (by omega) d2
 replace d3 := O4.out.cell s5 hBM (by omega) (by omega) d3
 have S5 := Lib.hid (sav_comp S4.out N4.out s5)
 have HB5 := Lib.hid (HB4.out.trans (sav_below s5 K4.out))
 have K5 := Lib.hid k5
 clear ka1 ka2 kc1 k5 s5
 go_wp2_with fail
 refine (IC.out _ _ HB5.out K5.out).mono ?_
 rintro r u6 ⟨rfl, v6, k6, s6, n6⟩
 have S6 := Lib.hid (sav_comp S5.out N4.out s6)
 have N6 := Lib.hid (N4.out.trans n6 (Nat.le_trans S4.out.size (by simp)))
 obtain ⟨g', cp', rfl⟩ := k6.pos J6.out
 rw [HP6.out] at k6 N6
 obtain ⟨ka1, ka2, ka4⟩ := k6.at p3 I3.out
 have kc1 := k6.2.1
 have K6 := Lib.hid k6
 clear s6 n6 k6
 go_wp2_with fail
 refine wp_region_held_drew (S := (fun W => W.cell? ⟨w0.heap.size, 1, none⟩ = some (.slice (some ⟨g', 0, none⟩) p6 cp'))) (by kernel_rfl) (keepc (bdr (bref _)) kc1) (fun hH0 => ?_)
 refine wpAnyH_take (i := 0) (oi := _) (v := ?_) rfl (by kernel_rfl) (by kernel_rfl) (by kernel_rfl) (fun _ _ _ h => h) (Or.inl ⟨?_, ?_⟩) hH0 ?_
 rotate_left
 ·kernel_rfl
 ·(intro W' _; go_simp; (try with_reducible rfl))
 (try simp only [List.getElem_toArray, List.getElem_cons_zero, Act.put, List.setIfInBounds_toArray, List.set_cons_succ, List.set_cons_zero])
 refine wpAnyH_take (i := 1) (oi := _) (v := ?_) rfl (by kernel_rfl) (by kernel_rfl) (by kernel_rfl) (fun _ _ _ h => h) (Or.inl ⟨?_, ?_⟩) hH0 ?_
 rotate_left
 ·kernel_rfl
 ·(intro W' _; go_simp; (try with_reducible rfl))
 (try simp only [List.getElem_toArray, List.getElem_cons_succ, List.getElem_cons_zero, Act.put, List.setIfInBounds_toArray, List.set_cons_succ, List.set_cons_zero])
 refine wpAnyH_take (i := 2) (oi := _) (v := ?_) rfl (by kernel_rfl) (by kernel_rfl) (by kernel_rfl) (fun _ _ _ h => h) (Or.inl ⟨?_, ?_⟩) hH0 ?_
 rotate_left
 ·kernel_rfl
 ·(intro W' _; go_simp; (try with_reducible rfl))
 (try simp only [List.getElem_toArray, List.getElem_cons_succ, List.getElem_cons_zero, Act.put, List.setIfInBounds_toArray, List.set_cons_succ, List.set_cons_zero])
 refine wpAnyH_take (i := 3) (oi := _) (v := ?_) rfl (by kernel_rfl) (by kernel_rfl) (by kernel_rfl) (fun _ _ _ h => h) (Or.inl ⟨?_, ?_⟩) hH0 ?_
 rotate_left
 ·kernel_rfl
 ·(intro W' hSw; have f0 := hSw; go_simp; (try with_reducible rfl))
 (try simp only [List.getElem_toArray, List.getElem_cons_succ, List.getElem_cons_zero, Act.put, List.setIfInBounds_toArray, List.set_cons_succ, List.set_cons_zero])
 refine wpAnyH_take (i := 4) (oi := _) (v := ?_) rfl (by kernel_rfl) (by kernel_rfl) (by kernel_rfl) (fun _ _ _ h => h) (Or.inl ⟨?_, ?_⟩) hH0 ?_
 rotate_left
 ·kernel_rfl
 ·(intro W' _; go_simp; (try with_reducible rfl))
 (try simp only [List.getElem_toArray, List.getElem_cons_succ, List.getElem_cons_zero, Act.put, List.setIfInBounds_toArray, List.set_cons_succ, List.set_cons_zero])
 refine wpAnyH_take (i := 5) (oi := _) (v := ?_) rfl (by kernel_rfl) (by kernel_rfl) (by kernel_rfl) (fun _ _ _ h => h) (Or.inl ⟨?_, ?_⟩) hH0 ?_
 rotate_left
 ·kernel_rfl
 ·(intro W' _; go_simp; (try with_reducible rfl))
 (try simp only [List.getElem_toArray, List.getElem_cons_succ, List.getElem_cons_zero, Act.put, List.setIfInBounds_toArray, List.set_cons_succ, List.set_cons_zero])
 refine wpAnyH_ready (rs := [6]) (by kernel_rfl) (by simp) ?_
 refine AllReadyH.cons (o := _) rfl (fun K hK => ?_) AllReadyH.nil
 go_simp
 refine (mnextC w0.heap.size p6 cp' (some ⟨g', 0, none⟩) _ hH0).mono ?_
 rintro r w1 ⟨rfl, rfl⟩
 refine hK.out _ _ hH0 (fun hH1 => ?_)
 clear hK K
 (try simp only [List.getElem_toArray, List.getElem_cons_succ, List.getElem_cons_zero, Act.put, List.setIfInBounds_toArray, List.set_cons_succ, List.set_cons_zero])
 refine wpAnyH_take (i := 7) (oi := _) (v := ?_) rfl (by kernel_rfl) (by kernel_rfl) (by kernel_rfl) (fun _ _ _ h => h) (Or.inl ⟨?_, ?_⟩) hH1 ?_
 rotate_left
 ·kernel_rfl
 ·(intro W' _; go_simp; (try with_reducible rfl))
 (try simp only [List.getElem_toArray, List.getElem_cons_succ, List.getElem_cons_zero, Act.put, List.setIfInBounds_toArray, List.set_cons_succ, List.set_cons_zero])
 refine wpAnyH_take (i := 8) (oi := _) (v := ?_) rfl (by kernel_rfl) (by kernel_rfl) (by kernel_rfl) (fun _ _ _ h => h) (Or.inl ⟨?_, ?_⟩) hH1 ?_
 rotate_left
 ·kernel_rfl
 ·(intro W' _; go_simp; (try with_reducible rfl))
 (try simp only [List.getElem_toArray, List.getElem_cons_succ, List.getElem_cons_zero, Act.put, List.setIfInBounds_toArray, List.set_cons_succ, List.set_cons_zero])
 refine wpAnyH_ready (rs := [9]) (by kernel_rfl) (by simp) ?_
 refine AllReadyH.cons (o := _) rfl (fun K hK => ?_) AllReadyH.nil
 have m1 := keepc (bdr (bref u6)) ka1
 have m2 := keepf (bdr (bref u6)) ka1 ka2
 go_simp
 refine hK.out _ _ (keepc (bdr (bref _)) (show (u6.setCell ⟨g', p3 * 3 + 1, none⟩ (.int .i64 (p6 : Int))).cell? ⟨w0.heap.size, 1, none⟩ = some (.slice (some ⟨g', 0, none⟩) p6 cp') by rw [World.cell?_setCell_other _ _ _ _ (by intro e; injection e with e; exact ka4 e)]; exact kc1)) (fun hH2 => ?_)
 clear hK K
 (try simp only [List.getElem_toArray, List.getElem_cons_succ, List.getElem_cons_zero, Act.put, List.setIfInBounds_toArray, List.set_cons_succ, List.set_cons_zero])
 refine wpAnyH_done (by kernel_rfl) ?_ _
 obtain ⟨k7, s7⟩ := K6.out.patch p3 I3.out (p6 : Int)
 rw [H7.out] at k7
 replace k7 := k7.keep (bdr (bref _))
 replace s7 := s7.next (bdr (bref _))
 have S7 := Lib.hid (sav_comp S6.out N6.out s7)
 have K7 := Lib.hid k7
 clear ka1 ka2 kc1 k7 s7
 go_end0
 exact ⟨rfl, _, K7.out, (Sav.of_below HBW.out).trans S7.out (fun _ _ e => e), N6.out.from HBW.out.size⟩
end Go.Proofs.YthanoilbcdhbkaaGreatDoor

namespace Go.Proofs.YthanoilbcdhbkaaGreatDoor
open Go Go.RowKit Go.Lib Go.Shelf WM TM EM YM

set_option maxRecDepth 100000 in
set_option maxHeartbeats 8000000 in
theorem mexpr (vs : List Vr) (vo : Option Addr) (vc : Nat) (w0 : World) (hvl : vs.length ≤ 100000) (hv : VarsAt vo vs w0) : ∀ e : Ex, (EM.pre e).all okN = true → XC vs vo vc w0 e := by
 refine ex_ind _ fun e ih hk => ?_
 intro so cap v l w hb he hc hl
 obtain ⟨hk1, hk2⟩ := ok_parts hk
 have hop := ok_op hk1
 have hz := siz_eq e
 have hsp := siz_pos e
 have PU := Lib.hid (fun v' l' (op a n : Int) W hC (hl' : l'.length ≤ 1000000) => mput w0.heap.size (.slice vo vs.length vc) v' l' op a n W hC hl')
 have hBw := hc.lt
 have HO0 := Lib.hid (Off.new hc.2.2.2 1)
 have HC := Lib.hid hc
 have HBb := Lib.hid hb
 by_cases hnum : e.op = 1 ∨ e.op = 2 ∨ e.op = 3
 ·have hem := em_num vs l.length hnum
  have P1 := Lib.hid (fun W hC => mput w0.heap.size (.slice vo vs.length vc) v l 1 e.op e.n W hC (by omega))
  rw [← hem] at P1
  obtain ⟨o, ho⟩ : ∃ o, e.op = o := ⟨_, rfl⟩
  obtain ⟨n, hn⟩ : ∃ n, e.n = n := ⟨_, rfl⟩
  obtain ⟨X, hX⟩ : ∃ X, str e.s = X := ⟨_, rfl⟩
  obtain ⟨m, hm⟩ : ∃ n, e.args.length = n := ⟨_, rfl⟩
  obtain ⟨L, hL⟩ : ∃ L, l ++ em vs l.length e = L := ⟨_, rfl⟩
  obtain ⟨p, hp⟩ : ∃ n, l.length = n := ⟨_, rfl⟩
  rw [ho, hn] at P1
  rw [hL, hp] at P1
  rw [ho, hn, hX, hm, hL]
  rw [ho] at hnum
  have HBW := Lib.hid (show Below w.heap.size w (w.alloc (.cells #[.int .i64 o, .int .i64 n, .string X, .slice so m cap] 24)) from bal (bref w) _)
  clear hk1 hk2 hop hz hsp PU hem ho hn hX hm hL hl he ih hk hv hvl hp hc hb
  rcases hnum with rfl | rfl | rfl
  ·go_enter Tryz.func31, Tryz.ntmps31
   go_wp2_with fail
   refine (P1.out _ (HC.out.keep HBW.out)).mono ?_
   rintro r u1 ⟨rfl, v1, k1, s1, n1⟩
   have K1 := Lib.hid k1
   have S1 := Lib.hid s1
   have N1 := Lib.hid n1
   clear k1 s1 n1
   go_wp2_with fail
   go_end0
   exact ⟨rfl, v1, K1.out, (Sav.of_below HBW.out).trans S1.out (fun _ _ h => h), N1.out.from HBW.out.size⟩
  ·go_enter Tryz.func31, Tryz.ntmps31
   go_wp2_with fail
   refine (P1.out _ (HC.out.keep HBW.out)).mono ?_
   rintro r u1 ⟨rfl, v1, k1, s1, n1⟩
   have K1 := Lib.hid k1
   have S1 := Lib.hid s1
   have N1 := Lib.hid n1
   clear k1 s1 n1
   go_wp2_with fail
   go_end0
   exact ⟨rfl, v1, K1.out, (Sav.of_below HBW.out).trans S1.out (fun _ _ h => h), N1.out.from HBW.out.size⟩
  ·go_enter Tryz.func31, Tryz.ntmps31
   go_wp2_with fail
   refine (P1.out _ (HC.out.keep HBW.out)).mono ?_
   rintro r u1 ⟨rfl, v1, k1, s1, n1⟩
   have K1 := Lib.hid k1
   have S1 := Lib.hid s1
   have N1 := Lib.hid n1
   clear k1 s1 n1
   go_wp2_with fail
   go_end0
   exact ⟨rfl, v1, K1.out, (Sav.of_below HBW.out).trans S1.out (fun _ _ h => h), N1.out.from HBW.out.size⟩
 by_cases hvar : e.op = 4
 ·have hem := em_var vs l.length hvar
  have P1 := Lib.hid (fun W hC => mput w0.heap.size (.slice vo vs.length vc) v l 2 (ix vs e.s) 0 W hC (by omega))
  rw [← hem] at P1
  have IX := Lib.hid (fun W (hW : Below w0.heap.size w0 W) hC => mcindex vs (str e.s) vo vc w0.heap.size W hvl (hv.keep hW) hC)
  rw [byt_str, ← ix_fix] at IX
  obtain ⟨n, hn⟩ : ∃ n, e.n = n := ⟨_, rfl⟩
  obtain ⟨q, hq⟩ : ∃ n, ix vs e.s = n := ⟨_, rfl⟩
  obtain ⟨X, hX⟩ : ∃ X, str e.s = X := ⟨_, rfl⟩
  obtain ⟨m, hm⟩ : ∃ n, e.args.length = n := ⟨_, rfl⟩
  obtain ⟨L, hL⟩ : ∃ L, l ++ em vs l.length e = L := ⟨_, rfl⟩
  obtain ⟨p, hp⟩ : ∃ n, l.length = n := ⟨_, rfl⟩
  rw [hq] at P1 IX
  rw [hX] at IX
  rw [hL, hp] at P1
  rw [hvar, hn, hX, hm, hL]
  have HBW := Lib.hid (show Below w.heap.size w (w.alloc (.cells #[.int .i64 4, .int .i64 n, .string X, .slice so m cap] 24)) from bal (bref w) _)
  clear hk1 hk2 hop hz hsp PU hem hn hX hm hL hl he ih hk hv hvl hp hnum hvar hq hc hb
  go_enter Tryz.func31, Tryz.ntmps31
  go_wp2_with fail
  refine (IX.out _ (HBb.out.trans (HBW.out.mono HBb.out.size)) (HC.out.keep HBW.out).1).mono ?_
  rintro r u1 ⟨rfl, hb1⟩
  have HB1 := Lib.hid (btr HBW.out hb1)
  clear hb1
  go_wp2_with fail
  refine (P1.out _ (HC.out.keep HB1.out)).mono ?_
  rintro r u2 ⟨rfl, v1, k1, s1, n1⟩
  have K1 := Lib.hid k1
  have S1 := Lib.hid s1
  have N1 := Lib.hid n1
  clear k1 s1 n1
  go_wp2_with fail
  go_end0
  exact ⟨rfl, v1, K1.out, (Sav.of_below HB1.out).trans S1.out (fun _ _ h => h), N1.out.from HB1.out.size⟩
 have hcop : ¬ (1 ≤ e.op ∧ e.op ≤ 4) := by omega
 by_cases h19 : e.op = 19
 ·obtain ⟨x, y, z, ha⟩ := ok_three hk1 h19
  have hem := em_cond vs l.length h19 ha
  have mx : x ∈ e.args := by simp [ha]
  have my : y ∈ e.args := by simp [ha]
  have mz : z ∈ e.args := by simp [ha]
  rw [ha, sizs_cons, sizs_cons, sizs_cons, sizs_nil] at hz
  obtain ⟨b, off, sx, cx, rfl, hbl, c0, c1, c2, c3, hX1, _⟩ := he.at 0 (by simp [ha])
  obtain ⟨b', off', sy, cy, eq, _, d0, d1, d2, d3, hY1, _⟩ := he.at 1 (by simp [ha])
  cases eq
  obtain ⟨b', off', sz, cz, eq, _, e0, e1, e2, e3, hZ1, _⟩ := he.at 2 (by simp [ha])
  cases eq
  simp only [ha, List.getD_cons_zero, List.getD_cons_succ, Nat.zero_mul, Nat.add_zero, Nat.one_mul] at c0 c1 c2 c3 d0 d1 d2 d3 e0 e1 e2 e3 hX1 hY1 hZ1
  have CH := Lib.hid (fun W hW hC => mchoice vs vo vc w0 x y z (ih x mx (hk2 x mx)) (ih y my (hk2 y my)) (ih z mz (hk2 z mz)) (fun p => (em_len vs x (hk2 x mx) p).2) (fun p => (em_len vs y (hk2 y my) p).2) (fun p => (em_len vs z (hk2 z mz) p).2) sx sy sz cx cy cz v l W hW hX1 hY1 hZ1 hC (by omega) _ (congrArg (fun q => l ++ q) hem))
  have ha3 : e.args.length = 3 := by rw [ha]; rfl
  obtain ⟨n, hn⟩ : ∃ n, e.n = n := ⟨_, rfl⟩
  obtain ⟨X, hX⟩ : ∃ X, str e.s = X := ⟨_, rfl⟩
  obtain ⟨L, hL⟩ : ∃ L, l ++ em vs l.length e = L := ⟨_, rfl⟩
  rw [hL] at CH
  rw [h19, hn, hX, ha3, hL]
  obtain ⟨xo, hxo⟩ : ∃ q, x.op = q := ⟨_, rfl⟩
  obtain ⟨xn, hxn⟩ : ∃ q, x.n = q := ⟨_, rfl⟩
  obtain ⟨xs, hxs⟩ : ∃ q, str x.s = q := ⟨_, rfl⟩
  obtain ⟨xl, hxl⟩ : ∃ q, x.args.length = q := ⟨_, rfl⟩
  obtain ⟨yo, hyo⟩ : ∃ q, y.op = q := ⟨_, rfl⟩
  obtain ⟨yn, hyn⟩ : ∃ q, y.n = q := ⟨_, rfl⟩
  obtain ⟨ys, hys⟩ : ∃ q, str y.s = q := ⟨_, rfl⟩
  obtain ⟨yl, hyl⟩ : ∃ q, y.args.length = q := ⟨_, rfl⟩
  obtain ⟨zo, hzo⟩ : ∃ q, z.op = q := ⟨_, rfl⟩
  obtain ⟨zn, hzn⟩ : ∃ q, z.n = q := ⟨_, rfl⟩
  obtain ⟨zs, hzs⟩ : ∃ q, str z.s = q := ⟨_, rfl⟩
  obtain ⟨zl, hzl⟩ : ∃ q, z.args.length = q := ⟨_, rfl⟩
  rw [hxo, hxn, hxs, hxl, hyo, hyn, hys, hyl, hzo, hzn, hzs, hzl] at CH
  rw [hxo] at c0
  rw [hxn] at c1
  rw [hxs] at c2
  rw [hxl] at c3
  rw [hyo] at d0
  rw [hyn] at d1
  rw [hys] at d2
  rw [hyl] at d3
  rw [hzo] at e0
  rw [hzn] at e1
  rw [hzs] at e2
  rw [hzl] at e3
  have HBW := Lib.hid (show Below w.heap.size w (w.alloc (.cells #[.int .i64 19, .int .i64 n, .string X, .slice (some ⟨b, off, none⟩) 3 cap] 24)) from bal (bref w) _)
  have HC0 := Lib.hid (HC.out.keep HBW.out)
  have HB0 := Lib.hid (HBb.out.trans (HBW.out.mono HBb.out.size))
  clear hk1 hk2 hop hz hsp PU hem hn hX hL hl he ih hk hv hvl hnum hvar hc hb mx my mz hX1 hY1 hZ1 hxo hxn hxs hxl hyo hyn hys hyl hzo hzn hzs hzl ha ha3 hcop h19
  go_enter Tryz.func31, Tryz.ntmps31
  go_wp2_with fail
  obtain ⟨M, hM⟩ : ∃ M, w.heap.size = M := ⟨_, rfl⟩
  obtain ⟨W1, hW1⟩ : ∃ W1, (w.alloc (.cells #[.int .i64 19, .int .i64 n, .string X, .slice (some ⟨b, off, none⟩) 3 cap] 24)) = W1 := ⟨_, rfl⟩
  have hBM : w0.heap.size < M := by omega
  have hs1 : M + 1 ≤ W1.heap.size := by rw [← hW1, ← hM]; simp
  have x3 : W1.cell? ⟨M, 3, none⟩ = some (.slice (some ⟨b, off, none⟩) 3 cap) := by rw [← hW1, ← hM]; simp [go_sem]
  rw [hW1] at HBW HC0 HB0
  rw [hM] at HO0
  simp only [hW1, hM]
  clear hW1
  refine wp_region_held_drew (S := (fun W => Below w0.heap.size w0 W ∧ W.cell? ⟨M, 3, none⟩ = some (.slice (some ⟨b, off, none⟩) 3 cap))) (by kernel_rfl) ⟨HB0.out.trans ((bdr (bref W1)).mono HB0.out.size), keepc (bdr (bref _)) x3⟩ (fun hH0 => ?_)
  refine wpAnyH_take (i := 0) (oi := _) (v := ?_) rfl (by kernel_rfl) (by kernel_rfl) (by kernel_rfl) (fun _ _ _ h => h) (Or.inl ⟨?_, ?_⟩) hH0 ?_
  rotate_left
  ·kernel_rfl
  ·(intro W' _; go_simp; (try with_reducible rfl))
  (try simp only [List.getElem_toArray, List.getElem_cons_zero, Act.put, List.setIfInBounds_toArray, List.set_cons_succ, List.set_cons_zero])
  refine wpAnyH_take (i := 1) (oi := _) (v := ?_) rfl (by kernel_rfl) (by kernel_rfl) (by kernel_rfl) (fun _ _ _ h => h) (Or.inl ⟨?_, ?_⟩) hH0 ?_
  rotate_left
  ·kernel_rfl
  ·(intro W' _; go_simp; (try with_reducible rfl))
  (try simp only [List.getElem_toArray, List.getElem_cons_succ, List.getElem_cons_zero, Act.put, List.setIfInBounds_toArray, List.set_cons_succ, List.set_cons_zero])
  refine wpAnyH_take (i := 2) (oi := _) (v := ?_) rfl (by kernel_rfl) (by kernel_rfl) (by kernel_rfl) (fun _ _ _ h => h) (Or.inl ⟨?_, ?_⟩) hH0 ?_
  rotate_left
  ·kernel_rfl
  ·(intro W' hSw; obtain ⟨s0, s1⟩ := hSw; have f0 := keepc s0 c0; have g0 := keepc s0 d0; have h0 := keepc s0 e0; have f1 := keepc s0 c1; have g1 := keepc s0 d1; have h1 := keepc s0 e1; have f2 := keepc s0 c2; have g2 := keepc s0 d2; have h2 := keepc s0 e2; have f3 := keepc s0 c3; have g3 := keepc s0 d3; have h3 := keepc s0 e3; go_simp; (try with_reducible rfl))
  (try simp only [List.getElem_toArray, List.getElem_cons_succ, List.getElem_cons_zero, Act.put, List.setIfInBounds_toArray, List.set_cons_succ, List.set_cons_zero])
  refine wpAnyH_take (i := 3) (oi := _) (v := ?_) rfl (by kernel_rfl) (by kernel_rfl) (by kernel_rfl) (fun _ _ _ h => h) (Or.inl ⟨?_, ?_⟩) hH0 ?_
  rotate_left
  ·kernel_rfl
  ·(intro W' _; go_simp; (try with_reducible rfl))
  (try simp only [List.getElem_toArray, List.getElem_cons_succ, List.getElem_cons_zero, Act.put, List.setIfInBounds_toArray, List.set_cons_succ, List.set_cons_zero])
  refine wpAnyH_take (i := 4) (oi := _) (v := ?_) rfl (by kernel_rfl) (by kernel_rfl) (by kernel_rfl) (fun _ _ _ h => h) (Or.inl ⟨?_, ?_⟩) hH0 ?_
  rotate_left
  ·kernel_rfl
  ·(intro W' hSw; obtain ⟨s0, s1⟩ := hSw; have f0 := keepc s0 c0; have g0 := keepc s0 d0; have h0 := keepc s0 e0; have f1 := keepc s0 c1; have g1 := keepc s0 d1; have h1 := keepc s0 e1; have f2 := keepc s0 c2; have g2 := keepc s0 d2; have h2 := keepc s0 e2; have f3 := keepc s0 c3; have g3 := keepc s0 d3; have h3 := keepc s0 e3; go_simp; (try with_reducible rfl))
  (try simp only [List.getElem_toArray, List.getElem_cons_succ, List.getElem_cons_zero, Act.put, List.setIfInBounds_toArray, List.set_cons_succ, List.set_cons_zero])
  refine wpAnyH_take (i := 5) (oi := _) (v := ?_) rfl (by kernel_rfl) (by kernel_rfl) (by kernel_rfl) (fun _ _ _ h => h) (Or.inl ⟨?_, ?_⟩) hH0 ?_
  rotate_left
  ·kernel_rfl
  ·(intro W' _; go_simp; (try with_reducible rfl))
  (try simp only [List.getElem_toArray, List.getElem_cons_succ, List.getElem_cons_zero, Act.put, List.setIfInBounds_toArray, List.set_cons_succ, List.set_cons_zero])
  refine wpAnyH_take (i := 6) (oi := _) (v := ?_) rfl (by kernel_rfl) (by kernel_rfl) (by kernel_rfl) (fun _ _ _ h => h) (Or.inl ⟨?_, ?_⟩) hH0 ?_
  rotate_left
  ·kernel_rfl
  ·(intro W' hSw; obtain ⟨s0, s1⟩ := hSw; have f0 := keepc s0 c0; have g0 := keepc s0 d0; have h0 := keepc s0 e0; have f1 := keepc s0 c1; have g1 := keepc s0 d1; have h1 := keepc s0 e1; have f2 := keepc s0 c2; have g2 := keepc s0 d2; have h2 := keepc s0 e2; have f3 := keepc s0 c3; have g3 := keepc s0 d3; have h3 := keepc s0 e3; go_simp; (try with_reducible rfl))
  (try simp only [List.getElem_toArray, List.getElem_cons_succ, List.getElem_cons_zero, Act.put, List.setIfInBounds_toArray, List.set_cons_succ, List.set_cons_zero])
  refine wpAnyH_take (i := 7) (oi := _) (v := ?_) rfl (by kernel_rfl) (by kernel_rfl) (by kernel_rfl) (fun _ _ _ h => h) (Or.inl ⟨?_, ?_⟩) hH0 ?_
  rotate_left
  ·kernel_rfl
  ·(intro W' _; go_simp; (try with_reducible rfl))
  (try simp only [List.getElem_toArray, List.getElem_cons_succ, List.getElem_cons_zero, Act.put, List.setIfInBounds_toArray, List.set_cons_succ, List.set_cons_zero])
  refine wpAnyH_take (i := 8) (oi := _) (v := ?_) rfl (by kernel_rfl) (by kernel_rfl) (by kernel_rfl) (fun _ _ _ h => h) (Or.inl ⟨?_, ?_⟩) hH0 ?_
  rotate_left
  ·kernel_rfl
  ·(intro W' hSw; obtain ⟨s0, s1⟩ := hSw; have f0 := keepc s0 c0; have g0 := keepc s0 d0; have h0 := keepc s0 e0; have f1 := keepc s0 c1; have g1 := keepc s0 d1; have h1 := keepc s0 e1; have f2 := keepc s0 c2; have g2 := keepc s0 d2; have h2 := keepc s0 e2; have f3 := keepc s0 c3; have g3 := keepc s0 d3; have h3 := keepc s0 e3; go_simp; (try with_reducible rfl))
  (try simp only [List.getElem_toArray, List.getElem_cons_succ, List.getElem_cons_zero, Act.put, List.setIfInBounds_toArray, List.set_cons_succ, List.set_cons_zero])
  refine wpAnyH_take (i := 9) (oi := _) (v := ?_) rfl (by kernel_rfl) (by kernel_rfl) (by kernel_rfl) (fun _ _ _ h => h) (Or.inl ⟨?_, ?_⟩) hH0 ?_
  rotate_left
  ·kernel_rfl
  ·(intro W' _; go_simp; (try with_reducible rfl))
  (try simp only [List.getElem_toArray, List.getElem_cons_succ, List.getElem_cons_zero, Act.put, List.setIfInBounds_toArray, List.set_cons_succ, List.set_cons_zero])
  refine wpAnyH_take (i := 10) (oi := _) (v := ?_) rfl (by kernel_rfl) (by kernel_rfl) (by kernel_rfl) (fun _ _ _ h => h) (Or.inl ⟨?_, ?_⟩) hH0 ?_
  rotate_left
  ·kernel_rfl
  ·(intro W' hSw; obtain ⟨s0, s1⟩ := hSw; have f0 := keepc s0 c0; have g0 := keepc s0 d0; have h0 := keepc s0 e0; have f1 := keepc s0 c1; have g1 := keepc s0 d1; have h1 := keepc s0 e1; have f2 := keepc s0 c2; have g2 := keepc s0 d2; have h2 := keepc s0 e2; have f3 := keepc s0 c3; have g3 := keepc s0 d3; have h3 := keepc s0 e3; go_simp; (try with_reducible rfl))
  (try simp only [List.getElem_toArray, List.getElem_cons_succ, List.getElem_cons_zero, Act.put, List.setIfInBounds_toArray, List.set_cons_succ, List.set_cons_zero])
  refine wpAnyH_take (i := 11) (oi := _) (v := ?_) rfl (by kernel_rfl) (by kernel_rfl) (by kernel_rfl) (fun _ _ _ h => h) (Or.inl ⟨?_, ?_⟩) hH0 ?_
  rotate_left
  ·kernel_rfl
  ·(intro W' _; go_simp; (try with_reducible rfl))
  (try simp only [List.getElem_toArray, List.getElem_cons_succ, List.getElem_cons_zero, Act.put, List.setIfInBounds_toArray, List.set_cons_succ, List.set_cons_zero])
  refine wpAnyH_take (i := 12) (oi := _) (v := ?_) rfl (by kernel_rfl) (by kernel_rfl) (by kernel_rfl) (fun _ _ _ h => h) (Or.inl ⟨?_, ?_⟩) hH0 ?_
  rotate_left
  ·kernel_rfl
  ·(intro W' hSw; obtain ⟨s0, s1⟩ := hSw; have f0 := keepc s0 c0; have g0 := keepc s0 d0; have h0 := keepc s0 e0; have f1 := keepc s0 c1; have g1 := keepc s0 d1; have h1 := keepc s0 e1; have f2 := keepc s0 c2; have g2 := keepc s0 d2; have h2 := keepc s0 e2; have f3 := keepc s0 c3; have g3 := keepc s0 d3; have h3 := keepc s0 e3; go_simp; (try with_reducible rfl))
  (try simp only [List.getElem_toArray, List.getElem_cons_succ, List.getElem_cons_zero, Act.put, List.setIfInBounds_toArray, List.set_cons_succ, List.set_cons_zero])
  refine wpAnyH_ready (rs := [13]) (by kernel_rfl) (by simp) ?_
  refine AllReadyH.cons (o := _) rfl (fun K hK => ?_) AllReadyH.nil
  go_simp
  refine (CH.out _ hH0.1 (HC0.out.keep (bdr (bref _)))).mono ?_
  rintro r u1 ⟨rfl, v1, k1, s1, n1⟩
  refine hK.out _ _ ⟨hH0.1.trans (sav_below s1 (HC0.out.keep (bdr (bref _)))), HO0.out.cell s1 hBM (by omega) (by omega) (keepc (bdr (bref _)) x3)⟩ (fun hH1 => ?_)
  clear hK K
  (try simp only [List.getElem_toArray, List.getElem_cons_succ, List.getElem_cons_zero, Act.put, List.setIfInBounds_toArray, List.set_cons_succ, List.set_cons_zero])
  refine wpAnyH_done (by kernel_rfl) ?_ _
  go_end0
  exact ⟨rfl, v1, k1, (Sav.of_below (btr HBW.out (bdr (bref _)))).trans s1 (fun _ _ h => h), n1.from (btr HBW.out (bdr (bref _))).size⟩
 have hem := em_opr vs l.length hcop h19
 have hlen := ems_len vs e.args hk2
 have SN := Lib.hid (fun k (hk : k < e.args.length) => ems_snoc vs (e.args.getD k E0) (e.args.take k) l.length)
 have IH := Lib.hid (fun x (hx : x ∈ e.args) => ih x hx (hk2 x hx))
 have ST := Lib.hid (fun k (hk : k < e.args.length) => sizs_take e.args k hk)
 have SL := Lib.hid (fun k => sizs_take_le e.args k)
 have EL := Lib.hid (fun k => ems_len vs (e.args.take k) (fun x hx => hk2 x (List.mem_of_mem_take hx)) l.length)
 have TG := Lib.hid (fun k (hk : k < e.args.length) => take_g E0 e.args k hk)
 have HE := Lib.hid he
 have HZ := Lib.hid hz
 have HLL := Lib.hid hl
 obtain ⟨o, ho⟩ : ∃ o, e.op = o := ⟨_, rfl⟩
 obtain ⟨n, hn⟩ : ∃ n, e.n = n := ⟨_, rfl⟩
 obtain ⟨X, hX⟩ : ∃ X, str e.s = X := ⟨_, rfl⟩
 obtain ⟨a, ha⟩ : ∃ a, e.args = a := ⟨_, rfl⟩
 obtain ⟨m, hm⟩ : ∃ n, a.length = n := ⟨_, rfl⟩
 have hm5 : m ≤ 1000000 := by have h1 := sizs_len e.args; rw [ha, hm] at h1; rw [ha] at hz; omega
 have HEM : Hid (em vs l.length e = ems vs 0 l.length a ++ [(3, o, 0)]) := Lib.hid (by rw [hem, ho, ha])
 rw [ha] at SN IH ST SL EL TG HE HZ
 rw [ho] at hop
 have e1 : (o == 1) = false := beq_no (by omega)
 have e2 : (o == 2) = false := beq_no (by omega)
 have e3 : (o == 3) = false := beq_no (by omega)
 have e4 : (o == 4) = false := beq_no (by omega)
 have e19 : (o == 19) = false := beq_no (by omega)
 rw [ho, hn, hX, ha, hm]
 have HM := Lib.hid hm
 have HBW := Lib.hid (show Below w.heap.size w (w.alloc (.cells #[.int .i64 o, .int .i64 n, .string X, .slice so m cap] 24)) from bal (bref w) _)
 have HC0 := Lib.hid (HC.out.keep HBW.out)
 have HB0 := Lib.hid (HBb.out.trans (HBW.out.mono HBb.out.size))
 clear hk1 hk2 hop hz hsp hem hn hX hl he ih hk hv hvl hnum hvar hc hb hlen ho ha hm hcop h19
 go_enter Tryz.func31, Tryz.ntmps31
 go_wp2_with fail
 have hBM : w0.heap.size < w.heap.size := hBw
 go_loopw [11] (fun i wr => ∃ (k : Nat) (v' : Value), k ≤ m ∧ i = .int .i64 k ∧ CB w0.heap.size (.slice vo vs.length vc) v' (l ++ ems vs 0 l.length (a.take k)) wr ∧ Sav (XB w0.heap.size v) w wr ∧ New w v v' ∧ Off v' w.heap.size 1 ∧ wr.cell? ⟨w.heap.size, 0, none⟩ = some (.int .i64 o) ∧ w.heap.size + 1 ≤ wr.heap.size) (fun i _ => m - (RowKit.intOf i).toNat)
 case atStart => exact ⟨0, v, by omega, rfl, by rw [List.take_zero, ems_nil, List.append_nil]; exact HC0.out, Sav.of_below HBW.out, New.refl _ _, HO0.out, by simp [go_sem], by simp⟩
 case round =>
  obtain ⟨k, v1, hk, rfl, k1, s1, n1, o1, x0, hs⟩ := hrel
  have K1 := Lib.hid k1
  have S1 := Lib.hid s1
  have N1 := Lib.hid n1
  have O1 := Lib.hid o1
  have HB1 := Lib.hid (HBb.out.trans (sav_below s1 HC.out))
  clear k1 s1 n1 o1
  by_cases hlt : k < m
  ·have hkz : (k : Int) < (m : Int) := by omega
   have g1 : k < a.length := by rw [HM.out]; exact hlt
   obtain ⟨b, off, so2, cap2, rfl, hbl, c0, c1, c2, c3, hE2, _⟩ := (HE.out.at k g1)
   replace c0 := keepc HB1.out c0
   replace c1 := keepc HB1.out c1
   replace c2 := keepc HB1.out c2
   replace c3 := keepc HB1.out c3
   have b1 := SL.out (k + 1)
   have b2 := EL.out k
   have b3 := ST.out k g1
   have C0 := Lib.hid (fun W hW hC => IH.out (a.getD k E0) (getD_mem'' _ _ _ g1) so2 cap2 v1 (l ++ ems vs 0 l.length (a.take k)) W hW hE2 hC (by rw [List.length_append]; have := HZ.out; have := HLL.out; omega))
   rw [List.length_append, List.append_assoc, ← SN.out k g1, ← TG.out k g1] at C0
   obtain ⟨x, hx⟩ : ∃ x, a.getD k E0 = x := ⟨_, rfl⟩
   rw [hx] at c0 c1 c2 c3 C0
   clear hx hE2 b1 b2 b3 g1
   have HN1 := Lib.hid (show Below wr.heap.size wr (wr.alloc (.cells #[.int .i64 x.op, .int .i64 x.n, .string (str x.s), .slice so2 x.args.length cap2] 24)) from bal (bref wr) _)
   have x1 := keepc HN1.out x0
   go_wp2_with fail
   refine (C0.out _ (HB1.out.trans (HN1.out.mono HB1.out.size)) (K1.out.keep HN1.out)).mono ?_
   rintro r u1 ⟨rfl, v2, k2, s2, n2⟩
   have x2 := O1.out.cell s2 hBM (Nat.le_refl _) (by omega) x1
   have hs2 : w.heap.size + 1 ≤ u1.heap.size := Nat.le_trans (Nat.le_trans hs HN1.out.size) s2.size
   have K2 := Lib.hid k2
   have S2 := Lib.hid (sav_comp (S1.out.next HN1.out) N1.out s2)
   have N2 := Lib.hid (N1.out.trans (n2.from HN1.out.size) S1.out.size)
   have O2 := Lib.hid (O1.out.next n2 (Nat.le_trans hs HN1.out.size))
   clear k2 s2 n2 x0 x1 c0 c1 c2 c3
   go_wp2_with fail
   go_roundw
   case rel => exact ⟨k + 1, v2, by omega, by go_num, K2.out, S2.out, N2.out, O2.out, x2, hs2⟩
   case measure => simp [RowKit.intOf]; omega
  ·have he : k = m := by omega
   subst he
   have ht : a.take k = a := by rw [← HM.out, List.take_length]
   rw [ht] at K1
   have b2 := EL.out k
   rw [ht] at b2
   have b4 := SL.out k
   rw [ht] at b4
   have P1 := Lib.hid (PU.out v1 (l ++ ems vs 0 l.length a) 3 o 0 wr K1.out (by rw [List.length_append]; have := HZ.out; have := HLL.out; omega))
   rw [List.append_assoc, ← HEM.out] at P1
   clear ht b2 b4
   go_wp2_with fail
   refine P1.out.mono ?_
   rintro r u1 ⟨rfl, v2, k2, s2, n2⟩
   have K2 := Lib.hid k2
   have S2 := Lib.hid (sav_comp S1.out N1.out s2)
   have N2 := Lib.hid (N1.out.trans n2 S1.out.size)
   clear k2 s2 n2
   go_wp2_with fail
   go_end0
   exact ⟨rfl, v2, K2.out, S2.out, N2.out⟩
end Go.Proofs.YthanoilbcdhbkaaGreatDoor
