/-
  Merged: The document's compiler: index, constant, emit. The document's emit: the instructions of an expression. The document's Compile.
-/
import Derived.Test.YthanoilbcdhbkaaGreatDoorQKW
import Derived.Test.YthanoilbcdhbkaaGreatDoorQZI
namespace Go.Proofs.YthanoilbcdhbkaaGreatDoor
open Go Go.RowKit Go.Lib Go.Shelf WM TM EM YM

set_option maxRecDepth 100000 in
set_option maxHeartbeats 2000000 in
theorem rindex (vs : List Vr) (s : List UInt8) (ao : Option Addr) (cap : Nat) (w : World) (hvl : vs.length ≤ 100000) (hv : VarsAt ao vs w) :
  Calls Tryz.prog 55 #[.slice ao vs.length cap, .string (str s)] w fun r w' => r = .returned (.int .i64 (fixI vs s)) ∧ w = w' := by
 have HV := Lib.hid hv
 obtain ⟨n, hn⟩ : ∃ n, vs.length = n := ⟨_, rfl⟩
 have HN := Lib.hid hn
 obtain ⟨R, hR⟩ : ∃ R, fixI vs s = R := ⟨_, rfl⟩
 have HR := Lib.hid hR
 obtain ⟨S, hS⟩ : ∃ S, str s = S := ⟨_, rfl⟩
 have HSS := Lib.hid hS
 rw [hn, hR, hS]
 rw [hn] at hvl
 clear hv hn hR hS
 go_enter Tryz.func55, Tryz.ntmps55
 go_wp2_with fail
 go_loopw [5] (fun i wr => ∃ (k : Nat), k ≤ n ∧ i = .int .i64 k ∧ (∀ j, j < k → (vs.getD j V0).1 ≠ s) ∧ w = wr) (fun i _ => n - (RowKit.intOf i).toNat)
 case atStart => exact ⟨0, by omega, rfl, fun j hj => absurd hj (Nat.not_lt_zero _), rfl⟩
 case round =>
  obtain ⟨k, hk, rfl, hq, rfl⟩ := hrel
  have HQ := Lib.hid hq
  clear hq
  by_cases hlt : k < n
  ·have hkz : (k : Int) < (n : Int) := by omega
   have g1 : k < vs.length := by rw [HN.out]; exact hlt
   obtain ⟨b, off, rfl, hb, c0, c1⟩ := HV.out k g1
   obtain ⟨x, hx⟩ : ∃ x, vs.getD k V0 = x := ⟨_, rfl⟩
   rw [hx] at c0 c1
   by_cases hxs : x.1 = s
   ·have HRk : Hid (R = k) := Lib.hid (by rw [← HR.out]; exact fix_hit g1 HQ.out (by rw [hx]; exact hxs))
    rw [hxs, HSS.out] at c0
    clear hx hxs
    go_wp2_with fail
    go_ret
    exact ⟨by rw [HRk.out]; rfl, rfl⟩
   ·have HX : Hid (∀ j, j < k + 1 → (vs.getD j V0).1 ≠ s) := Lib.hid (by
     intro j hj
     by_cases e : j = k
     ·subst e; rw [hx]; exact hxs
     ·exact HQ.out j (by omega))
    have hs1 := str_ne hxs
    rw [HSS.out] at hs1
    obtain ⟨X, hX⟩ : ∃ X, str x.1 = X := ⟨_, rfl⟩
    rw [hX] at c0 hs1
    clear hx hxs hX
    go_wp2_with fail
    go_roundw
    case rel => exact ⟨k + 1, by omega, by go_num, HX.out, trivial⟩
    case measure => simp [RowKit.intOf]; omega
  ·have he : k = n := by omega
   subst he
   have HRk : Hid (R = -1) := Lib.hid (by rw [← HR.out]; exact fix_miss (by rw [HN.out]; exact HQ.out))
   go_wp2_with fail
   go_ret
   exact ⟨by rw [HRk.out]; rfl, rfl⟩
def cstO (o : Int) : Int := if o = 1 then 1 else if o = 2 then 2 else if o = 3 then 3 else 0
set_option maxRecDepth 100000 in
theorem rconstant (o : Int) (w : World) :
  Calls Tryz.prog 54 #[.int .i64 o] w fun r w' => r = .returned (.int .i64 (cstO o)) ∧ w = w' := by
 by_cases h1 : o = 1
 ·subst h1
  go_enter Tryz.func54, Tryz.ntmps54
  go_wp2_with fail
  go_ret
  exact ⟨rfl, rfl⟩
 by_cases h2 : o = 2
 ·subst h2
  go_enter Tryz.func54, Tryz.ntmps54
  go_wp2_with fail
  go_ret
  exact ⟨rfl, rfl⟩
 by_cases h3 : o = 3
 ·subst h3
  go_enter Tryz.func54, Tryz.ntmps54
  go_wp2_with fail
  go_ret
  exact ⟨rfl, rfl⟩
 have hc : cstO o = 0 := by unfold cstO; rw [if_neg h1, if_neg h2, if_neg h3]
 rw [hc]
 clear hc
 go_enter Tryz.func54, Tryz.ntmps54
 go_wp2_with fail
 go_ret
 exact ⟨rfl, rfl⟩

theorem rcst (o t : Int) (h : cstO o = t) (w : World) : Calls Tryz.prog 54 #[.int .i64 o] w fun r w' => r = .returned (.int .i64 t) ∧ w = w' := h ▸ rconstant o w

/-! ### A list that a call owns, handed on -/
def OB (v : Value) (k : Nat) : Prop := v.ownBlock = some k
theorem sav_lower {b : Nat} {v : Value} {l : List Ins} {w w' : World} (h : Sav (OB v) w w') (ho : OI b v l w) (hb : b ≤ w.heap.size) : Below b w w' := h.below (fun _ e => (ho.lt e).1) hb
theorem sav_on {v v' : Value} {a b c : World} (h : Sav (OB v) a b) (hn : New a v v') (k : Sav (OB v') b c) : Sav (OB v) a c := h.trans k (fun _ hn' e => hn.old hn' e)
theorem Off.keepd {v : Value} {M n : Nat} {w w' : World} (h : Off v M n) (s : Sav (OB v) w w') {k j : Nat} {x : Value} (hk : M ≤ k) (hk2 : k < M + n) (c : w.cell? ⟨k, j, none⟩ = some x) : w'.cell? ⟨k, j, none⟩ = some x := s.cell c (h k hk hk2)
theorem app_ins_run {w : World} (base : Nat) (v : Value) (l : List Ins) (hown : OI base v l w) (g : Nat) (y : Ins)
  (c0 : w.cell? ⟨g, 0, none⟩ = some (.int .i64 y.1)) (c1 : w.cell? ⟨g, 1, none⟩ = some (.int .i64 y.2.1)) (c2 : w.cell? ⟨g, 2, none⟩ = some (.int .i64 y.2.2)) (hl : l.length + 1 ≤ 10000000) (hbase : base ≤ w.heap.size) :
  ∃ v' w', (Builtin.append_ #[28, 28] 28 #[v, .slice (some ⟨g, 0, none⟩) 1 1]).run Tryz.prog w = .ok v' w' ∧ OI base v' (l ++ [y]) w' ∧ Sav (OB v) w w' ∧ New w v v' := by
 obtain ⟨i, hi, hz, hz1, hz2⟩ := info_parts infoIns
 obtain ⟨v', w', hrun, r1, r2, _, r4⟩ := run_append_own_at (P := Tryz.prog) w base 28 28 47 i _ 3 24 Tryz.underlying28 hi hz hz1 hz2 rfl (by decide) v l.length (icells l) hown ⟨g, 0, none⟩ 1 1 (icells [y]) rfl (by
  intro j u hj
  match j, hj with
  | 0, hj => simp [icells, icell] at hj; subst hj; simpa [Addr.add] using c0
  | 1, hj => simp [icells, icell] at hj; subst hj; simpa [Addr.add] using c1
  | 2, hj => simp [icells, icell] at hj; subst hj; simpa [Addr.add] using c2) (icells_mem [y]) (by unfold maxLen; omega) (by omega) hbase
 refine ⟨v', w', hrun, ?_, Sav.grown r2, ?_⟩
 ·unfold OI
  rw [icells_app, List.length_append]
  exact r1
 ·rcases r4 with h4 | h4
  ·exact Or.inl h4
  ·exact Or.inr ⟨_, h4, Nat.le_refl _⟩
theorem OI.a {b g n c : Nat} {l : List Ins} {u : World} (ho : OI b (.slice (some ⟨g, 0, none⟩) n c) l u) (q : Nat) (hq : q < l.length) :
  u.cell? ⟨g, q * 3 + 1, none⟩ = some (.int .i64 (l.getD q I0).2.1) ∧ u.frozen? ⟨g, q * 3 + 1, none⟩ = false := by
 rcases ho.2 with ⟨h1, _⟩ | ⟨g', cap, cur, hv, hb, hg, hnc, hm, hcs, htake⟩
 ·cases h1
 ·cases hv
  refine ⟨?_, ?_⟩
  ·obtain ⟨_, t2, _⟩ := icells_at l q hq
   rw [cell_of_row _ _ (q * 3 + 1) cur _ (0, 0) hg, ← Array.getElem?_toList, ← t2, ← htake, List.getElem?_take, if_pos (by omega)]
  ·unfold World.frozen?
   rw [hg]
   rfl
theorem OI.patch {b g n c : Nat} {l : List Ins} {u : World} (ho : OI b (.slice (some ⟨g, 0, none⟩) n c) l u) (q : Nat) (hq : q < l.length) (a : Int) :
  OI b (.slice (some ⟨g, 0, none⟩) n c) (l.set q (setA (l.getD q I0) a)) (u.setCell ⟨g, q * 3 + 1, none⟩ (.int .i64 a)) ∧ Sav (OB (.slice (some ⟨g, 0, none⟩) n c)) u (u.setCell ⟨g, q * 3 + 1, none⟩ (.int .i64 a)) :=
 ⟨ho.set q hq a, (Sav.refl (OB (.slice (some ⟨g, 0, none⟩) n c)) u).trans (Sav.setCell u ⟨g, q * 3 + 1, none⟩ _) (fun k _ e => by have e' : k = g := e; rw [e']; rfl)⟩
def RX (vs : List Vr) (vo : Option Addr) (vc : Nat) (w0 : World) (e : Ex) : Prop := ∀ (so : Option Addr) (cap : Nat) (v : Value) (l : List Ins) (w : World), Below w0.heap.size w0 w → ExprsAt so e.args w0 → OI w0.heap.size v l w → l.length + 2 * siz e ≤ 1000000 →
 Calls Tryz.prog 33 #[v, .agg #[.int .i64 e.op, .int .i64 e.n, .string (str e.s), .slice so e.args.length cap], .slice vo vs.length vc] w fun r w' => ∃ v', r = .returned v' ∧ OI w0.heap.size v' (l ++ em vs l.length e) w' ∧ Sav (OB v) w w' ∧ New w v v'
end Go.Proofs.YthanoilbcdhbkaaGreatDoor

namespace Go.Proofs.YthanoilbcdhbkaaGreatDoor
open Go Go.RowKit Go.Lib Go.Shelf WM TM EM YM

set_option maxRecDepth 100000 in
set_option maxHeartbeats 8000000 in
theorem remit (vs : List Vr) (vo : Option Addr) (vc : Nat) (w0 : World) (hvl : vs.length ≤ 100000) (hv : VarsAt vo vs w0) : ∀ e : Ex, (EM.pre e).all okN = true → RX vs vo vc w0 e := by
 refine ex_ind _ fun e ih hk => ?_
 intro so cap v l w hb he ho hl
 obtain ⟨hk1, hk2⟩ := ok_parts hk
 have hop := ok_op hk1
 have hz := siz_eq e
 have hsp := siz_pos e
 have HO := Lib.hid ho
 have HBb := Lib.hid hb
 have HLL : Hid (l.length + 1 ≤ 10000000) := Lib.hid (by omega)
 by_cases hnum : e.op = 1 ∨ e.op = 2 ∨ e.op = 3
 ·have hem := em_num vs l.length hnum
  obtain ⟨L, hL⟩ : ∃ L, l ++ em vs l.length e = L := ⟨_, rfl⟩
  have HL : Hid (l ++ [((1, e.op, e.n) : Ins)] = L) := Lib.hid (by rw [← hL, hem])
  obtain ⟨o, ho'⟩ : ∃ o, e.op = o := ⟨_, rfl⟩
  obtain ⟨n, hn⟩ : ∃ n, e.n = n := ⟨_, rfl⟩
  obtain ⟨X, hX⟩ : ∃ X, str e.s = X := ⟨_, rfl⟩
  obtain ⟨m, hm⟩ : ∃ n, e.args.length = n := ⟨_, rfl⟩
  rw [ho', hn] at HL
  rw [ho', hn, hX, hm, hL]
  rw [ho'] at hnum
  clear hk1 hk2 hop hz hsp hem ho' hn hX hm hL hl he ih hk hv hvl hb ho
  rcases hnum with rfl | rfl | rfl
  ·have HB1 := Lib.hid (show Below w.heap.size w (w.alloc (.cells #[.int .i64 1, .int .i64 n, .string X, .slice so m cap] 24)) from bal (bref w) _)
   have HB2 := Lib.hid (show Below w.heap.size w ((w.alloc (.cells #[.int .i64 1, .int .i64 n, .string X, .slice so m cap] 24)).alloc (.cells #[.int .i64 1, .int .i64 1, .int .i64 n] 47)) from bal HB1.out _)
   have HO2 := Lib.hid (HO.out.keep HB2.out)
   have HZ2 := Lib.hid (show w0.heap.size ≤ ((w.alloc (.cells #[.int .i64 1, .int .i64 n, .string X, .slice so m cap] 24)).alloc (.cells #[.int .i64 1, .int .i64 1, .int .i64 n] 47)).heap.size from Nat.le_trans HBb.out.size HB2.out.size)
   go_enter Tryz.func33, Tryz.ntmps33
   go_wp2_with (first | (go_at_call 54; refine (rcst 1 1 (by decide) _).mono ?_; rintro r w1 ⟨rfl, rfl⟩) | (at_builtin; refine wpList_app_ins rfl (.tmp 16) (.tmp 21) rfl w0.heap.size v l rfl HO2.out (w.heap.size + 1) (1, 1, n) rfl (by simp [go_sem]) (by simp [go_sem]) (by simp [go_sem]) HLL.out HZ2.out ?_; intro v1 w1 o1 s1 n1; have K1 := Lib.hid o1; have S1 := Lib.hid s1; have N1 := Lib.hid n1; clear o1 s1 n1))
   go_ret
   exact ⟨v1, rfl, by rw [← HL.out]; exact K1.out, (Sav.of_below HB2.out).trans S1.out (fun _ _ h => h), N1.out.from HB2.out.size⟩
  ·have HB1 := Lib.hid (show Below w.heap.size w (w.alloc (.cells #[.int .i64 2, .int .i64 n, .string X, .slice so m cap] 24)) from bal (bref w) _)
   have HB2 := Lib.hid (show Below w.heap.size w ((w.alloc (.cells #[.int .i64 2, .int .i64 n, .string X, .slice so m cap] 24)).alloc (.cells #[.int .i64 1, .int .i64 2, .int .i64 n] 47)) from bal HB1.out _)
   have HO2 := Lib.hid (HO.out.keep HB2.out)
   have HZ2 := Lib.hid (show w0.heap.size ≤ ((w.alloc (.cells #[.int .i64 2, .int .i64 n, .string X, .slice so m cap] 24)).alloc (.cells #[.int .i64 1, .int .i64 2, .int .i64 n] 47)).heap.size from Nat.le_trans HBb.out.size HB2.out.size)
   go_enter Tryz.func33, Tryz.ntmps33
   go_wp2_with (first | (go_at_call 54; refine (rcst 2 2 (by decide) _).mono ?_; rintro r w1 ⟨rfl, rfl⟩) | (at_builtin; refine wpList_app_ins rfl (.tmp 16) (.tmp 21) rfl w0.heap.size v l rfl HO2.out (w.heap.size + 1) (1, 2, n) rfl (by simp [go_sem]) (by simp [go_sem]) (by simp [go_sem]) HLL.out HZ2.out ?_; intro v1 w1 o1 s1 n1; have K1 := Lib.hid o1; have S1 := Lib.hid s1; have N1 := Lib.hid n1; clear o1 s1 n1))
   go_ret
   exact ⟨v1, rfl, by rw [← HL.out]; exact K1.out, (Sav.of_below HB2.out).trans S1.out (fun _ _ h => h), N1.out.from HB2.out.size⟩
  ·have HB1 := Lib.hid (show Below w.heap.size w (w.alloc (.cells #[.int .i64 3, .int .i64 n, .string X, .slice so m cap] 24)) from bal (bref w) _)
   have HB2 := Lib.hid (show Below w.heap.size w ((w.alloc (.cells #[.int .i64 3, .int .i64 n, .string X, .slice so m cap] 24)).alloc (.cells #[.int .i64 1, .int .i64 3, .int .i64 n] 47)) from bal HB1.out _)
   have HO2 := Lib.hid (HO.out.keep HB2.out)
   have HZ2 := Lib.hid (show w0.heap.size ≤ ((w.alloc (.cells #[.int .i64 3, .int .i64 n, .string X, .slice so m cap] 24)).alloc (.cells #[.int .i64 1, .int .i64 3, .int .i64 n] 47)).heap.size from Nat.le_trans HBb.out.size HB2.out.size)
   go_enter Tryz.func33, Tryz.ntmps33
   go_wp2_with (first | (go_at_call 54; refine (rcst 3 3 (by decide) _).mono ?_; rintro r w1 ⟨rfl, rfl⟩) | (at_builtin; refine wpList_app_ins rfl (.tmp 16) (.tmp 21) rfl w0.heap.size v l rfl HO2.out (w.heap.size + 1) (1, 3, n) rfl (by simp [go_sem]) (by simp [go_sem]) (by simp [go_sem]) HLL.out HZ2.out ?_; intro v1 w1 o1 s1 n1; have K1 := Lib.hid o1; have S1 := Lib.hid s1; have N1 := Lib.hid n1; clear o1 s1 n1))
   go_ret
   exact ⟨v1, rfl, by rw [← HL.out]; exact K1.out, (Sav.of_below HB2.out).trans S1.out (fun _ _ h => h), N1.out.from HB2.out.size⟩
 by_cases hvar : e.op = 4
 ·have hem := em_var vs l.length hvar
  obtain ⟨L, hL⟩ : ∃ L, l ++ em vs l.length e = L := ⟨_, rfl⟩
  have HL : Hid (l ++ [((2, ix vs e.s, 0) : Ins)] = L) := Lib.hid (by rw [← hL, hem])
  have IX := Lib.hid (fun W (hW : Below w0.heap.size w0 W) => rindex vs e.s vo vc W hvl (hv.keep hW))
  simp only [← ix_fix] at IX
  obtain ⟨n, hn⟩ : ∃ n, e.n = n := ⟨_, rfl⟩
  obtain ⟨q, hq⟩ : ∃ n, ix vs e.s = n := ⟨_, rfl⟩
  obtain ⟨X, hX⟩ : ∃ X, str e.s = X := ⟨_, rfl⟩
  obtain ⟨m, hm⟩ : ∃ n, e.args.length = n := ⟨_, rfl⟩
  obtain ⟨vn, hvn⟩ : ∃ n, vs.length = n := ⟨_, rfl⟩
  rw [hq] at HL
  simp only [hq, hX, hvn] at IX
  rw [hvar, hn, hX, hm, hL, hvn]
  have HB1 := Lib.hid (show Below w.heap.size w (w.alloc (.cells #[.int .i64 4, .int .i64 n, .string X, .slice so m cap] 24)) from bal (bref w) _)
  have HB2 := Lib.hid (show Below w.heap.size w ((w.alloc (.cells #[.int .i64 4, .int .i64 n, .string X, .slice so m cap] 24)).alloc (.cells #[.int .i64 2, .int .i64 q, .int .i64 0] 47)) from bal HB1.out _)
  have HO2 := Lib.hid (HO.out.keep HB2.out)
  have HZ2 := Lib.hid (show w0.heap.size ≤ ((w.alloc (.cells #[.int .i64 4, .int .i64 n, .string X, .slice so m cap] 24)).alloc (.cells #[.int .i64 2, .int .i64 q, .int .i64 0] 47)).heap.size from Nat.le_trans HBb.out.size HB2.out.size)
  clear hk1 hk2 hop hz hsp hem hn hX hm hL hl he ih hk hv hvl hb ho hnum hvar hq hvn
  go_enter Tryz.func33, Tryz.ntmps33
  go_wp2_with (first | (go_at_call 54; refine (rcst 4 0 (by decide) _).mono ?_; rintro r w1 ⟨rfl, rfl⟩) | (go_at_call 55; refine (IX.out _ (HBb.out.trans (HB1.out.mono HBb.out.size))).mono ?_; rintro r w1 ⟨rfl, rfl⟩) | (at_builtin; refine wpList_app_ins rfl (.tmp 26) (.tmp 32) rfl w0.heap.size v l rfl HO2.out (w.heap.size + 1) (2, q, 0) rfl (by simp [go_sem]) (by simp [go_sem]) (by simp [go_sem]) HLL.out HZ2.out ?_; intro v1 w1 o1 s1 n1; have K1 := Lib.hid o1; have S1 := Lib.hid s1; have N1 := Lib.hid n1; clear o1 s1 n1))
  go_ret
  exact ⟨v1, rfl, by rw [← HL.out]; exact K1.out, (Sav.of_below HB2.out).trans S1.out (fun _ _ h => h), N1.out.from HB2.out.size⟩
 have hcop : ¬ (1 ≤ e.op ∧ e.op ≤ 4) := by omega
 by_cases h19 : e.op = 19
 ·obtain ⟨x, y, z, ha⟩ := ok_three hk1 h19
  have hem := em_cond vs l.length h19 ha
  have mx : x ∈ e.args := by simp [ha]
  have my : y ∈ e.args := by simp [ha]
  have mz : z ∈ e.args := by simp [ha]
  rw [ha, sizs_cons, sizs_cons, sizs_cons, sizs_nil] at hz
  obtain ⟨b, off, sx, cx, rfl, hbl, c0, c1, c2, c3, hX1, _⟩ := he.at 0 (by simp [ha])
  obtain ⟨b', off', sy, cy, eq, _, d0, d1, d2, d3, hY1, _⟩ := he.at 1 (by simp [ha])
  cases eq
  obtain ⟨b', off', sz, cz, eq, _, e0, e1, e2, e3, hZ1, _⟩ := he.at 2 (by simp [ha])
  cases eq
  simp only [ha, List.getD_cons_zero, List.getD_cons_succ, Nat.zero_mul, Nat.add_zero, Nat.one_mul] at c0 c1 c2 c3 d0 d1 d2 d3 e0 e1 e2 e3 hX1 hY1 hZ1
  obtain ⟨L1, h1⟩ : ∃ L1, L1 = l ++ em vs l.length x := ⟨_, rfl⟩
  obtain ⟨L2, h2⟩ : ∃ L2, L2 = L1 ++ [((5, 0, 0) : Ins)] := ⟨_, rfl⟩
  obtain ⟨L3, h3⟩ : ∃ L3, L3 = L2 ++ em vs L2.length y := ⟨_, rfl⟩
  obtain ⟨L4, h4⟩ : ∃ L4, L4 = L3 ++ [((4, 0, 0) : Ins)] := ⟨_, rfl⟩
  obtain ⟨L5, h5⟩ : ∃ L5, L5 = L4.set L1.length (setA (L4.getD L1.length I0) L4.length) := ⟨_, rfl⟩
  obtain ⟨L6, h6⟩ : ∃ L6, L6 = L5 ++ em vs L5.length z := ⟨_, rfl⟩
  have h7 := choice_code vs x y z l L1 L2 L3 L4 L5 L6 h1 h2 h3 h4 h5 h6
  have q1 := (em_len vs x (hk2 x mx) l.length).2
  have q2 := (em_len vs y (hk2 y my) L2.length).2
  have q3 := (em_len vs z (hk2 z mz) L5.length).2
  have f1 : L1.length = l.length + (em vs l.length x).length := by rw [h1, List.length_append]
  have f2 : L2.length = L1.length + 1 := by rw [h2, List.length_append]; rfl
  have f3 : L3.length = L2.length + (em vs L2.length y).length := by rw [h3, List.length_append]
  have f4 : L4.length = L3.length + 1 := by rw [h4, List.length_append]; rfl
  have f5 : L5.length = L4.length := by rw [h5, List.length_set]
  have f6 : L6.length = L5.length + (em vs L5.length z).length := by rw [h6, List.length_append]
  have z1 : L1.length + 1 ≤ 10000000 := by omega
  have z3 : L3.length + 1 ≤ 10000000 := by omega
  have IA := Lib.hid (fun W hW hC => ih x mx (hk2 x mx) sx cx v l W hW hX1 hC (by omega))
  have IB := Lib.hid (fun v2 W hW hC => ih y my (hk2 y my) sy cy v2 L2 W hW hY1 hC (by omega))
  have IC := Lib.hid (fun v5 W hW hC => ih z mz (hk2 z mz) sz cz v5 L5 W hW hZ1 hC (by omega))
  rw [← h1] at IA
  rw [← h3] at IB
  rw [← h6] at IC
  have A1 := Lib.hid (fun v1 W (hC : OI w0.heap.size v1 L1 W) g c0 c1 c2 hbase => app_ins_run w0.heap.size v1 L1 hC g (5, 0, 0) c0 c1 c2 z1 hbase)
  rw [← h2] at A1
  obtain ⟨p1, hp1⟩ : ∃ n, L1.length = n := ⟨_, rfl⟩
  obtain ⟨p3, hp3⟩ : ∃ n, L3.length = n := ⟨_, rfl⟩
  obtain ⟨p4, hp4⟩ : ∃ n, L4.length = n := ⟨_, rfl⟩
  obtain ⟨p6, hp6⟩ : ∃ n, L6.length = n := ⟨_, rfl⟩
  have i1 : p1 < L4.length := by omega
  have i3 : p3 < L6.length := by omega
  have y1 : (p1 : Int) < (p4 : Int) := by omega
  have y3 : (p3 : Int) < (p6 : Int) := by omega
  have HF1 := Lib.hid (show L1.length = p1 from hp1)
  have HF3 := Lib.hid (show L3.length = p3 from hp3)
  have H4 := Lib.hid h4
  have H5 := Lib.hid h5
  rw [hp1, hp4] at H5
  have H7 := Lib.hid h7
  rw [hp3, hp6, ← hem] at H7
  have HP4 := Lib.hid hp4
  have HP6 := Lib.hid hp6
  have I1 := Lib.hid i1
  have I3 := Lib.hid i3
  have J1 := Lib.hid (show 0 < L1.length by have := (em_len vs x (hk2 x mx) l.length).1; have := siz_pos x; omega)
  have J3 := Lib.hid (show 0 < L3.length by omega)
  have J4 := Lib.hid (show 0 < L4.length by omega)
  have J6 := Lib.hid (show 0 < L6.length by omega)
  have Z3 := Lib.hid z3
  have ha3 : e.args.length = 3 := by rw [ha]; rfl
  obtain ⟨n, hn⟩ : ∃ n, e.n = n := ⟨_, rfl⟩
  obtain ⟨X, hX⟩ : ∃ X, str e.s = X := ⟨_, rfl⟩
  obtain ⟨L, hL⟩ : ∃ L, l ++ em vs l.length e = L := ⟨_, rfl⟩
  rw [hL] at H7
  rw [h19, hn, hX, ha3, hL]
  obtain ⟨vn, hvn⟩ : ∃ n, vs.length = n := ⟨_, rfl⟩
  rw [hvn] at IA IB IC ⊢
  obtain ⟨xo, hxo⟩ : ∃ q, x.op = q := ⟨_, rfl⟩
  obtain ⟨xn, hxn⟩ : ∃ q, x.n = q := ⟨_, rfl⟩
  obtain ⟨xs, hxs⟩ : ∃ q, str x.s = q := ⟨_, rfl⟩
  obtain ⟨xl, hxl⟩ : ∃ q, x.args.length = q := ⟨_, rfl⟩
  obtain ⟨yo, hyo⟩ : ∃ q, y.op = q := ⟨_, rfl⟩
  obtain ⟨yn, hyn⟩ : ∃ q, y.n = q := ⟨_, rfl⟩
  obtain ⟨ys, hys⟩ : ∃ q, str y.s = q := ⟨_, rfl⟩
  obtain ⟨yl, hyl⟩ : ∃ q, y.args.length = q := ⟨_, rfl⟩
  obtain ⟨zo, hzo⟩ : ∃ q, z.op = q := ⟨_, rfl⟩
  obtain ⟨zn, hzn⟩ : ∃ q, z.n = q := ⟨_, rfl⟩
  obtain ⟨zs, hzs⟩ : ∃ q, str z.s = q := ⟨_, rfl⟩
  obtain ⟨zl, hzl⟩ : ∃ q, z.args.length = q := ⟨_, rfl⟩
  rw [hxo, hxn, hxs, hxl] at IA
  rw [hyo, hyn, hys, hyl] at IB
  rw [hzo, hzn, hzs, hzl] at IC
  rw [hxo] at c0
  rw [hxn] at c1
  rw [hxs] at c2
  rw [hxl] at c3
  rw [hyo] at d0
  rw [hyn] at d1
  rw [hys] at d2
  rw [hyl] at d3
  rw [hzo] at e0
  rw [hzn] at e1
  rw [hzs] at e2
  rw [hzl] at e3
  have HE0 := Lib.hid (And.intro e0 (And.intro e1 (And.intro e2 e3)))
  have HD0 := Lib.hid (And.intro d0 (And.intro d1 (And.intro d2 d3)))
  have HO0 := Lib.hid (Off.new ho 1)
  have HBW := Lib.hid (show Below w.heap.size w (w.alloc (.cells #[.int .i64 19, .int .i64 n, .string X, .slice (some ⟨b, off, none⟩) 3 cap] 24)) from bal (bref w) _)
  have HC0 := Lib.hid (ho.keep HBW.out)
  have HB0 := Lib.hid (hb.trans (HBW.out.mono hb.size))
  replace c0 := keepc HB0.out c0
  replace c1 := keepc HB0.out c1
  replace c2 := keepc HB0.out c2
  replace c3 := keepc HB0.out c3
  have hwz : w0.heap.size ≤ w.heap.size := hb.size
  clear hk1 hk2 hop hz hsp hem hn hX hL hl he ih hk hv hvl hnum hvar hb ho mx my mz hX1 hY1 hZ1 hxo hxn hxs hxl hyo hyn hys hyl hzo hzn hzs hzl ha ha3 hcop h19 h1 h2 h3 h4 h5 h6 h7 q1 q2 q3 f1 f2 f3 f4 f5 f6 z1 z3 hp1 hp3 hp4 hp6 i1 i3 hvn d0 d1 d2 d3 e0 e1 e2 e3
  go_enter Tryz.func33, Tryz.ntmps33
  go_wp2_with (go_at_call 54; refine (rcst 19 0 (by decide) _).mono ?_; rintro r w1 ⟨rfl, rfl⟩)
  obtain ⟨M, hM⟩ : ∃ M, w.heap.size = M := ⟨_, rfl⟩
  obtain ⟨W1, hW1⟩ : ∃ W1, (w.alloc (.cells #[.int .i64 19, .int .i64 n, .string X, .slice (some ⟨b, off, none⟩) 3 cap] 24)) = W1 := ⟨_, rfl⟩
  have hBM : w0.heap.size ≤ M := by omega
  have hs1 : M + 1 ≤ W1.heap.size := by rw [← hW1, ← hM]; simp
  have x3 : W1.cell? ⟨M, 3, none⟩ = some (.slice (some ⟨b, off, none⟩) 3 cap) := by rw [← hW1, ← hM]; simp [go_sem]
  rw [hW1] at HBW HC0 HB0
  rw [hM] at HO0
  simp only [hW1, hM]
  clear hW1
  refine (IA.out _ HB0.out HC0.out).mono ?_
  rintro r u1 ⟨v1, rfl, k1, s1, n1⟩
  replace x3 := HO0.out.keepd s1 (Nat.le_refl _) (by omega) x3
  have hs2 : M + 1 ≤ u1.heap.size := Nat.le_trans hs1 s1.size
  have O1 := Lib.hid (HO0.out.next n1 hs1)
  have hb1 := HB0.out.trans (sav_lower s1 HC0.out HB0.out.size)
  have HB1 := Lib.hid hb1
  have hwu : w0.heap.size ≤ u1.heap.size := hb1.size
  have S1 := Lib.hid ((Sav.of_below HBW.out).trans s1 (fun _ _ h => h))
  have N1 := Lib.hid (n1.from HBW.out.size)
  obtain ⟨g1, cp1, rfl, _, _⟩ := k1.pos J1.out
  rw [HF1.out] at k1 N1 O1 ⊢
  have K1 := Lib.hid k1
  clear s1 n1 k1 hb1 c0 c1 c2 c3
  go_wp2_with fail
  refine wp_region_held_drew (S := (fun W => Below w0.heap.size w0 W ∧ W.cell? ⟨M, 3, none⟩ = some (.slice (some ⟨b, off, none⟩) 3 cap))) (by kernel_rfl) ⟨HB1.out.trans ((bdr (bref _)).mono HB1.out.size), keepc (bdr (bref _)) x3⟩ (fun hH0 => ?_)
  refine wpAnyH_take (i := 0) (oi := _) (v := ?_) rfl (by kernel_rfl) (by kernel_rfl) (by kernel_rfl) (fun _ _ _ h => h) (Or.inl ⟨?_, ?_⟩) hH0 ?_
  rotate_left
  ·kernel_rfl
  ·(intro W' _; go_simp; (try with_reducible rfl))
  (try simp only [List.getElem_toArray, List.getElem_cons_zero, Act.put, List.setIfInBounds_toArray, List.set_cons_succ, List.set_cons_zero])
  refine wpAnyH_take (i := 1) (oi := _) (v := ?_) rfl (by kernel_rfl) (by kernel_rfl) (by kernel_rfl) (fun _ _ _ h => h) (Or.inl ⟨?_, ?_⟩) hH0 ?_
  rotate_left
  ·kernel_rfl
  ·(intro W' _; go_simp; (try with_reducible rfl))
  (try simp only [List.getElem_toArray, List.getElem_cons_succ, List.getElem_cons_zero, Act.put, List.setIfInBounds_toArray, List.set_cons_succ, List.set_cons_zero])
  refine wpAnyH_take (i := 4) (oi := _) (v := ?_) rfl (by kernel_rfl) (by kernel_rfl) (by kernel_rfl) (fun _ _ _ h => h) (Or.inl ⟨?_, ?_⟩) hH0 ?_
  rotate_left
  ·kernel_rfl
  ·(intro W' _; go_simp; (try with_reducible rfl))
  (try simp only [List.getElem_toArray, List.getElem_cons_succ, List.getElem_cons_zero, Act.put, List.setIfInBounds_toArray, List.set_cons_succ, List.set_cons_zero])
  refine wpAnyH_take (i := 5) (oi := _) (v := ?_) rfl (by kernel_rfl) (by kernel_rfl) (by kernel_rfl) (fun _ _ _ h => h) (Or.inl ⟨?_, ?_⟩) hH0 ?_
  rotate_left
  ·kernel_rfl
  ·(intro W' hSw; obtain ⟨s0, s1⟩ := hSw; have g0 := keepc s0 HD0.out.1; have g1 := keepc s0 HD0.out.2.1; have g2 := keepc s0 HD0.out.2.2.1; have g3 := keepc s0 HD0.out.2.2.2; go_simp; (try with_reducible rfl))
  (try simp only [List.getElem_toArray, List.getElem_cons_succ, List.getElem_cons_zero, Act.put, List.setIfInBounds_toArray, List.set_cons_succ, List.set_cons_zero])
  refine wpAnyH_take (i := 6) (oi := _) (v := ?_) rfl (by kernel_rfl) (by kernel_rfl) (by kernel_rfl) (fun _ _ _ h => h) (Or.inl ⟨?_, ?_⟩) hH0 ?_
  rotate_left
  ·kernel_rfl
  ·(intro W' _; go_simp; (try with_reducible rfl))
  (try simp only [List.getElem_toArray, List.getElem_cons_succ, List.getElem_cons_zero, Act.put, List.setIfInBounds_toArray, List.set_cons_succ, List.set_cons_zero])
  refine wpAnyH_take (i := 7) (oi := _) (v := ?_) rfl (by kernel_rfl) (by kernel_rfl) (by kernel_rfl) (fun _ _ _ h => h) (Or.inl ⟨?_, ?_⟩) hH0 ?_
  rotate_left
  ·kernel_rfl
  ·(intro W' hSw; obtain ⟨s0, s1⟩ := hSw; have g0 := keepc s0 HD0.out.1; have g1 := keepc s0 HD0.out.2.1; have g2 := keepc s0 HD0.out.2.2.1; have g3 := keepc s0 HD0.out.2.2.2; go_simp; (try with_reducible rfl))
  (try simp only [List.getElem_toArray, List.getElem_cons_succ, List.getElem_cons_zero, Act.put, List.setIfInBounds_toArray, List.set_cons_succ, List.set_cons_zero])
  refine wpAnyH_take (i := 8) (oi := _) (v := ?_) rfl (by kernel_rfl) (by kernel_rfl) (by kernel_rfl) (fun _ _ _ h => h) (Or.inl ⟨?_, ?_⟩) hH0 ?_
  rotate_left
  ·kernel_rfl
  ·(intro W' _; go_simp; (try with_reducible rfl))
  (try simp only [List.getElem_toArray, List.getElem_cons_succ, List.getElem_cons_zero, Act.put, List.setIfInBounds_toArray, List.set_cons_succ, List.set_cons_zero])
  obtain ⟨v2, w2, hr, k2, s2, n2⟩ := A1.out _ ((u1.alloc (.cells #[.int .i64 5, .int .i64 0, .int .i64 0] 47)).drew) (K1.out.keep (bdr (bal (bref _) _))) u1.heap.size (by simp [go_sem]) (by simp [go_sem]) (by simp [go_sem]) (by simp; omega)
  have HRUN := Lib.hid hr
  refine wpAnyH_ready (rs := [2]) (by kernel_rfl) (by simp) ?_
  refine AllReadyH.cons (o := _) rfl (fun K hK => ?_) AllReadyH.nil
  go_simp
  refine hK.out _ _ ⟨hH0.1.trans ((bal (bref _) _).mono hH0.1.size), keepc (bal (bref _) _) hH0.2⟩ (fun hH1 => ?_)
  clear hK K
  (try simp only [List.getElem_toArray, List.getElem_cons_succ, List.getElem_cons_zero, Act.put, List.setIfInBounds_toArray, List.set_cons_succ, List.set_cons_zero])
  refine wpAnyH_ready (rs := [3]) (by kernel_rfl) (by simp) ?_
  refine AllReadyH.cons (o := _) rfl (fun K hK => ?_) AllReadyH.nil
  rw [if_pos (by kernel_rfl)]
  unfold Oper.wp execOp
  simp only [List.getElem_toArray, List.getElem_cons_succ, List.getElem_cons_zero, resolve, invoke, builtin, Sem.run_bind, Sem.run_pure, Result.andThen_ok, List.map_toArray, List.map_cons, List.map_nil, Act.eval, Array.getD_eq_getD_getElem?, List.getElem?_toArray, List.getElem?_cons_succ, List.getElem?_cons_zero, Option.getD_some]
  rw [HRUN.out]
  have hb2 := hH1.1.trans (sav_lower s2 (K1.out.keep (bdr (bal (bref _) _))) hH1.1.size)
  have hs3 : M + 1 ≤ w2.heap.size := Nat.le_trans hs2 (Nat.le_trans (by simp) s2.size)
  have x4 := O1.out.keepd s2 (Nat.le_refl _) (by omega) hH1.2
  refine hK.out _ _ ⟨hb2, x4⟩ (fun hH2 => ?_)
  clear hK K
  (try simp only [Act.put, List.setIfInBounds_toArray, List.set_cons_succ, List.set_cons_zero])
  have O2 := Lib.hid (O1.out.next n2 (Nat.le_trans hs2 (by simp)))
  have S2 := Lib.hid (sav_on (S1.out.next (bdr (bal (bref _) _))) N1.out s2)
  have N2 := Lib.hid (N1.out.trans (n2.from (by simp)) S1.out.size)
  have K2 := Lib.hid k2
  clear s2 n2 k2
  refine wpAnyH_ready (rs := [9]) (by kernel_rfl) (by simp) ?_
  refine AllReadyH.cons (o := _) rfl (fun K hK => ?_) AllReadyH.nil
  go_simp
  refine (IB.out v2 _ hH2.1 K2.out).mono ?_
  rintro r u3 ⟨v3, rfl, k3, s3, n3⟩
  have hb3 := hH2.1.trans (sav_lower s3 K2.out hH2.1.size)
  have x5 := O2.out.keepd s3 (Nat.le_refl _) (by omega) hH2.2
  obtain ⟨g3, cp3, rfl, _, _⟩ := k3.pos J3.out
  rw [HF3.out] at k3 n3 ⊢
  refine hK.out _ _ ⟨hb3, x5⟩ (fun hH3 => ?_)
  clear hK K
  (try simp only [List.getElem_toArray, List.getElem_cons_succ, List.getElem_cons_zero, Act.put, List.setIfInBounds_toArray, List.set_cons_succ, List.set_cons_zero])
  refine wpAnyH_take (i := 10) (oi := _) (v := ?_) rfl (by kernel_rfl) (by kernel_rfl) (by kernel_rfl) (fun _ _ _ h => h) (Or.inl ⟨?_, ?_⟩) hH3 ?_
  rotate_left
  ·kernel_rfl
  ·(intro W' _; go_simp; (try with_reducible rfl))
  (try simp only [List.getElem_toArray, List.getElem_cons_succ, List.getElem_cons_zero, Act.put, List.setIfInBounds_toArray, List.set_cons_zero])
  refine wpAnyH_done (by kernel_rfl) ?_ _
  have hs4 : M + 1 ≤ u3.heap.size := Nat.le_trans hs3 s3.size
  have O3 := Lib.hid (O2.out.next n3 hs3)
  have S3 := Lib.hid (sav_on S2.out N2.out s3)
  have N3 := Lib.hid (N2.out.trans n3 S2.out.size)
  have K3 := Lib.hid k3
  have HB3 := Lib.hid hb3
  have KK := Lib.hid (k3.keep (bal (bref u3) (.cells #[.int .i64 4, .int .i64 0, .int .i64 0] 47)))
  have HZ := Lib.hid (show w0.heap.size ≤ (u3.alloc (.cells #[.int .i64 4, .int .i64 0, .int .i64 0] 47)).heap.size from Nat.le_trans hb3.size (by simp))
  clear s3 n3 k3 hb2 hb3 hs3 x3 x4 hH0 hH1 hH2 hH3 HRUN hr
  go_wp2_with (at_builtin; refine wpList_app_ins rfl (.tmp 79) (.tmp 81) rfl w0.heap.size (.slice (some ⟨g3, 0, none⟩) p3 cp3) L3 rfl KK.out u3.heap.size (4, 0, 0) rfl (by simp [go_sem]) (by simp [go_sem]) (by simp [go_sem]) Z3.out HZ.out ?_; intro v4 u4 o4 s4 n4; rw [← H4.out] at o4; have x6 := O3.out.keepd s4 (Nat.le_refl _) (by omega) (keepc (bal (bref u3) _) x5); have hs5 : M + 1 ≤ u4.heap.size := Nat.le_trans hs4 (Nat.le_trans (by simp) s4.size); have O4 := Lib.hid (O3.out.next n4 (Nat.le_trans hs4 (by simp))); have S4 := Lib.hid (sav_on (S3.out.next (bal (bref u3) _)) N3.out s4); have N4 := Lib.hid (N3.out.trans (n4.from (by simp)) S3.out.size); have HB4 := Lib.hid (HB3.out.trans (((bal (bref u3) _).mono HB3.out.size).trans (sav_lower s4 KK.out HZ.out))); obtain ⟨g4, cp4, rfl, _, _⟩ := o4.pos J4.out; rw [HP4.out] at o4 O4 N4 ⊢; obtain ⟨ka1, ka2⟩ := o4.a p1 I1.out; have e0 := keepc HB4.out HE0.out.1; have e1 := keepc HB4.out HE0.out.2.1; have e2 := keepc HB4.out HE0.out.2.2.1; have e3 := keepc HB4.out HE0.out.2.2.2; have K4 := Lib.hid o4; clear o4 s4 n4 x5 hs4)
  clear ka1 ka2 e0 e1 e2 e3
  obtain ⟨k5, s5⟩ := K4.out.patch p1 I1.out (p4 : Int)
  rw [← H5.out] at k5
  have hb5 := HB4.out.trans (sav_lower s5 K4.out HB4.out.size)
  have S5 := sav_on S4.out N4.out s5
  refine (IC.out _ _ hb5 k5).mono ?_
  rintro r u6 ⟨v6, rfl, k6, s6, n6⟩
  obtain ⟨g6, cp6, rfl, _, _⟩ := k6.pos J6.out
  rw [HP6.out] at k6 n6 ⊢
  have S6 := Lib.hid (sav_on S5 N4.out s6)
  have N6 := Lib.hid (N4.out.trans n6 (Nat.le_trans S4.out.size (by simp)))
  obtain ⟨ka3, ka4⟩ := k6.a p3 I3.out
  have K6 := Lib.hid k6
  clear k5 s5 hb5 S5 k6 s6 n6
  go_wp2_with fail
  go_ret
  obtain ⟨k7, s7⟩ := K6.out.patch p3 I3.out (p6 : Int)
  rw [H7.out] at k7
  exact ⟨_, rfl, k7, sav_on S6.out N6.out s7, N6.out⟩
 have hem := em_opr vs l.length hcop h19
 have hlen := ems_len vs e.args hk2
 have SN := Lib.hid (fun k (hk : k < e.args.length) => ems_snoc vs (e.args.getD k E0) (e.args.take k) l.length)
 have IH := Lib.hid (fun x (hx : x ∈ e.args) => ih x hx (hk2 x hx))
 have ST := Lib.hid (fun k (hk : k < e.args.length) => sizs_take e.args k hk)
 have SL := Lib.hid (fun k => sizs_take_le e.args k)
 have EL := Lib.hid (fun k => ems_len vs (e.args.take k) (fun x hx => hk2 x (List.mem_of_mem_take hx)) l.length)
 have TG := Lib.hid (fun k (hk : k < e.args.length) => take_g E0 e.args k hk)
 have HE := Lib.hid he
 have HZ := Lib.hid hz
 have HL0 := Lib.hid hl
 obtain ⟨o, ho'⟩ : ∃ o, e.op = o := ⟨_, rfl⟩
 obtain ⟨n, hn⟩ : ∃ n, e.n = n := ⟨_, rfl⟩
 obtain ⟨X, hX⟩ : ∃ X, str e.s = X := ⟨_, rfl⟩
 obtain ⟨a, ha⟩ : ∃ a, e.args = a := ⟨_, rfl⟩
 obtain ⟨m, hm⟩ : ∃ n, a.length = n := ⟨_, rfl⟩
 obtain ⟨vn, hvn⟩ : ∃ n, vs.length = n := ⟨_, rfl⟩
 have hm5 : m ≤ 1000000 := by have h1 := sizs_len e.args; rw [ha, hm] at h1; rw [ha] at hz; omega
 have HEM : Hid (em vs l.length e = ems vs 0 l.length a ++ [(3, o, 0)]) := Lib.hid (by rw [hem, ho', ha])
 rw [ha] at SN IH ST SL EL TG HE HZ
 rw [ho'] at hop hnum hvar h19
 have e1 : cstO o = 0 := by unfold cstO; rw [if_neg (by omega), if_neg (by omega), if_neg (by omega)]
 have CS := Lib.hid (fun W => rcst o 0 e1 W)
 have e4 : (o == 4) = false := beq_no (by omega)
 have e19 : (o == 19) = false := beq_no (by omega)
 have e19' : (o != 19) = true := bne_yes (by omega)
 rw [ho', hn, hX, ha, hm, hvn]
 have HM := Lib.hid hm
 have HVN := Lib.hid hvn
 have HBW := Lib.hid (show Below w.heap.size w (w.alloc (.cells #[.int .i64 o, .int .i64 n, .string X, .slice so m cap] 24)) from bal (bref w) _)
 have HC0 := Lib.hid (HO.out.keep HBW.out)
 have HB0 := Lib.hid (HBb.out.trans (HBW.out.mono HBb.out.size))
 have HO0 := Lib.hid (Off.new ho 1)
 clear hk1 hk2 hop hz hsp hem hn hX hl he ih hk hv hvl hnum hvar ho hb hlen ho' ha hm hcop h19 hvn e1
 go_enter Tryz.func33, Tryz.ntmps33
 go_wp2_with (go_at_call 54; refine (CS.out _).mono ?_; rintro r w1 ⟨rfl, rfl⟩)
 go_loopw [0, 8] (fun x i wr => ∃ (k : Nat) (v' : Value), v' = x ∧ k ≤ m ∧ i = .int .i64 k ∧ OI w0.heap.size v' (l ++ ems vs 0 l.length (a.take k)) wr ∧ Sav (OB v) w wr ∧ New w v v' ∧ Off v' w.heap.size 1 ∧ wr.cell? ⟨w.heap.size, 0, none⟩ = some (.int .i64 o) ∧ wr.cell? ⟨w.heap.size, 3, none⟩ = some (.slice so m cap) ∧ w.heap.size + 1 ≤ wr.heap.size) (fun _ i _ => m - (RowKit.intOf i).toNat)
 case atStart => exact ⟨0, v, rfl, by omega, rfl, by rw [List.take_zero, ems_nil, List.append_nil]; exact HC0.out, Sav.of_below HBW.out, New.refl _ _, HO0.out, by simp [go_sem], by simp [go_sem], by simp⟩
 case round =>
  obtain ⟨k, v1, rfl, hk, rfl, k1, s1, n1, o1, x0, x3, hs⟩ := hrel
  have K1 := Lib.hid k1
  have S1 := Lib.hid s1
  have N1 := Lib.hid n1
  have O1 := Lib.hid o1
  have HB1 := Lib.hid (HBb.out.trans (sav_lower s1 HO.out HBb.out.size))
  clear k1 s1 n1 o1
  by_cases hlt : k < m
  ·have hkz : (k : Int) < (m : Int) := by omega
   have g1 : k < a.length := by rw [HM.out]; exact hlt
   obtain ⟨b, off, so2, cap2, rfl, hbl, c0, c1, c2, c3, hE2, _⟩ := (HE.out.at k g1)
   replace c0 := keepc HB1.out c0
   replace c1 := keepc HB1.out c1
   replace c2 := keepc HB1.out c2
   replace c3 := keepc HB1.out c3
   have b1 := SL.out (k + 1)
   have b2 := EL.out k
   have b3 := ST.out k g1
   have C0 := Lib.hid (fun W hW hC => IH.out (a.getD k E0) (getD_mem'' _ _ _ g1) so2 cap2 v1 (l ++ ems vs 0 l.length (a.take k)) W hW hE2 hC (by rw [List.length_append]; have := HZ.out; have := HL0.out; omega))
   rw [List.length_append, List.append_assoc, ← SN.out k g1, ← TG.out k g1, HVN.out] at C0
   obtain ⟨x, hx⟩ : ∃ x, a.getD k E0 = x := ⟨_, rfl⟩
   rw [hx] at c0 c1 c2 c3 C0
   clear hx hE2 b1 b2 b3 g1
   go_wp2_with fail
   refine (C0.out _ HB1.out K1.out).mono ?_
   rintro r u1 ⟨v2, rfl, k2, s2, n2⟩
   have y0 := O1.out.keepd s2 (Nat.le_refl _) (by omega) x0
   have y3 := O1.out.keepd s2 (Nat.le_refl _) (by omega) x3
   have hs2 : w.heap.size + 1 ≤ u1.heap.size := Nat.le_trans hs s2.size
   have K2 := Lib.hid k2
   have S2 := Lib.hid (sav_on S1.out N1.out s2)
   have N2 := Lib.hid (N1.out.trans n2 S1.out.size)
   have O2 := Lib.hid (O1.out.next n2 hs)
   clear k2 s2 n2 x0 x3 c0 c1 c2 c3
   go_wp2_with fail
   go_roundw
   case rel => exact ⟨k + 1, v2, rfl, by omega, by go_num, K2.out, S2.out, N2.out, O2.out, y0, y3, hs2⟩
   case measure => simp [RowKit.intOf]; omega
  ·have he : k = m := by omega
   subst he
   have ht : a.take k = a := by rw [← HM.out, List.take_length]
   rw [ht] at K1
   have b2 := EL.out k
   rw [ht] at b2
   have b4 := SL.out k
   rw [ht] at b4
   have KK := Lib.hid (K1.out.keep (bal (bref wr) (.cells #[.int .i64 3, .int .i64 o, .int .i64 0] 47)))
   have HLK : Hid ((l ++ ems vs 0 l.length a).length + 1 ≤ 10000000) := Lib.hid (by rw [List.length_append]; have := HZ.out; have := HL0.out; omega)
   have HZZ := Lib.hid (show w0.heap.size ≤ (wr.alloc (.cells #[.int .i64 3, .int .i64 o, .int .i64 0] 47)).heap.size from Nat.le_trans HB1.out.size (by simp))
   clear ht b2 b4
   go_wp2_with (at_builtin; refine wpList_app_ins rfl (.tmp 52) (.tmp 56) rfl w0.heap.size v1 (l ++ ems vs 0 l.length a) rfl KK.out wr.heap.size (3, o, 0) rfl (by simp [go_sem]) (by simp [go_sem]) (by simp [go_sem]) HLK.out HZZ.out ?_; intro v2 u2 o2 s2 n2; have K2 := Lib.hid o2; have S2 := Lib.hid (sav_on (S1.out.next (bal (bref wr) _)) N1.out s2); have N2 := Lib.hid (N1.out.trans (n2.from (by simp)) S1.out.size); clear o2 s2 n2)
   go_ret
   exact ⟨v2, rfl, by rw [HEM.out, ← List.append_assoc]; exact K2.out, S2.out, N2.out⟩
end Go.Proofs.YthanoilbcdhbkaaGreatDoor

namespace Go.Proofs.YthanoilbcdhbkaaGreatDoor
open Go Go.RowKit Go.Lib Go.Shelf WM TM EM YM

set_option maxRecDepth 100000 in
set_option maxHeartbeats 8000000 in
theorem rCompile (e : Ex) (so : Option Addr) (cap : Nat) (vs : List Vr) (vo : Option Addr) (vc : Nat) (w : World) (hm : siz e ≤ 100000) (hvl : vs.length ≤ 100000) (hz : vo = none → vs.length = 0 ∧ vc = 0) (hv : VarsAt vo vs w) (hL : Lies (e, so, cap) w) :
  Calls Tryz.prog 13 #[.agg #[.int .i64 e.op, .int .i64 e.n, .string (str e.s), .slice so e.args.length cap], .slice vo vs.length vc] w fun r w' => GotC r (comC e vs) (comE e vs) w' ∧ Below w.heap.size w w' := by
 have CV := Lib.hid (fun W (hW : Below w.heap.size w W) => rVars vs vo vc W (hv.keep hW))
 have CO := Lib.hid (fun W (hW : Below w.heap.size w W) => rOf vs vo vc hvl e so cap W hm (hv.keep hW) (hL.keep hW))
 have HBX := Lib.hid (show Below w.heap.size w ((w.alloc (.cells #[.int .i64 e.op, .int .i64 e.n, .string (str e.s), .slice so e.args.length cap] 24)).alloc (.cells #[.int .i64 0, .slice none 0 0, .slice none 0 0] 30)) from bal (bal (bref w) _) _)
 by_cases h1 : vsE vs = 0
 rotate_left
 ·have hb1 : (vsE vs != 0) = true := bne_yes h1
  have hE : comE e vs = vsE vs := by unfold comE; rw [if_pos h1]
  have hC : comC e vs = ⟨0, [], []⟩ := by unfold comC; rw [hE, if_neg h1]
  rw [hE, hC]
  obtain ⟨z, hz9⟩ : ∃ z, vsE vs = z := ⟨_, rfl⟩
  rw [hz9] at CV hb1 h1 ⊢
  obtain ⟨vn, hvn⟩ : ∃ n, vs.length = n := ⟨_, rfl⟩
  rw [hvn] at CV ⊢
  clear CO hm hvl  hz hv hL hE hC hz9 hvn
  go_enter Tryz.func13, Tryz.ntmps13
  go_wp2_with fail
  refine (CV.out _ HBX.out).mono ?_
  rintro r w1 ⟨rfl, hb⟩
  have y0 := keepc hb (show ((w.alloc (.cells #[.int .i64 e.op, .int .i64 e.n, .string (str e.s), .slice so e.args.length cap] 24)).alloc (.cells #[.int .i64 0, .slice none 0 0, .slice none 0 0] 30)).cell? ⟨w.heap.size + 1, 0, none⟩ = some (.int .i64 0) by simp [go_sem])
  have z0 := keepf hb (show ((w.alloc (.cells #[.int .i64 e.op, .int .i64 e.n, .string (str e.s), .slice so e.args.length cap] 24)).alloc (.cells #[.int .i64 0, .slice none 0 0, .slice none 0 0] 30)).cell? ⟨w.heap.size + 1, 0, none⟩ = some (.int .i64 0) by simp [go_sem]) (show ((w.alloc (.cells #[.int .i64 e.op, .int .i64 e.n, .string (str e.s), .slice so e.args.length cap] 24)).alloc (.cells #[.int .i64 0, .slice none 0 0, .slice none 0 0] 30)).frozen? ⟨w.heap.size + 1, 0, none⟩ = false by simp [go_sem])
  have y1 := keepc hb (show ((w.alloc (.cells #[.int .i64 e.op, .int .i64 e.n, .string (str e.s), .slice so e.args.length cap] 24)).alloc (.cells #[.int .i64 0, .slice none 0 0, .slice none 0 0] 30)).cell? ⟨w.heap.size + 1, 1, none⟩ = some (.slice none 0 0) by simp [go_sem])
  have z1 := keepf hb (show ((w.alloc (.cells #[.int .i64 e.op, .int .i64 e.n, .string (str e.s), .slice so e.args.length cap] 24)).alloc (.cells #[.int .i64 0, .slice none 0 0, .slice none 0 0] 30)).cell? ⟨w.heap.size + 1, 1, none⟩ = some (.slice none 0 0) by simp [go_sem]) (show ((w.alloc (.cells #[.int .i64 e.op, .int .i64 e.n, .string (str e.s), .slice so e.args.length cap] 24)).alloc (.cells #[.int .i64 0, .slice none 0 0, .slice none 0 0] 30)).frozen? ⟨w.heap.size + 1, 1, none⟩ = false by simp [go_sem])
  have y2 := keepc hb (show ((w.alloc (.cells #[.int .i64 e.op, .int .i64 e.n, .string (str e.s), .slice so e.args.length cap] 24)).alloc (.cells #[.int .i64 0, .slice none 0 0, .slice none 0 0] 30)).cell? ⟨w.heap.size + 1, 2, none⟩ = some (.slice none 0 0) by simp [go_sem])
  have z2 := keepf hb (show ((w.alloc (.cells #[.int .i64 e.op, .int .i64 e.n, .string (str e.s), .slice so e.args.length cap] 24)).alloc (.cells #[.int .i64 0, .slice none 0 0, .slice none 0 0] 30)).cell? ⟨w.heap.size + 1, 2, none⟩ = some (.slice none 0 0) by simp [go_sem]) (show ((w.alloc (.cells #[.int .i64 e.op, .int .i64 e.n, .string (str e.s), .slice so e.args.length cap] 24)).alloc (.cells #[.int .i64 0, .slice none 0 0, .slice none 0 0] 30)).frozen? ⟨w.heap.size + 1, 2, none⟩ = false by simp [go_sem])
  have HB1 := Lib.hid (btr HBX.out hb)
  clear hb
  go_wp2_with fail
  refine bodyPost_ret (res_code2 rfl _ _ _ rfl _ rfl (.int .i64 0) (.slice none 0 0) (.slice none 0 0) (by simp [go_sem, y0]) (by simp [go_sem, y1]) (by simp [go_sem, y2])) rfl ?_
  exact ⟨⟨none, 0, none, 0, rfl, ⟨VarsAt.nil _ _, InsAt.nil _ _, Nat.le_refl _, fun _ => ⟨rfl, rfl⟩, fun _ => ⟨rfl, rfl⟩⟩⟩, bset (bset (bset HB1.out (by simp) _) (by simp) _) (by simp) _⟩
 by_cases h2 : (ofT e vs).2 = 0
 rotate_left
 ·have hb1 : ((ofT e vs).2 != 0) = true := bne_yes h2
  have hE : comE e vs = (ofT e vs).2 := by unfold comE; rw [if_neg (by omega)]
  have hC : comC e vs = ⟨0, [], []⟩ := by unfold comC; rw [hE, if_neg h2]
  rw [hE, hC]
  obtain ⟨z, hz9⟩ : ∃ z, (ofT e vs).2 = z := ⟨_, rfl⟩
  obtain ⟨y, hy9⟩ : ∃ z, (ofT e vs).1 = z := ⟨_, rfl⟩
  rw [h1] at CV
  rw [hz9, hy9] at CO
  rw [hz9] at hb1 h2 ⊢
  obtain ⟨vn, hvn⟩ : ∃ n, vs.length = n := ⟨_, rfl⟩
  rw [hvn] at CV CO ⊢
  clear hm hvl  hz hv hL hE hC hz9 hvn h1 hy9
  go_enter Tryz.func13, Tryz.ntmps13
  go_wp2_with fail
  refine (CV.out _ HBX.out).mono ?_
  rintro r w1 ⟨rfl, hb⟩
  have b0 := keepc hb (show ((w.alloc (.cells #[.int .i64 e.op, .int .i64 e.n, .string (str e.s), .slice so e.args.length cap] 24)).alloc (.cells #[.int .i64 0, .slice none 0 0, .slice none 0 0] 30)).cell? ⟨w.heap.size, 0, none⟩ = some (.int .i64 e.op) by simp [go_sem])
  have b1 := keepc hb (show ((w.alloc (.cells #[.int .i64 e.op, .int .i64 e.n, .string (str e.s), .slice so e.args.length cap] 24)).alloc (.cells #[.int .i64 0, .slice none 0 0, .slice none 0 0] 30)).cell? ⟨w.heap.size, 1, none⟩ = some (.int .i64 e.n) by simp [go_sem])
  have b2 := keepc hb (show ((w.alloc (.cells #[.int .i64 e.op, .int .i64 e.n, .string (str e.s), .slice so e.args.length cap] 24)).alloc (.cells #[.int .i64 0, .slice none 0 0, .slice none 0 0] 30)).cell? ⟨w.heap.size, 2, none⟩ = some (.string (str e.s)) by simp [go_sem])
  have b3 := keepc hb (show ((w.alloc (.cells #[.int .i64 e.op, .int .i64 e.n, .string (str e.s), .slice so e.args.length cap] 24)).alloc (.cells #[.int .i64 0, .slice none 0 0, .slice none 0 0] 30)).cell? ⟨w.heap.size, 3, none⟩ = some (.slice so e.args.length cap) by simp [go_sem])
  have y0 := keepc hb (show ((w.alloc (.cells #[.int .i64 e.op, .int .i64 e.n, .string (str e.s), .slice so e.args.length cap] 24)).alloc (.cells #[.int .i64 0, .slice none 0 0, .slice none 0 0] 30)).cell? ⟨w.heap.size + 1, 0, none⟩ = some (.int .i64 0) by simp [go_sem])
  have z0 := keepf hb (show ((w.alloc (.cells #[.int .i64 e.op, .int .i64 e.n, .string (str e.s), .slice so e.args.length cap] 24)).alloc (.cells #[.int .i64 0, .slice none 0 0, .slice none 0 0] 30)).cell? ⟨w.heap.size + 1, 0, none⟩ = some (.int .i64 0) by simp [go_sem]) (show ((w.alloc (.cells #[.int .i64 e.op, .int .i64 e.n, .string (str e.s), .slice so e.args.length cap] 24)).alloc (.cells #[.int .i64 0, .slice none 0 0, .slice none 0 0] 30)).frozen? ⟨w.heap.size + 1, 0, none⟩ = false by simp [go_sem])
  have y1 := keepc hb (show ((w.alloc (.cells #[.int .i64 e.op, .int .i64 e.n, .string (str e.s), .slice so e.args.length cap] 24)).alloc (.cells #[.int .i64 0, .slice none 0 0, .slice none 0 0] 30)).cell? ⟨w.heap.size + 1, 1, none⟩ = some (.slice none 0 0) by simp [go_sem])
  have z1 := keepf hb (show ((w.alloc (.cells #[.int .i64 e.op, .int .i64 e.n, .string (str e.s), .slice so e.args.length cap] 24)).alloc (.cells #[.int .i64 0, .slice none 0 0, .slice none 0 0] 30)).cell? ⟨w.heap.size + 1, 1, none⟩ = some (.slice none 0 0) by simp [go_sem]) (show ((w.alloc (.cells #[.int .i64 e.op, .int .i64 e.n, .string (str e.s), .slice so e.args.length cap] 24)).alloc (.cells #[.int .i64 0, .slice none 0 0, .slice none 0 0] 30)).frozen? ⟨w.heap.size + 1, 1, none⟩ = false by simp [go_sem])
  have y2 := keepc hb (show ((w.alloc (.cells #[.int .i64 e.op, .int .i64 e.n, .string (str e.s), .slice so e.args.length cap] 24)).alloc (.cells #[.int .i64 0, .slice none 0 0, .slice none 0 0] 30)).cell? ⟨w.heap.size + 1, 2, none⟩ = some (.slice none 0 0) by simp [go_sem])
  have z2 := keepf hb (show ((w.alloc (.cells #[.int .i64 e.op, .int .i64 e.n, .string (str e.s), .slice so e.args.length cap] 24)).alloc (.cells #[.int .i64 0, .slice none 0 0, .slice none 0 0] 30)).cell? ⟨w.heap.size + 1, 2, none⟩ = some (.slice none 0 0) by simp [go_sem]) (show ((w.alloc (.cells #[.int .i64 e.op, .int .i64 e.n, .string (str e.s), .slice so e.args.length cap] 24)).alloc (.cells #[.int .i64 0, .slice none 0 0, .slice none 0 0] 30)).frozen? ⟨w.heap.size + 1, 2, none⟩ = false by simp [go_sem])
  have HB1 := Lib.hid (btr HBX.out hb)
  clear hb
  go_wp2_with fail
  refine (CO.out _ HB1.out).mono ?_
  rintro r w2 ⟨rfl, hb⟩
  replace z0 := keepf hb y0 z0
  replace y0 := keepc hb y0
  replace z1 := keepf hb y1 z1
  replace y1 := keepc hb y1
  replace z2 := keepf hb y2 z2
  replace y2 := keepc hb y2
  have HB2 := Lib.hid (btr HB1.out hb)
  clear hb b0 b1 b2 b3
  go_wp2_with fail
  refine bodyPost_ret (res_code2 rfl _ _ _ rfl _ rfl (.int .i64 0) (.slice none 0 0) (.slice none 0 0) (by simp [go_sem, y0]) (by simp [go_sem, y1]) (by simp [go_sem, y2])) rfl ?_
  exact ⟨⟨none, 0, none, 0, rfl, ⟨VarsAt.nil _ _, InsAt.nil _ _, Nat.le_refl _, fun _ => ⟨rfl, rfl⟩, fun _ => ⟨rfl, rfl⟩⟩⟩, bset (bset (bset HB2.out (by simp) _) (by simp) _) (by simp) _⟩
 ·obtain ⟨p1, p2, p3⟩ := com_parts h1 h2
  have hE : comE e vs = 0 := by unfold comE; rw [if_neg (by omega), h2]
  have hC : comC e vs = ⟨(ofT e vs).1, vs, em vs 0 e⟩ := by unfold comC; rw [if_pos hE]
  rw [hE, hC]
  have hel := (em_len vs e p3 0).2
  rw [h1] at CV
  rw [h2] at CO
  have CX := Lib.hid (fun W (h0 : Below w.heap.size w W) => remit vs vo vc W hvl (hv.keep h0) e p3 so cap (.slice none 0 0) [] W (Below.refl _ _) (hL.1.keep h0) (OI.nil _ _) (by simp; omega))
  have HV := Lib.hid (fun W (h0 : Below w.heap.size w W) => hv.keep h0)
  have HZN := Lib.hid hz
  have HPV := Lib.hid p1
  obtain ⟨y, hy9⟩ : ∃ z, (ofT e vs).1 = z := ⟨_, rfl⟩
  rw [hy9] at CO ⊢
  have HP2 := Lib.hid p2
  obtain ⟨eo, heo⟩ : ∃ q, e.op = q := ⟨_, rfl⟩
  obtain ⟨en, hen⟩ : ∃ q, e.n = q := ⟨_, rfl⟩
  obtain ⟨es, hes⟩ : ∃ q, str e.s = q := ⟨_, rfl⟩
  obtain ⟨el, hell⟩ : ∃ q, e.args.length = q := ⟨_, rfl⟩
  obtain ⟨vn, hvn⟩ : ∃ n, vs.length = n := ⟨_, rfl⟩
  obtain ⟨em0, hem0⟩ : ∃ q, em vs 0 e = q := ⟨_, rfl⟩
  have HVN := Lib.hid hvn
  have HEM := Lib.hid hem0
  rw [hem0] at hel ⊢
  simp only [List.length_nil, List.nil_append] at CX
  rw [hem0, heo, hen, hes, hell, hvn] at CX
  rw [heo, hen, hes, hell] at HBX CO ⊢
  rw [hvn] at CV CO HZN
  rw [hvn]
  clear hm hvl  hz hv hL hE hC hvn h1 h2 hy9 p1 p2 p3 heo hen hes hell hem0
  go_enter Tryz.func13, Tryz.ntmps13
  go_wp2_with fail
  refine (CV.out _ HBX.out).mono ?_
  rintro r w1 ⟨rfl, hb⟩
  have b0 := keepc hb (show ((w.alloc (.cells #[.int .i64 eo, .int .i64 en, .string es, .slice so el cap] 24)).alloc (.cells #[.int .i64 0, .slice none 0 0, .slice none 0 0] 30)).cell? ⟨w.heap.size, 0, none⟩ = some (.int .i64 eo) by simp [go_sem])
  have b1 := keepc hb (show ((w.alloc (.cells #[.int .i64 eo, .int .i64 en, .string es, .slice so el cap] 24)).alloc (.cells #[.int .i64 0, .slice none 0 0, .slice none 0 0] 30)).cell? ⟨w.heap.size, 1, none⟩ = some (.int .i64 en) by simp [go_sem])
  have b2 := keepc hb (show ((w.alloc (.cells #[.int .i64 eo, .int .i64 en, .string es, .slice so el cap] 24)).alloc (.cells #[.int .i64 0, .slice none 0 0, .slice none 0 0] 30)).cell? ⟨w.heap.size, 2, none⟩ = some (.string es) by simp [go_sem])
  have b3 := keepc hb (show ((w.alloc (.cells #[.int .i64 eo, .int .i64 en, .string es, .slice so el cap] 24)).alloc (.cells #[.int .i64 0, .slice none 0 0, .slice none 0 0] 30)).cell? ⟨w.heap.size, 3, none⟩ = some (.slice so el cap) by simp [go_sem])
  have y0 := keepc hb (show ((w.alloc (.cells #[.int .i64 eo, .int .i64 en, .string es, .slice so el cap] 24)).alloc (.cells #[.int .i64 0, .slice none 0 0, .slice none 0 0] 30)).cell? ⟨w.heap.size + 1, 0, none⟩ = some (.int .i64 0) by simp [go_sem])
  have z0 := keepf hb (show ((w.alloc (.cells #[.int .i64 eo, .int .i64 en, .string es, .slice so el cap] 24)).alloc (.cells #[.int .i64 0, .slice none 0 0, .slice none 0 0] 30)).cell? ⟨w.heap.size + 1, 0, none⟩ = some (.int .i64 0) by simp [go_sem]) (show ((w.alloc (.cells #[.int .i64 eo, .int .i64 en, .string es, .slice so el cap] 24)).alloc (.cells #[.int .i64 0, .slice none 0 0, .slice none 0 0] 30)).frozen? ⟨w.heap.size + 1, 0, none⟩ = false by simp [go_sem])
  have y1 := keepc hb (show ((w.alloc (.cells #[.int .i64 eo, .int .i64 en, .string es, .slice so el cap] 24)).alloc (.cells #[.int .i64 0, .slice none 0 0, .slice none 0 0] 30)).cell? ⟨w.heap.size + 1, 1, none⟩ = some (.slice none 0 0) by simp [go_sem])
  have z1 := keepf hb (show ((w.alloc (.cells #[.int .i64 eo, .int .i64 en, .string es, .slice so el cap] 24)).alloc (.cells #[.int .i64 0, .slice none 0 0, .slice none 0 0] 30)).cell? ⟨w.heap.size + 1, 1, none⟩ = some (.slice none 0 0) by simp [go_sem]) (show ((w.alloc (.cells #[.int .i64 eo, .int .i64 en, .string es, .slice so el cap] 24)).alloc (.cells #[.int .i64 0, .slice none 0 0, .slice none 0 0] 30)).frozen? ⟨w.heap.size + 1, 1, none⟩ = false by simp [go_sem])
  have y2 := keepc hb (show ((w.alloc (.cells #[.int .i64 eo, .int .i64 en, .string es, .slice so el cap] 24)).alloc (.cells #[.int .i64 0, .slice none 0 0, .slice none 0 0] 30)).cell? ⟨w.heap.size + 1, 2, none⟩ = some (.slice none 0 0) by simp [go_sem])
  have z2 := keepf hb (show ((w.alloc (.cells #[.int .i64 eo, .int .i64 en, .string es, .slice so el cap] 24)).alloc (.cells #[.int .i64 0, .slice none 0 0, .slice none 0 0] 30)).cell? ⟨w.heap.size + 1, 2, none⟩ = some (.slice none 0 0) by simp [go_sem]) (show ((w.alloc (.cells #[.int .i64 eo, .int .i64 en, .string es, .slice so el cap] 24)).alloc (.cells #[.int .i64 0, .slice none 0 0, .slice none 0 0] 30)).frozen? ⟨w.heap.size + 1, 2, none⟩ = false by simp [go_sem])
  have HB1 := Lib.hid (btr HBX.out hb)
  clear hb
  go_wp2_with fail
  refine (CO.out _ HB1.out).mono ?_
  rintro r w2 ⟨rfl, hb⟩
  replace b0 := keepc hb b0
  replace b1 := keepc hb b1
  replace b2 := keepc hb b2
  replace b3 := keepc hb b3
  replace z0 := keepf hb y0 z0
  replace y0 := keepc hb y0
  replace z1 := keepf hb y1 z1
  replace y1 := keepc hb y1
  replace z2 := keepf hb y2 z2
  replace y2 := keepc hb y2
  have HB2 := Lib.hid (btr HB1.out hb)
  clear hb
  have hlt0 : w.heap.size + 1 < w2.heap.size := World.block_lt_of_cell? w2 _ y0
  obtain ⟨i0, hi, hz0, hz1, hz2⟩ := info_parts infoVr
  go_wp2_with fail
  refine wp_region_held_drew (S := (fun W => W.cell? ⟨w.heap.size, 0, none⟩ = some (.int .i64 eo) ∧ W.cell? ⟨w.heap.size, 1, none⟩ = some (.int .i64 en) ∧ W.cell? ⟨w.heap.size, 2, none⟩ = some (.string es) ∧ W.cell? ⟨w.heap.size, 3, none⟩ = some (.slice so el cap))) (by kernel_rfl) ⟨keepc (bdr (bref _)) b0, keepc (bdr (bref _)) b1, keepc (bdr (bref _)) b2, keepc (bdr (bref _)) b3⟩ (fun hH0 => ?_)
  refine wpAnyH_take (i := 0) (oi := _) (v := ?_) rfl (by kernel_rfl) (by kernel_rfl) (by kernel_rfl) (fun _ _ _ h => h) (Or.inl ⟨?_, ?_⟩) hH0 ?_
  rotate_left
  ·kernel_rfl
  ·(intro W' _; go_simp; (try with_reducible rfl))
  (try simp only [List.getElem_toArray, List.getElem_cons_zero, Act.put, List.setIfInBounds_toArray, List.set_cons_succ, List.set_cons_zero])
  refine wpAnyH_take (i := 2) (oi := _) (v := ?_) rfl (by kernel_rfl) (by kernel_rfl) (by kernel_rfl) (fun _ _ _ h => h) (Or.inl ⟨?_, ?_⟩) hH0 ?_
  rotate_left
  ·kernel_rfl
  ·(intro W' _; go_simp; (try with_reducible rfl))
  (try simp only [List.getElem_toArray, List.getElem_cons_succ, List.getElem_cons_zero, Act.put, List.setIfInBounds_toArray, List.set_cons_succ, List.set_cons_zero])
  refine wpAnyH_take (i := 4) (oi := _) (v := ?_) rfl (by kernel_rfl) (by kernel_rfl) (by kernel_rfl) (fun _ _ _ h => h) (Or.inl ⟨?_, ?_⟩) hH0 ?_
  rotate_left
  ·kernel_rfl
  ·(intro W' hSw; obtain ⟨s0, s1, s2, s3⟩ := hSw; go_simp; (try with_reducible rfl))
  (try simp only [List.getElem_toArray, List.getElem_cons_succ, List.getElem_cons_zero, Act.put, List.setIfInBounds_toArray, List.set_cons_succ, List.set_cons_zero])
  refine wpAnyH_take (i := 5) (oi := _) (v := ?_) rfl (by kernel_rfl) (by kernel_rfl) (by kernel_rfl) (fun _ _ _ h => h) (Or.inl ⟨?_, ?_⟩) hH0 ?_
  rotate_left
  ·kernel_rfl
  ·(intro W' _; go_simp; (try with_reducible rfl))
  (try simp only [List.getElem_toArray, List.getElem_cons_succ, List.getElem_cons_zero, Act.put, List.setIfInBounds_toArray, List.set_cons_succ, List.set_cons_zero])
  refine wpAnyH_ready (rs := [1]) (by kernel_rfl) (by simp) ?_
  refine AllReadyH.cons (o := _) rfl (fun K hK => ?_) AllReadyH.nil
  go_simp
  refine hK.out _ _ ⟨keepc (bal (bref _) _) hH0.1, keepc (bal (bref _) _) hH0.2.1, keepc (bal (bref _) _) hH0.2.2.1, keepc (bal (bref _) _) hH0.2.2.2⟩ (fun hH1 => ?_)
  clear hK K
  (try simp only [List.getElem_toArray, List.getElem_cons_succ, List.getElem_cons_zero, Act.put, List.setIfInBounds_toArray, List.set_cons_succ, List.set_cons_zero])
  have hb3 : Below w2.heap.size w2 ((w2.alloc (.cells #[] 57)).drew) := bdr (bal (bref w2) _)
  have HOE : ((w2.alloc (.cells #[] 57)).drew).ownsRow w2.heap.size 57 2 (.slice (some ⟨w2.heap.size, 0, none⟩) 0 0) 0 [] := World.ownsRow.drew (World.ownsRow_made w2 #[] 0 (Nat.le_refl _) (by unfold maxLen; omega) rfl)
  obtain ⟨v3, w3, hr, ho3, hg3, _⟩ := append_any (P := Tryz.prog) (w := (w2.alloc (.cells #[] 57)).drew) w2.heap.size 25 25 57 i0 _ 2 24 Tryz.underlying25 hi hz0 hz1 hz2 rfl (by decide) (.slice (some ⟨w2.heap.size, 0, none⟩) 0 0) 0 [] HOE vo vn vc (vcells vs) (by rw [vcells_length, HVN.out]) HZN.out (vnews (HV.out _ (btr HB2.out hb3))) (vcells_mem vs) (by have := HPV.out; rw [HVN.out] at this; unfold maxLen; omega) (by have := HPV.out; rw [HVN.out] at this; omega) (by simp)
  have HRUN := Lib.hid hr
  have hb4 : Below w2.heap.size w2 w3 := hb3.trans ((Sav.grown hg3).below (fun k e => by cases e; exact Nat.le_refl _) (by simp))
  rw [Nat.zero_add, List.nil_append] at ho3
  obtain ⟨vo2, vc2, rfl, hc3, hv3, hn3, hz3⟩ := own_varsB ho3
  rw [HVN.out] at hc3 hz3 HRUN
  refine wpAnyH_ready (rs := [3]) (by kernel_rfl) (by simp) ?_
  refine AllReadyH.cons (o := _) rfl (fun K hK => ?_) AllReadyH.nil
  rw [if_pos (by kernel_rfl)]
  unfold Oper.wp execOp
  simp only [List.getElem_toArray, List.getElem_cons_succ, List.getElem_cons_zero, resolve, invoke, builtin, Sem.run_bind, Sem.run_pure, Result.andThen_ok, List.map_toArray, List.map_cons, List.map_nil, Act.eval, Array.getD_eq_getD_getElem?, List.getElem?_toArray, List.getElem?_cons_succ, List.getElem?_cons_zero, Option.getD_some]
  rw [HRUN.out]
  refine hK.out _ _ ⟨keepc hb4 b0, keepc hb4 b1, keepc hb4 b2, keepc hb4 b3⟩ (fun hH2 => ?_)
  clear hK K
  (try simp only [Act.put, List.setIfInBounds_toArray, List.set_cons_succ, List.set_cons_zero])
  refine wpAnyH_ready (rs := [6]) (by kernel_rfl) (by simp) ?_
  refine AllReadyH.cons (o := _) rfl (fun K hK => ?_) AllReadyH.nil
  go_simp
  refine (CX.out w3 (btr HB2.out hb4)).mono ?_
  rintro r w4 ⟨v4, rfl, k4, s4, n4⟩
  have hb34 : Below w3.heap.size w3 w4 := s4.below (fun k e => by cases e) (Nat.le_refl _)
  have hb5 : Below w2.heap.size w2 w4 := hb4.trans (hb34.mono hb4.size)
  have hv4 := hv3.keep hb34
  obtain ⟨io, ic, rfl, hic, hI, hiz⟩ := k4.shape
  have hig := fun g hg => (k4.lt (g := g) hg).1
  obtain ⟨ln, hln⟩ : ∃ q, em0.length = q := ⟨_, rfl⟩
  have HLN := Lib.hid hln
  have K4 := Lib.hid k4
  rw [hln] at hig ⊢
  clear hln k4 hic hI hiz
  refine hK.out _ _ ⟨keepc hb5 b0, keepc hb5 b1, keepc hb5 b2, keepc hb5 b3⟩ (fun hH3 => ?_)
  clear hK K
  (try simp only [List.getElem_toArray, List.getElem_cons_succ, List.getElem_cons_zero, Act.put, List.setIfInBounds_toArray, List.set_cons_succ, List.set_cons_zero])
  refine wpAnyH_take (i := 7) (oi := _) (v := ?_) rfl (by kernel_rfl) (by kernel_rfl) (by kernel_rfl) (fun _ _ _ h => h) (Or.inl ⟨?_, ?_⟩) hH3 ?_
  rotate_left
  ·kernel_rfl
  ·(intro W' _; go_simp; (try with_reducible rfl))
  (try simp only [List.getElem_toArray, List.getElem_cons_succ, List.getElem_cons_zero, Act.put, List.setIfInBounds_toArray, List.set_cons_succ, List.set_cons_zero])
  refine wpAnyH_ready (rs := [8]) (by kernel_rfl) (by simp) ?_
  refine AllReadyH.cons (o := _) rfl (fun K hK => ?_) AllReadyH.nil
  have m0 := keepc hb5 y0
  have m1 := keepc hb5 y1
  have m2 := keepc hb5 y2
  have m3 := keepf hb5 y0 z0
  have m4 := keepf hb5 y1 z1
  have m5 := keepf hb5 y2 z2
  go_simp
  refine hK.out _ _ (by obtain ⟨e9, e8, e7, e6⟩ := hH3; simp [go_sem, e9, e8, e7, e6]) (fun hH4 => ?_)
  clear hK K
  (try simp only [List.getElem_toArray, List.getElem_cons_succ, List.getElem_cons_zero, Act.put, List.setIfInBounds_toArray, List.set_cons_succ, List.set_cons_zero])
  refine wpAnyH_take (i := 9) (oi := _) (v := ?_) rfl (by kernel_rfl) (by kernel_rfl) (by kernel_rfl) (fun _ _ _ h => h) (Or.inl ⟨?_, ?_⟩) hH4 ?_
  rotate_left
  ·kernel_rfl
  ·(intro W' _; go_simp; (try with_reducible rfl))
  (try simp only [List.getElem_toArray, List.getElem_cons_succ, List.getElem_cons_zero, Act.put, List.setIfInBounds_toArray, List.set_cons_succ, List.set_cons_zero])
  refine wpAnyH_done (by kernel_rfl) ?_ _
  have o5 := K4.out.sav (sav3 w4 (w.heap.size + 1) (.int .i64 y) (.slice vo2 vn vc2) (.slice io ln ic)) (fun g hg e => by have h1 := (K4.out.lt hg).1; have h2 := hb4.size; have e' : g = w.heap.size + 1 := e; omega)
  obtain ⟨io', ic', e6, _, hI, hZ⟩ := o5.shape
  rw [HLN.out] at e6
  cases e6
  have v5 := hv4.sav (sav3 w4 (w.heap.size + 1) (.int .i64 y) (.slice vo2 vn vc2) (.slice io ln ic)) (fun a ha e => by have h1 := hn3 a ha; have e' : a.block = w.heap.size + 1 := e; omega)
  have m0 := keepc hb5 y0
  have m1 := keepc hb5 y1
  have m2 := keepc hb5 y2
  have HB5 := Lib.hid (btr HB2.out hb5)
  go_wp2_with fail
  refine bodyPost_ret (res_code2 rfl _ _ _ rfl _ rfl (.int .i64 y) (.slice vo2 vn vc2) (.slice io ln ic) (by simp [go_sem, m0]) (by simp [go_sem, m1]) (by simp [go_sem, m2])) rfl ?_
  exact ⟨⟨vo2, vc2, io, ic, by rw [HVN.out, HLN.out]; rfl, ⟨v5, hI, by rw [HVN.out]; exact hc3, by rw [HVN.out]; exact hz3, hZ⟩⟩, bset (bset (bset HB5.out (by simp) _) (by simp) _) (by simp) _⟩
end Go.Proofs.YthanoilbcdhbkaaGreatDoor
