/-
  The parser: choice, primary.
-/
import Derived.Test.YtplkphihmfhciaaGreatDoorMG
namespace Go.Proofs.YtplkphihmfhciaaGreatDoor
open Go Go.RowKit Go.Lib Go.Shelf WM TM EM

theorem numb_T (op : Int) (l : List Tok) (k : Nat) : numb op (l.drop k) = some (if (l.getD k T0).1 = 2 ∧ nOk (l.getD k T0).2.2 = true then .ok (.mk op (nV (l.getD k T0).2.2) [] []) 8 (l.drop (k + 1)) else .bad (l.drop k)) := by
 by_cases h : k < l.length
 ·have hg : l.getD k T0 = l[k] := by simp [List.getD, h]
  have hd := List.drop_eq_getElem_cons h
  rw [hg, hd]
  simp only [numb]
  split <;> rfl
 ·have hg : l.getD k T0 = T0 := by rw [List.getD_eq_getElem?_getD, List.getElem?_eq_none (by omega)]; rfl
  rw [hg, List.drop_eq_nil_of_le (by omega), if_neg (fun h => absurd h.1 (by decide))]
  rfl
theorem res_expr {fn : Func} {p : Tmp} (h : fn.results = #[.cell p 27]) (tmps : Array Value) (w : World) (b : Nat) (hp : tmps.getD p undef = .pointer (some ⟨b, 0, none⟩)) (x0 x1 x2 x3 : Value) (h0 : w.cell? ⟨b, 0, none⟩ = some x0) (h1 : w.cell? ⟨b, 1, none⟩ = some x1) (h2 : w.cell? ⟨b, 2, none⟩ = some x2) (h3 : w.cell? ⟨b, 3, none⟩ = some x3) :
  (results fn tmps).run Tryz.prog w = .ok (.agg #[x0, x1, x2, x3]) w := by
 rw [Array.getD_eq_getD_getElem?] at hp
 simp [results, h, hp, go_sem, h0, h1, h2, h3]
theorem st4_0 {W : World} {b : Nat} (z : Zx b W) (x0 x1 x2 x3 : Value) : ((((W.setCell ⟨b, 0, none⟩ x0).setCell ⟨b, 1, none⟩ x1).setCell ⟨b, 2, none⟩ x2).setCell ⟨b, 3, none⟩ x3).cell? ⟨b, 0, none⟩ = some x0 := by
 obtain ⟨z0, z1, z2, z3, _⟩ := z
 simp [go_sem, z0, z1, z2, z3]
theorem st4_1 {W : World} {b : Nat} (z : Zx b W) (x0 x1 x2 x3 : Value) : ((((W.setCell ⟨b, 0, none⟩ x0).setCell ⟨b, 1, none⟩ x1).setCell ⟨b, 2, none⟩ x2).setCell ⟨b, 3, none⟩ x3).cell? ⟨b, 1, none⟩ = some x1 := by
 obtain ⟨z0, z1, z2, z3, _⟩ := z
 simp [go_sem, z0, z1, z2, z3]
theorem st4_2 {W : World} {b : Nat} (z : Zx b W) (x0 x1 x2 x3 : Value) : ((((W.setCell ⟨b, 0, none⟩ x0).setCell ⟨b, 1, none⟩ x1).setCell ⟨b, 2, none⟩ x2).setCell ⟨b, 3, none⟩ x3).cell? ⟨b, 2, none⟩ = some x2 := by
 obtain ⟨z0, z1, z2, z3, _⟩ := z
 simp [go_sem, z0, z1, z2, z3]
theorem st4_3 {W : World} {b : Nat} (z : Zx b W) (x0 x1 x2 x3 : Value) : ((((W.setCell ⟨b, 0, none⟩ x0).setCell ⟨b, 1, none⟩ x1).setCell ⟨b, 2, none⟩ x2).setCell ⟨b, 3, none⟩ x3).cell? ⟨b, 3, none⟩ = some x3 := by
 obtain ⟨z0, z1, z2, z3, _⟩ := z
 simp [go_sem, z0, z1, z2, z3]
theorem al4_0 {W : World} {b : Nat} (z : Zx b W) (x0 x1 x2 x3 : Value) (o : Obj) : (((((W.setCell ⟨b, 0, none⟩ x0).setCell ⟨b, 1, none⟩ x1).setCell ⟨b, 2, none⟩ x2).setCell ⟨b, 3, none⟩ x3).alloc o).cell? ⟨b, 0, none⟩ = some x0 :=
 (World.cell?_alloc_lt _ o ⟨b, 0, none⟩ (World.block_lt_of_cell? _ _ (st4_0 z x0 x1 x2 x3))).trans (st4_0 z x0 x1 x2 x3)
theorem al4_1 {W : World} {b : Nat} (z : Zx b W) (x0 x1 x2 x3 : Value) (o : Obj) : (((((W.setCell ⟨b, 0, none⟩ x0).setCell ⟨b, 1, none⟩ x1).setCell ⟨b, 2, none⟩ x2).setCell ⟨b, 3, none⟩ x3).alloc o).cell? ⟨b, 1, none⟩ = some x1 :=
 (World.cell?_alloc_lt _ o ⟨b, 1, none⟩ (World.block_lt_of_cell? _ _ (st4_1 z x0 x1 x2 x3))).trans (st4_1 z x0 x1 x2 x3)
theorem al4_2 {W : World} {b : Nat} (z : Zx b W) (x0 x1 x2 x3 : Value) (o : Obj) : (((((W.setCell ⟨b, 0, none⟩ x0).setCell ⟨b, 1, none⟩ x1).setCell ⟨b, 2, none⟩ x2).setCell ⟨b, 3, none⟩ x3).alloc o).cell? ⟨b, 2, none⟩ = some x2 :=
 (World.cell?_alloc_lt _ o ⟨b, 2, none⟩ (World.block_lt_of_cell? _ _ (st4_2 z x0 x1 x2 x3))).trans (st4_2 z x0 x1 x2 x3)
theorem al4_3 {W : World} {b : Nat} (z : Zx b W) (x0 x1 x2 x3 : Value) (o : Obj) : (((((W.setCell ⟨b, 0, none⟩ x0).setCell ⟨b, 1, none⟩ x1).setCell ⟨b, 2, none⟩ x2).setCell ⟨b, 3, none⟩ x3).alloc o).cell? ⟨b, 3, none⟩ = some x3 :=
 (World.cell?_alloc_lt _ o ⟨b, 3, none⟩ (World.block_lt_of_cell? _ _ (st4_3 z x0 x1 x2 x3))).trans (st4_3 z x0 x1 x2 x3)
theorem Res.list {wb : World} {pb : Nat} {ao : Option Addr} {c : Nat} {l : List Tok} {w W : World} {k' q b N : Nat} (hp : Pa wb pb ao c l k' W) (hw : wb.heap.size ≤ pb) (hk : Kp pb w W) (xs : List Nd) (hx : ∀ x ∈ xs, Xa (b + 1) x.2.1 x.1.args W ∧ (x.2.1 = none → x.2.2 = 0)) (hb : pb < b) (hwb : w.heap.size ≤ b) (hbl : b < W.heap.size) (hN : W.heap.size = N) (op n : Int) (s : List UInt8) (x0 x1 x2 x3 : Value) (t : TypeId) (C : Array Value) (hC : C = (xrow xs).toArray) :
  Res wb pb ao c l w (.ok (.mk op n s (xs.map (·.1))) q (l.drop k')) (.returned (.agg #[.int .i64 op, .int .i64 n, .string (str s), .slice (some ⟨N, 0, none⟩) (xs.map (·.1)).length xs.length])) (((((W.setCell ⟨b, 0, none⟩ x0).setCell ⟨b, 1, none⟩ x1).setCell ⟨b, 2, none⟩ x2).setCell ⟨b, 3, none⟩ x3).alloc (.cells C t)) := by
 subst hC
 subst hN
 have hbl2 : Below b W ((((W.setCell ⟨b, 0, none⟩ x0).setCell ⟨b, 1, none⟩ x1).setCell ⟨b, 2, none⟩ x2).setCell ⟨b, 3, none⟩ x3) :=
  ((((Below.refl b W).setCell (p := ⟨b, 0, none⟩) (Nat.le_refl _) _).setCell (p := ⟨b, 1, none⟩) (Nat.le_refl _) _).setCell (p := ⟨b, 2, none⟩) (Nat.le_refl _) _).setCell (p := ⟨b, 3, none⟩) (Nat.le_refl _) _
 have hx2 : ∀ x ∈ xs, Xa (b + 1) x.2.1 x.1.args ((((W.setCell ⟨b, 0, none⟩ x0).setCell ⟨b, 1, none⟩ x1).setCell ⟨b, 2, none⟩ x2).setCell ⟨b, 3, none⟩ x3) ∧ (x.2.1 = none → x.2.2 = 0) :=
  fun x h => ⟨((((hx x h).1.set (by omega) 0 x0).set (by omega) 1 x1).set (by omega) 2 x2).set (by omega) 3 x3, (hx x h).2⟩
 have hsz : ((((W.setCell ⟨b, 0, none⟩ x0).setCell ⟨b, 1, none⟩ x1).setCell ⟨b, 2, none⟩ x2).setCell ⟨b, 3, none⟩ x3).heap.size = W.heap.size := by simp [World.setCell]
 generalize hW1 : (((W.setCell ⟨b, 0, none⟩ x0).setCell ⟨b, 1, none⟩ x1).setCell ⟨b, 2, none⟩ x2).setCell ⟨b, 3, none⟩ x3 = W1 at hbl2 hx2 hsz
 have hn := Xa.new xs hx2 (by omega) t
 rw [hsz] at hn
 have hal := bal (bref W1) (.cells (xrow xs).toArray t)
 exact ⟨k', _, _, rfl, rfl, (hp.low hbl2 hb hw).keep hal, (hk.low hbl2 hwb).trans (Kp.of_below hal), hn.mono (by omega), fun h => by cases h⟩
set_option maxRecDepth 100000 in
set_option maxHeartbeats 4000000 in
theorem qchoice (wb : World) (pb : Nat) (ao : Option Addr) (c : Nat) (l : List Tok) (g : Hid (Ga wb pb ao c l)) (n : Nat) (ce : Hid (CE wb pb ao c l n)) (k0 : Nat) (w0 : World) (o : Out) (h : Pa wb pb ao c l k0 w0)
  (ho0 : ((ex n 0 (l.drop k0)).bind (Out.thn fun a _ m => must 5 wThen m fun m => (ex n 0 m).bind (Out.thn fun b _ m => must 5 wElse m fun m => (ex n 0 m).bind (Out.thn fun c _ m => some (.ok (.mk 19 0 [] [a, b, c]) 0 m))))) = some o) :
  Calls Tryz.prog 72 #[.pointer (some ⟨pb, 0, none⟩)] w0 fun e w' => Res wb pb ao c l w0 o e w' := by
 have ho := ho0
 clear ho0
 have HPW := Lib.hid h.lt
 have H0 := Lib.hid (h.keep (bal (bref w0) (.cells #[.int .i64 0, .int .i64 0, .string ⟨#[]⟩, .slice none 0 0] 27)))
 have K0 := Lib.hid (Kp.of_below (pb := pb) (bal (bref w0) (.cells #[.int .i64 0, .int .i64 0, .string ⟨#[]⟩, .slice none 0 0] 27)))
 have Z0 := Lib.hid (Zx.new w0)
 clear h
 go_enter Tryz.func72, Tryz.ntmps72
 rcases bind_cases ho with ⟨a, qa, ma, ha, ho⟩ | ⟨ma, ha, rfl⟩
 rotate_left
 ·have EX := Lib.hid (fun W h => ce.out 0 k0 W _ (by omega) h ha)
  go_wp2_with fail
  refine (EX.out _ H0.out).mono ?_
  rintro r v ⟨k', hk', rfl, rfl, kv⟩
  exact ⟨rfl, ⟨_, hk', rfl, rfl, K0.out.trans kv⟩⟩
 have EX := Lib.hid (fun W h => ce.out 0 k0 W _ (by omega) h ha)
 go_wp2_with fail
 refine (EX.out _ H0.out).mono ?_
 rintro r u1 ⟨k1, soa, capa, rfl, rfl, hp, kv, xa, hca⟩
 unfold vx
 have H1 := Lib.hid (hp.keep (bx_below u1 a soa capa))
 have K1 := Lib.hid ((K0.out.trans kv).trans (Kp.of_below (bx_below u1 a soa capa)))
 have Va1 := Lib.hid (bx_vx u1 a soa capa)
 have Xa1 := Lib.hid ((xa.mono Z0.out.lt).below (bx_below u1 a soa capa))
 have HPB_a := Lib.hid hp.lt
 have HCa := Lib.hid hca
 have Z1 := Lib.hid ((Z0.out.kp kv (Nat.ne_of_gt HPW.out)).below (bx_below u1 a soa capa))
 clear EX hp kv xa hca ha
 cases hB : isT 5 wThen (l.drop k1) with
 | false =>
  rw [must_no hB] at ho
  injection ho with ho
  subst ho
  have RQ := Lib.hid (fun W h => mrequires wb pb ao c l g.out k1 W h 5 (by decide) wThen false hB)
  simp only [Bool.false_eq_true, if_false] at RQ
  go_wp2_with fail
  refine (RQ.out _ H1.out).mono ?_
  rintro r v ⟨rfl, kv⟩
  exact ⟨rfl, ⟨_, H1.out.le, rfl, rfl, K1.out.trans kv⟩⟩
 | true =>
  rw [must_yes hB, tl] at ho
  have RQ := Lib.hid (fun W h => mrequires wb pb ao c l g.out k1 W h 5 (by decide) wThen true hB)
  simp only [if_true] at RQ
  go_wp2_with fail
  refine (RQ.out _ H1.out).mono ?_
  rintro r w2 ⟨⟨rfl, h2⟩, kv⟩
  obtain ⟨k2, hk2⟩ : ∃ q, k1 + 1 = q := ⟨_, rfl⟩
  rw [hk2] at h2 ho
  have H2 := Lib.hid h2
  have K2 := Lib.hid (K1.out.trans kv)
  have Va2 := Lib.hid (Va1.out.kp kv HPB_a.out)
  have Xa2 := Lib.hid (Xa1.out.kp kv (Nat.lt_succ_of_lt HPW.out))
  have Z2 := Lib.hid ((Z1.out.kp kv (Nat.ne_of_gt HPW.out)))
  clear RQ h2 kv hB hk2
  rcases bind_cases ho with ⟨b, qb, mb, hb, ho⟩ | ⟨mb, hb, rfl⟩
  rotate_left
  ·have EX := Lib.hid (fun W h => ce.out 0 k2 W _ (by omega) h hb)
   go_wp2_with fail
   refine (EX.out _ H2.out).mono ?_
   rintro r v ⟨k', hk', rfl, rfl, kv⟩
   exact ⟨rfl, ⟨_, hk', rfl, rfl, K2.out.trans kv⟩⟩
  have EX := Lib.hid (fun W h => ce.out 0 k2 W _ (by omega) h hb)
  go_wp2_with fail
  refine (EX.out _ H2.out).mono ?_
  rintro r u3 ⟨k3, sob, capb, rfl, rfl, hp, kv, xa, hcb⟩
  unfold vx
  have H3 := Lib.hid (hp.keep (bx_below u3 b sob capb))
  have K3 := Lib.hid ((K2.out.trans kv).trans (Kp.of_below (bx_below u3 b sob capb)))
  have Vb3 := Lib.hid (bx_vx u3 b sob capb)
  have Xb3 := Lib.hid ((xa.mono Z2.out.lt).below (bx_below u3 b sob capb))
  have HPB_b := Lib.hid hp.lt
  have HCb := Lib.hid hcb
  have Z3 := Lib.hid ((Z2.out.kp kv (Nat.ne_of_gt HPW.out)).below (bx_below u3 b sob capb))
  have Va3 := Lib.hid ((Va2.out.kp kv HPB_a.out).below (bx_below u3 b sob capb))
  have Xa3 := Lib.hid ((Xa2.out.kp kv (Nat.lt_succ_of_lt HPW.out)).below (bx_below u3 b sob capb))
  clear EX hp kv xa hcb hb
  cases hB : isT 5 wElse (l.drop k3) with
  | false =>
   rw [must_no hB] at ho
   injection ho with ho
   subst ho
   have RQ := Lib.hid (fun W h => mrequires wb pb ao c l g.out k3 W h 5 (by decide) wElse false hB)
   simp only [Bool.false_eq_true, if_false] at RQ
   go_wp2_with fail
   refine (RQ.out _ H3.out).mono ?_
   rintro r v ⟨rfl, kv⟩
   exact ⟨rfl, ⟨_, H3.out.le, rfl, rfl, K3.out.trans kv⟩⟩
  | true =>
   rw [must_yes hB, tl] at ho
   have RQ := Lib.hid (fun W h => mrequires wb pb ao c l g.out k3 W h 5 (by decide) wElse true hB)
   simp only [if_true] at RQ
   go_wp2_with fail
   refine (RQ.out _ H3.out).mono ?_
   rintro r w4 ⟨⟨rfl, h4⟩, kv⟩
   obtain ⟨k4, hk4⟩ : ∃ q, k3 + 1 = q := ⟨_, rfl⟩
   rw [hk4] at h4 ho
   have H4 := Lib.hid h4
   have K4 := Lib.hid (K3.out.trans kv)
   have Va4 := Lib.hid (Va3.out.kp kv HPB_a.out)
   have Xa4 := Lib.hid (Xa3.out.kp kv (Nat.lt_succ_of_lt HPW.out))
   have Vb4 := Lib.hid (Vb3.out.kp kv HPB_b.out)
   have Xb4 := Lib.hid (Xb3.out.kp kv (Nat.lt_succ_of_lt HPW.out))
   have Z4 := Lib.hid ((Z3.out.kp kv (Nat.ne_of_gt HPW.out)))
   clear RQ h4 kv hB hk4
   rcases bind_cases ho with ⟨d, qd, md, hd, ho⟩ | ⟨md, hd, rfl⟩
   rotate_left
   ·have EX := Lib.hid (fun W h => ce.out 0 k4 W _ (by omega) h hd)
    go_wp2_with fail
    refine (EX.out _ H4.out).mono ?_
    rintro r v ⟨k', hk', rfl, rfl, kv⟩
    exact ⟨rfl, ⟨_, hk', rfl, rfl, K4.out.trans kv⟩⟩
   have EX := Lib.hid (fun W h => ce.out 0 k4 W _ (by omega) h hd)
   go_wp2_with fail
   refine (EX.out _ H4.out).mono ?_
   rintro r u5 ⟨k5, sod, capd, rfl, rfl, hp, kv, xa, hcd⟩
   unfold vx
   have H5 := Lib.hid (hp.keep (bx_below u5 d sod capd))
   have K5 := Lib.hid ((K4.out.trans kv).trans (Kp.of_below (bx_below u5 d sod capd)))
   have Vd5 := Lib.hid (bx_vx u5 d sod capd)
   have Xd5 := Lib.hid ((xa.mono Z4.out.lt).below (bx_below u5 d sod capd))
   have HPB_d := Lib.hid hp.lt
   have HCd := Lib.hid hcd
   have Z5 := Lib.hid ((Z4.out.kp kv (Nat.ne_of_gt HPW.out)).below (bx_below u5 d sod capd))
   have Va5 := Lib.hid ((Va4.out.kp kv HPB_a.out).below (bx_below u5 d sod capd))
   have Xa5 := Lib.hid ((Xa4.out.kp kv (Nat.lt_succ_of_lt HPW.out)).below (bx_below u5 d sod capd))
   have Vb5 := Lib.hid ((Vb4.out.kp kv HPB_b.out).below (bx_below u5 d sod capd))
   have Xb5 := Lib.hid ((Xb4.out.kp kv (Nat.lt_succ_of_lt HPW.out)).below (bx_below u5 d sod capd))
   clear EX hp kv xa hcd hd
   obtain ⟨a0, a1, a2, a3, af⟩ := Va5.out
   unfold bx at a0 a1 a2 a3 af
   obtain ⟨b0, b1, b2, b3, bf⟩ := Vb5.out
   unfold bx at b0 b1 b2 b3 bf
   obtain ⟨d0, d1, d2, d3, df⟩ := Vd5.out
   unfold bx at d0 d1 d2 d3 df
   obtain ⟨z0, z1, z2, z3, fz⟩ := Z5.out
   unfold bx at z0 z1 z2 z3 fz
   have zl := Z5.out.lt
   unfold bx at zl
   simp at zl
   have zn : w0.heap.size ≠ u5.heap.size + 1 := by omega
   go_wp2_with fail
   refine bodyPost_ret (res_expr rfl _ _ _ rfl _ _ _ _ (al4_0 Z5.out _ _ _ _ _) (al4_1 Z5.out _ _ _ _ _) (al4_2 Z5.out _ _ _ _ _) (al4_3 Z5.out _ _ _ _ _)) rfl ?_
   injection ho with ho
   subst ho
   exact Res.list (N := u5.heap.size + 1) H5.out g.out.up K5.out [(a, soa, capa), (b, sob, capb), (d, sod, capd)] (by
    intro x hx
    simp only [List.mem_cons, List.not_mem_nil, or_false] at hx
    rcases hx with rfl | rfl | rfl
    ·exact ⟨Xa5.out, HCa.out⟩
    ·exact ⟨Xb5.out, HCb.out⟩
    ·exact ⟨Xd5.out, HCd.out⟩) HPW.out (Nat.le_refl _) Z5.out.lt (by simp [bx]) 19 0 [] _ _ _ _ _ _ rfl
set_option maxRecDepth 100000 in
set_option maxHeartbeats 4000000 in
theorem qprimary (wb : World) (pb : Nat) (ao : Option Addr) (c : Nat) (l : List Tok) (g : Hid (Ga wb pb ao c l)) (n : Nat) (ce : Hid (CE wb pb ao c l n)) (cq : Hid (CQ wb pb ao c l n)) : CP wb pb ao c l (n + 1) := by
 intro k0 w0 o h ho0
 have ho := ho0
 clear ho0
 rw [EM.pr] at ho
 have HPW := Lib.hid h.lt
 have H0 := Lib.hid (h.keep (bal (bref w0) (.cells #[.int .i64 0, .int .i64 0, .string ⟨#[]⟩, .slice none 0 0] 27)))
 have K0 := Lib.hid (Kp.of_below (pb := pb) (bal (bref w0) (.cells #[.int .i64 0, .int .i64 0, .string ⟨#[]⟩, .slice none 0 0] 27)))
 have Z0 := Lib.hid (Zx.new w0)
 clear h
 go_enter Tryz.func73, Tryz.ntmps73
 cases hB1 : isT 4 [40] (l.drop k0) with
 | true =>
  rw [if_pos hB1, tl] at ho
  have AC := Lib.hid (fun W h => maccepts wb pb ao c l g.out k0 W h 4 (by decide) [40] true hB1)
  simp only [if_true] at AC
  go_wp2_with fail
  refine (AC.out _ H0.out).mono ?_
  rintro r w1 ⟨rfl, h1, kv⟩
  obtain ⟨k1, hk1⟩ : ∃ q, k0 + 1 = q := ⟨_, rfl⟩
  rw [hk1] at h1 ho
  have H1 := Lib.hid h1
  have K1 := Lib.hid (K0.out.trans kv)
  have Z1 := Lib.hid ((Z0.out.kp kv (Nat.ne_of_gt HPW.out)))
  clear AC h1 kv hB1 hk1
  rcases bind_cases ho with ⟨a, qa, ma, ha, ho⟩ | ⟨ma, ha, rfl⟩
  rotate_left
  ·have EX := Lib.hid (fun W h => ce.out 0 k1 W _ (by omega) h ha)
   go_wp2_with fail
   refine (EX.out _ H1.out).mono ?_
   rintro r v ⟨k', hk', rfl, rfl, kv⟩
   exact ⟨rfl, ⟨_, hk', rfl, rfl, K1.out.trans kv⟩⟩
  have EX := Lib.hid (fun W h => ce.out 0 k1 W _ (by omega) h ha)
  go_wp2_with fail
  refine (EX.out _ H1.out).mono ?_
  rintro r u2 ⟨k2, soa, capa, rfl, rfl, hp, kv, xa, hca⟩
  unfold vx
  have H2 := Lib.hid (hp.keep (bx_below u2 a soa capa))
  have K2 := Lib.hid ((K1.out.trans kv).trans (Kp.of_below (bx_below u2 a soa capa)))
  have Va2 := Lib.hid (bx_vx u2 a soa capa)
  have Xa2 := Lib.hid ((xa.mono Z1.out.lt).below (bx_below u2 a soa capa))
  have HPB_a := Lib.hid hp.lt
  have HCa := Lib.hid hca
  have Z2 := Lib.hid ((Z1.out.kp kv (Nat.ne_of_gt HPW.out)).below (bx_below u2 a soa capa))
  clear EX hp kv xa hca ha
  cases hB : isT 4 [41] (l.drop k2) with
  | false =>
   rw [must_no hB] at ho
   injection ho with ho
   subst ho
   have RQ := Lib.hid (fun W h => mrequires wb pb ao c l g.out k2 W h 4 (by decide) [41] false hB)
   simp only [Bool.false_eq_true, if_false] at RQ
   go_wp2_with fail
   refine (RQ.out _ H2.out).mono ?_
   rintro r v ⟨rfl, kv⟩
   exact ⟨rfl, ⟨_, H2.out.le, rfl, rfl, K2.out.trans kv⟩⟩
  | true =>
   rw [must_yes hB, tl] at ho
   have RQ := Lib.hid (fun W h => mrequires wb pb ao c l g.out k2 W h 4 (by decide) [41] true hB)
   simp only [if_true] at RQ
   go_wp2_with fail
   refine (RQ.out _ H2.out).mono ?_
   rintro r w3 ⟨⟨rfl, h3⟩, kv⟩
   obtain ⟨k3, hk3⟩ : ∃ q, k2 + 1 = q := ⟨_, rfl⟩
   rw [hk3] at h3 ho
   have H3 := Lib.hid h3
   have K3 := Lib.hid (K2.out.trans kv)
   have Va3 := Lib.hid (Va2.out.kp kv HPB_a.out)
   have Xa3 := Lib.hid (Xa2.out.kp kv (Nat.lt_succ_of_lt HPW.out))
   have Z3 := Lib.hid ((Z2.out.kp kv (Nat.ne_of_gt HPW.out)))
   clear RQ h3 kv hB hk3
   obtain ⟨a0, a1, a2, a3, af⟩ := Va3.out
   obtain ⟨z0, z1, z2, z3, fz⟩ := Z3.out
   go_wp2_with fail
   refine bodyPost_ret (res_expr rfl _ _ _ rfl _ _ _ _ (st4_0 Z3.out _ _ _ _) (st4_1 Z3.out _ _ _ _) (st4_2 Z3.out _ _ _ _) (st4_3 Z3.out _ _ _ _)) rfl ?_
   injection ho with ho
   subst ho
   exact Res.box (e := a) H3.out g.out.up K3.out Xa3.out HCa.out HPW.out (Nat.le_refl _) _ _ _ _
 | false =>
  rw [if_neg (by rw [hB1]; decide)] at ho
  have AC := Lib.hid (fun W h => maccepts wb pb ao c l g.out k0 W h 4 (by decide) [40] false hB1)
  simp only [Bool.false_eq_true, if_false] at AC
  go_wp2_with fail
  refine (AC.out _ H0.out).mono ?_
  rintro r w1 ⟨rfl, h1, kv⟩
  obtain ⟨k1, hk1⟩ : ∃ q, q = k0 := ⟨_, rfl⟩
  subst hk1
  have H1 := Lib.hid h1
  have K1 := Lib.hid (K0.out.trans kv)
  have Z1 := Lib.hid ((Z0.out.kp kv (Nat.ne_of_gt HPW.out)))
  clear AC h1 kv hB1
  cases hB2 : isT 4 [36] (l.drop k1) with
  | true =>
   rw [if_pos hB2, tl] at ho
   have AC := Lib.hid (fun W h => maccepts wb pb ao c l g.out k1 W h 4 (by decide) [36] true hB2)
   simp only [if_true] at AC
   go_wp2_with fail
   refine (AC.out _ H1.out).mono ?_
   rintro r w2 ⟨rfl, h2, kv⟩
   obtain ⟨k2, hk2⟩ : ∃ q, k1 + 1 = q := ⟨_, rfl⟩
   rw [hk2] at h2 ho
   have H2 := Lib.hid h2
   have K2 := Lib.hid (K1.out.trans kv)
   have Z2 := Lib.hid ((Z1.out.kp kv (Nat.ne_of_gt HPW.out)))
   clear AC h2 kv hB2 hk2
   rw [numb_T] at ho
   injection ho with ho
   have NU := Lib.hid (fun W h => qnumber wb pb ao c l g.out k2 W h _ rfl)
   by_cases h5 : (l.getD k2 T0).1 = 2 ∧ nOk (l.getD k2 T0).2.2 = true
   ·have hB : (decide ((l.getD k2 T0).1 = 2) && nOk (l.getD k2 T0).2.2) = true := by rw [decide_eq_true h5.1, h5.2]; rfl
    rw [if_pos h5] at ho
    subst ho
    simp only [hB, if_true] at NU
    clear hB h5
    go_wp2_with fail
    refine (NU.out _ H2.out).mono ?_
    rintro r v ⟨⟨rfl, h2⟩, kv⟩
    have HV := Lib.hid h2
    have KV := Lib.hid (K2.out.trans kv)
    have Z99 := Lib.hid (Z2.out.kp kv (Nat.ne_of_gt HPW.out))
    clear h2 kv
    obtain ⟨z0, z1, z2, z3, fz⟩ := Z99.out
    go_wp2_with fail
    refine bodyPost_ret (res_expr rfl _ _ _ rfl _ _ _ _ (st4_0 Z99.out _ _ _ _) (st4_1 Z99.out _ _ _ _) (st4_2 Z99.out _ _ _ _) (st4_3 Z99.out _ _ _ _)) rfl ?_
    exact Res.box (e := .mk 2 (nV (l.getD k2 T0).2.2) [] []) HV.out g.out.up KV.out (Xa.nil _ _ _) (fun _ => rfl) HPW.out (Nat.le_refl _) _ _ _ _
   ·have hB : (decide ((l.getD k2 T0).1 = 2) && nOk (l.getD k2 T0).2.2) = false := by
     rw [Bool.and_eq_false_iff]
     by_cases h6 : (l.getD k2 T0).1 = 2
     ·right
      cases hq : nOk (l.getD k2 T0).2.2 with
      | false => rfl
      | true => exact absurd ⟨h6, hq⟩ h5
     ·left; exact decide_eq_false h6
    rw [if_neg h5] at ho
    subst ho
    simp only [hB, Bool.false_eq_true, if_false] at NU
    clear hB h5
    go_wp2_with fail
    refine (NU.out _ H2.out).mono ?_
    rintro r v ⟨rfl, kv⟩
    exact ⟨rfl, Res.bad H2.out.le (K2.out.trans kv)⟩
  | false =>
   rw [if_neg (by rw [hB2]; decide)] at ho
   have AC := Lib.hid (fun W h => maccepts wb pb ao c l g.out k1 W h 4 (by decide) [36] false hB2)
   simp only [Bool.false_eq_true, if_false] at AC
   go_wp2_with fail
   refine (AC.out _ H1.out).mono ?_
   rintro r w2 ⟨rfl, h2, kv⟩
   obtain ⟨k2, hk2⟩ : ∃ q, q = k1 := ⟨_, rfl⟩
   subst hk2
   have H2 := Lib.hid h2
   have K2 := Lib.hid (K1.out.trans kv)
   have Z2 := Lib.hid ((Z1.out.kp kv (Nat.ne_of_gt HPW.out)))
   clear AC h2 kv hB2
   cases hB3 : isT 5 wMin (l.drop k2) with
   | true =>
    rw [if_pos hB3, tl] at ho
    have AC := Lib.hid (fun W h => mbegins wb pb ao c l g.out k2 W h 17 (by omega) (by decide) true hB3)
    simp only [if_true] at AC
    go_wp2_with fail
    refine (AC.out _ H2.out).mono ?_
    rintro r w3 ⟨rfl, h3, kv⟩
    obtain ⟨k3, hk3⟩ : ∃ q, k2 + 1 = q := ⟨_, rfl⟩
    rw [hk3] at h3 ho
    have H3 := Lib.hid h3
    have K3 := Lib.hid (K2.out.trans kv)
    have Z3 := Lib.hid ((Z2.out.kp kv (Nat.ne_of_gt HPW.out)))
    clear AC h3 kv hB3 hk3
    have PQ := Lib.hid (fun W h => cq.out 17 k3 W o h ho)
    go_wp2_with fail
    refine (PQ.out _ H3.out).mono ?_
    rintro r v hr
    cases o with
    | bad m =>
     obtain ⟨k', hk', rfl, rfl, kv⟩ := hr
     exact ⟨rfl, Res.bad hk' (K3.out.trans kv)⟩
    | ok e q m =>
     obtain ⟨k', so, cap, a, b, rfl, rfl, rfl, hp, kv, xa, hc⟩ := hr
     have HV := Lib.hid hp
     have KV := Lib.hid (K3.out.trans kv)
     have Z99 := Lib.hid (Z3.out.kp kv (Nat.ne_of_gt HPW.out))
     have XV := Lib.hid (xa.mono Z3.out.lt)
     have HC := Lib.hid hc
     clear hp kv xa hc PQ
     obtain ⟨z0, z1, z2, z3, fz⟩ := Z99.out
     go_wp2_with fail
     refine bodyPost_ret (res_expr rfl _ _ _ rfl _ _ _ _ (st4_0 Z99.out _ _ _ _) (st4_1 Z99.out _ _ _ _) (st4_2 Z99.out _ _ _ _) (st4_3 Z99.out _ _ _ _)) rfl ?_
     exact Res.box (e := .mk 17 0 [] [a, b]) HV.out g.out.up KV.out XV.out HC.out HPW.out (Nat.le_refl _) _ _ _ _
   | false =>
    rw [if_neg (by rw [hB3]; decide)] at ho
    have AC := Lib.hid (fun W h => mbegins wb pb ao c l g.out k2 W h 17 (by omega) (by decide) false hB3)
    simp only [Bool.false_eq_true, if_false] at AC
    go_wp2_with fail
    refine (AC.out _ H2.out).mono ?_
    rintro r w3 ⟨rfl, h3, kv⟩
    obtain ⟨k3, hk3⟩ : ∃ q, q = k2 := ⟨_, rfl⟩
    subst hk3
    have H3 := Lib.hid h3
    have K3 := Lib.hid (K2.out.trans kv)
    have Z3 := Lib.hid ((Z2.out.kp kv (Nat.ne_of_gt HPW.out)))
    clear AC h3 kv hB3
    cases hB4 : isT 5 wMax (l.drop k3) with
    | true =>
     rw [if_pos hB4, tl] at ho
     have AC := Lib.hid (fun W h => mbegins wb pb ao c l g.out k3 W h 18 (by omega) (by decide) true hB4)
     simp only [if_true] at AC
     go_wp2_with fail
     refine (AC.out _ H3.out).mono ?_
     rintro r w4 ⟨rfl, h4, kv⟩
     obtain ⟨k4, hk4⟩ : ∃ q, k3 + 1 = q := ⟨_, rfl⟩
     rw [hk4] at h4 ho
     have H4 := Lib.hid h4
     have K4 := Lib.hid (K3.out.trans kv)
     have Z4 := Lib.hid ((Z3.out.kp kv (Nat.ne_of_gt HPW.out)))
     clear AC h4 kv hB4 hk4
     have PQ := Lib.hid (fun W h => cq.out 18 k4 W o h ho)
     go_wp2_with fail
     refine (PQ.out _ H4.out).mono ?_
     rintro r v hr
     cases o with
     | bad m =>
      obtain ⟨k', hk', rfl, rfl, kv⟩ := hr
      exact ⟨rfl, Res.bad hk' (K4.out.trans kv)⟩
     | ok e q m =>
      obtain ⟨k', so, cap, a, b, rfl, rfl, rfl, hp, kv, xa, hc⟩ := hr
      have HV := Lib.hid hp
      have KV := Lib.hid (K4.out.trans kv)
      have Z99 := Lib.hid (Z4.out.kp kv (Nat.ne_of_gt HPW.out))
      have XV := Lib.hid (xa.mono Z4.out.lt)
      have HC := Lib.hid hc
      clear hp kv xa hc PQ
      obtain ⟨z0, z1, z2, z3, fz⟩ := Z99.out
      go_wp2_with fail
      refine bodyPost_ret (res_expr rfl _ _ _ rfl _ _ _ _ (st4_0 Z99.out _ _ _ _) (st4_1 Z99.out _ _ _ _) (st4_2 Z99.out _ _ _ _) (st4_3 Z99.out _ _ _ _)) rfl ?_
      exact Res.box (e := .mk 18 0 [] [a, b]) HV.out g.out.up KV.out XV.out HC.out HPW.out (Nat.le_refl _) _ _ _ _
    | false =>
     rw [if_neg (by rw [hB4]; decide)] at ho
     have AC := Lib.hid (fun W h => mbegins wb pb ao c l g.out k3 W h 18 (by omega) (by decide) false hB4)
     simp only [Bool.false_eq_true, if_false] at AC
     go_wp2_with fail
     refine (AC.out _ H3.out).mono ?_
     rintro r w4 ⟨rfl, h4, kv⟩
     obtain ⟨k4, hk4⟩ : ∃ q, q = k3 := ⟨_, rfl⟩
     subst hk4
     have H4 := Lib.hid h4
     have K4 := Lib.hid (K3.out.trans kv)
     have Z4 := Lib.hid ((Z3.out.kp kv (Nat.ne_of_gt HPW.out)))
     clear AC h4 kv hB4
     rw [single_T] at ho
     injection ho with ho
     subst ho
     have SG := Lib.hid (fun W h => qsingle wb pb ao c l g.out k4 W h)
     obtain ⟨o, ho⟩ : ∃ o, sgO (l.getD k4 T0) l k4 = o := ⟨_, rfl⟩
     rw [ho] at SG
     go_wp2_with fail
     refine (SG.out _ H4.out).mono ?_
     rintro r v hr
     cases o with
     | bad m =>
      obtain ⟨k', hk', hm, rfl, kv⟩ := hr
      exact ⟨rfl, by rw [ho, hm]; exact Res.bad hk' (K4.out.trans kv)⟩
     | ok e q m =>
      obtain ⟨k', so, cap, hm, rfl, hp, kv, xa, hc⟩ := hr
      have HV := Lib.hid hp
      have KV := Lib.hid (K4.out.trans kv)
      have Z99 := Lib.hid (Z4.out.kp kv (Nat.ne_of_gt HPW.out))
      have XV := Lib.hid (xa.mono Z4.out.lt)
      have HC := Lib.hid hc
      have HO := Lib.hid ho
      have HM := Lib.hid hm
      clear hp kv xa hc SG ho hm
      unfold vx
      obtain ⟨z0, z1, z2, z3, fz⟩ := Z99.out
      go_wp2_with fail
      refine bodyPost_ret (res_expr rfl _ _ _ rfl _ _ _ _ (st4_0 Z99.out _ _ _ _) (st4_1 Z99.out _ _ _ _) (st4_2 Z99.out _ _ _ _) (st4_3 Z99.out _ _ _ _)) rfl ?_
      rw [HO.out, HM.out]
      exact Res.box (e := e) HV.out g.out.up KV.out XV.out HC.out HPW.out (Nat.le_refl _) _ _ _ _
end Go.Proofs.YtplkphihmfhciaaGreatDoor
