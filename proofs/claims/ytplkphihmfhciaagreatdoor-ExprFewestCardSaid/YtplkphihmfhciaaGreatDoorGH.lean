/-
  The parser: first.
-/
import Derived.Test.YtplkphihmfhciaaGreatDoorGG
namespace Go.Proofs.YtplkphihmfhciaaGreatDoor
open Go Go.RowKit Go.Lib Go.Shelf WM TM EM

theorem res_expr2 {fn : Func} {p u : Tmp} (h : fn.results = #[.cell p 27, .tmp u]) (tmps : Array Value) (w : World) (b : Nat) (hp : tmps.getD p undef = .pointer (some ⟨b, 0, none⟩)) (y : Value) (hu : tmps.getD u undef = y) (x0 x1 x2 x3 : Value) (h0 : w.cell? ⟨b, 0, none⟩ = some x0) (h1 : w.cell? ⟨b, 1, none⟩ = some x1) (h2 : w.cell? ⟨b, 2, none⟩ = some x2) (h3 : w.cell? ⟨b, 3, none⟩ = some x3) :
  (results fn tmps).run Tryz.prog w = .ok (.tuple #[.agg #[x0, x1, x2, x3], y]) w := by
 rw [Array.getD_eq_getD_getElem?] at hp hu
 simp [results, h, hp, hu, go_sem, h0, h1, h2, h3]
theorem Res.tup {wb : World} {pb : Nat} {ao : Option Addr} {c : Nat} {l : List Tok} {w w' : World} {e : Ex} {q : Nat} {m : List Tok} {v : Value} (h : Res wb pb ao c l w (.ok e q m) (.returned v) w') : ResF wb pb ao c l w (.ok e q m) (.returned (.tuple #[v, .int .i64 ((q : Int) + 1)])) w' := by
 obtain ⟨k', so, cap, hm, hr, h1, h2, h3, h4⟩ := h
 injection hr with hr
 subst hr
 exact ⟨k', so, cap, hm, rfl, h1, h2, h3, h4⟩
theorem ResF.bad {wb : World} {pb : Nat} {ao : Option Addr} {c : Nat} {l : List Tok} {w w' : World} {k : Nat} (hk : k ≤ l.length) (h : Kp pb w w') : ResF wb pb ao c l w (.bad (l.drop k)) (Wr k) w' := ⟨k, hk, rfl, rfl, h⟩
theorem choice_rank {n : Nat} {m0 : List Tok} {e : Ex} {q : Nat} {m1 : List Tok} (h : ((ex n 0 m0).bind (Out.thn fun a _ m => must 5 wThen m fun m => (ex n 0 m).bind (Out.thn fun b _ m => must 5 wElse m fun m => (ex n 0 m).bind (Out.thn fun c _ m => some (.ok (.mk 19 0 [] [a, b, c]) 0 m))))) = some (.ok e q m1)) : q = 0 := by
 obtain ⟨a, _, m2, _, h⟩ := bind_ok h
 obtain ⟨_, h⟩ := must_ok h
 obtain ⟨b, _, m3, _, h⟩ := bind_ok h
 obtain ⟨_, h⟩ := must_ok h
 obtain ⟨c, _, m4, _, h⟩ := bind_ok h
 injection h with h
 injection h with _ h _
 exact h.symm
set_option maxRecDepth 100000 in
set_option maxHeartbeats 4000000 in
theorem qfirst (wb : World) (pb : Nat) (ao : Option Addr) (c : Nat) (l : List Tok) (g : Hid (Ga wb pb ao c l)) (n : Nat) (ce : Hid (CE wb pb ao c l n)) (cp : Hid (CP wb pb ao c l n)) : CF wb pb ao c l (n + 1) := by
 intro r k0 w0 o hr7 h ho0
 have ho := ho0
 clear ho0
 rw [fi] at ho
 obtain ⟨R, hR⟩ : ∃ R : Int, (r : Int) + 1 = R := ⟨_, rfl⟩
 rw [hR]
 have HPW := Lib.hid h.lt
 have H0 := Lib.hid (h.keep (bal (bref w0) (.cells #[.int .i64 0, .int .i64 0, .string ⟨#[]⟩, .slice none 0 0] 27)))
 have K0 := Lib.hid (Kp.of_below (pb := pb) (bal (bref w0) (.cells #[.int .i64 0, .int .i64 0, .string ⟨#[]⟩, .slice none 0 0] 27)))
 have Z0 := Lib.hid (Zx.new w0)
 clear h
 by_cases h0 : r = 0
 ·have HR3 : Hid (r ≤ 3) := Lib.hid (by omega)
  have r1 : R ≤ 1 := by omega
  have r4 : R ≤ 4 := by omega
  clear hR hr7
  cases hB : isT 5 wIf (l.drop k0) with
  | true =>
   rw [if_pos ⟨h0, hB⟩, tl] at ho
   clear h0
   go_enter Tryz.func45, Tryz.ntmps45
   have AC := Lib.hid (fun W h => mbegins wb pb ao c l g.out k0 W h 19 (by omega) (by decide) true hB)
   simp only [if_true] at AC
   go_wp2_with fail
   refine (AC.out _ H0.out).mono ?_
   rintro r w1 ⟨rfl, h1, kv⟩
   obtain ⟨k1, hk1⟩ : ∃ q, k0 + 1 = q := ⟨_, rfl⟩
   rw [hk1] at h1 ho
   have H1 := Lib.hid h1
   have K1 := Lib.hid (K0.out.trans kv)
   have Z1 := Lib.hid ((Z0.out.kp kv (Nat.ne_of_gt HPW.out)))
   clear AC h1 kv hB hk1
   have CC := Lib.hid (fun W h => qchoice wb pb ao c l g n ce k1 W o h ho)
   go_wp2_with fail
   refine (CC.out _ H1.out).mono ?_
   rintro r v hr
   cases o with
   | bad m =>
    obtain ⟨k', hk', rfl, rfl, kv⟩ := hr
    exact ⟨rfl, ResF.bad hk' (K1.out.trans kv)⟩
   | ok e q m =>
    obtain ⟨k', so, cap, rfl, rfl, hp, kv, xa, hc⟩ := hr
    have HV := Lib.hid hp
    have KV := Lib.hid (K1.out.trans kv)
    have Z99 := Lib.hid (Z1.out.kp kv (Nat.ne_of_gt HPW.out))
    have XV := Lib.hid (xa.mono Z1.out.lt)
    have HC := Lib.hid hc
    have HQ := Lib.hid (choice_rank ho)
    clear hp kv xa hc CC
    unfold vx
    obtain ⟨z0, z1, z2, z3, fz⟩ := Z99.out
    go_wp2_with fail
    refine bodyPost_ret (res_expr2 rfl _ _ _ rfl _ rfl _ _ _ _ (st4_0 Z99.out _ _ _ _) (st4_1 Z99.out _ _ _ _) (st4_2 Z99.out _ _ _ _) (st4_3 Z99.out _ _ _ _)) rfl ?_
    have hq := HQ.out
    subst hq
    exact Res.tup (Res.box (e := e) HV.out g.out.up KV.out XV.out HC.out HPW.out (Nat.le_refl _) _ _ _ _)
  | false =>
   rw [if_neg (fun h => by rw [hB] at h; exact absurd h.2 (by decide))] at ho
   clear h0
   go_enter Tryz.func45, Tryz.ntmps45
   have AC := Lib.hid (fun W h => mbegins wb pb ao c l g.out k0 W h 19 (by omega) (by decide) false hB)
   simp only [Bool.false_eq_true, if_false] at AC
   go_wp2_with fail
   refine (AC.out _ H0.out).mono ?_
   rintro r w1 ⟨rfl, h1, kv⟩
   obtain ⟨k1, hk1⟩ : ∃ q, q = k0 := ⟨_, rfl⟩
   subst hk1
   have H1 := Lib.hid h1
   have K1 := Lib.hid (K0.out.trans kv)
   have Z1 := Lib.hid ((Z0.out.kp kv (Nat.ne_of_gt HPW.out)))
   clear AC h1 kv hB
   cases hB2 : isT 5 wNot (l.drop k1) with
   | true =>
    rw [if_pos ⟨HR3.out, hB2⟩, tl] at ho
    have AC := Lib.hid (fun W h => mbegins wb pb ao c l g.out k1 W h 16 (by omega) (by decide) true hB2)
    simp only [if_true] at AC
    go_wp2_with fail
    refine (AC.out _ H1.out).mono ?_
    rintro r w2 ⟨rfl, h2, kv⟩
    obtain ⟨k2, hk2⟩ : ∃ q, k1 + 1 = q := ⟨_, rfl⟩
    rw [hk2] at h2 ho
    have H2 := Lib.hid h2
    have K2 := Lib.hid (K1.out.trans kv)
    have Z2 := Lib.hid ((Z1.out.kp kv (Nat.ne_of_gt HPW.out)))
    clear AC h2 kv hB2 hk2
    rcases bind_cases ho with ⟨a, qa, ma, ha, ho⟩ | ⟨ma, ha, rfl⟩
    rotate_left
    ·have EX := Lib.hid (fun W h => ce.out 3 k2 W _ (by omega) h ha)
     go_wp2_with fail
     refine (EX.out _ H2.out).mono ?_
     rintro r v ⟨k', hk', rfl, rfl, kv⟩
     exact ⟨rfl, ResF.bad hk' (K2.out.trans kv)⟩
    have EX := Lib.hid (fun W h => ce.out 3 k2 W _ (by omega) h ha)
    go_wp2_with fail
    refine (EX.out _ H2.out).mono ?_
    rintro r u3 ⟨k3, soa, capa, rfl, rfl, hp, kv, xa, hca⟩
    unfold vx
    have H3 := Lib.hid hp
    have K3 := Lib.hid (K2.out.trans kv)
    have Z3 := Lib.hid (Z2.out.kp kv (Nat.ne_of_gt HPW.out))
    have Xa3 := Lib.hid (xa.mono Z2.out.lt)
    have HCa := Lib.hid hca
    clear EX hp kv xa hca ha
    obtain ⟨z0, z1, z2, z3, fz⟩ := Z3.out
    have zl := Z3.out.lt
    have zn : w0.heap.size ≠ u3.heap.size := by omega
    go_wp2_with fail
    refine bodyPost_ret (res_expr2 rfl _ _ _ rfl _ rfl _ _ _ _ (al4_0 Z3.out _ _ _ _ _) (al4_1 Z3.out _ _ _ _ _) (al4_2 Z3.out _ _ _ _ _) (al4_3 Z3.out _ _ _ _ _)) rfl ?_
    injection ho with ho
    subst ho
    exact Res.tup (Res.list (q := 3) (N := u3.heap.size) H3.out g.out.up K3.out [(a, soa, capa)] (by
     intro x hx
     simp only [List.mem_cons, List.not_mem_nil, or_false] at hx
     subst hx
     exact ⟨Xa3.out, HCa.out⟩) HPW.out (Nat.le_refl _) Z3.out.lt rfl 16 0 [] _ _ _ _ _ _ rfl)
   | false =>
    rw [if_neg (fun h => by rw [hB2] at h; exact absurd h.2 (by decide))] at ho
    have AC := Lib.hid (fun W h => mbegins wb pb ao c l g.out k1 W h 16 (by omega) (by decide) false hB2)
    simp only [Bool.false_eq_true, if_false] at AC
    go_wp2_with fail
    refine (AC.out _ H1.out).mono ?_
    rintro r w2 ⟨rfl, h2, kv⟩
    obtain ⟨k2, hk2⟩ : ∃ q, q = k1 := ⟨_, rfl⟩
    subst hk2
    have H2 := Lib.hid h2
    have K2 := Lib.hid (K1.out.trans kv)
    have Z2 := Lib.hid ((Z1.out.kp kv (Nat.ne_of_gt HPW.out)))
    clear AC h2 kv hB2
    cases hB3 : isT 4 [45] (l.drop k2) with
    | true =>
     rw [if_pos hB3, tl] at ho
     have AC := Lib.hid (fun W h => mbegins wb pb ao c l g.out k2 W h 9 (by omega) (by decide) true hB3)
     simp only [if_true] at AC
     go_wp2_with fail
     refine (AC.out _ H2.out).mono ?_
     rintro r w3 ⟨rfl, h3, kv⟩
     obtain ⟨k3, hk3⟩ : ∃ q, k2 + 1 = q := ⟨_, rfl⟩
     rw [hk3] at h3 ho
     have H3 := Lib.hid h3
     have K3 := Lib.hid (K2.out.trans kv)
     have Z3 := Lib.hid ((Z2.out.kp kv (Nat.ne_of_gt HPW.out)))
     clear AC h3 kv hB3 hk3
     rcases bind_cases ho with ⟨a, qa, ma, ha, ho⟩ | ⟨ma, ha, rfl⟩
     rotate_left
     ·have EX := Lib.hid (fun W h => ce.out 7 k3 W _ (by omega) h ha)
      go_wp2_with fail
      refine (EX.out _ H3.out).mono ?_
      rintro r v ⟨k', hk', rfl, rfl, kv⟩
      exact ⟨rfl, ResF.bad hk' (K3.out.trans kv)⟩
     have EX := Lib.hid (fun W h => ce.out 7 k3 W _ (by omega) h ha)
     go_wp2_with fail
     refine (EX.out _ H3.out).mono ?_
     rintro r u4 ⟨k4, soa, capa, rfl, rfl, hp, kv, xa, hca⟩
     unfold vx
     have H4 := Lib.hid hp
     have K4 := Lib.hid (K3.out.trans kv)
     have Z4 := Lib.hid (Z3.out.kp kv (Nat.ne_of_gt HPW.out))
     have Xa4 := Lib.hid (xa.mono Z3.out.lt)
     have HCa := Lib.hid hca
     clear EX hp kv xa hca ha
     obtain ⟨z0, z1, z2, z3, fz⟩ := Z4.out
     have zl := Z4.out.lt
     have zn : w0.heap.size ≠ u4.heap.size := by omega
     go_wp2_with fail
     refine bodyPost_ret (res_expr2 rfl _ _ _ rfl _ rfl _ _ _ _ (al4_0 Z4.out _ _ _ _ _) (al4_1 Z4.out _ _ _ _ _) (al4_2 Z4.out _ _ _ _ _) (al4_3 Z4.out _ _ _ _ _)) rfl ?_
     injection ho with ho
     subst ho
     exact Res.tup (Res.list (q := 7) (N := u4.heap.size) H4.out g.out.up K4.out [(a, soa, capa)] (by
      intro x hx
      simp only [List.mem_cons, List.not_mem_nil, or_false] at hx
      subst hx
      exact ⟨Xa4.out, HCa.out⟩) HPW.out (Nat.le_refl _) Z4.out.lt rfl 9 0 [] _ _ _ _ _ _ rfl)
    | false =>
     rw [if_neg (fun h => by rw [hB3] at h; exact absurd h (by decide))] at ho
     have AC := Lib.hid (fun W h => mbegins wb pb ao c l g.out k2 W h 9 (by omega) (by decide) false hB3)
     simp only [Bool.false_eq_true, if_false] at AC
     go_wp2_with fail
     refine (AC.out _ H2.out).mono ?_
     rintro r w3 ⟨rfl, h3, kv⟩
     obtain ⟨k3, hk3⟩ : ∃ q, q = k2 := ⟨_, rfl⟩
     subst hk3
     have H3 := Lib.hid h3
     have K3 := Lib.hid (K2.out.trans kv)
     have Z3 := Lib.hid ((Z2.out.kp kv (Nat.ne_of_gt HPW.out)))
     clear AC h3 kv hB3
     have CC := Lib.hid (fun W h => cp.out k3 W o h ho)
     go_wp2_with fail
     refine (CC.out _ H3.out).mono ?_
     rintro r v hr
     cases o with
     | bad m =>
      obtain ⟨k', hk', rfl, rfl, kv⟩ := hr
      exact ⟨rfl, ResF.bad hk' (K3.out.trans kv)⟩
     | ok e q m =>
      obtain ⟨k', so, cap, rfl, rfl, hp, kv, xa, hc⟩ := hr
      have HV := Lib.hid hp
      have KV := Lib.hid (K3.out.trans kv)
      have Z99 := Lib.hid (Z3.out.kp kv (Nat.ne_of_gt HPW.out))
      have XV := Lib.hid (xa.mono Z3.out.lt)
      have HC := Lib.hid hc
      have HQ := Lib.hid (pr_rank ho)
      clear hp kv xa hc CC
      unfold vx
      obtain ⟨z0, z1, z2, z3, fz⟩ := Z99.out
      go_wp2_with fail
      refine bodyPost_ret (res_expr2 rfl _ _ _ rfl _ rfl _ _ _ _ (st4_0 Z99.out _ _ _ _) (st4_1 Z99.out _ _ _ _) (st4_2 Z99.out _ _ _ _) (st4_3 Z99.out _ _ _ _)) rfl ?_
      have hq := HQ.out
      subst hq
      exact Res.tup (Res.box (e := e) HV.out g.out.up KV.out XV.out HC.out HPW.out (Nat.le_refl _) _ _ _ _)
 ·rw [if_neg (fun h => h0 h.1)] at ho
  have r1 : ¬ R ≤ 1 := by omega
  by_cases h3 : r ≤ 3
  ·have HR3 : Hid (r ≤ 3) := Lib.hid h3
   have r4 : R ≤ 4 := by omega
   clear hR hr7 h0 h3
   go_enter Tryz.func45, Tryz.ntmps45
   cases hB2 : isT 5 wNot (l.drop k0) with
   | true =>
    rw [if_pos ⟨HR3.out, hB2⟩, tl] at ho
    have AC := Lib.hid (fun W h => mbegins wb pb ao c l g.out k0 W h 16 (by omega) (by decide) true hB2)
    simp only [if_true] at AC
    go_wp2_with fail
    refine (AC.out _ H0.out).mono ?_
    rintro r w1 ⟨rfl, h1, kv⟩
    obtain ⟨k1, hk1⟩ : ∃ q, k0 + 1 = q := ⟨_, rfl⟩
    rw [hk1] at h1 ho
    have H1 := Lib.hid h1
    have K1 := Lib.hid (K0.out.trans kv)
    have Z1 := Lib.hid ((Z0.out.kp kv (Nat.ne_of_gt HPW.out)))
    clear AC h1 kv hB2 hk1
    rcases bind_cases ho with ⟨a, qa, ma, ha, ho⟩ | ⟨ma, ha, rfl⟩
    rotate_left
    ·have EX := Lib.hid (fun W h => ce.out 3 k1 W _ (by omega) h ha)
     go_wp2_with fail
     refine (EX.out _ H1.out).mono ?_
     rintro r v ⟨k', hk', rfl, rfl, kv⟩
     exact ⟨rfl, ResF.bad hk' (K1.out.trans kv)⟩
    have EX := Lib.hid (fun W h => ce.out 3 k1 W _ (by omega) h ha)
    go_wp2_with fail
    refine (EX.out _ H1.out).mono ?_
    rintro r u2 ⟨k2, soa, capa, rfl, rfl, hp, kv, xa, hca⟩
    unfold vx
    have H2 := Lib.hid hp
    have K2 := Lib.hid (K1.out.trans kv)
    have Z2 := Lib.hid (Z1.out.kp kv (Nat.ne_of_gt HPW.out))
    have Xa2 := Lib.hid (xa.mono Z1.out.lt)
    have HCa := Lib.hid hca
    clear EX hp kv xa hca ha
    obtain ⟨z0, z1, z2, z3, fz⟩ := Z2.out
    have zl := Z2.out.lt
    have zn : w0.heap.size ≠ u2.heap.size := by omega
    go_wp2_with fail
    refine bodyPost_ret (res_expr2 rfl _ _ _ rfl _ rfl _ _ _ _ (al4_0 Z2.out _ _ _ _ _) (al4_1 Z2.out _ _ _ _ _) (al4_2 Z2.out _ _ _ _ _) (al4_3 Z2.out _ _ _ _ _)) rfl ?_
    injection ho with ho
    subst ho
    exact Res.tup (Res.list (q := 3) (N := u2.heap.size) H2.out g.out.up K2.out [(a, soa, capa)] (by
     intro x hx
     simp only [List.mem_cons, List.not_mem_nil, or_false] at hx
     subst hx
     exact ⟨Xa2.out, HCa.out⟩) HPW.out (Nat.le_refl _) Z2.out.lt rfl 16 0 [] _ _ _ _ _ _ rfl)
   | false =>
    rw [if_neg (fun h => by rw [hB2] at h; exact absurd h.2 (by decide))] at ho
    have AC := Lib.hid (fun W h => mbegins wb pb ao c l g.out k0 W h 16 (by omega) (by decide) false hB2)
    simp only [Bool.false_eq_true, if_false] at AC
    go_wp2_with fail
    refine (AC.out _ H0.out).mono ?_
    rintro r w1 ⟨rfl, h1, kv⟩
    obtain ⟨k1, hk1⟩ : ∃ q, q = k0 := ⟨_, rfl⟩
    subst hk1
    have H1 := Lib.hid h1
    have K1 := Lib.hid (K0.out.trans kv)
    have Z1 := Lib.hid ((Z0.out.kp kv (Nat.ne_of_gt HPW.out)))
    clear AC h1 kv hB2
    cases hB3 : isT 4 [45] (l.drop k1) with
    | true =>
     rw [if_pos hB3, tl] at ho
     have AC := Lib.hid (fun W h => mbegins wb pb ao c l g.out k1 W h 9 (by omega) (by decide) true hB3)
     simp only [if_true] at AC
     go_wp2_with fail
     refine (AC.out _ H1.out).mono ?_
     rintro r w2 ⟨rfl, h2, kv⟩
     obtain ⟨k2, hk2⟩ : ∃ q, k1 + 1 = q := ⟨_, rfl⟩
     rw [hk2] at h2 ho
     have H2 := Lib.hid h2
     have K2 := Lib.hid (K1.out.trans kv)
     have Z2 := Lib.hid ((Z1.out.kp kv (Nat.ne_of_gt HPW.out)))
     clear AC h2 kv hB3 hk2
     rcases bind_cases ho with ⟨a, qa, ma, ha, ho⟩ | ⟨ma, ha, rfl⟩
     rotate_left
     ·have EX := Lib.hid (fun W h => ce.out 7 k2 W _ (by omega) h ha)
      go_wp2_with fail
      refine (EX.out _ H2.out).mono ?_
      rintro r v ⟨k', hk', rfl, rfl, kv⟩
      exact ⟨rfl, ResF.bad hk' (K2.out.trans kv)⟩
     have EX := Lib.hid (fun W h => ce.out 7 k2 W _ (by omega) h ha)
     go_wp2_with fail
     refine (EX.out _ H2.out).mono ?_
     rintro r u3 ⟨k3, soa, capa, rfl, rfl, hp, kv, xa, hca⟩
     unfold vx
     have H3 := Lib.hid hp
     have K3 := Lib.hid (K2.out.trans kv)
     have Z3 := Lib.hid (Z2.out.kp kv (Nat.ne_of_gt HPW.out))
     have Xa3 := Lib.hid (xa.mono Z2.out.lt)
     have HCa := Lib.hid hca
     clear EX hp kv xa hca ha
     obtain ⟨z0, z1, z2, z3, fz⟩ := Z3.out
     have zl := Z3.out.lt
     have zn : w0.heap.size ≠ u3.heap.size := by omega
     go_wp2_with fail
     refine bodyPost_ret (res_expr2 rfl _ _ _ rfl _ rfl _ _ _ _ (al4_0 Z3.out _ _ _ _ _) (al4_1 Z3.out _ _ _ _ _) (al4_2 Z3.out _ _ _ _ _) (al4_3 Z3.out _ _ _ _ _)) rfl ?_
     injection ho with ho
     subst ho
     exact Res.tup (Res.list (q := 7) (N := u3.heap.size) H3.out g.out.up K3.out [(a, soa, capa)] (by
      intro x hx
      simp only [List.mem_cons, List.not_mem_nil, or_false] at hx
      subst hx
      exact ⟨Xa3.out, HCa.out⟩) HPW.out (Nat.le_refl _) Z3.out.lt rfl 9 0 [] _ _ _ _ _ _ rfl)
    | false =>
     rw [if_neg (fun h => by rw [hB3] at h; exact absurd h (by decide))] at ho
     have AC := Lib.hid (fun W h => mbegins wb pb ao c l g.out k1 W h 9 (by omega) (by decide) false hB3)
     simp only [Bool.false_eq_true, if_false] at AC
     go_wp2_with fail
     refine (AC.out _ H1.out).mono ?_
     rintro r w2 ⟨rfl, h2, kv⟩
     obtain ⟨k2, hk2⟩ : ∃ q, q = k1 := ⟨_, rfl⟩
     subst hk2
     have H2 := Lib.hid h2
     have K2 := Lib.hid (K1.out.trans kv)
     have Z2 := Lib.hid ((Z1.out.kp kv (Nat.ne_of_gt HPW.out)))
     clear AC h2 kv hB3
     have CC := Lib.hid (fun W h => cp.out k2 W o h ho)
     go_wp2_with fail
     refine (CC.out _ H2.out).mono ?_
     rintro r v hr
     cases o with
     | bad m =>
      obtain ⟨k', hk', rfl, rfl, kv⟩ := hr
      exact ⟨rfl, ResF.bad hk' (K2.out.trans kv)⟩
     | ok e q m =>
      obtain ⟨k', so, cap, rfl, rfl, hp, kv, xa, hc⟩ := hr
      have HV := Lib.hid hp
      have KV := Lib.hid (K2.out.trans kv)
      have Z99 := Lib.hid (Z2.out.kp kv (Nat.ne_of_gt HPW.out))
      have XV := Lib.hid (xa.mono Z2.out.lt)
      have HC := Lib.hid hc
      have HQ := Lib.hid (pr_rank ho)
      clear hp kv xa hc CC
      unfold vx
      obtain ⟨z0, z1, z2, z3, fz⟩ := Z99.out
      go_wp2_with fail
      refine bodyPost_ret (res_expr2 rfl _ _ _ rfl _ rfl _ _ _ _ (st4_0 Z99.out _ _ _ _) (st4_1 Z99.out _ _ _ _) (st4_2 Z99.out _ _ _ _) (st4_3 Z99.out _ _ _ _)) rfl ?_
      have hq := HQ.out
      subst hq
      exact Res.tup (Res.box (e := e) HV.out g.out.up KV.out XV.out HC.out HPW.out (Nat.le_refl _) _ _ _ _)
  ·have HR3 : Hid (¬ r ≤ 3) := Lib.hid h3
   have r4 : ¬ R ≤ 4 := by omega
   clear hR hr7 h0 h3
   go_enter Tryz.func45, Tryz.ntmps45
   rw [if_neg (fun h => HR3.out h.1)] at ho
   cases hB3 : isT 4 [45] (l.drop k0) with
   | true =>
    rw [if_pos hB3, tl] at ho
    have AC := Lib.hid (fun W h => mbegins wb pb ao c l g.out k0 W h 9 (by omega) (by decide) true hB3)
    simp only [if_true] at AC
    go_wp2_with fail
    refine (AC.out _ H0.out).mono ?_
    rintro r w1 ⟨rfl, h1, kv⟩
    obtain ⟨k1, hk1⟩ : ∃ q, k0 + 1 = q := ⟨_, rfl⟩
    rw [hk1] at h1 ho
    have H1 := Lib.hid h1
    have K1 := Lib.hid (K0.out.trans kv)
    have Z1 := Lib.hid ((Z0.out.kp kv (Nat.ne_of_gt HPW.out)))
    clear AC h1 kv hB3 hk1
    rcases bind_cases ho with ⟨a, qa, ma, ha, ho⟩ | ⟨ma, ha, rfl⟩
    rotate_left
    ·have EX := Lib.hid (fun W h => ce.out 7 k1 W _ (by omega) h ha)
     go_wp2_with fail
     refine (EX.out _ H1.out).mono ?_
     rintro r v ⟨k', hk', rfl, rfl, kv⟩
     exact ⟨rfl, ResF.bad hk' (K1.out.trans kv)⟩
    have EX := Lib.hid (fun W h => ce.out 7 k1 W _ (by omega) h ha)
    go_wp2_with fail
    refine (EX.out _ H1.out).mono ?_
    rintro r u2 ⟨k2, soa, capa, rfl, rfl, hp, kv, xa, hca⟩
    unfold vx
    have H2 := Lib.hid hp
    have K2 := Lib.hid (K1.out.trans kv)
    have Z2 := Lib.hid (Z1.out.kp kv (Nat.ne_of_gt HPW.out))
    have Xa2 := Lib.hid (xa.mono Z1.out.lt)
    have HCa := Lib.hid hca
    clear EX hp kv xa hca ha
    obtain ⟨z0, z1, z2, z3, fz⟩ := Z2.out
    have zl := Z2.out.lt
    have zn : w0.heap.size ≠ u2.heap.size := by omega
    go_wp2_with fail
    refine bodyPost_ret (res_expr2 rfl _ _ _ rfl _ rfl _ _ _ _ (al4_0 Z2.out _ _ _ _ _) (al4_1 Z2.out _ _ _ _ _) (al4_2 Z2.out _ _ _ _ _) (al4_3 Z2.out _ _ _ _ _)) rfl ?_
    injection ho with ho
    subst ho
    exact Res.tup (Res.list (q := 7) (N := u2.heap.size) H2.out g.out.up K2.out [(a, soa, capa)] (by
     intro x hx
     simp only [List.mem_cons, List.not_mem_nil, or_false] at hx
     subst hx
     exact ⟨Xa2.out, HCa.out⟩) HPW.out (Nat.le_refl _) Z2.out.lt rfl 9 0 [] _ _ _ _ _ _ rfl)
   | false =>
    rw [if_neg (fun h => by rw [hB3] at h; exact absurd h (by decide))] at ho
    have AC := Lib.hid (fun W h => mbegins wb pb ao c l g.out k0 W h 9 (by omega) (by decide) false hB3)
    simp only [Bool.false_eq_true, if_false] at AC
    go_wp2_with fail
    refine (AC.out _ H0.out).mono ?_
    rintro r w1 ⟨rfl, h1, kv⟩
    obtain ⟨k1, hk1⟩ : ∃ q, q = k0 := ⟨_, rfl⟩
    subst hk1
    have H1 := Lib.hid h1
    have K1 := Lib.hid (K0.out.trans kv)
    have Z1 := Lib.hid ((Z0.out.kp kv (Nat.ne_of_gt HPW.out)))
    clear AC h1 kv hB3
    have CC := Lib.hid (fun W h => cp.out k1 W o h ho)
    go_wp2_with fail
    refine (CC.out _ H1.out).mono ?_
    rintro r v hr
    cases o with
    | bad m =>
     obtain ⟨k', hk', rfl, rfl, kv⟩ := hr
     exact ⟨rfl, ResF.bad hk' (K1.out.trans kv)⟩
    | ok e q m =>
     obtain ⟨k', so, cap, rfl, rfl, hp, kv, xa, hc⟩ := hr
     have HV := Lib.hid hp
     have KV := Lib.hid (K1.out.trans kv)
     have Z99 := Lib.hid (Z1.out.kp kv (Nat.ne_of_gt HPW.out))
     have XV := Lib.hid (xa.mono Z1.out.lt)
     have HC := Lib.hid hc
     have HQ := Lib.hid (pr_rank ho)
     clear hp kv xa hc CC
     unfold vx
     obtain ⟨z0, z1, z2, z3, fz⟩ := Z99.out
     go_wp2_with fail
     refine bodyPost_ret (res_expr2 rfl _ _ _ rfl _ rfl _ _ _ _ (st4_0 Z99.out _ _ _ _) (st4_1 Z99.out _ _ _ _) (st4_2 Z99.out _ _ _ _) (st4_3 Z99.out _ _ _ _)) rfl ?_
     have hq := HQ.out
     subst hq
     exact Res.tup (Res.box (e := e) HV.out g.out.up KV.out XV.out HC.out HPW.out (Nat.le_refl _) _ _ _ _)
end Go.Proofs.YtplkphihmfhciaaGreatDoor
